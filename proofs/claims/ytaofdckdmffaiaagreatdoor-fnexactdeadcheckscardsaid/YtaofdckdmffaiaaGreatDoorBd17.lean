/- Texts of ours, laid together: FlsMath. -/
import Derived.Test.YtaofdckdmffaiaaGreatDoorBd11
import Derived.Test.YtaofdckdmffaiaaGreatDoorBd13
/- The names of the fields of a form. -/
namespace Go.Proofs.YtaofdckdmffaiaaGreatDoor.FlsM
open Go.RowKit
open PrtW PrtM NameW ItmW ItmM FrmM StrW

/-- an item is a field -/
def fdB (q : It) : Bool := (ik q == 1) || (ik q == 6)
abbrev nmL (q : It) : Nm := (inm q).data.toList
def namesI (ls : List It) : List Nm := (ls.filter fdB).map nmL
def fieldsI (ls : List It) : List Nm := if formB ls = true then namesI ls else []
theorem take_snocI (ls : List It) (k : Nat) (h : k < ls.length) : ls.take (k + 1) = ls.take k ++ [ls.getD k it0] := by
  rw [List.take_succ_eq_append_getElem h]; simp [List.getD, List.getElem?_eq_getElem h]
theorem namesI_snoc (l : List It) (p : It) : namesI (l ++ [p]) = if fdB p = true then namesI l ++ [nmL p] else namesI l := by
  unfold namesI
  rw [List.filter_append, List.map_append]
  cases h : fdB p <;> simp [h]
theorem namesI_len (l : List It) : (namesI l).length ≤ l.length := by
  unfold namesI
  rw [List.length_map]
  exact List.length_filter_le _ _
theorem fieldsI_len (l : List It) : (fieldsI l).length ≤ 24 := by
  unfold fieldsI
  split
  · next h => exact Nat.le_trans (namesI_len l) (form_at h).1
  · simp
theorem name_size {s : ByteArray} (h : nameB s = true) : s.size ≤ 20 := by
  unfold nameB at h
  exact (of_decide_eq_true h).2.1
/-- a field of a right form has a short name -/
theorem field_size {ls : List It} (h : formB ls = true) {k : Nat} (hk : k < ls.length) (hf : fdB (ls.getD k it0) = true) : (inm (ls.getD k it0)).size ≤ 20 := by
  have h1 := (behind_at ((form_at h).2.1 k hk)).1
  generalize ls.getD k it0 = p at h1 hf
  unfold fdB at hf
  unfold itemB at h1
  rw [Bool.or_eq_true, beq_iff_eq, beq_iff_eq] at hf
  rcases hf with e | e
  · rw [if_pos e, Bool.and_eq_true] at h1
    exact name_size h1.1
  · rw [if_neg (by omega), if_neg (by omega), if_neg (by omega), if_neg (by omega), if_pos e, Bool.and_eq_true] at h1
    exact name_size h1.1
end Go.Proofs.YtaofdckdmffaiaaGreatDoor.FlsM
