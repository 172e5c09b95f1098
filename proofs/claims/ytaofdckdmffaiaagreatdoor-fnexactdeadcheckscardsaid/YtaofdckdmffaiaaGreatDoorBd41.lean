/- Texts of ours, laid together: StbMath. -/
import Derived.Test.YtaofdckdmffaiaaGreatDoorBd28
import Derived.Test.YtaofdckdmffaiaaGreatDoorBd35
/- What can never be reached of a form, and which checks are dead. -/
namespace Go.Proofs.YtaofdckdmffaiaaGreatDoor.StbM
open Go.RowKit
open PrtW PrtM TexM NameW ItmW ItmM FrmM StaM FlsM
open StrW hiding hid

/-- a field found among the first items is the one found among all -/
theorem field_more {ls : List It} {n i : Nat} {s : ByteArray} (h : fieldN ls n s = some i) (hn : n ≤ ls.length) : fieldN ls ls.length s = some i := by
  obtain ⟨h1, h2, h3⟩ := field_at.1 h
  exact field_at.2 ⟨h1, by omega, h3⟩
theorem use_more {ls : List It} {n : Nat} {p : Pt} (h : useB ls n p = true) (hn : n ≤ ls.length) : useB ls ls.length p = true := by
  cases he : p.2.2.toList.isEmpty
  · cases hf : fieldN ls n p.2.2 with
    | none => rw [use_none he hf] at h; cases h
    | some i => rw [use_some he hf] at h; rw [use_some he (field_more hf hn)]; exact h
  · exact use_empty he
theorem uses_more {ls : List It} {n : Nat} {ps : List Pt} (h : usesB ls n ps = true) (hn : n ≤ ls.length) : usesB ls ls.length ps = true :=
  uses_yes fun i hi => use_more (uses_at h i hi) hn
/-- what an expression in a right form is -/
theorem expr_in {ls : List It} (hf : formB ls = true) {k : Nat} (hk : k < ls.length) (hx : ik (ls.getD k it0) = 2 ∨ ik (ls.getD k it0) = 5) :
    truthB (iex (ls.getD k it0)) = true ∧ rightFX ls (iex (ls.getD k it0)) = true := by
  obtain ⟨h1, h2, _⟩ := behind_at ((form_at hf).2.1 k hk)
  have hu := uses_more h2 (Nat.le_of_lt hk)
  generalize ls.getD k it0 = p at h1 h2 hu hx
  have ht : truthB (iex p) = true := by
    unfold itemB at h1
    rcases hx with e | e
    · rw [if_neg (by omega), if_pos e] at h1
      simp only [Bool.and_eq_true] at h1
      exact h1.2.2.2.1
    · rw [if_neg (by omega), if_neg (by omega), if_neg (by omega), if_pos e] at h1
      simp only [Bool.and_eq_true] at h1
      exact h1.2.2.2
  have hr : rightB (iex p) = true := by unfold truthB at ht; rw [Bool.and_eq_true] at ht; exact ht.1
  exact ⟨ht, by unfold rightFX; rw [hf, hr, hu]; rfl⟩
theorem can_in {ls : List It} (hf : formB ls = true) {k : Nat} (hk : k < ls.length) (hx : ik (ls.getD k it0) = 2 ∨ ik (ls.getD k it0) = 5) :
    canR ls (iex (ls.getD k it0)) = (lk ls 6 (iex (ls.getD k it0))).2.1 ∧ canNotR ls (iex (ls.getD k it0)) = (lk ls 6 (iex (ls.getD k it0))).2.2 := by
  obtain ⟨h1, h2⟩ := expr_in hf hk hx
  unfold canR canNotR
  rw [if_pos ⟨h2, h1⟩, if_pos ⟨h2, h1⟩]
  exact ⟨rfl, rfl⟩

/-- a check that is dead -/
def deadB (ls : List It) (q : It) : Bool := (ik q == 5) && !(lk ls 6 (iex q)).2.2
def deadN (ls l : List It) : List Nm := (l.filter (deadB ls)).map nmL
def deadI (ls : List It) : List Nm := if formB ls = true then deadN ls ls else []
theorem deadN_snoc (ls l : List It) (p : It) : deadN ls (l ++ [p]) = if deadB ls p = true then deadN ls l ++ [nmL p] else deadN ls l := by
  unfold deadN
  rw [List.filter_append, List.map_append]
  cases h : deadB ls p <;> simp [h]
theorem deadN_len (ls l : List It) : (deadN ls l).length ≤ l.length := by
  unfold deadN
  rw [List.length_map]
  exact List.length_filter_le _ _
theorem deadI_len (l : List It) : (deadI l).length ≤ 24 := by
  unfold deadI
  split
  · next h => exact Nat.le_trans (deadN_len l l) (form_at h).1
  · simp

/-- an item that has a name -/
def hasNm (q : It) : Bool := !((ik q == 2) || ((ik q == 3) || (ik q == 4)))
/-- what an item makes of the blocks that are open: of each whether no way comes into it -/
def stU (ls : List It) (op : List Bool) (p : It) : List Bool :=
  if ik p = 2 then op ++ [!(lk ls 6 (iex p)).2.1] else if ik p = 3 then op.dropLast ++ [false] else if ik p = 4 then op.dropLast else op
def goU (ls : List It) (s : List Bool × List Nm) (p : It) : List Bool × List Nm := (stU ls s.1 p, if (hasNm p && s.1.any id) = true then s.2 ++ [nmL p] else s.2)
def walkU (ls l : List It) : List Bool × List Nm := l.foldl (goU ls) ([], [])
def unrI (ls : List It) : List Nm := if formB ls = true then (walkU ls ls).2 else []
theorem walkU_snoc (ls l : List It) (p : It) : walkU ls (l ++ [p]) = goU ls (walkU ls l) p := by
  unfold walkU; rw [List.foldl_append]; rfl
theorem goU_len (ls : List It) (s : List Bool × List Nm) (p : It) : (goU ls s p).2.length ≤ s.2.length + 1 := by
  unfold goU
  dsimp only
  split <;> simp
theorem foldU_len (ls : List It) : ∀ (l : List It) (s : List Bool × List Nm), (l.foldl (goU ls) s).2.length ≤ s.2.length + l.length
  | [], s => by simp
  | p :: l, s => by
    rw [List.foldl_cons]
    have h1 := foldU_len ls l (goU ls s p)
    have h2 := goU_len ls s p
    simp only [List.length_cons]
    omega
theorem walkU_len (ls l : List It) : (walkU ls l).2.length ≤ l.length := by
  have := foldU_len ls l ([], [])
  simpa [walkU] using this
theorem unrI_len (l : List It) : (unrI l).length ≤ 24 := by
  unfold unrI
  split
  · next h => exact Nat.le_trans (walkU_len l l) (form_at h).1
  · simp
/-- how many blocks are open behind the first items: as many as the look at the form says -/
def Bl (ls : List It) (k : Nat) (op : List Bool) : Prop := ∃ bl, blkF ls [] = blkF (ls.drop k) bl ∧ bl.length = op.length ∧ bl.length ≤ 6
theorem Bl.zero (ls : List It) : Bl ls 0 [] := ⟨[], rfl, rfl, Nat.zero_le _⟩
theorem step_len2 {k : Int} {bl bl' : List Bool} (h : stepB k bl = some bl') : bl'.length = (if k = 2 then bl.length + 1 else if k = 4 then bl.length - 1 else bl.length) ∧ ((k = 3 ∨ k = 4) → 0 < bl.length) := by
  unfold stepB at h
  by_cases h2 : k = 2
  · rw [if_pos h2] at h ⊢
    split at h
    · cases h
    · cases h; exact ⟨by simp, by omega⟩
  · rw [if_neg h2] at h ⊢
    by_cases h3 : k = 3
    · rw [if_pos h3] at h
      split at h
      · next hl =>
        cases h
        have : 0 < bl.length := by cases bl with | nil => cases hl | cons _ _ => simp
        exact ⟨by rw [if_neg (by omega)]; simp; omega, fun _ => this⟩
      · cases h
    · rw [if_neg h3] at h
      by_cases h4 : k = 4
      · rw [if_pos h4] at h ⊢
        split at h
        · cases h
        · cases h; exact ⟨by simp, fun _ => by omega⟩
      · rw [if_neg h4] at h ⊢
        cases h; exact ⟨rfl, by omega⟩
theorem stU_len (ls : List It) (op : List Bool) (p : It) (h : (ik p = 3 ∨ ik p = 4) → 0 < op.length) : (stU ls op p).length = (if ik p = 2 then op.length + 1 else if ik p = 4 then op.length - 1 else op.length) := by
  unfold stU
  by_cases h2 : ik p = 2
  · rw [if_pos h2, if_pos h2]; simp
  · rw [if_neg h2, if_neg h2]
    by_cases h3 : ik p = 3
    · have := h (.inl h3)
      rw [if_pos h3, if_neg (by omega)]; simp; omega
    · rw [if_neg h3]
      by_cases h4 : ik p = 4
      · rw [if_pos h4, if_pos h4]; simp
      · rw [if_neg h4, if_neg h4]
/-- one item further: where a block ends, or has its other way, one is open -/
theorem Bl.next {ls : List It} {k : Nat} {op : List Bool} (h : Bl ls k op) (hb : blocksB ls = true) (hk : k < ls.length) :
    ((ik (ls.getD k it0) = 3 ∨ ik (ls.getD k it0) = 4) → 0 < op.length) ∧ Bl ls (k + 1) (stU ls op (ls.getD k it0)) ∧ op.length ≤ 6 := by
  obtain ⟨bl, he, hl, h6⟩ := h
  cases hs : stepB (ik (ls.getD k it0)) bl with
  | none => rw [blk_none he hk hs] at hb; cases hb
  | some bl' =>
    obtain ⟨h1, h2⟩ := step_len2 hs
    have h3 : (ik (ls.getD k it0) = 3 ∨ ik (ls.getD k it0) = 4) → 0 < op.length := fun e => by have := h2 e; omega
    exact ⟨h3, ⟨bl', blk_some he hk hs, by rw [h1, stU_len ls op _ h3, hl], step_len hs h6⟩, by omega⟩
theorem any_snoc (op : List Bool) (b : Bool) : (op ++ [b]).any id = (op.any id || b) := by simp
end Go.Proofs.YtaofdckdmffaiaaGreatDoor.StbM
