/- Texts of ours, laid together. -/
import Derived.Test.YtmbhmknfipdadaaGreatDoorBd7
import Derived.Lib.TrimByte
namespace Go.Proofs.YtmbhmknfipdadaaGreatDoor.ItmM
open Go.RowKit
open PrtW PrtM NameW ItmW ValM
theorem drop_len {α : Type} (p : α → Bool) (m : List α) : (m.dropWhile p).length ≤ m.length := (List.dropWhile_suffix p).length_le
theorem drop_less {α : Type} (p : α → Bool) (a : α) (r : List α) (h : p a = true) : ((a :: r).dropWhile p).length < (a :: r).length := by
 rw [List.dropWhile_cons, if_pos h]
 have := drop_len p r
 simp; omega
theorem trim_list (l : List UInt8) (h : 0 < l.length) : Lib.trimB l 32 = l ↔ l[0]'h ≠ 32 ∧ l[l.length - 1]'(by omega) ≠ 32 := by
 constructor
 ·intro e
  have e1 := congrArg List.length e
  unfold Lib.trimB Lib.trimLeftB at e1
  have h1 := drop_len (fun x : UInt8 => x == 32) (Lib.trimRightB l 32)
  have h2 := drop_len (fun x : UInt8 => x == 32) l.reverse
  have h3 : (Lib.trimRightB l 32).length = (l.reverse.dropWhile (· == 32)).length := by unfold Lib.trimRightB; simp
  simp only [List.length_reverse] at h2
  refine ⟨fun hz => ?_, fun hz => ?_⟩
  ·have h4 : l.reverse.dropWhile (· == 32) = l.reverse := (List.dropWhile_suffix _).eq_of_length (by simp; omega)
   have h5 : Lib.trimRightB l 32 = l := by unfold Lib.trimRightB; rw [h4, List.reverse_reverse]
   rw [h5] at e1
   cases l with
   | nil => simp at h
   | cons a r =>
    have := drop_less (fun x : UInt8 => x == 32) a r (by simpa using hz)
    omega
  ·cases hr : l.reverse with
   | nil => rw [List.reverse_eq_nil_iff] at hr; subst hr; simp at h
   | cons a r =>
    have ha : a = 32 := by
     have := congrArg (fun m => m[0]?) hr
     simp only [List.getElem?_cons_zero] at this
     rw [List.getElem?_reverse h, List.getElem?_eq_getElem (by omega), Option.some.injEq] at this
     rw [← this]
     simpa using hz
    have := drop_less (fun x : UInt8 => x == 32) a r (by simpa using ha)
    rw [← hr] at this
    simp only [List.length_reverse] at this
    omega
 ·rintro ⟨h0, h1⟩
  have e1 : Lib.trimRightB l 32 = l := by
   rw [Lib.trimRightB_take l 32 l.length (Nat.le_refl _) (fun j b hj hb => by rw [List.getElem?_eq_none hj] at hb; cases hb) (fun b _ hb => by
    rw [List.getElem?_eq_getElem (by omega), Option.some.injEq] at hb; rw [← hb]; exact h1), List.take_length]
  unfold Lib.trimB
  rw [e1, Lib.trimLeftB_drop l 32 0 (Nat.zero_le _) (fun j b hj => absurd hj (Nat.not_lt_zero _)) (fun b hb => by
   rw [List.getElem?_eq_getElem h, Option.some.injEq] at hb; rw [← hb]; exact h0), List.drop_zero]
theorem trim_same (t : ByteArray) (h : 1 ≤ t.size) : ((⟨(Lib.trimB t.data.toList 32).toArray⟩ : ByteArray).toList == t.toList) = (decide (chr t 0 ≠ 32) && decide (chr t (t.size - 1) ≠ 32)) := by
 have hl : t.data.toList.length = t.size := by rw [Array.length_toList]; rfl
 have k0 : chr t 0 = (t.data.toList[0]'(by omega)).toNat := by rw [chr_at (by omega)]; rfl
 have k1 : chr t (t.size - 1) = (t.data.toList[t.data.toList.length - 1]'(by omega)).toNat := by rw [chr_at (by omega)]; simp only [hl]; rfl
 rw [k0, k1, ByteArray.toList_eq, ByteArray.toList_eq, Bool.eq_iff_iff, beq_iff_eq, Bool.and_eq_true, decide_eq_true_iff, decide_eq_true_iff]
 show (Lib.trimB t.data.toList 32) = t.data.toList ↔ _
 rw [trim_list _ (by omega)]
 simp only [ne_eq, ← UInt8.toNat_inj]
 rfl
end Go.Proofs.YtmbhmknfipdadaaGreatDoor.ItmM
