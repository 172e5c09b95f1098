/- Answered: what the model and the program say. -/
import Derived.Test.YtfnimiimplphkaaValRightS
import Derived.Test.YtfnimiimplphkaaValRightI
namespace Go.Proofs.Ytfnimiimplphkaa.ValK
open Go.RowKit
open ValM ValW ValS ValI

def answeredB (k n : Int) (zs : List Int) (t : ByteArray) : Bool := right k n zs t && decide (k ≠ 0)
theorem spec_answered (k n : Int) (a : Option Addr) (cap : Nat) (zs : List Int) (t : ByteArray) (w : World) (hc : Codes w a zs) (ht : t.size ≤ maxLen) :
    Calls Try.prog 18 #[av k n a zs.length cap t] w fun e w' => e = .returned (.bool (answeredB k n zs t)) ∧ Below w.heap.size w w' := by
  have HC : Hid (Codes w a zs) := hc
  have HT : Hid (t.size ≤ maxLen) := ht
  unfold answeredB
  obtain ⟨r, hr⟩ : ∃ r, Hid (right k n zs t = r) := ⟨_, rfl⟩
  rw [hr.out]
  clear hc ht
  go_enter Try.func18, Try.ntmps18
  go_wp2_with fail
  refine (spec_right k n a cap zs t _ (HC.out.alloc _) HT.out).mono ?_
  rintro e w1 ⟨rfl, hB1⟩
  rw [hr.out]
  have HB : Hid (Below w.heap.size w w1) := (below_one w _).trans (hB1.mono (by simp))
  obtain ⟨c0, c1, c2, c3, hsz⟩ := (At4.laid w 31 (.int .i64 k) (.int .i64 n) (.slice a zs.length cap) (.string t)).on hB1
  clear hB1 HC
  cases r
  all_goals
    go_wp2
    go_ret
    exact ⟨ret_bool (by first | (simp; done) | (rw [Bool.eq_iff_iff]; simp)), HB.out⟩
theorem impl_answered (k n : Int) (a : Option Addr) (cap : Nat) (zs : List Int) (t : ByteArray) (w : World) (hc : Codes w a zs) (ht : t.size ≤ maxLen) :
    Calls Try.prog 21 #[av k n a zs.length cap t] w fun e w' => e = .returned (.bool (answeredB k n zs t)) ∧ Below w.heap.size w w' := by
  have HC : Hid (Codes w a zs) := hc
  have HT : Hid (t.size ≤ maxLen) := ht
  unfold answeredB
  obtain ⟨r, hr⟩ : ∃ r, Hid (right k n zs t = r) := ⟨_, rfl⟩
  rw [hr.out]
  clear hc ht
  by_cases hk : k = 0
  · go_enter Try.func21, Try.ntmps21
    go_wp2
    go_ret
    exact ⟨ret_bool (by simp [hk]), by go_grown⟩
  go_enter Try.func21, Try.ntmps21
  go_wp2_with fail
  refine (impl_right k n a cap zs t _ (HC.out.alloc _) HT.out).mono ?_
  rintro e w1 ⟨rfl, hB1⟩
  rw [hr.out]
  have HB : Hid (Below w.heap.size w w1) := (below_one w _).trans (hB1.mono (by simp))
  clear hB1 HC
  go_wp2
  go_ret
  exact ⟨ret_bool (by simp [hk]), HB.out⟩
end Go.Proofs.Ytfnimiimplphkaa.ValK
