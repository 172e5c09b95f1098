/- ExprRight and ExprTruth of the program. -/
import Derived.Test.YtbhblnpehhaiiaaDoorPrtBehind
namespace Go.Proofs.YtbhblnpehhaiiaaDoor.PrtI
open Go.RowKit
open PrtW PrtM NameW PrtS

set_option maxHeartbeats 800000 in
theorem impl_right (a : Option Addr) (cap : Nat) (ps : List Pt) (w : World) (hP : Parts w a ps) (hcap : ps.length ≤ cap) (hE : EnvS w) :
    Calls Tryd.prog 84 #[.slice a ps.length cap] w fun e w' => e = .returned (.bool (rightB ps)) ∧ Below w.heap.size w w' := by
  have hl := hP.1
  have HP := hid hP
  have HE := hid hE
  clear hP hE
  unfold rightB
  by_cases h : ps.length ≤ 20
  · rw [decide_eq_true h, Bool.true_and]
    cases hbd : behind 6 ps with
    | none =>
      rw [decide_eq_false (by simp)]
      have HBD := hid hbd
      clear hbd
      go_enter Tryd.func84, Tryd.ntmps84
      go_wp2_with fail
      refine (impl_behind 6 (by decide) a cap ps w HP.out hcap HE.out).mono ?_
      rintro e w1 ⟨hc, hB⟩
      rw [HBD.out] at hc
      obtain rfl := hc
      have HB := hid hB
      clear hB
      go_wp2_with fail
      go_ret
      exact ⟨rfl, HB.out⟩
    | some r =>
      have HBD := hid hbd
      have hrl := (behind_suffix _ _ _ hbd).2
      rw [show decide (some r = some ([] : List Pt)) = (((r.length : Nat) : Int) == 0) by cases r <;> simp; omega]
      clear hbd
      go_enter Tryd.func84, Tryd.ntmps84
      go_wp2_with fail
      refine (impl_behind 6 (by decide) a cap ps w HP.out hcap HE.out).mono ?_
      rintro e w1 ⟨hc, hB⟩
      rw [HBD.out] at hc
      obtain ⟨a', cap', rfl, _, _⟩ := hc
      have HB := hid hB
      clear hB
      go_wp2_with fail
      go_ret
      exact ⟨rfl, HB.out⟩
  · rw [decide_eq_false h, Bool.false_and]
    go_enter Tryd.func84, Tryd.ntmps84
    go_wp2_with fail
    go_ret
    exact ⟨rfl, Below.refl _ _⟩
end Go.Proofs.YtbhblnpehhaiiaaDoor.PrtI
