/- ExprTruth: what it says. -/
import Derived.Test.YtbhblnpehhaiiaaDoorPrtRight
namespace Go.Proofs.YtbhblnpehhaiiaaDoor.PrtS
open Go.RowKit
open PrtW PrtM NameW

set_option maxHeartbeats 400000 in
theorem spec_truth (a : Option Addr) (cap : Nat) (ps : List Pt) (w : World) (hP : Parts w a ps) :
    Calls Tryd.prog 53 #[.slice a ps.length cap] w fun e w' => e = .returned (.bool (truthB ps)) ∧ Below w.heap.size w w' := by
  have hl := hP.1
  have HP := hid hP
  clear hP
  unfold truthB
  obtain ⟨r, hr⟩ : ∃ r, Hid (rightB ps = r) := ⟨_, rfl⟩
  rw [hr.out]
  cases r
  · rw [Bool.false_and]
    go_enter Tryd.func53, Tryd.ntmps53
    go_wp2_with fail
    refine (spec_right a cap ps w HP.out).mono ?_
    rintro e w1 ⟨rfl, hB⟩
    rw [hr.out]
    have HB := hid hB
    clear hB
    go_wp2_with fail
    go_ret
    exact ⟨rfl, HB.out⟩
  · rw [Bool.true_and]
    have hpos := right_pos hr.out
    obtain ⟨b, o, x, n, t, rfl, hb, hg, hf, c0, c1, c2⟩ := parts_at HP.out hpos
    have hh : (ps.headD pt0).1 = x := by
      have e := drop_at ps 0 hpos
      rw [List.drop_zero] at e
      rw [e, hg]; rfl
    rw [hh]
    clear hh hg hf c1 c2
    rw [Nat.zero_mul, Nat.add_zero] at c0
    go_enter Tryd.func53, Tryd.ntmps53
    go_wp2_with fail
    refine (spec_right _ cap ps w HP.out).mono ?_
    rintro e w1 ⟨rfl, hB⟩
    rw [hr.out]
    have HB := hid hB
    rw [← hB.cell (p := ⟨b, _, none⟩) hb] at c0
    clear hB
    go_wp2_with fail
    refine (spec_number x w1).mono ?_
    rintro e w2 ⟨rfl, rfl⟩
    go_wp2_with fail
    go_ret
    exact ⟨rfl, HB.out⟩
end Go.Proofs.YtbhblnpehhaiiaaDoor.PrtS
