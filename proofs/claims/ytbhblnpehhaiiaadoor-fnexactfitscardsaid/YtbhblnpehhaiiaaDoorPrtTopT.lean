/- ExprTruth: what it says. -/
import Derived.Test.YtbhblnpehhaiiaaDoorPrtTop
import Derived.Test.YtbhblnpehhaiiaaDoorPrtRightT
namespace Go.Proofs.YtbhblnpehhaiiaaDoor.PrtI
open Go.RowKit
open PrtW PrtM NameW PrtS

set_option maxHeartbeats 800000 in
theorem impl_truth (a : Option Addr) (cap : Nat) (ps : List Pt) (w : World) (hP : Parts w a ps) (hcap : ps.length ≤ cap) (hE : EnvS w) :
    Calls Tryd.prog 83 #[.slice a ps.length cap] w fun e w' => e = .returned (.bool (truthB ps)) ∧ Below w.heap.size w w' := by
  have hl := hP.1
  have HP := hid hP
  have HE := hid hE
  clear hP hE
  unfold truthB
  obtain ⟨r, hr⟩ : ∃ r, Hid (rightB ps = r) := ⟨_, rfl⟩
  rw [hr.out]
  cases r
  · rw [Bool.false_and]
    go_enter Tryd.func83, Tryd.ntmps83
    go_wp2_with fail
    refine (impl_right a cap ps w HP.out hcap HE.out).mono ?_
    rintro e w1 ⟨rfl, hB⟩
    rw [hr.out]
    have HB := hid hB
    clear hB
    go_wp2_with fail
    go_ret
    exact ⟨rfl, HB.out⟩
  · rw [Bool.true_and]
    have hpos := right_pos hr.out
    have hbd : behind 6 ps = some [] := by
      have h := hr.out
      unfold rightB at h
      rw [Bool.and_eq_true, decide_eq_true_iff, decide_eq_true_iff] at h
      exact h.2
    obtain ⟨_, hj1, hj2⟩ := behind_head hbd
    obtain ⟨b, o, x, n, t, rfl, hb, hg, hf, c0, c1, c2⟩ := parts_at HP.out hpos
    have hh : (ps.headD pt0).1 = x := by
      have e := drop_at ps 0 hpos
      rw [List.drop_zero] at e
      rw [e, hg]; rfl
    rw [hh] at hj1 hj2 ⊢
    obtain ⟨j, rfl⟩ : ∃ j : Nat, x = j := ⟨x.toNat, by omega⟩
    rw [num_truth j (by omega) (by omega), Bool.not_not]
    have hj14 : j < 14 := by omega
    have hj14' : (j : Int) < 14 := by omega
    clear hh hg hf c1 c2 hbd
    rw [Nat.zero_mul, Nat.add_zero] at c0
    obtain ⟨tj, htj⟩ : ∃ tj, truthF j = tj := ⟨_, rfl⟩
    rw [htj]
    have HTJ := hid htj
    clear htj
    go_enter Tryd.func83, Tryd.ntmps83
    go_wp2_with fail
    refine (impl_right _ cap ps w HP.out hcap HE.out).mono ?_
    rintro e w1 ⟨rfl, hB⟩
    rw [hr.out]
    have HB := hid hB
    rw [← hB.cell (p := ⟨b, _, none⟩) hb] at c0
    obtain ⟨e0, -⟩ := (HE.out.on hB).2 j hj14
    rw [HTJ.out] at e0
    clear hB
    go_wp2_with fail
    go_ret
    exact ⟨rfl, HB.out⟩
end Go.Proofs.YtbhblnpehhaiiaaDoor.PrtI
