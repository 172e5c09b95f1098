/- ExprRight and ExprTruth of the model. -/
import Derived.Test.YtbhblnpehhaiiaaDoorPrtEnd
namespace Go.Proofs.YtbhblnpehhaiiaaDoor.PrtS
open Go.RowKit
open PrtW PrtM NameW

theorem end_len (ps : List Pt) (s : Option (List Pt)) (h : ∀ r, s = some r → r <:+ ps) : (endI ps s == (ps.length : Int)) = decide (s = some []) := by
  cases s with
  | none => simp [endI]
  | some r =>
    have := (h r rfl).length_le
    simp only [endI, Option.some.injEq]
    rw [Bool.eq_iff_iff, beq_iff_eq, decide_eq_true_iff]
    constructor
    · intro e; exact List.length_eq_zero_iff.1 (by omega)
    · intro e; subst e; simp

set_option maxHeartbeats 400000 in
theorem spec_right (a : Option Addr) (cap : Nat) (ps : List Pt) (w : World) (hP : Parts w a ps) :
    Calls Tryd.prog 58 #[.slice a ps.length cap] w fun e w' => e = .returned (.bool (rightB ps)) ∧ Below w.heap.size w w' := by
  have hl := hP.1
  have HP := hid hP
  clear hP
  unfold rightB
  by_cases h : ps.length ≤ 20
  · rw [decide_eq_true h, Bool.true_and, ← end_len ps _ (fun r h => (behind_suffix _ _ _ h).1)]
    obtain ⟨z, hz⟩ : ∃ z, Hid (endI ps (behind 6 ps) = z) := ⟨_, rfl⟩
    rw [hz.out]
    go_enter Tryd.func58, Tryd.ntmps58
    go_wp2_with fail
    refine (spec_end a cap ps 6 1 (by decide) (by decide) 0 w (by omega) HP.out).mono ?_
    rintro e w1 ⟨rfl, hB⟩
    rw [List.drop_zero, hz.out]
    have HB := hid hB
    clear hB
    go_wp2_with fail
    go_ret
    exact ⟨rfl, HB.out⟩
  · rw [decide_eq_false h, Bool.false_and]
    go_enter Tryd.func58, Tryd.ntmps58
    go_wp2_with fail
    go_ret
    exact ⟨rfl, Below.refl _ _⟩

theorem right_pos {ps : List Pt} (h : rightB ps = true) : 0 < ps.length := by
  cases ps with
  | nil => revert h; decide
  | cons p r => simp
end Go.Proofs.YtbhblnpehhaiiaaDoor.PrtS
