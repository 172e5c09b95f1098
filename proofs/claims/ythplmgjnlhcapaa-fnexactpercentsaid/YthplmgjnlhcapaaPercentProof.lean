/- FnExactPercent answers true at all numbers: the program and the model tell the same number and code. No condition of ours beyond the row itself. -/
import Derived.Test.YthplmgjnlhcapaaFixTP
import Derived.Test.YthplmgjnlhcapaaRows
import Derived.WalkKit
import Derived.ProofKit
import Derived.OpenShut
import Derived.ShutString
import Derived.ChangeOld
import Derived.Below
namespace Go.Proofs.Ythplmgjnlhcapaa.fnExactPercent
open Go.ChangeShapes Go.WideShapes Go.ChangeAt Go.RowKit
open Go.ChangeMaps (open_string shut_string)
set_option linter.unusedVariables false      -- a walk need not use every 'w<i>' (that an integer argument fits its kind)

theorem own : ownKnob Try.prog.godebug = none := by kernel_rfl

/-! ### STEP 1: THE WALK: the Go text returns true. 'Grown w w'': the world has at most new blocks (Derived/RowKit3.lean). Part the cases AHEAD of 'go_enter' where a test parts the walk; take each callee by a contract of your own. -/
theorem walk (a0 : Int) (a1 : Int) (w0 : (Lit.int .i64 a0).wf = true) (w1 : (Lit.int .i64 a1).wf = true) (w : World) :
    Calls Try.prog 12 #[.int .i64 a0, .int .i64 a1] w fun e w' => e = .returned (.bool true) ∧ Below w.heap.size w w' := by
  clear w0 w1
  obtain ⟨r, hr⟩ : ∃ r, Hid (FixTP.percentR a0 a1 = r) := ⟨_, rfl⟩
  go_enter Try.func12, Try.ntmps12
  go_wp2_with fail
  refine (FixTP.pc_spec _ _ _).mono ?_
  rintro e v1 ⟨rfl, hB1⟩
  rw [hr.out]
  unfold FixF.numV
  go_wp2_with fail
  refine (FixTP.percent_face _ _ _).mono ?_
  rintro e v2 ⟨rfl, hB2⟩
  rw [hr.out]
  unfold FixF.numV
  have hc0 : v2.cell? ⟨v1.heap.size, 0, none⟩ = some (.int .i64 r.1) := by rw [hB2.cell (p := ⟨v1.heap.size, 0, none⟩) (by simp)]; simp
  have hc1 : v2.cell? ⟨v1.heap.size, 1, none⟩ = some (.int .i64 0) := by rw [hB2.cell (p := ⟨v1.heap.size, 1, none⟩) (by simp)]; simp
  have hc2 : v2.cell? ⟨v1.heap.size, 2, none⟩ = some (.int .i64 r.2) := by rw [hB2.cell (p := ⟨v1.heap.size, 2, none⟩) (by simp)]; simp
  have hlt : v1.heap.size < v2.heap.size := by have := hB2.size; simp at this; omega
  have HB : Hid (Below w.heap.size w v2) := (hB1.alloc hB1.size _).trans (hB2.mono (by have := hB1.size; simp; omega))
  have hs2 : w.heap.size ≤ v2.heap.size := by have := hB1.size; omega
  clear hB1 hB2 hr
  go_wp2_with fail
  refine (FixS.eq_same r.1 r.2 _).mono ?_
  rintro e v3 ⟨rfl, hB3⟩
  have HB3 : Hid (Below w.heap.size w v3) := (HB.out.alloc hs2 _).trans (hB3.mono (by simp; omega))
  clear hB3
  go_wp2
  go_ret
  exact ⟨rfl, HB3.out⟩

/-! ### THE ROW's STEP: WRITTEN OUT: LEAVE IT -/
set_option maxRecDepth 100000 in
theorem lifted (os : Os) (started : os.Started) (H : Type) (enc : TypeId × Value → H) :
    ReturnsInHanded {} Try.checked os 12 .any (Rows.fnExactPercentSpec.pre6 enc Try.prog Try.f12 Rows.fnExactPercentRow.domain false) (Rows.fnExactPercentSpec.post enc Try.prog Try.f12 false true false false) := by
  refine returnsInHanded_of_change (C := Try.checked) own started (by kernel_rfl) Try.func12
    (ChangeSpec.witness6 (enc := enc) (C := Try.checked) false ⟨#[], #[.int .i64 0, .int .i64 0], []⟩ 8 (by kernel_rfl) (by kernel_rfl) (by kernel_rfl) (by kernel_rfl)) ?_
  intro W base args ds gs before hval0 hW hcnd _
  have hval : ∀ (j : Nat) t v, Try.f12.params[j]? = some t → args[j]? = some v → Value.okWide Try.prog W .any base t v := hval0
  have hW' := hW
  obtain ⟨p, q, hA0, hV, rfl, hfz, hnd⟩ := hW
  have hA : DataW.TrodAll enc Try.prog W 0 (fun _ => true) true Try.f12.params.toList args.toList ds p := hA0
  rw [Try.params12] at hA hval
  obtain ⟨v0, vs0, d0, ds0, p0, q0, hargs, rfl, rfl, h0, r0⟩ := trodAll_cons hA
  obtain ⟨v1, vs1, d1, ds1, p1, q1, rfl, rfl, rfl, h1, r1⟩ := trodAll_cons r0
  obtain ⟨rfl, rfl, rfl⟩ := trodAll_nil r1
  obtain rfl : args = #[v0, v1] := by cases args; simp_all
  obtain ⟨rfl, rfl⟩ := trodVars_none hV
  obtain ⟨a0, rfl, rfl, rfl, w0⟩ := open_int Try.underlying2 (hval 0 2 v0 rfl rfl) h0
  obtain ⟨a1, rfl, rfl, rfl, w1⟩ := open_int Try.underlying2 (hval 1 2 v1 rfl rfl) h1
  clear hA0 hval0
  refine (walk a0 a1 w0 w1 W).mono fun e W' ⟨he, bel⟩ => ?_
  subst he
  exact ⟨_, rfl, _, _, _, [], _, [], hW', trodAll_mk1 (shut_bool Try.underlying4 _), (trodAll_cons_mk (shut_int Try.underlying2 w0) (trodAll_cons_mk (shut_int Try.underlying2 w1) trodAll_mk0)), rfl, bel.frame _, fun h => by cases h⟩

theorem over : Rows.fnExactPercentRow.holds Try.pinned (OpenSpec.ofChange Rows.fnExactPercentSpec) :=
  OpenClaim.holds_of_wide 12 Try.f12 rfl rfl rfl rfl rfl rfl rfl ⟨rfl, rfl, rfl, rfl, rfl⟩ rfl rfl rfl rfl rfl (by kernel_rfl) Try.func12 (by kernel_rfl)
    (of_decide_eq_true (by kernel_rfl)) (by unfold Func.isWrapper; first | (rw [if_pos (by decide +kernel)]; kernel_rfl) | (rw [if_neg (by decide +kernel)]; exact ⟨rfl, rfl⟩))
    (fun os started H enc _ => lifted os started H enc)

/-- ████ THE STATEMENT ████ -/
theorem proved : Rows.FnExactPercentSaid :=
  over
end Go.Proofs.Ythplmgjnlhcapaa.fnExactPercent
namespace Go.Proofs.Ythplmgjnlhcapaa
theorem fnExactPercent_holds : Rows.FnExactPercentSaid := fnExactPercent.proved
#print axioms fnExactPercent_holds
end Go.Proofs.Ythplmgjnlhcapaa
