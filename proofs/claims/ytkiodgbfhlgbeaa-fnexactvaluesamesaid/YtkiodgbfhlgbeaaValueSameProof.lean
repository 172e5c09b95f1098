/- FnExactValueSame answers true at every two answers: the program and the model say the same of whether they are right and the same, and leave them as they are. No condition of ours beyond the row itself. -/
import Derived.Test.YtkiodgbfhlgbeaaValLawS
import Derived.Test.YtkiodgbfhlgbeaaRows
import Derived.WalkKit
import Derived.ProofKit
import Derived.OpenShut
import Derived.ShutString
import Derived.ChangeOld
import Derived.Below
namespace Go.Proofs.Ytkiodgbfhlgbeaa.fnExactValueSame
open Go.ChangeShapes Go.WideShapes Go.ChangeAt Go.RowKit
open Go.ChangeMaps (open_string shut_string)
set_option linter.unusedVariables false

theorem own : ownKnob Try.prog.godebug = none := by kernel_rfl
theorem laidOut : laidOutB Try.prog = true := by kernel_rfl

theorem walk (k0 n0 : Int) (a0 : Option Addr) (cap0 : Nat) (z0 : List Int) (t0 : ByteArray) (k1 n1 : Int) (a1 : Option Addr) (cap1 : Nat) (z1 : List Int) (t1 : ByteArray) (w : World) (c0 : ValO.CodesAny w a0 z0) (s0 : t0.size ≤ maxLen) (c1 : ValO.CodesAny w a1 z1) (s1 : t1.size ≤ maxLen) :
    Calls Try.prog 4 #[ValW.av k0 n0 a0 z0.length cap0 t0, ValW.av k1 n1 a1 z1.length cap1 t1] w fun e w' => e = .returned (.bool true) ∧ Below w.heap.size w w' := by
  exact ValL.walk_same k0 n0 a0 cap0 z0 t0 k1 n1 a1 cap1 z1 t1 w c0 s0 c1 s1

set_option maxRecDepth 100000 in
theorem lifted (os : Os) (started : os.Started) (H : Type) (enc : TypeId × Value → H) :
    ReturnsInHanded {} Try.checked os 4 .any (Rows.fnExactValueSameSpec.pre6 enc Try.prog Try.f4 Rows.fnExactValueSameRow.domain false) (Rows.fnExactValueSameSpec.post enc Try.prog Try.f4 false true false false) := by
  refine returnsInHanded_of_change (C := Try.checked) own started (by kernel_rfl) Try.func4
    (ChangeSpec.witness6 (enc := enc) (C := Try.checked) false ⟨#[], #[.agg #[.int .i64 0, .int .i64 0, .slice none 0 0, .string ByteArray.empty], .agg #[.int .i64 0, .int .i64 0, .slice none 0 0, .string ByteArray.empty]], []⟩ 8 (by kernel_rfl) (by kernel_rfl) (by kernel_rfl) (by kernel_rfl)) ?_
  intro W base args ds gs before hval0 hW hcnd _
  have hval : ∀ (j : Nat) t v, Try.f4.params[j]? = some t → args[j]? = some v → Value.okWide Try.prog W .any base t v := hval0
  have hW' := hW
  obtain ⟨p, q, hA0, hV, rfl, hfz, hnd⟩ := hW
  have hA : DataW.TrodAll enc Try.prog W 0 (fun _ => true) true Try.f4.params.toList args.toList ds p := hA0
  rw [Try.params4] at hA hval
  obtain ⟨v0, vs0, d0, ds0, p0, q0, hargs, rfl, rfl, h0, r0⟩ := trodAll_cons hA
  obtain ⟨v1, vs1, d1, ds1, p1, q1, rfl, rfl, rfl, h1, r1⟩ := trodAll_cons r0
  obtain ⟨rfl, rfl, rfl⟩ := trodAll_nil r1
  obtain rfl : args = #[v0, v1] := by cases args; simp_all
  obtain ⟨rfl, rfl⟩ := trodVars_none hV
  have K0 := h0
  have lt0 : ∀ x ∈ p0, x.block < W.heap.size := by obtain ⟨m, hm⟩ := K0; exact DataW.trod_lt m _ _ _ hm
  obtain ⟨k0, n0, a0, cap0, z0, t0, rfl, c0, s0⟩ := ValO.val_open (hval 0 24 v0 rfl rfl) h0
  have K1 := h1
  have lt1 : ∀ x ∈ p1, x.block < W.heap.size := by obtain ⟨m, hm⟩ := K1; exact DataW.trod_lt m _ _ _ hm
  obtain ⟨k1, n1, a1, cap1, z1, t1, rfl, c1, s1⟩ := ValO.val_open (hval 1 24 v1 rfl rfl) h1
  clear hA0 hval0
  refine (walk k0 n0 a0 cap0 z0 t0 k1 n1 a1 cap1 z1 t1 W c0 s0 c1 s1).mono fun e W' ⟨he, bel⟩ => ?_
  subst he
  exact ⟨_, rfl, _, _, _, [], _, [], hW', trodAll_mk1 (shut_bool Try.underlying4 _), (trodAll_cons_mk (Below.trod laidOut (by kernel_rfl) (of_decide_eq_true (by kernel_rfl)) K0 bel lt0) (trodAll_cons_mk (Below.trod laidOut (by kernel_rfl) (of_decide_eq_true (by kernel_rfl)) K1 bel lt1) trodAll_mk0)), rfl, bel.frame _, fun h => by cases h⟩

theorem over : Rows.fnExactValueSameRow.holds Try.pinned (OpenSpec.ofChange Rows.fnExactValueSameSpec) :=
  OpenClaim.holds_of_wide 4 Try.f4 rfl rfl rfl rfl rfl rfl rfl ⟨rfl, rfl, rfl, rfl, rfl⟩ rfl rfl rfl rfl rfl (by kernel_rfl) Try.func4 (by kernel_rfl)
    (of_decide_eq_true (by kernel_rfl)) (by unfold Func.isWrapper; first | (rw [if_pos (by decide +kernel)]; kernel_rfl) | (rw [if_neg (by decide +kernel)]; exact ⟨rfl, rfl⟩))
    (fun os started H enc _ => lifted os started H enc)

theorem proved : Rows.FnExactValueSameSaid := over
end Go.Proofs.Ytkiodgbfhlgbeaa.fnExactValueSame
namespace Go.Proofs.Ytkiodgbfhlgbeaa
theorem fnExactValueSame_holds : Rows.FnExactValueSameSaid := fnExactValueSame.proved
#print axioms fnExactValueSame_holds
end Go.Proofs.Ytkiodgbfhlgbeaa
