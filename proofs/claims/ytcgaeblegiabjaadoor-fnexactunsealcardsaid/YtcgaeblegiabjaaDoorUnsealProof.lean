/- FnExactUnseal answers true at every text: the program and the model open the same seal, and name the same code. The card ties the one package-level variable that errors.As reads to the program's text; over a pruned copy of the project, as the seat says. -/
import Derived.Test.YtcgaeblegiabjaaDoorUnsealWalks
import Derived.Test.YtcgaeblegiabjaaDoorDoorLaid
import Derived.Test.YtcgaeblegiabjaaDoorTie
import Derived.Test.YtcgaeblegiabjaaDoorCards
import Derived.ShutString
import Derived.ChangeOld
import Derived.Below
import Derived.SevenTiedAt
namespace Go.Proofs.YtcgaeblegiabjaaDoor.fnExactUnseal
open Go.ChangeShapes Go.WideShapes Go.ChangeAt Go.RowKit
open Go.ChangeMaps (open_string shut_string)
set_option linter.unusedVariables false

theorem walk (a0 : ByteArray) (w : World) (w0 : a0.size ≤ maxLen) (hg : GetNumW.Laid w) :
    Calls Tryd.prog 7 #[.string a0] w fun e w' => e = .returned (.bool true) ∧ Below w.heap.size w w' := by
  unfold maxLen at w0
  have hlt := hg.lt
  have HG : Hid (GetNumW.Laid w) := hg
  clear hg
  by_cases hbig : 1048576 < a0.size
  · go_enter Tryd.func7, Tryd.ntmps7
    go_wp2
    go_ret
    exact ⟨rfl, Below.refl _ _⟩
  · go_enter Tryd.func7, Tryd.ntmps7
    go_wp2_with fail
    refine (UnsealW.spec_any a0 _ (by unfold maxLen; omega)).mono ?_
    rintro e w1 ⟨rfl, hB1⟩
    generalize hr : UnsealW.openR a0 = r at *
    have HR : Hid (UnsealW.openR a0 = r) := hr
    clear hr
    obtain ⟨q1, q2, q3⟩ := r
    unfold GetTextW.textV
    have hs1 := hB1.size
    go_wp2_with fail
    refine (UnsealW.impl_any a0 _ (by unfold maxLen; omega) (HG.out.below (hB1.alloc hs1 _) hlt)).mono ?_
    rintro e w2 ⟨rfl, hB2⟩
    rw [HR.out]
    unfold GetTextW.textV
    have hs2 := hB2.size
    have hz2 : w1.heap.size + 1 ≤ w2.heap.size := by simpa using hs2
    have hc0 : w2.cell? ⟨w1.heap.size, 0, none⟩ = some (.string q1) := by rw [hB2.cell (p := ⟨w1.heap.size, 0, none⟩) (by simp)]; simp
    have hc1 : w2.cell? ⟨w1.heap.size, 1, none⟩ = some (.int .i64 q2) := by rw [hB2.cell (p := ⟨w1.heap.size, 1, none⟩) (by simp)]; simp
    have hc2 : w2.cell? ⟨w1.heap.size, 2, none⟩ = some (.int .i64 q3) := by rw [hB2.cell (p := ⟨w1.heap.size, 2, none⟩) (by simp)]; simp
    have HB : Hid (Below w.heap.size w w2) := (hB1.alloc hs1 _).trans (hB2.mono (by simp; omega))
    clear hB1 hB2 hs2
    have hd0 : (w2.alloc (.cells #[.string q1, .int .i64 q2, .int .i64 q3] 31)).cell? ⟨w1.heap.size, 0, none⟩ = some (.string q1) := by rw [World.cell?_alloc_lt _ _ ⟨w1.heap.size, 0, none⟩ (show w1.heap.size < w2.heap.size by omega)]; exact hc0
    have hd1 : (w2.alloc (.cells #[.string q1, .int .i64 q2, .int .i64 q3] 31)).cell? ⟨w1.heap.size, 1, none⟩ = some (.int .i64 q2) := by rw [World.cell?_alloc_lt _ _ ⟨w1.heap.size, 1, none⟩ (show w1.heap.size < w2.heap.size by omega)]; exact hc1
    have hd2 : (w2.alloc (.cells #[.string q1, .int .i64 q2, .int .i64 q3] 31)).cell? ⟨w1.heap.size, 2, none⟩ = some (.int .i64 q3) := by rw [World.cell?_alloc_lt _ _ ⟨w1.heap.size, 2, none⟩ (show w1.heap.size < w2.heap.size by omega)]; exact hc2
    clear hc0 hc1 hc2
    go_wp2_with fail
    refine (GetTextW.eq_same (q1, q2, q3) _).mono ?_
    rintro e w3 ⟨rfl, hB3⟩
    go_wp2
    go_ret
    exact ⟨rfl, (HB.out.alloc (by omega) _).trans (hB3.mono (by simp; omega))⟩

set_option maxRecDepth 100000 in
theorem lifted (os : Os) (started : os.Started) (H : Type) (enc : TypeId × Value → H) :
    ReturnsInHanded {} Tryd.checked os 7 .any (fun w args => (Rows.fnExactUnsealSpec.pre enc Tryd.prog Tryd.f7 [] false w args ∧ laidMetH Tryd.prog DoorL.lst w) ∧ sizedMet enc Tryd.prog Tryd.f7 (OpenSpec.ofChange Rows.fnExactUnsealSpec) false w args)
      (Rows.fnExactUnsealSpec.post enc Tryd.prog Tryd.f7 false true false false) := by
  refine returnsInHanded_of_change_and (C := Tryd.checked) (X := fun w _ => laidMetH Tryd.prog DoorL.lst w) (fun _ _ _ hh h => h.of_heap hh) DoorL.own started (by kernel_rfl) Tryd.func7
    (ChangeSpec.witness_shaped (enc := enc) (C := Tryd.checked) (os := os) (X := fun w _ => laidMetH Tryd.prog DoorL.lst w) false (World.doorLaid Tryd.prog 400 os) #[.string ByteArray.empty] 8 rfl (World.shaped_of_RefB (by kernel_rfl) (by kernel_rfl)) (by kernel_rfl) (by kernel_rfl) (by kernel_rfl) (DoorL.door_met os _)) ?_
  intro W base args ds gs before hval0 hW _ _ hL _
  have hval : ∀ (j : Nat) t v, Tryd.f7.params[j]? = some t → args[j]? = some v → Value.okWide Tryd.prog W .any base t v := hval0
  have hW' := hW
  obtain ⟨p, q, hA0, hV, rfl, hfz, hnd⟩ := hW
  have hA : DataW.TrodAll enc Tryd.prog W 0 (fun _ => true) true Tryd.f7.params.toList args.toList ds p := hA0
  rw [Tryd.params7] at hA hval
  obtain ⟨v0, vs0, d0, ds0, p0, q0, hargs, rfl, rfl, h0, r0⟩ := trodAll_cons hA
  obtain ⟨rfl, rfl, rfl⟩ := trodAll_nil r0
  obtain rfl : args = #[v0] := by cases args; simp_all
  obtain ⟨rfl, rfl⟩ := trodVars_none hV
  obtain ⟨a0, rfl, rfl, rfl, w0⟩ := open_string Tryd.underlying9 (hval 0 9 v0 rfl rfl) h0
  clear hA0 hval0
  refine (walk a0 W w0 (DoorL.of_laid hL)).mono fun e W' ⟨he, bel⟩ => ?_
  subst he
  exact ⟨_, rfl, _, _, _, [], _, [], hW', trodAll_mk1 (shut_bool Tryd.underlying4 _), (trodAll_cons_mk (shut_string Tryd.underlying9 w0) trodAll_mk0), rfl, bel.frame _, fun h => by cases h⟩

theorem over : Rows.FnExactUnsealSaid :=
  OpenClaim.holds_of_wide 7 Tryd.f7 rfl rfl rfl rfl rfl rfl rfl ⟨rfl, rfl, rfl, rfl, rfl⟩ rfl rfl rfl rfl rfl (by kernel_rfl) Tryd.func7 (by kernel_rfl)
    (of_decide_eq_true (by kernel_rfl)) (by unfold Func.isWrapper; first | (rw [if_pos (by decide +kernel)]; kernel_rfl) | (rw [if_neg (by decide +kernel)]; exact ⟨rfl, rfl⟩))
    (fun os started H enc _ => lifted os started H enc)
end Go.Proofs.YtcgaeblegiabjaaDoor.fnExactUnseal
namespace Go.Proofs.YtcgaeblegiabjaaDoor
theorem fnExactUnseal_holds : Rows.FnExactUnsealCardSaid :=
  Claim7.holds_tied_plain_at .later [] [.handle] true (true, "cd6a7aab6fdcd82736c62bc6c2d02d46529d440c57e7adcb789868813442b437") true
    fnExactUnseal.over (fun _ h => by cases h) (by kernel_rfl) (fun _ h => by cases h) fnExactUnseal_row_tie rfl ⟨rfl, rfl⟩ (by kernel_rfl) rfl
    (fun f fn hf hfn => by
      obtain rfl : f = 7 := Option.some.inj ((show Tryd.prog.funcNamed "loop.example/g00561/laws.FnExactUnseal" = some 7 by kernel_rfl).symm.trans hf) |>.symm
      obtain rfl : fn = Tryd.f7 := (Option.some.inj (Tryd.func7.symm.trans hfn)).symm
      exact ⟨by kernel_rfl, fun j t ht => by
        rw [Tryd.params7] at ht
        have hm : t ∈ [9] := by simpa using Array.mem_of_getElem? ht
        have hall : ([9].all fun u => !Tryd.prog.wantsStandIn u) = true := by kernel_rfl
        exact (show Tryd.prog.wantsStandIn t = false by simpa using List.all_eq_true.1 hall t hm)⟩)
    (by kernel_rfl)
#print axioms fnExactUnseal_holds
end Go.Proofs.YtcgaeblegiabjaaDoor
