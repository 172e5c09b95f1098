/- FnExactGetNum answers true at every text and place: the program and the model get the same number, place and code. The card ties the one package-level variable that errors.As reads to the program's text; over a pruned copy of the project, as the seat says. -/
import Derived.Test.YtcgaeblegiabjaaDoorGetNumWalks
import Derived.Test.YtcgaeblegiabjaaDoorDoorLaid
import Derived.Test.YtcgaeblegiabjaaDoorTie
import Derived.Test.YtcgaeblegiabjaaDoorCards
import Derived.ShutString
import Derived.ChangeOld
import Derived.Below
import Derived.SevenTiedAt
namespace Go.Proofs.YtcgaeblegiabjaaDoor.fnExactGetNum
open Go.ChangeShapes Go.WideShapes Go.ChangeAt Go.RowKit
open Go.ChangeMaps (open_string shut_string)
set_option linter.unusedVariables false

theorem walk (a0 : ByteArray) (a1 : Int) (w : World) (w0 : a0.size ≤ maxLen) (w1 : (Lit.int .i64 a1).wf = true) (hg : GetNumW.Laid w) :
    Calls Tryd.prog 5 #[.string a0, .int .i64 a1] w fun e w' => e = .returned (.bool true) ∧ Below w.heap.size w w' := by
  unfold maxLen at w0
  have hlt := hg.lt
  have HG : Hid (GetNumW.Laid w) := hg
  clear hg
  by_cases hbig : 1048576 < a0.size
  · go_enter Tryd.func5, Tryd.ntmps5
    go_wp2
    go_ret
    exact ⟨rfl, Below.refl _ _⟩
  · go_enter Tryd.func5, Tryd.ntmps5
    go_wp2_with fail
    refine (GetNumW.spec_any a0 a1 _ (by unfold maxLen; omega)).mono ?_
    rintro e w1 ⟨rfl, hB1⟩
    generalize hr : GetM.readR a0.data.toList a1 = r at *
    have HR : Hid (GetM.readR a0.data.toList a1 = r) := hr
    clear hr
    obtain ⟨q1, q2, q3⟩ := r
    unfold GetNumW.numV
    have hs1 := hB1.size
    go_wp2_with fail
    refine (GetNumW.impl_any a0 a1 _ (by unfold maxLen; omega) (HG.out.below (hB1.alloc hs1 _) hlt)).mono ?_
    rintro e w2 ⟨rfl, hB2⟩
    rw [HR.out]
    unfold GetNumW.numV
    have hs2 := hB2.size
    have hz2 : w1.heap.size + 1 ≤ w2.heap.size := by simpa using hs2
    have hc0 : w2.cell? ⟨w1.heap.size, 0, none⟩ = some (.int .i64 q1) := by rw [hB2.cell (p := ⟨w1.heap.size, 0, none⟩) (by simp)]; simp
    have hc1 : w2.cell? ⟨w1.heap.size, 1, none⟩ = some (.int .i64 q2) := by rw [hB2.cell (p := ⟨w1.heap.size, 1, none⟩) (by simp)]; simp
    have hc2 : w2.cell? ⟨w1.heap.size, 2, none⟩ = some (.int .i64 q3) := by rw [hB2.cell (p := ⟨w1.heap.size, 2, none⟩) (by simp)]; simp
    have HB : Hid (Below w.heap.size w w2) := (hB1.alloc hs1 _).trans (hB2.mono (by simp; omega))
    clear hB1 hB2 hs2
    have hd0 : (w2.alloc (.cells #[.int .i64 q1, .int .i64 q2, .int .i64 q3] 26)).cell? ⟨w1.heap.size, 0, none⟩ = some (.int .i64 q1) := by rw [World.cell?_alloc_lt _ _ ⟨w1.heap.size, 0, none⟩ (show w1.heap.size < w2.heap.size by omega)]; exact hc0
    have hd1 : (w2.alloc (.cells #[.int .i64 q1, .int .i64 q2, .int .i64 q3] 26)).cell? ⟨w1.heap.size, 1, none⟩ = some (.int .i64 q2) := by rw [World.cell?_alloc_lt _ _ ⟨w1.heap.size, 1, none⟩ (show w1.heap.size < w2.heap.size by omega)]; exact hc1
    have hd2 : (w2.alloc (.cells #[.int .i64 q1, .int .i64 q2, .int .i64 q3] 26)).cell? ⟨w1.heap.size, 2, none⟩ = some (.int .i64 q3) := by rw [World.cell?_alloc_lt _ _ ⟨w1.heap.size, 2, none⟩ (show w1.heap.size < w2.heap.size by omega)]; exact hc2
    clear hc0 hc1 hc2
    go_wp2_with fail
    refine (GetNumW.eq_same (q1, q2, q3) _).mono ?_
    rintro e w3 ⟨rfl, hB3⟩
    go_wp2
    go_ret
    exact ⟨rfl, (HB.out.alloc (by omega) _).trans (hB3.mono (by simp; omega))⟩

set_option maxRecDepth 100000 in
theorem lifted (os : Os) (started : os.Started) (H : Type) (enc : TypeId × Value → H) :
    ReturnsInHanded {} Tryd.checked os 5 .any (fun w args => (Rows.fnExactGetNumSpec.pre enc Tryd.prog Tryd.f5 [] false w args ∧ laidMetH Tryd.prog DoorL.lst w) ∧ sizedMet enc Tryd.prog Tryd.f5 (OpenSpec.ofChange Rows.fnExactGetNumSpec) false w args)
      (Rows.fnExactGetNumSpec.post enc Tryd.prog Tryd.f5 false true false false) := by
  refine returnsInHanded_of_change_and (C := Tryd.checked) (X := fun w _ => laidMetH Tryd.prog DoorL.lst w) (fun _ _ _ hh h => h.of_heap hh) DoorL.own started (by kernel_rfl) Tryd.func5
    (ChangeSpec.witness_shaped (enc := enc) (C := Tryd.checked) (os := os) (X := fun w _ => laidMetH Tryd.prog DoorL.lst w) false (World.doorLaid Tryd.prog 400 os) #[.string ByteArray.empty, .int .i64 0] 8 rfl (World.shaped_of_RefB (by kernel_rfl) (by kernel_rfl)) (by kernel_rfl) (by kernel_rfl) (by kernel_rfl) (DoorL.door_met os _)) ?_
  intro W base args ds gs before hval0 hW _ _ hL _
  have hval : ∀ (j : Nat) t v, Tryd.f5.params[j]? = some t → args[j]? = some v → Value.okWide Tryd.prog W .any base t v := hval0
  have hW' := hW
  obtain ⟨p, q, hA0, hV, rfl, hfz, hnd⟩ := hW
  have hA : DataW.TrodAll enc Tryd.prog W 0 (fun _ => true) true Tryd.f5.params.toList args.toList ds p := hA0
  rw [Tryd.params5] at hA hval
  obtain ⟨v0, vs0, d0, ds0, p0, q0, hargs, rfl, rfl, h0, r0⟩ := trodAll_cons hA
  obtain ⟨v1, vs1, d1, ds1, p1, q1, rfl, rfl, rfl, h1, r1⟩ := trodAll_cons r0
  obtain ⟨rfl, rfl, rfl⟩ := trodAll_nil r1
  obtain rfl : args = #[v0, v1] := by cases args; simp_all
  obtain ⟨rfl, rfl⟩ := trodVars_none hV
  obtain ⟨a0, rfl, rfl, rfl, w0⟩ := open_string Tryd.underlying9 (hval 0 9 v0 rfl rfl) h0
  obtain ⟨a1, rfl, rfl, rfl, w1⟩ := open_int Tryd.underlying2 (hval 1 2 v1 rfl rfl) h1
  clear hA0 hval0
  refine (walk a0 a1 W w0 w1 (DoorL.of_laid hL)).mono fun e W' ⟨he, bel⟩ => ?_
  subst he
  exact ⟨_, rfl, _, _, _, [], _, [], hW', trodAll_mk1 (shut_bool Tryd.underlying4 _), (trodAll_cons_mk (shut_string Tryd.underlying9 w0) (trodAll_cons_mk (shut_int Tryd.underlying2 w1) trodAll_mk0)), rfl, bel.frame _, fun h => by cases h⟩

theorem over : Rows.FnExactGetNumSaid :=
  OpenClaim.holds_of_wide 5 Tryd.f5 rfl rfl rfl rfl rfl rfl rfl ⟨rfl, rfl, rfl, rfl, rfl⟩ rfl rfl rfl rfl rfl (by kernel_rfl) Tryd.func5 (by kernel_rfl)
    (of_decide_eq_true (by kernel_rfl)) (by unfold Func.isWrapper; first | (rw [if_pos (by decide +kernel)]; kernel_rfl) | (rw [if_neg (by decide +kernel)]; exact ⟨rfl, rfl⟩))
    (fun os started H enc _ => lifted os started H enc)
end Go.Proofs.YtcgaeblegiabjaaDoor.fnExactGetNum
namespace Go.Proofs.YtcgaeblegiabjaaDoor
theorem fnExactGetNum_holds : Rows.FnExactGetNumCardSaid :=
  Claim7.holds_tied_plain_at .later [] [.handle] true (true, "cd6a7aab6fdcd82736c62bc6c2d02d46529d440c57e7adcb789868813442b437") true
    fnExactGetNum.over (fun _ h => by cases h) (by kernel_rfl) (fun _ h => by cases h) fnExactGetNum_row_tie rfl ⟨rfl, rfl⟩ (by kernel_rfl) rfl
    (fun f fn hf hfn => by
      obtain rfl : f = 5 := Option.some.inj ((show Tryd.prog.funcNamed "loop.example/g00561/laws.FnExactGetNum" = some 5 by kernel_rfl).symm.trans hf) |>.symm
      obtain rfl : fn = Tryd.f5 := (Option.some.inj (Tryd.func5.symm.trans hfn)).symm
      exact ⟨by kernel_rfl, fun j t ht => by
        rw [Tryd.params5] at ht
        have hm : t ∈ [9, 2] := by simpa using Array.mem_of_getElem? ht
        have hall : ([9, 2].all fun u => !Tryd.prog.wantsStandIn u) = true := by kernel_rfl
        exact (show Tryd.prog.wantsStandIn t = false by simpa using List.all_eq_true.1 hall t hm)⟩)
    (by kernel_rfl)
#print axioms fnExactGetNum_holds
end Go.Proofs.YtcgaeblegiabjaaDoor
