/- FnExactValueText answers true at every answer: the program and the model write the same text of it, the empty one if it is not right, and leave it as it is. No condition of ours beyond the row itself; the row lists tables of the library as the program's text lays them, and the card ties them. -/
import Derived.Test.YtkiodgbfhlgbeaaDoorTxtLaw
import Derived.Test.YtkiodgbfhlgbeaaDoorDoorTab
import Derived.Test.YtkiodgbfhlgbeaaDoorTie
import Derived.Test.YtkiodgbfhlgbeaaDoorCards
import Derived.ShutString
import Derived.ChangeOld
import Derived.Below
import Derived.SevenTiedAt
namespace Go.Proofs.YtkiodgbfhlgbeaaDoor.fnExactValueText
open Go.ChangeShapes Go.WideShapes Go.ChangeAt Go.RowKit
open Go.ChangeMaps (open_string shut_string)
set_option linter.unusedVariables false

theorem walk (k0 n0 : Int) (a0 : Option Addr) (cap0 : Nat) (z0 : List Int) (t0 : ByteArray) (w : World) (c0 : ValO.CodesAny w a0 z0) (s0 : t0.size ≤ maxLen) (hE : TxtI.Env w) :
    Calls Tryd.prog 3 #[ValW.av k0 n0 a0 z0.length cap0 t0] w fun e w' => e = .returned (.bool true) ∧ Below w.heap.size w w' := by
  exact ValL.walk_text k0 n0 a0 cap0 z0 t0 w c0 s0 hE

set_option maxRecDepth 100000 in
theorem lifted (os : Os) (started : os.Started) (H : Type) (enc : TypeId × Value → H) :
    ReturnsInHanded {} Tryd.checked os 3 .any (fun w args => (Rows.fnExactValueTextSpec.pre enc Tryd.prog Tryd.f3 [] false w args ∧ laidMetH Tryd.prog DoorL.lst w) ∧ sizedMet enc Tryd.prog Tryd.f3 (OpenSpec.ofChange Rows.fnExactValueTextSpec) false w args)
      (Rows.fnExactValueTextSpec.post enc Tryd.prog Tryd.f3 false true false false) := by
  refine DoorL.wrap (C := Tryd.checked) (X := fun w _ => laidMetH Tryd.prog DoorL.lst w) (fun _ _ _ hh h => h.of_heap hh) DoorL.own started (by kernel_rfl) Tryd.func3
    (ChangeSpec.witness_shaped (enc := enc) (C := Tryd.checked) (os := os) (X := fun w _ => laidMetH Tryd.prog DoorL.lst w) false (World.laidAll Tryd.prog os DoorL.lst) #[.agg #[.int .i64 0, .int .i64 0, .slice none 0 0, .string ByteArray.empty]] 8 (DoorL.world_os os) (DoorL.world_shaped os _) (by kernel_rfl) (by kernel_rfl) (by kernel_rfl) (DoorL.met os _)) ?_
  intro W base args ds gs before hval0 hW _ _ hL hsh _
  have hval : ∀ (j : Nat) t v, Tryd.f3.params[j]? = some t → args[j]? = some v → Value.okWide Tryd.prog W .any base t v := hval0
  have hW' := hW
  obtain ⟨p, q, hA0, hV, rfl, hfz, hnd⟩ := hW
  have hA : DataW.TrodAll enc Tryd.prog W 0 (fun _ => true) true Tryd.f3.params.toList args.toList ds p := hA0
  rw [Tryd.params3] at hA hval
  obtain ⟨v0, vs0, d0, ds0, p0, q0, hargs, rfl, rfl, h0, r0⟩ := trodAll_cons hA
  obtain ⟨rfl, rfl, rfl⟩ := trodAll_nil r0
  obtain rfl : args = #[v0] := by cases args; simp_all
  obtain ⟨rfl, rfl⟩ := trodVars_none hV
  have K0 := h0
  have lt0 : ∀ x ∈ p0, x.block < W.heap.size := by obtain ⟨m, hm⟩ := K0; exact DataW.trod_lt m _ _ _ hm
  obtain ⟨k0, n0, a0, cap0, z0, t0, rfl, c0, s0⟩ := ValO.val_open (hval 0 24 v0 rfl rfl) h0
  clear hA0 hval0
  refine (walk k0 n0 a0 cap0 z0 t0 W c0 s0 (DoorL.of_laid hL hsh)).mono fun e W' ⟨he, bel⟩ => ?_
  subst he
  exact ⟨_, rfl, _, _, _, [], _, [], hW', trodAll_mk1 (shut_bool Tryd.underlying4 _), (trodAll_cons_mk (Below.trod DoorL.laidOut (by kernel_rfl) (of_decide_eq_true (by kernel_rfl)) K0 bel lt0) trodAll_mk0), rfl, bel.frame _, fun h => by cases h⟩

theorem over : Rows.FnExactValueTextSaid :=
  OpenClaim.holds_of_wide 3 Tryd.f3 rfl rfl rfl rfl rfl rfl rfl ⟨rfl, rfl, rfl, rfl, rfl⟩ rfl rfl rfl rfl rfl (by kernel_rfl) Tryd.func3 (by kernel_rfl)
    (of_decide_eq_true (by kernel_rfl)) (by unfold Func.isWrapper; first | (rw [if_pos (by decide +kernel)]; kernel_rfl) | (rw [if_neg (by decide +kernel)]; exact ⟨rfl, rfl⟩))
    (fun os started H enc _ => lifted os started H enc)
end Go.Proofs.YtkiodgbfhlgbeaaDoor.fnExactValueText
namespace Go.Proofs.YtkiodgbfhlgbeaaDoor
theorem fnExactValueText_holds : Rows.FnExactValueTextCardSaid :=
  Claim7.holds_tied_plain_at .later [] [.data, .data, .data, .data, .pinned] true (true, "c4b8afa3919d08351ec9f362b8f2e31a41fcbe6d907181396e4afd7aa03bc8b6") true
    fnExactValueText.over (fun _ h => by cases h) (by kernel_rfl) (fun _ h => by cases h) fnExactValueText_row_tie rfl ⟨rfl, rfl⟩ (by kernel_rfl) rfl
    (fun f fn hf hfn => by
      obtain rfl : f = 3 := Option.some.inj ((show Tryd.prog.funcNamed "loop.example/g00561/laws.FnExactValueText" = some 3 by kernel_rfl).symm.trans hf) |>.symm
      obtain rfl : fn = Tryd.f3 := (Option.some.inj (Tryd.func3.symm.trans hfn)).symm
      exact ⟨by kernel_rfl, fun j t ht => by
        rw [Tryd.params3] at ht
        have hm : t ∈ [24] := by simpa using Array.mem_of_getElem? ht
        have hall : ([24].all fun u => !Tryd.prog.wantsStandIn u) = true := by kernel_rfl
        exact (show Tryd.prog.wantsStandIn t = false by simpa using List.all_eq_true.1 hall t hm)⟩)
    (by kernel_rfl)
#print axioms fnExactValueText_holds
end Go.Proofs.YtkiodgbfhlgbeaaDoor
