/- FnExactEval answers true at every list of parts and every list of answers: the program and the model tell the same of the expression by the answers, nothing if one of them is not right, and nothing that came in is changed. No condition of ours beyond the row itself; the row lists the program's table of ops as the program's text lays it, and the card ties it. -/
import Derived.Test.YtflofhbooedpjaaGreatDoorBd30
import Derived.Test.YtflofhbooedpjaaGreatDoorBd22
import Derived.Test.YtflofhbooedpjaaGreatDoorBd21
import Derived.Test.YtflofhbooedpjaaGreatDoorTie
import Derived.Test.YtflofhbooedpjaaGreatDoorCards
import Derived.ChangeVars
import Derived.ShutString
import Derived.ChangeOld
import Derived.Below
import Derived.SevenTiedAt
import Derived.Test.YtflofhbooedpjaaGreatDoorBd15
import Derived.Lay
import Derived.LaidLaws
import Derived.MakeChecks
namespace Go.Proofs.YtflofhbooedpjaaGreatDoor.DoorL
open Go.ChangeShapes Go.WideShapes Go.ChangeAt Go.RowKit

theorem own : ownKnob Tryz.prog.godebug = none := by kernel_rfl
theorem laidOut : laidOutB Tryz.prog = true := by kernel_rfl
def lst : List (String × DataW Unit) := Rows.fnExactEvalRow.laid
theorem shapes : (Rows.laid_loop_example_g00561_impl_shapes : DataW Unit) = .agg ((List.range 14).map PrtO.shapeData) := by kernel_rfl
theorem var_below {P : Program} {B g : Nat} {W W' : World} {n : String} {cs : Array Value} (h : Below B W W') (hg : P.globalNamed n = some g) (hgB : g < B) (hv : W.var? P n = some cs) : W'.var? P n = some cs := by
  unfold World.var? at hv ⊢
  simp only [hg, Option.bind_some] at hv ⊢
  rw [h.block g hgB]
  exact hv

set_option maxRecDepth 100000 in
theorem of_laid {W : World} (h : laidMetH Tryz.prog lst W) (_hs : W.ShapedOpen Tryz.prog) : PrtI.EnvS W := by
  have h0 : laidMet Tryz.prog lst W := by rw [← MakeChecks.laidMetH_plain _ _ _ (by kernel_rfl)]; exact h
  have hr := Lib.laidMet.reads h0 (n := "loop.example/g00561/impl.shapes") (d := Rows.laid_loop_example_g00561_impl_shapes) (List.mem_cons_self ..)
  rw [shapes] at hr
  exact PrtO.env_of_reads hr

theorem world_os (os : Os) : (World.laidAll Tryz.prog os lst).os = os := World.laidAll_os _ _ _
set_option maxRecDepth 100000 in
theorem world_shaped (os : Os) (args : Array Value) : ((World.laidAll Tryz.prog os lst).forCall (fun _ _ => 0) ⟨#[], args, []⟩).Shaped Tryz.prog := World.shaped_of_ZipB (by kernel_rfl) (by kernel_rfl)
set_option maxRecDepth 100000 in
theorem met (os : Os) (args : Array Value) : laidMetH Tryz.prog lst ((World.laidAll Tryz.prog os lst).forCall (fun _ _ => 0) ⟨#[], args, []⟩).memory := by
  rw [MakeChecks.laidMetH_plain _ _ _ (by kernel_rfl)]; exact laidMet_laidAll _ (by kernel_rfl) (by kernel_rfl)
end Go.Proofs.YtflofhbooedpjaaGreatDoor.DoorL

namespace Go.Proofs.YtflofhbooedpjaaGreatDoor.fnExactEval
open Go.ChangeShapes Go.WideShapes Go.ChangeAt Go.RowKit
open Go.ChangeMaps (open_string shut_string)
set_option linter.unusedVariables false

theorem walk (a0 : Option Addr) (cap0 : Nat) (z0 : List PrtW.Pt) (a1 : Option Addr) (cap1 : Nat) (z1 : List AnsW.An) (w : World) (w0 : PrtW.Raw w a0 z0) (w1 : AnsW.Raw w a1 z1) (hE : PrtI.EnvS w) :
    Calls Tryz.prog 3 #[.slice a0 z0.length cap0, .slice a1 z1.length cap1] w fun e w' => e = .returned (.bool true) ∧ Below w.heap.size w w' := by
  exact EvlL.law_eval a0 cap0 z0 a1 cap1 z1 w w0 w1 hE

set_option maxRecDepth 100000 in
theorem lifted (os : Os) (started : os.Started) (H : Type) (enc : TypeId × Value → H) :
    ReturnsInHanded {} Tryz.checked os 3 .any (fun w args => (Rows.fnExactEvalSpec.pre enc Tryz.prog Tryz.f3 [] false w args ∧ laidMetH Tryz.prog DoorL.lst w) ∧ sizedMet enc Tryz.prog Tryz.f3 (OpenSpec.ofChange Rows.fnExactEvalSpec) false w args)
      (Rows.fnExactEvalSpec.post enc Tryz.prog Tryz.f3 false true false false) := by
  refine DoorL.wrap (C := Tryz.checked) (X := fun w _ => laidMetH Tryz.prog DoorL.lst w) (fun _ _ _ hh h => h.of_heap hh) DoorL.own started (by kernel_rfl) Tryz.func3
    (ChangeSpec.witness_shaped (enc := enc) (C := Tryz.checked) (os := os) (X := fun w _ => laidMetH Tryz.prog DoorL.lst w) false (World.laidAll Tryz.prog os DoorL.lst) #[.slice none 0 0, .slice none 0 0] 8 (DoorL.world_os os) (DoorL.world_shaped os _) (by kernel_rfl) (by kernel_rfl) (by kernel_rfl) (DoorL.met os _)) ?_
  intro W base args ds gs before hval0 hW _ _ hL hsh _
  have hval : ∀ (j : Nat) t v, Tryz.f3.params[j]? = some t → args[j]? = some v → Value.okWide Tryz.prog W .any base t v := hval0
  have hW' := hW
  obtain ⟨p, q, hA0, hV, rfl, hfz, hnd⟩ := hW
  have hA : DataW.TrodAll enc Tryz.prog W 0 (fun _ => true) true Tryz.f3.params.toList args.toList ds p := hA0
  rw [Tryz.params3] at hA hval
  obtain ⟨v0, vs0, d0, ds0, p0, q0, hargs, rfl, rfl, h0, r0⟩ := trodAll_cons hA
  obtain ⟨v1, vs1, d1, ds1, p1, q1, rfl, rfl, rfl, h1, r1⟩ := trodAll_cons r0
  obtain ⟨rfl, rfl, rfl⟩ := trodAll_nil r1
  obtain rfl : args = #[v0, v1] := by cases args; simp_all
  have hV1 : DataW.TrodVars enc Tryz.prog W (fun _ => true) ["loop.example/g00561/impl.shapes"] gs q := hV
  obtain ⟨g, tv, cs, fuelv, dv, pv, rfl, hg, htv, hvar, hdv, rfl⟩ := trodVars_one hV1
  obtain rfl := Option.some.inj ((show Tryz.prog.globalNamed "loop.example/g00561/impl.shapes" = some 0 by kernel_rfl).symm.trans hg)
  obtain rfl := Option.some.inj ((show (Tryz.prog.globals[0]?).map (·.type) = some 73 by kernel_rfl).symm.trans htv)
  obtain ⟨a0, len0, cap0, rfl⟩ := okWide_slice Tryz.underlying22 (hval 0 22 v0 rfl rfl)
  have K0 := h0
  have lt0 : ∀ x ∈ p0, x.block < W.heap.size := by obtain ⟨m, hm⟩ := K0; exact DataW.trod_lt m _ _ _ hm
  obtain ⟨z0, rfl, w0, _⟩ : ∃ ps : List PrtW.Pt, ps.length = len0 ∧ PrtW.Raw W a0 ps ∧ len0 ≤ cap0 := by obtain ⟨m, hm⟩ := h0; exact PrtO.parts_open (by simpa [Value.cells] using hm)
  obtain ⟨a1, len1, cap1, rfl⟩ := okWide_slice Tryz.underlying23 (hval 1 23 v1 rfl rfl)
  have K1 := h1
  have lt1 : ∀ x ∈ p1, x.block < W.heap.size := by obtain ⟨m, hm⟩ := K1; exact DataW.trod_lt m _ _ _ hm
  obtain ⟨z1, rfl, w1, _⟩ : ∃ ls : List AnsW.An, ls.length = len1 ∧ AnsW.Raw W a1 ls ∧ len1 ≤ cap1 := by obtain ⟨m, hm⟩ := h1; exact AnsO.ans_open (by simpa [Value.cells] using hm)
  clear hA0 hval0
  refine (walk a0 cap0 z0 a1 cap1 z1 W w0 w1 (DoorL.of_laid hL hsh)).mono fun e W' ⟨he, bel⟩ => ?_
  subst he
  have ltv : ∀ x ∈ pv, x.block < W.heap.size := fun x hx => hW'.lt x (List.mem_append_right _ (List.mem_append_right _ hx))
  have hgl : 0 < W.heap.size := (DoorL.of_laid hL hsh).1
  obtain ⟨fv2, hdv2⟩ := Below.trod DoorL.laidOut (by kernel_rfl) (of_decide_eq_true (by kernel_rfl)) (v := .agg cs) (⟨fuelv, hdv⟩ : DataW.Trod enc Tryz.prog W 0 (fun _ => true) true 73 (.agg cs) dv pv) bel ltv
  have hv2 := trodVars_mk1 (enc := enc) (spare := fun b => decide (b < W.heap.size)) hg htv (DoorL.var_below bel hg hgl hvar) hdv2
  exact ⟨_, rfl, _, _, _, [], _, _, hW', trodAll_mk1 (shut_bool Tryz.underlying4 _), (trodAll_cons_mk (Below.trod DoorL.laidOut (by kernel_rfl) (of_decide_eq_true (by kernel_rfl)) K0 bel lt0) (trodAll_cons_mk (Below.trod DoorL.laidOut (by kernel_rfl) (of_decide_eq_true (by kernel_rfl)) K1 bel lt1) trodAll_mk0)), hv2, bel.frame _, fun h => by cases h⟩

theorem over : Rows.FnExactEvalSaid :=
  OpenClaim.holds_of_wide 3 Tryz.f3 rfl rfl rfl rfl rfl rfl rfl ⟨rfl, rfl, rfl, rfl, rfl⟩ rfl rfl rfl rfl rfl (by kernel_rfl) Tryz.func3 (by kernel_rfl)
    (of_decide_eq_true (by kernel_rfl)) (by unfold Func.isWrapper; first | (rw [if_pos (by decide +kernel)]; kernel_rfl) | (rw [if_neg (by decide +kernel)]; exact ⟨rfl, rfl⟩))
    (fun os started H enc _ => lifted os started H enc)
end Go.Proofs.YtflofhbooedpjaaGreatDoor.fnExactEval
namespace Go.Proofs.YtflofhbooedpjaaGreatDoor
theorem fnExactEval_holds : Rows.FnExactEvalCardSaid :=
  Claim7.holds_tied_plain_at .later [] [.data] true (true, "2630ca49ec734d9e2b4622b72ebff5af9d8c19da2ecec281176b240ebb2a3960") true
    fnExactEval.over (fun _ h => by cases h) (by kernel_rfl) (fun _ h => by cases h) fnExactEval_row_tie rfl ⟨rfl, rfl⟩ (by kernel_rfl) rfl
    (fun f fn hf hfn => by
      obtain rfl : f = 3 := Option.some.inj ((show Tryz.prog.funcNamed "loop.example/g00561/laws.FnExactEval" = some 3 by kernel_rfl).symm.trans hf) |>.symm
      obtain rfl : fn = Tryz.f3 := (Option.some.inj (Tryz.func3.symm.trans hfn)).symm
      exact ⟨by kernel_rfl, fun j t ht => by
        rw [Tryz.params3] at ht
        have hm : t ∈ [22, 23] := by simpa using Array.mem_of_getElem? ht
        have hall : ([22, 23].all fun u => !Tryz.prog.wantsStandIn u) = true := by kernel_rfl
        exact (show Tryz.prog.wantsStandIn t = false by simpa using List.all_eq_true.1 hall t hm)⟩)
    (by kernel_rfl)
#print axioms fnExactEval_holds
end Go.Proofs.YtflofhbooedpjaaGreatDoor
