/- FnExactAnswerPut answers true at every list of answers, every name and every value: the program and the model put the same answer, or tell the same code; nothing that came in is changed, nothing of it is kept, and what is answered lies in memory of its own, behind another call too. No condition of ours beyond the row itself; the row lists the one variable that errors.As reads as the library's text lays it, and the card ties it. -/
import Derived.Test.YtjnnkilmlngjgaaGreatDoorBd33
import Derived.Test.YtjnnkilmlngjgaaGreatDoorBd19
import Derived.Test.YtjnnkilmlngjgaaGreatDoorBd16
import Derived.Test.YtjnnkilmlngjgaaGreatDoorTie
import Derived.Test.YtjnnkilmlngjgaaGreatDoorCards
import Derived.ShutString
import Derived.ChangeOld
import Derived.Below
import Derived.SevenTiedAt
import Derived.Test.YtjnnkilmlngjgaaGreatDoorBd13
import Derived.Test.YtjnnkilmlngjgaaGreatDoorBd32
import Derived.LaidHandle
namespace Go.Proofs.YtjnnkilmlngjgaaGreatDoor.DoorL
open Go.ChangeShapes Go.WideShapes Go.ChangeAt Go.RowKit

theorem own : ownKnob Tryz.prog.godebug = none := by kernel_rfl
theorem laidOut : laidOutB Tryz.prog = true := by kernel_rfl
def lst : List (String × DataW Unit) := Rows.fnExactAnswerPutRow.laid
def plain : List (String × DataW Unit) := []
theorem rt : (Tryz.prog.cutTypes.find? (·.1 == "internal/reflectlite.rtype")).map (·.2) = some 108 := by kernel_rfl
theorem oneRow : ((List.range 181).filter fun t => Tryz.prog.rowNamed t [101, 114, 114, 111, 114]) = [56] := by kernel_rfl
theorem size : Tryz.prog.types.size = 181 := by kernel_rfl
theorem et : Tryz.prog.globalNamed "errors.errorType" = some 0 := by kernel_rfl
set_option maxRecDepth 100000 in
theorem parts {W : World} (h : laidMetH Tryz.prog lst W) : laidMet Tryz.prog plain W ∧ handlesMet Tryz.prog [("errors.errorType", Rows.laid_errors_errorType)] W := h

set_option maxRecDepth 100000 in
theorem of_laid {W : World} (h : laidMetH Tryz.prog lst W) (_hs : W.ShapedOpen Tryz.prog) : BookW.EnvA W := by
  obtain ⟨h0, hh⟩ := parts h
  obtain ⟨name, u, ty, e1, e2, e3, e4, e5⟩ := hh _ (List.mem_singleton.2 rfl)
  have en : name = [101, 114, 114, 111, 114] := (Option.some.inj e1).symm
  subst en
  obtain rfl := Option.some.inj (rt.symm.trans e2)
  have hm : ty ∈ (List.range 181).filter fun t => Tryz.prog.rowNamed t [101, 114, 114, 111, 114] := List.mem_filter.2 ⟨List.mem_range.2 (by rw [← size]; exact e3), e4⟩
  rw [oneRow] at hm
  obtain rfl := List.mem_singleton.1 hm
  have hq : typeHandle Tryz.prog 56 = .pointer (some ⟨1, 56, none⟩) := by kernel_rfl
  rw [hq] at e5
  unfold BookW.EnvA
  simpa using World.var?_cell et e5 0

theorem world_os (os : Os) : (((World.holding Tryz.prog os ⟨#[], #[], []⟩).setCell ⟨0, 0, none⟩ (.iface 108 (.agg #[.pointer (some ⟨1, 56, none⟩)]))).layVars Tryz.prog plain).os = os := World.layVars_os _ _ _
set_option maxRecDepth 100000 in
theorem world_shaped (os : Os) (args : Array Value) : ((((World.holding Tryz.prog os ⟨#[], #[], []⟩).setCell ⟨0, 0, none⟩ (.iface 108 (.agg #[.pointer (some ⟨1, 56, none⟩)]))).layVars Tryz.prog plain).forCall (fun _ _ => 0) ⟨#[], args, []⟩).Shaped Tryz.prog := World.shaped_of_ZipB (by kernel_rfl) (by kernel_rfl)
set_option maxRecDepth 100000 in
theorem met (os : Os) (args : Array Value) : laidMetH Tryz.prog lst ((((World.holding Tryz.prog os ⟨#[], #[], []⟩).setCell ⟨0, 0, none⟩ (.iface 108 (.agg #[.pointer (some ⟨1, 56, none⟩)]))).layVars Tryz.prog plain).forCall (fun _ _ => 0) ⟨#[], args, []⟩).memory := by
  refine laidMetH_of_parts ?_ (by kernel_rfl)
  have e : (lst.filter fun x => x.2.handleName?.isNone) = plain := by kernel_rfl
  rw [e]
  have e1 : (plain.filter fun x => (plain.map (·.1)).contains x.1) = plain := List.filter_eq_self.2 fun x hx => List.contains_iff_mem.2 (List.mem_map.2 ⟨x, hx, rfl⟩)
  have e2 : (plain.filter fun x => !(plain.map (·.1)).contains x.1) = [] := List.filter_eq_nil_iff.2 fun x hx => by rw [List.contains_iff_mem.2 (List.mem_map.2 ⟨x, hx, rfl⟩)]; simp
  have h : laidMet Tryz.prog plain (((World.holding Tryz.prog os ⟨#[], #[], []⟩).setCell ⟨0, 0, none⟩ (.iface 108 (.agg #[.pointer (some ⟨1, 56, none⟩)]))).layVars Tryz.prog plain) :=
    laidMet_layVars (w0 := (World.holding Tryz.prog os ⟨#[], #[], []⟩).setCell ⟨0, 0, none⟩ (.iface 108 (.agg #[.pointer (some ⟨1, 56, none⟩)]))) (plain.map (·.1)) [] (by rw [e1]) (by rw [e1]; kernel_rfl) (by rw [e1]; kernel_rfl) (by rw [e2]; exact LaidIn.none)
  exact h.of_heap (by simp [World.memory, World.forCall, Input.heap])
end Go.Proofs.YtjnnkilmlngjgaaGreatDoor.DoorL

namespace Go.Proofs.YtjnnkilmlngjgaaGreatDoor.fnExactAnswerPut
open Go.ChangeShapes Go.WideShapes Go.ChangeAt Go.RowKit
open Go.ChangeMaps (open_string shut_string)
set_option linter.unusedVariables false

theorem walk (a0 : Option Addr) (cap0 : Nat) (z0 : List AnsW.An) (a1 : ByteArray) (k2 n2 : Int) (a2 : Option Addr) (cap2 : Nat) (z2 : List Int) (t2 : ByteArray) (w : World) (w0 : AnsW.Raw w a0 z0) (w1 : a1.size ≤ maxLen) (c2 : ValO.CodesAny w a2 z2) (s2 : t2.size ≤ maxLen) (hE : BookW.EnvA w) :
    Calls Tryz.prog 3 #[.slice a0 z0.length cap0, .string a1, ValW.av k2 n2 a2 z2.length cap2 t2] w fun e w' => e = .returned (.bool true) ∧ Below w.heap.size w w' := by
  exact AnsL.law_put a0 cap0 z0 a1 k2 n2 a2 cap2 z2 t2 w w0 w1 c2 s2 hE

set_option maxRecDepth 100000 in
theorem lifted (os : Os) (started : os.Started) (H : Type) (enc : TypeId × Value → H) :
    ReturnsInHanded {} Tryz.checked os 3 .any (fun w args => (Rows.fnExactAnswerPutSpec.pre enc Tryz.prog Tryz.f3 [] false w args ∧ laidMetH Tryz.prog DoorL.lst w) ∧ sizedMet enc Tryz.prog Tryz.f3 (OpenSpec.ofChange Rows.fnExactAnswerPutSpec) false w args)
      (Rows.fnExactAnswerPutSpec.post enc Tryz.prog Tryz.f3 false true false false) := by
  refine DoorL.wrap (C := Tryz.checked) (X := fun w _ => laidMetH Tryz.prog DoorL.lst w) (fun _ _ _ hh h => h.of_heap hh) DoorL.own started (by kernel_rfl) Tryz.func3
    (ChangeSpec.witness_shaped (enc := enc) (C := Tryz.checked) (os := os) (X := fun w _ => laidMetH Tryz.prog DoorL.lst w) false (((World.holding Tryz.prog os ⟨#[], #[], []⟩).setCell ⟨0, 0, none⟩ (.iface 108 (.agg #[.pointer (some ⟨1, 56, none⟩)]))).layVars Tryz.prog DoorL.plain) #[.slice none 0 0, .string ByteArray.empty, .agg #[.int .i64 0, .int .i64 0, .slice none 0 0, .string ByteArray.empty]] 8 (DoorL.world_os os) (DoorL.world_shaped os _) (by kernel_rfl) (by kernel_rfl) (by kernel_rfl) (DoorL.met os _)) ?_
  intro W base args ds gs before hval0 hW _ _ hL hsh _
  have hval : ∀ (j : Nat) t v, Tryz.f3.params[j]? = some t → args[j]? = some v → Value.okWide Tryz.prog W .any base t v := hval0
  have hW' := hW
  obtain ⟨p, q, hA0, hV, rfl, hfz, hnd⟩ := hW
  have hA : DataW.TrodAll enc Tryz.prog W 0 (fun _ => true) true Tryz.f3.params.toList args.toList ds p := hA0
  rw [Tryz.params3] at hA hval
  obtain ⟨v0, vs0, d0, ds0, p0, q0, hargs, rfl, rfl, h0, r0⟩ := trodAll_cons hA
  obtain ⟨v1, vs1, d1, ds1, p1, q1, rfl, rfl, rfl, h1, r1⟩ := trodAll_cons r0
  obtain ⟨v2, vs2, d2, ds2, p2, q2, rfl, rfl, rfl, h2, r2⟩ := trodAll_cons r1
  obtain ⟨rfl, rfl, rfl⟩ := trodAll_nil r2
  obtain rfl : args = #[v0, v1, v2] := by cases args; simp_all
  obtain ⟨rfl, rfl⟩ := trodVars_none hV
  obtain ⟨a0, len0, cap0, rfl⟩ := okWide_slice Tryz.underlying22 (hval 0 22 v0 rfl rfl)
  have K0 := h0
  have lt0 : ∀ x ∈ p0, x.block < W.heap.size := by obtain ⟨m, hm⟩ := K0; exact DataW.trod_lt m _ _ _ hm
  obtain ⟨z0, rfl, w0, _⟩ : ∃ ls : List AnsW.An, ls.length = len0 ∧ AnsW.Raw W a0 ls ∧ len0 ≤ cap0 := by obtain ⟨m, hm⟩ := h0; exact AnsO.ans_open (by simpa [Value.cells] using hm)
  obtain ⟨a1, rfl, rfl, rfl, w1⟩ := open_string Tryz.underlying9 (hval 1 9 v1 rfl rfl) h1
  have K2 := h2
  have lt2 : ∀ x ∈ p2, x.block < W.heap.size := by obtain ⟨m, hm⟩ := K2; exact DataW.trod_lt m _ _ _ hm
  obtain ⟨k2, n2, a2, cap2, z2, t2, rfl, c2, s2⟩ := ValO.val_open (hval 2 25 v2 rfl rfl) h2
  clear hA0 hval0
  refine (walk a0 cap0 z0 a1 k2 n2 a2 cap2 z2 t2 W w0 w1 c2 s2 (DoorL.of_laid hL hsh)).mono fun e W' ⟨he, bel⟩ => ?_
  subst he
  exact ⟨_, rfl, _, _, _, [], _, [], hW', trodAll_mk1 (shut_bool Tryz.underlying4 _), (trodAll_cons_mk (Below.trod DoorL.laidOut (by kernel_rfl) (of_decide_eq_true (by kernel_rfl)) K0 bel lt0) (trodAll_cons_mk (shut_string Tryz.underlying9 w1) (trodAll_cons_mk (Below.trod DoorL.laidOut (by kernel_rfl) (of_decide_eq_true (by kernel_rfl)) K2 bel lt2) trodAll_mk0))), rfl, bel.frame _, fun h => by cases h⟩

theorem over : Rows.FnExactAnswerPutSaid :=
  OpenClaim.holds_of_wide 3 Tryz.f3 rfl rfl rfl rfl rfl rfl rfl ⟨rfl, rfl, rfl, rfl, rfl⟩ rfl rfl rfl rfl rfl (by kernel_rfl) Tryz.func3 (by kernel_rfl)
    (of_decide_eq_true (by kernel_rfl)) (by unfold Func.isWrapper; first | (rw [if_pos (by decide +kernel)]; kernel_rfl) | (rw [if_neg (by decide +kernel)]; exact ⟨rfl, rfl⟩))
    (fun os started H enc _ => lifted os started H enc)
end Go.Proofs.YtjnnkilmlngjgaaGreatDoor.fnExactAnswerPut
namespace Go.Proofs.YtjnnkilmlngjgaaGreatDoor
theorem fnExactAnswerPut_holds : Rows.FnExactAnswerPutCardSaid :=
  Claim7.holds_tied_plain_at .later [] [.handle] true (true, "862a4063ef769fdbcdc5179a5b067f32f8e889c4443d6609c84dbdfc56ae98c2") true
    fnExactAnswerPut.over (fun _ h => by cases h) (by kernel_rfl) (fun _ h => by cases h) fnExactAnswerPut_row_tie rfl ⟨rfl, rfl⟩ (by kernel_rfl) rfl
    (fun f fn hf hfn => by
      obtain rfl : f = 3 := Option.some.inj ((show Tryz.prog.funcNamed "loop.example/g00561/laws.FnExactAnswerPut" = some 3 by kernel_rfl).symm.trans hf) |>.symm
      obtain rfl : fn = Tryz.f3 := (Option.some.inj (Tryz.func3.symm.trans hfn)).symm
      exact ⟨by kernel_rfl, fun j t ht => by
        rw [Tryz.params3] at ht
        have hm : t ∈ [22, 9, 25] := by simpa using Array.mem_of_getElem? ht
        have hall : ([22, 9, 25].all fun u => !Tryz.prog.wantsStandIn u) = true := by kernel_rfl
        exact (show Tryz.prog.wantsStandIn t = false by simpa using List.all_eq_true.1 hall t hm)⟩)
    (by kernel_rfl)
#print axioms fnExactAnswerPut_holds
end Go.Proofs.YtjnnkilmlngjgaaGreatDoor
