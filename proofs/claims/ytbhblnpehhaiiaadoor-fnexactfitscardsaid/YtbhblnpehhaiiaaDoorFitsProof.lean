/- FnExactFits answers true at every item and every value: the program and the model say the same of whether the value fits what is asked, and nothing that came in is changed. No condition of ours beyond the row itself; the row lists the program's tables as the program's text lays them, and the card ties them. -/
import Derived.Test.YtbhblnpehhaiiaaDoorFitLaw
import Derived.Test.YtbhblnpehhaiiaaDoorItmOne
import Derived.Test.YtbhblnpehhaiiaaDoorOutOpen
import Derived.Test.YtbhblnpehhaiiaaDoorTie
import Derived.Test.YtbhblnpehhaiiaaDoorCards
import Derived.OpenVars
import Derived.ShutString
import Derived.ChangeOld
import Derived.Below
import Derived.SevenTiedAt
import Derived.Test.YtbhblnpehhaiiaaDoorOutOpen
import Derived.Test.YtbhblnpehhaiiaaDoorDoorWrap
import Derived.Lay
import Derived.LaidLaws
import Derived.MakeChecks
import Derived.LaidHandle
namespace Go.Proofs.YtbhblnpehhaiiaaDoor.DoorL
open Go.ChangeShapes Go.WideShapes Go.ChangeAt Go.RowKit

theorem own : ownKnob Tryd.prog.godebug = none := by kernel_rfl
theorem laidOut : laidOutB Tryd.prog = true := by kernel_rfl
def lst : List (String × DataW Unit) := Rows.fnExactFitsRow.laid
def plain : List (String × DataW Unit) := [("unicode/utf8.acceptRanges", Rows.laid_unicode_utf8_acceptRanges), ("loop.example/g00561/impl.shapes", Rows.laid_loop_example_g00561_impl_shapes), ("loop.example/g00561/impl.outlines", Rows.laid_loop_example_g00561_impl_outlines), ("unicode/utf8.first", Rows.laid_unicode_utf8_first)]
theorem lst_eq : lst = plain := rfl
theorem shapes : (Rows.laid_loop_example_g00561_impl_shapes : DataW Unit) = .agg ((List.range 14).map PrtO.shapeData) := by kernel_rfl
theorem outs : (Rows.laid_loop_example_g00561_impl_outlines : DataW Unit) = .agg ((List.range 7).map FrmO.outData) := by kernel_rfl
set_option maxRecDepth 100000 in
theorem of_laid {W : World} (h : laidMetH Tryd.prog lst W) (_hs : W.ShapedOpen Tryd.prog) : ItmI.EnvI W := by
  have h0 : laidMet Tryd.prog plain W := by rw [← lst_eq, ← MakeChecks.laidMetH_plain _ _ _ (by kernel_rfl)]; exact h
  have hr := Lib.laidMet.reads h0 (n := "loop.example/g00561/impl.shapes") (d := Rows.laid_loop_example_g00561_impl_shapes) (List.mem_cons_of_mem _ (List.mem_cons_self ..))
  rw [shapes] at hr
  have ho := Lib.laidMet.reads h0.tail.tail (n := "loop.example/g00561/impl.outlines") (d := Rows.laid_loop_example_g00561_impl_outlines) (List.mem_cons_self ..)
  rw [outs] at ho
  exact ⟨PrtO.env_of_reads hr, FrmO.env_of_reads ho⟩

theorem world_os (os : Os) : (World.laidAll Tryd.prog os lst).os = os := World.laidAll_os _ _ _
set_option maxRecDepth 100000 in
theorem world_shaped (os : Os) (args : Array Value) : ((World.laidAll Tryd.prog os lst).forCall (fun _ _ => 0) ⟨#[], args, []⟩).Shaped Tryd.prog := World.shaped_of_ZipB (by kernel_rfl) (by kernel_rfl)
set_option maxRecDepth 100000 in
theorem met (os : Os) (args : Array Value) : laidMetH Tryd.prog lst ((World.laidAll Tryd.prog os lst).forCall (fun _ _ => 0) ⟨#[], args, []⟩).memory := by
  rw [MakeChecks.laidMetH_plain _ _ _ (by kernel_rfl)]; exact laidMet_laidAll _ (by kernel_rfl) (by kernel_rfl)
end Go.Proofs.YtbhblnpehhaiiaaDoor.DoorL

namespace Go.Proofs.YtbhblnpehhaiiaaDoor.fnExactFits
open Go.ChangeShapes Go.WideShapes Go.ChangeAt Go.RowKit
open Go.ChangeMaps (open_string shut_string)
set_option linter.unusedVariables false

theorem listN {α : Type} {l : List α} (h : l.length = 2) : ∃ gv0 gv1, l = [gv0, gv1] := by
  match l, h with
  | [gv0, gv1], _ => exact ⟨gv0, gv1, rfl⟩
theorem vars_len {H : Type} {enc : TypeId × Value → H} {P : Program} {w : World} {sp : Nat → Bool} : ∀ {ns : List String} {gs : List (DataW H)} {ps : List MemPlace}, DataW.TrodVars enc P w sp ns gs ps → gs.length = ns.length
  | [], [], _, _ => rfl
  | [], _ :: _, _, h => h.elim
  | _ :: _, [], _, h => h.elim
  | n :: ns, d :: ds, ps, h => by
    obtain ⟨g, t, cs, fuel, p, q, h1, h2, h3, h4, hs, e⟩ := h
    simp [vars_len hs]

theorem walk (k0 : Int) (s0 : ByteArray) (ty0 lo0 hi0 : Int) (t0 : ByteArray) (a0 : Option Addr) (cap0 : Nat) (ps0 : List PrtW.Pt) (hd0 : Bool) (k1 n1 : Int) (a1 : Option Addr) (cap1 : Nat) (z1 : List Int) (t1 : ByteArray) (w : World) (w0 : PrtW.Raw w a0 ps0) (ws0 : s0.size ≤ maxLen) (wt0 : t0.size ≤ maxLen) (c1 : ValO.CodesAny w a1 z1) (s1 : t1.size ≤ maxLen) (hE : ItmI.EnvI w) :
    Calls Tryd.prog 6 #[.agg #[.int .i64 k0, .string s0, .int .i64 ty0, .int .i64 lo0, .int .i64 hi0, .string t0, .slice a0 ps0.length cap0, .bool hd0], ValW.av k1 n1 a1 z1.length cap1 t1] w fun e w' => e = .returned (.bool true) ∧ Below w.heap.size w w' := by
  exact FitW.law_fits k0 s0 ty0 lo0 hi0 t0 a0 cap0 ps0 hd0 k1 n1 a1 cap1 z1 t1 w w0 ws0 wt0 c1 s1 hE

set_option maxRecDepth 100000 in
theorem lifted (os : Os) (started : os.Started) (H : Type) (enc : TypeId × Value → H) :
    ReturnsInHanded {} Tryd.checked os 6 .any (fun w args => (Rows.fnExactFitsSpec.pre enc Tryd.prog Tryd.f6 [] false w args ∧ laidMetH Tryd.prog DoorL.lst w) ∧ sizedMet enc Tryd.prog Tryd.f6 (OpenSpec.ofChange Rows.fnExactFitsSpec) false w args)
      (Rows.fnExactFitsSpec.post enc Tryd.prog Tryd.f6 false true false false) := by
  refine DoorL.wrap (C := Tryd.checked) (X := fun w _ => laidMetH Tryd.prog DoorL.lst w) (fun _ _ _ hh h => h.of_heap hh) DoorL.own started (by kernel_rfl) Tryd.func6
    (ChangeSpec.witness_shaped (enc := enc) (C := Tryd.checked) (os := os) (X := fun w _ => laidMetH Tryd.prog DoorL.lst w) false (World.laidAll Tryd.prog os DoorL.lst) #[.agg #[.int .i64 0, .string ByteArray.empty, .int .i64 0, .int .i64 0, .int .i64 0, .string ByteArray.empty, .slice none 0 0, .bool false], .agg #[.int .i64 0, .int .i64 0, .slice none 0 0, .string ByteArray.empty]] 8 (DoorL.world_os os) (DoorL.world_shaped os _) (by kernel_rfl) (by kernel_rfl) (by kernel_rfl) (DoorL.met os _)) ?_
  intro W base args ds gs before hval0 hW _ _ hL hsh _
  have hval : ∀ (j : Nat) t v, Tryd.f6.params[j]? = some t → args[j]? = some v → Value.okWide Tryd.prog W .any base t v := hval0
  have hW' := hW
  obtain ⟨p, q, hA0, hV, rfl, hfz, hnd⟩ := hW
  have hA : DataW.TrodAll enc Tryd.prog W 0 (fun _ => true) true Tryd.f6.params.toList args.toList ds p := hA0
  rw [Tryd.params6] at hA hval
  obtain ⟨v0, vs0, d0, ds0, p0, q0, hargs, rfl, rfl, h0, r0⟩ := trodAll_cons hA
  obtain ⟨v1, vs1, d1, ds1, p1, q1, rfl, rfl, rfl, h1, r1⟩ := trodAll_cons r0
  obtain ⟨rfl, rfl, rfl⟩ := trodAll_nil r1
  obtain rfl : args = #[v0, v1] := by cases args; simp_all
  have hV1 : DataW.TrodVars enc Tryd.prog W (fun _ => true) ["loop.example/g00561/impl.outlines", "loop.example/g00561/impl.shapes"] gs q := hV
  obtain ⟨gv0, gv1, rfl⟩ := listN (vars_len hV1)
  have K0 := h0
  have lt0 : ∀ x ∈ p0, x.block < W.heap.size := by obtain ⟨m, hm⟩ := K0; exact DataW.trod_lt m _ _ _ hm
  obtain ⟨k0, s0, ty0, lo0, hi0, t0, a0, cap0, ps0, hd0, rfl, w0, ws0, wt0⟩ := ItmO.item_open (hval 0 43 v0 rfl rfl) h0
  have K1 := h1
  have lt1 : ∀ x ∈ p1, x.block < W.heap.size := by obtain ⟨m, hm⟩ := K1; exact DataW.trod_lt m _ _ _ hm
  obtain ⟨k1, n1, a1, cap1, z1, t1, rfl, c1, s1⟩ := ValO.val_open (hval 1 46 v1 rfl rfl) h1
  clear hA0 hval0
  refine (walk k0 s0 ty0 lo0 hi0 t0 a0 cap0 ps0 hd0 k1 n1 a1 cap1 z1 t1 W w0 ws0 wt0 c1 s1 (DoorL.of_laid hL hsh)).mono fun e W' ⟨he, bel⟩ => ?_
  subst he
  have hv2 := Below.trodVars DoorL.laidOut bel (ns := ["loop.example/g00561/impl.outlines", "loop.example/g00561/impl.shapes"]) (by kernel_rfl) hV1
  exact ⟨_, rfl, _, _, _, [], _, _, hW', trodAll_mk1 (shut_bool Tryd.underlying4 _), (trodAll_cons_mk (Below.trod DoorL.laidOut (by kernel_rfl) (of_decide_eq_true (by kernel_rfl)) K0 bel lt0) (trodAll_cons_mk (Below.trod DoorL.laidOut (by kernel_rfl) (of_decide_eq_true (by kernel_rfl)) K1 bel lt1) trodAll_mk0)), hv2, bel.frame _, fun h => by cases h⟩

theorem over : Rows.FnExactFitsSaid :=
  OpenClaim.holds_of_wide 6 Tryd.f6 rfl rfl rfl rfl rfl rfl rfl ⟨rfl, rfl, rfl, rfl, rfl⟩ rfl rfl rfl rfl rfl (by kernel_rfl) Tryd.func6 (by kernel_rfl)
    (of_decide_eq_true (by kernel_rfl)) (by unfold Func.isWrapper; first | (rw [if_pos (by decide +kernel)]; kernel_rfl) | (rw [if_neg (by decide +kernel)]; exact ⟨rfl, rfl⟩))
    (fun os started H enc _ => lifted os started H enc)
end Go.Proofs.YtbhblnpehhaiiaaDoor.fnExactFits
namespace Go.Proofs.YtbhblnpehhaiiaaDoor
theorem fnExactFits_holds : Rows.FnExactFitsCardSaid :=
  Claim7.holds_tied_plain_at .later [] [.data, .data, .data, .pinned] true (true, "7094c35af8dd6b33101f2fb2c852da42fc2113c833e4f78dfce5dec24753f923") false
    fnExactFits.over (fun _ h => by cases h) (by kernel_rfl) (fun _ h => by cases h) fnExactFits_row_tie rfl ⟨rfl, rfl⟩ (by kernel_rfl) rfl
    (fun f fn hf hfn => by
      obtain rfl : f = 6 := Option.some.inj ((show Tryd.prog.funcNamed "loop.example/g00561/laws.FnExactFits" = some 6 by kernel_rfl).symm.trans hf) |>.symm
      obtain rfl : fn = Tryd.f6 := (Option.some.inj (Tryd.func6.symm.trans hfn)).symm
      exact ⟨by kernel_rfl, fun j t ht => by
        rw [Tryd.params6] at ht
        have hm : t ∈ [43, 46] := by simpa using Array.mem_of_getElem? ht
        have hall : ([43, 46].all fun u => !Tryd.prog.wantsStandIn u) = true := by kernel_rfl
        exact (show Tryd.prog.wantsStandIn t = false by simpa using List.all_eq_true.1 hall t hm)⟩)
    (by kernel_rfl)
#print axioms fnExactFits_holds
end Go.Proofs.YtbhblnpehhaiiaaDoor
