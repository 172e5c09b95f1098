/- FnExactHardBroken answers true at every list of items and every list of answers: the program and the model tell the same of whether a hard check is broken on the way; nothing that came in is changed, and nothing of it is kept. No condition of ours beyond the row itself; the row lists the program's tables and its five errors as the program's text lays them, and the card ties them. -/
import Derived.Test.YtmbhmknfipdadaaGreatDoorBd51
import Derived.Test.YtmbhmknfipdadaaGreatDoorBd19
import Derived.Test.YtmbhmknfipdadaaGreatDoorBd22
import Derived.Test.YtmbhmknfipdadaaGreatDoorBd36
import Derived.Test.YtmbhmknfipdadaaGreatDoorTie
import Derived.Test.YtmbhmknfipdadaaGreatDoorCards
import Derived.OpenVars
import Derived.ShutString
import Derived.ChangeOld
import Derived.Below
import Derived.SevenTiedAt
import Derived.Test.YtmbhmknfipdadaaGreatDoorBd13
import Derived.Lay
import Derived.LaidLaws
import Derived.MakeChecks
import Derived.LaidHandle
namespace Go.Proofs.YtmbhmknfipdadaaGreatDoor.DoorL
open Go.ChangeShapes Go.WideShapes Go.ChangeAt Go.RowKit

theorem own : ownKnob Tryz.prog.godebug = none := by kernel_rfl
theorem laidOut : laidOutB Tryz.prog = true := by kernel_rfl
def lst : List (String × DataW Unit) := Rows.fnExactHardBrokenRow.laid
def plain : List (String × DataW Unit) := [("unicode/utf8.acceptRanges", Rows.laid_unicode_utf8_acceptRanges), ("loop.example/g00561/impl.shapes", Rows.laid_loop_example_g00561_impl_shapes), ("loop.example/g00561/impl.errItem", Rows.laid_loop_example_g00561_impl_errItem), ("loop.example/g00561/impl.errMany", Rows.laid_loop_example_g00561_impl_errMany),
  ("loop.example/g00561/impl.errTwice", Rows.laid_loop_example_g00561_impl_errTwice), ("loop.example/g00561/impl.errField", Rows.laid_loop_example_g00561_impl_errField), ("loop.example/g00561/impl.errBlock", Rows.laid_loop_example_g00561_impl_errBlock), ("loop.example/g00561/impl.outlines", Rows.laid_loop_example_g00561_impl_outlines), ("unicode/utf8.first", Rows.laid_unicode_utf8_first)]
theorem lst_eq : lst = plain := rfl
theorem shapes : (Rows.laid_loop_example_g00561_impl_shapes : DataW Unit) = .agg ((List.range 14).map PrtO.shapeData) := by kernel_rfl
theorem outs : (Rows.laid_loop_example_g00561_impl_outlines : DataW Unit) = .agg ((List.range 7).map FrmO.outData) := by kernel_rfl
theorem star : "*" ++ "errors.errorString" = "*errors.errorString" := by decide
theorem ptrRow (u : TypeId) (h : Tryz.prog.typeName? 3 u = some "*errors.errorString") : u = 255 :=
  typeName_ptr_named (nm := "errors.errorString") (by rw [star]; kernel_rfl) (by kernel_rfl) (by decide) u (by rw [star]; exact h)

set_option maxRecDepth 100000 in
theorem of_laid {W : World} (h : laidMetH Tryz.prog lst W) (_hs : W.ShapedOpen Tryz.prog) : FrmI.EnvF W := by
  have h0 : laidMet Tryz.prog plain W := by rw [← lst_eq, ← MakeChecks.laidMetH_plain _ _ _ (by kernel_rfl)]; exact h
  have hr := Lib.laidMet.reads h0 (n := "loop.example/g00561/impl.shapes") (d := Rows.laid_loop_example_g00561_impl_shapes) (List.mem_cons_of_mem _ (List.mem_cons_self ..))
  rw [shapes] at hr
  have ho := Lib.laidMet.reads h0.tail.tail.tail.tail.tail.tail.tail (n := "loop.example/g00561/impl.outlines") (d := Rows.laid_loop_example_g00561_impl_outlines) (List.mem_cons_self ..)
  rw [outs] at ho
  refine ⟨⟨PrtO.env_of_reads hr, FrmO.env_of_reads ho⟩, FrmO.errs_of (n := "loop.example/g00561/impl.errMany") (by kernel_rfl) ?_, FrmO.errs_of (n := "loop.example/g00561/impl.errItem") (by kernel_rfl) ?_, FrmO.errs_of (n := "loop.example/g00561/impl.errTwice") (by kernel_rfl) ?_, FrmO.errs_of (n := "loop.example/g00561/impl.errField") (by kernel_rfl) ?_, FrmO.errs_of (n := "loop.example/g00561/impl.errBlock") (by kernel_rfl) ?_⟩
  · obtain ⟨a, s, hv, _⟩ := laid_sentinel (g := 0) h0.tail.tail.tail (by kernel_rfl) (by kernel_rfl) Tryz.underlying111 ptrRow Tryz.underlying255 Tryz.underlying273 rfl rfl Tryz.underlying9 (by kernel_rfl) (by kernel_rfl)
    exact ⟨_, _, hv⟩
  · obtain ⟨a, s, hv, _⟩ := laid_sentinel (g := 1) h0.tail.tail (by kernel_rfl) (by kernel_rfl) Tryz.underlying111 ptrRow Tryz.underlying255 Tryz.underlying273 rfl rfl Tryz.underlying9 (by kernel_rfl) (by kernel_rfl)
    exact ⟨_, _, hv⟩
  · obtain ⟨a, s, hv, _⟩ := laid_sentinel (g := 4) h0.tail.tail.tail.tail (by kernel_rfl) (by kernel_rfl) Tryz.underlying111 ptrRow Tryz.underlying255 Tryz.underlying273 rfl rfl Tryz.underlying9 (by kernel_rfl) (by kernel_rfl)
    exact ⟨_, _, hv⟩
  · obtain ⟨a, s, hv, _⟩ := laid_sentinel (g := 5) h0.tail.tail.tail.tail.tail (by kernel_rfl) (by kernel_rfl) Tryz.underlying111 ptrRow Tryz.underlying255 Tryz.underlying273 rfl rfl Tryz.underlying9 (by kernel_rfl) (by kernel_rfl)
    exact ⟨_, _, hv⟩
  · obtain ⟨a, s, hv, _⟩ := laid_sentinel (g := 6) h0.tail.tail.tail.tail.tail.tail (by kernel_rfl) (by kernel_rfl) Tryz.underlying111 ptrRow Tryz.underlying255 Tryz.underlying273 rfl rfl Tryz.underlying9 (by kernel_rfl) (by kernel_rfl)
    exact ⟨_, _, hv⟩

theorem world_os (os : Os) : (World.laidAll Tryz.prog os lst).os = os := World.laidAll_os _ _ _
set_option maxRecDepth 100000 in
theorem world_shaped (os : Os) (args : Array Value) : ((World.laidAll Tryz.prog os lst).forCall (fun _ _ => 0) ⟨#[], args, []⟩).Shaped Tryz.prog := World.shaped_of_ZipB (by kernel_rfl) (by kernel_rfl)
set_option maxRecDepth 100000 in
theorem met (os : Os) (args : Array Value) : laidMetH Tryz.prog lst ((World.laidAll Tryz.prog os lst).forCall (fun _ _ => 0) ⟨#[], args, []⟩).memory := by
  rw [MakeChecks.laidMetH_plain _ _ _ (by kernel_rfl)]; exact laidMet_laidAll _ (by kernel_rfl) (by kernel_rfl)
end Go.Proofs.YtmbhmknfipdadaaGreatDoor.DoorL

namespace Go.Proofs.YtmbhmknfipdadaaGreatDoor.fnExactHardBroken
open Go.ChangeShapes Go.WideShapes Go.ChangeAt Go.RowKit
open Go.ChangeMaps (open_string shut_string)
set_option linter.unusedVariables false

theorem listN {α : Type} {l : List α} (h : l.length = 7) : ∃ gv0 gv1 gv2 gv3 gv4 gv5 gv6, l = [gv0, gv1, gv2, gv3, gv4, gv5, gv6] := by
  match l, h with
  | [gv0, gv1, gv2, gv3, gv4, gv5, gv6], _ => exact ⟨gv0, gv1, gv2, gv3, gv4, gv5, gv6, rfl⟩
theorem vars_len {H : Type} {enc : TypeId × Value → H} {P : Program} {w : World} {sp : Nat → Bool} : ∀ {ns : List String} {gs : List (DataW H)} {ps : List MemPlace}, DataW.TrodVars enc P w sp ns gs ps → gs.length = ns.length
  | [], [], _, _ => rfl
  | [], _ :: _, _, h => h.elim
  | _ :: _, [], _, h => h.elim
  | n :: ns, d :: ds, ps, h => by
    obtain ⟨g, t, cs, fuel, p, q, h1, h2, h3, h4, hs, e⟩ := h
    simp [vars_len hs]

theorem walk (a0 : Option Addr) (cap0 : Nat) (z0 : List ItmW.It) (a1 : Option Addr) (cap1 : Nat) (z1 : List AnsW.An) (w : World) (w0 : ItmW.RawI w a0 z0) (w1 : AnsW.Raw w a1 z1) (hE : FrmI.EnvF w) :
    Calls Tryz.prog 6 #[.slice a0 z0.length cap0, .slice a1 z1.length cap1] w fun e w' => e = .returned (.bool true) ∧ Below w.heap.size w w' := by
  exact RteY.law_hb a0 cap0 z0 a1 cap1 z1 w w0 w1 hE

set_option maxRecDepth 100000 in
theorem lifted (os : Os) (started : os.Started) (H : Type) (enc : TypeId × Value → H) :
    ReturnsInHanded {} Tryz.checked os 6 .any (fun w args => (Rows.fnExactHardBrokenSpec.pre enc Tryz.prog Tryz.f6 [] false w args ∧ laidMetH Tryz.prog DoorL.lst w) ∧ sizedMet enc Tryz.prog Tryz.f6 (OpenSpec.ofChange Rows.fnExactHardBrokenSpec) false w args)
      (Rows.fnExactHardBrokenSpec.post enc Tryz.prog Tryz.f6 false true false false) := by
  refine DoorL.wrap (C := Tryz.checked) (X := fun w _ => laidMetH Tryz.prog DoorL.lst w) (fun _ _ _ hh h => h.of_heap hh) DoorL.own started (by kernel_rfl) Tryz.func6
    (ChangeSpec.witness_shaped (enc := enc) (C := Tryz.checked) (os := os) (X := fun w _ => laidMetH Tryz.prog DoorL.lst w) false (World.laidAll Tryz.prog os DoorL.lst) #[.slice none 0 0, .slice none 0 0] 8 (DoorL.world_os os) (DoorL.world_shaped os _) (by kernel_rfl) (by kernel_rfl) (by kernel_rfl) (DoorL.met os _)) ?_
  intro W base args ds gs before hval0 hW _ _ hL hsh _
  have hval : ∀ (j : Nat) t v, Tryz.f6.params[j]? = some t → args[j]? = some v → Value.okWide Tryz.prog W .any base t v := hval0
  have hW' := hW
  obtain ⟨p, q, hA0, hV, rfl, hfz, hnd⟩ := hW
  have hA : DataW.TrodAll enc Tryz.prog W 0 (fun _ => true) true Tryz.f6.params.toList args.toList ds p := hA0
  rw [Tryz.params6] at hA hval
  obtain ⟨v0, vs0, d0, ds0, p0, q0, hargs, rfl, rfl, h0, r0⟩ := trodAll_cons hA
  obtain ⟨v1, vs1, d1, ds1, p1, q1, rfl, rfl, rfl, h1, r1⟩ := trodAll_cons r0
  obtain ⟨rfl, rfl, rfl⟩ := trodAll_nil r1
  obtain rfl : args = #[v0, v1] := by cases args; simp_all
  have hV1 : DataW.TrodVars enc Tryz.prog W (fun _ => true) ["loop.example/g00561/impl.errMany", "loop.example/g00561/impl.errItem", "loop.example/g00561/impl.outlines", "loop.example/g00561/impl.shapes", "loop.example/g00561/impl.errTwice", "loop.example/g00561/impl.errField", "loop.example/g00561/impl.errBlock"] gs q := hV
  obtain ⟨gv0, gv1, gv2, gv3, gv4, gv5, gv6, rfl⟩ := listN (vars_len hV1)
  obtain ⟨a0, len0, cap0, rfl⟩ := okWide_slice Tryz.underlying22 (hval 0 22 v0 rfl rfl)
  have K0 := h0
  have lt0 : ∀ x ∈ p0, x.block < W.heap.size := by obtain ⟨m, hm⟩ := K0; exact DataW.trod_lt m _ _ _ hm
  obtain ⟨z0, rfl, w0, _⟩ : ∃ ls : List ItmW.It, ls.length = len0 ∧ ItmW.RawI W a0 ls ∧ len0 ≤ cap0 := by obtain ⟨m, hm⟩ := h0; exact ItmO.items_open (by simpa [Value.cells] using hm)
  obtain ⟨a1, len1, cap1, rfl⟩ := okWide_slice Tryz.underlying23 (hval 1 23 v1 rfl rfl)
  have K1 := h1
  have lt1 : ∀ x ∈ p1, x.block < W.heap.size := by obtain ⟨m, hm⟩ := K1; exact DataW.trod_lt m _ _ _ hm
  obtain ⟨z1, rfl, w1, _⟩ : ∃ ls : List AnsW.An, ls.length = len1 ∧ AnsW.Raw W a1 ls ∧ len1 ≤ cap1 := by obtain ⟨m, hm⟩ := h1; exact AnsO.ans_open (by simpa [Value.cells] using hm)
  clear hA0 hval0
  refine (walk a0 cap0 z0 a1 cap1 z1 W w0 w1 (DoorL.of_laid hL hsh)).mono fun e W' ⟨he, bel⟩ => ?_
  subst he
  have hv2 := Below.trodVars DoorL.laidOut bel (ns := ["loop.example/g00561/impl.errMany", "loop.example/g00561/impl.errItem", "loop.example/g00561/impl.outlines", "loop.example/g00561/impl.shapes", "loop.example/g00561/impl.errTwice", "loop.example/g00561/impl.errField", "loop.example/g00561/impl.errBlock"]) (by kernel_rfl) hV1
  exact ⟨_, rfl, _, _, _, [], _, _, hW', trodAll_mk1 (shut_bool Tryz.underlying4 _), (trodAll_cons_mk (Below.trod DoorL.laidOut (by kernel_rfl) (of_decide_eq_true (by kernel_rfl)) K0 bel lt0) (trodAll_cons_mk (Below.trod DoorL.laidOut (by kernel_rfl) (of_decide_eq_true (by kernel_rfl)) K1 bel lt1) trodAll_mk0)), hv2, bel.frame _, fun h => by cases h⟩

theorem over : Rows.FnExactHardBrokenSaid :=
  OpenClaim.holds_of_wide 6 Tryz.f6 rfl rfl rfl rfl rfl rfl rfl ⟨rfl, rfl, rfl, rfl, rfl⟩ rfl rfl rfl rfl rfl (by kernel_rfl) Tryz.func6 (by kernel_rfl)
    (of_decide_eq_true (by kernel_rfl)) (by unfold Func.isWrapper; first | (rw [if_pos (by decide +kernel)]; kernel_rfl) | (rw [if_neg (by decide +kernel)]; exact ⟨rfl, rfl⟩))
    (fun os started H enc _ => lifted os started H enc)
end Go.Proofs.YtmbhmknfipdadaaGreatDoor.fnExactHardBroken
namespace Go.Proofs.YtmbhmknfipdadaaGreatDoor
theorem fnExactHardBroken_holds : Rows.FnExactHardBrokenCardSaid :=
  Claim7.holds_tied_plain_at .later [] [.data, .data, .sentinel, .sentinel, .sentinel, .sentinel, .sentinel, .data, .pinned] true (true, "fbb5d6b569bf1c17af316f81720a19877a5db38c8b1bceb853cddb6c1c2a83ff") true
    fnExactHardBroken.over (fun _ h => by cases h) (by kernel_rfl) (fun _ h => by cases h) fnExactHardBroken_row_tie rfl ⟨rfl, rfl⟩ (by kernel_rfl) rfl
    (fun f fn hf hfn => by
      obtain rfl : f = 6 := Option.some.inj ((show Tryz.prog.funcNamed "loop.example/g00561/laws.FnExactHardBroken" = some 6 by kernel_rfl).symm.trans hf) |>.symm
      obtain rfl : fn = Tryz.f6 := (Option.some.inj (Tryz.func6.symm.trans hfn)).symm
      exact ⟨by kernel_rfl, fun j t ht => by
        rw [Tryz.params6] at ht
        have hm : t ∈ [22, 23] := by simpa using Array.mem_of_getElem? ht
        have hall : ([22, 23].all fun u => !Tryz.prog.wantsStandIn u) = true := by kernel_rfl
        exact (show Tryz.prog.wantsStandIn t = false by simpa using List.all_eq_true.1 hall t hm)⟩)
    (by kernel_rfl)
#print axioms fnExactHardBroken_holds
end Go.Proofs.YtmbhmknfipdadaaGreatDoor
