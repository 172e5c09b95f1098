/- FnSeal answers true at all bytes: whatever text is drawn of them, it is got back of its seal, and of a seal with one byte turned the fault in the sum is told; a CRC goes on from text to text. The card ties the one package-level variable that errors.As reads to the program's text; over a pruned copy of the project, as the seat says. -/
import Derived.Test.YtcgaeblegiabjaaDoorSealRow
import Derived.Test.YtcgaeblegiabjaaDoorDoorLaid
import Derived.Test.YtcgaeblegiabjaaDoorTie
import Derived.Test.YtcgaeblegiabjaaDoorCards
import Derived.ShutString
import Derived.ChangeOld
import Derived.Below
import Derived.SevenTiedAt
namespace Go.Proofs.YtcgaeblegiabjaaDoor.fnSeal
open Go.ChangeShapes Go.WideShapes Go.ChangeAt Go.RowKit
open Go.ChangeMaps (open_string shut_string)
set_option linter.unusedVariables false

set_option maxRecDepth 1000000 in
set_option maxHeartbeats 4000000 in
theorem walk (a0 : Option Addr) (len0 cap0 : Nat) (z0 : List Int) (a1 : Option Addr) (len1 cap1 : Nat) (z1 : List Int) (w : World) (w0 : DrawW.IsRow .u8 w a0 len0 cap0 z0) (w1 : DrawW.IsRow .u8 w a1 len1 cap1 z1) (hg : GetNumW.Laid w) :
    Calls Tryd.prog 4 #[.slice a0 len0 cap0, .slice a1 len1 cap1] w fun e w' => e = .returned (.bool true) ∧ Below w.heap.size w w' := by
  have hm0 := w0.len
  have hm1 := w1.len
  unfold maxLen at hm0 hm1
  have hlt := hg.lt
  have HG : Hid (GetNumW.Laid w) := hg
  have HW0 : Hid (DrawW.IsRow .u8 w a0 len0 cap0 z0) := w0
  have HW1 : Hid (DrawW.IsRow .u8 w a1 len1 cap1 z1) := w1
  clear hg w0 w1
  by_cases hb0 : 1048576 < len0
  · go_enter Tryd.func4, Tryd.ntmps4
    go_wp2
    go_ret
    exact ⟨rfl, Below.refl _ _⟩
  by_cases hb1 : 1048576 < len1
  · go_enter Tryd.func4, Tryd.ntmps4
    go_wp2
    go_ret
    exact ⟨rfl, Below.refl _ _⟩
  go_enter Tryd.func4, Tryd.ntmps4
  go_wp2_with fail
  refine (DrawW.drawSeal_any w a0 len0 cap0 (HW0.out.code (by omega) (Below.refl _ _))).mono ?_
  rintro e wa ⟨l, rfl, hl, hBa⟩
  have HBa : Hid (Below w.heap.size w wa) := hBa
  clear hBa
  have hlu : (⟨l.toArray⟩ : ByteArray).size ≤ 20 ∨ (19995 ≤ (⟨l.toArray⟩ : ByteArray).size ∧ (⟨l.toArray⟩ : ByteArray).size ≤ 30000) := hl
  generalize (⟨l.toArray⟩ : ByteArray) = U at *
  clear hl
  rcases hlu with hsm | ⟨hbig, hbm⟩
  · go_wp2_with fail
    refine (SealW.impl_yes U _ (by omega)).mono ?_
    rintro e wb ⟨rfl, hBb⟩
    have HBb : Hid (Below w.heap.size w wb) := HBa.out.trans (hBb.mono HBa.out.size)
    clear hBb
    have HX : Hid (∃ P : ByteArray, (⟨(SealW.sealL U).toArray⟩ : ByteArray) = P ∧ P.data.toList = SealW.sealL U) := ⟨_, rfl, rfl⟩
    obtain ⟨P, hP, hPD⟩ := HX.out
    rw [hP]
    have HPE : Hid ((⟨(SealW.sealL U).toArray⟩ : ByteArray) = P) := hP
    have HPD : Hid (P.data.toList = SealW.sealL U) := hPD
    have hPs : P.size = U.size + 4 := by rw [← NumsF.size_data P, hPD]; unfold SealW.sealL; rw [List.length_append]; rfl
    clear HX hP hPD
    go_wp2_with fail
    refine (SealW.spec_yes U _ (by omega)).mono ?_
    rintro e wc ⟨rfl, hBc⟩
    have HBc : Hid (Below w.heap.size w wc) := HBb.out.trans (hBc.mono HBb.out.size)
    clear hBc
    rw [HPE.out]
    have hpe : P.toList.isEmpty = false := by
      rw [ByteArray.toList_eq]
      cases h0 : P.data.toList with
      | nil => have := NumsF.size_data P; rw [h0] at this; simp at this; omega
      | cons c r => rfl
    obtain ⟨capb, wd, hcv, hrow, hBd⟩ := SealR.bytes_of wc P
    have HR : Hid (SealR.Row wd wc.heap.size P.data.toList) := hrow
    have HBd : Hid (Below w.heap.size w wd) := HBc.out.trans (hBd.mono HBc.out.size)
    clear hBd hrow
    have HCD : Hid (DrawW.CodeAt wd wd.heap.size a1 len1) := HW1.out.code (by omega) HBd.out
    go_wp2_with fail
    refine (DrawW.at_any _ _ a1 len1 cap1 0 ((U.size : Int) + 4) HCD.out (by omega) (by omega) (by omega)).mono ?_
    rintro e wx ⟨k, rfl, hk, rfl⟩
    have hkP : k < P.data.toList.length := by rw [NumsF.size_data]; omega
    have hk4 : k < U.size + 4 := by omega
    have hck := (HR.out.2 k hkP).1
    have hfk := (HR.out.2 k hkP).2
    have HZ : Hid (∃ z : UInt8, P.data.toList[k] = z) := ⟨_, rfl⟩
    obtain ⟨z, hz⟩ := HZ.out
    have HZE : Hid (P.data.toList[k] = z) := hz
    rw [hz] at hck
    clear hz HZ hk
    have hz256 := z.toNat_lt
    go_wp2_with fail
    have hat : ∀ W : World, W.heap = wd.heap → Calls Tryd.prog 19 #[.slice a1 len1 cap1, .int .i64 1, .int .i64 255] W fun e w' => ∃ r : Nat, e = .returned (.int .i64 r) ∧ (r : Int) < 255 ∧ W = w' := fun W hW =>
      DrawW.at_any W wd.heap.size a1 len1 cap1 1 255 (HCD.out.kept (fun k _ => by rw [hW])) (by omega) (by omega) (by omega)
    go_region_with (go_at_call 19; refine (hat wd.drew rfl).mono ?_; rintro e wy ⟨r, rfl, hr, rfl⟩)
    all_goals
      obtain ⟨c, hxc, hzc⟩ := SealR.turn_byte z r (by omega)
      have hwa : IntKind.i64.wrap (1 + (r : Int)) = 1 + (r : Int) := by rw [IntKind.wrap_i64]; omega
      have hwb : IntKind.u8.wrap (1 + (r : Int)) = 1 + (r : Int) := by simp [IntKind.wrap, IntKind.bits, IntKind.signed]; omega
      try rw [hwa, hwb]
      rw [hxc]
      have HNE : Hid (z ≠ c) := hzc
      have HRs : Hid (SealR.Row (wd.setCell ⟨wc.heap.size, k, none⟩ (.int .u8 (c.toNat : Int))).drew wc.heap.size (P.data.toList.set k c)) := HR.out.set k c
      have HBe : Hid (Below w.heap.size w (wd.setCell ⟨wc.heap.size, k, none⟩ (.int .u8 (c.toNat : Int))).drew) := (HBd.out.setCell HBc.out.size _).drew
      clear hck hfk hxc hzc hwa hwb hat
      generalize (wd.setCell ⟨wc.heap.size, k, none⟩ (.int .u8 (c.toNat : Int))).drew = we at *
      go_wp2_with fail
      refine (SealR.unseal_at P U 0 0 _ (by omega) (HG.out.below HBe.out hlt) (SealT.open_seal P U HPD.out (by omega))).mono ?_
      rintro e wf ⟨rfl, hBf⟩
      have HBf : Hid (Below w.heap.size w wf) := HBe.out.trans (hBf.mono HBe.out.size)
      have HRf : Hid (SealR.Row wf wc.heap.size (P.data.toList.set k c)) := HRs.out.kept hBf
      clear hBf
      have hcw := HRf.out.conv (n := U.size + 4) (cap := capb) (by rw [List.length_set, NumsF.size_data, hPs])
      obtain ⟨Bt, hBt⟩ : ∃ Bt : ByteArray, Bt = ⟨(P.data.toList.set k c).toArray⟩ := ⟨_, rfl⟩
      rw [← hBt] at hcw
      have HBt : Hid (Bt.data.toList = P.data.toList.set k c) := (show Bt.data.toList = P.data.toList.set k c by rw [hBt])
      have hBs : Bt.size = U.size + 4 := by rw [← NumsF.size_data Bt, HBt.out, List.length_set, NumsF.size_data, hPs]
      clear hBt
      have hfld := NumsF.text_code
      go_wp2_with fail
      refine (SealR.unseal_at Bt ⟨#[]⟩ 0 5 _ (by omega) (HG.out.below HBf.out hlt) (SealR.open_at P Bt U k c z HPD.out hkP HZE.out HNE.out HBt.out (by omega))).mono ?_
      rintro e wg ⟨rfl, hBg⟩
      have HBg : Hid (Below w.heap.size w wg) := HBf.out.trans (hBg.mono HBf.out.size)
      clear hBg
      go_wp2_with fail
      refine (DrawW.drawCrcMore_any _ a1 len1 cap1 (HW1.out.code (by omega) HBg.out)).mono ?_
      rintro e wh ⟨v, lu, rfl, hl, hv1, hv2, hBh⟩
      clear hfld hcw
      have HBh : Hid (Below w.heap.size w wh) := HBg.out.trans (hBh.mono HBg.out.size)
      clear hBh
      have hlv : (⟨lu.toArray⟩ : ByteArray).size ≤ 9 := hl
      generalize (⟨lu.toArray⟩ : ByteArray) = V at *
      clear hl
      obtain ⟨q, hq1, hq2⟩ := SealR.more_any v V (by omega)
      have HQ1 : Hid (∀ w : World, Calls Tryd.prog 22 #[.int .i64 v, .string V] w fun e w' => e = .returned (.int .i64 q) ∧ w = w') := hq1
      have HQ2 : Hid (∀ w : World, Calls Tryd.prog 23 #[.int .i64 v, .string V] w fun e w' => e = .returned (.int .i64 q) ∧ w = w') := hq2
      clear hq1 hq2
      go_wp2_with fail
      refine (HQ1.out _).mono ?_
      rintro e wx ⟨rfl, rfl⟩
      go_wp2_with fail
      refine (HQ2.out _).mono ?_
      rintro e wx ⟨rfl, rfl⟩
      have hcu := CrcM.crcC_lt 0 U.data.toList
      have HCC : Hid (CrcM.crcC 0 (U ++ V).data.toList = CrcM.crcC (CrcM.crcC 0 U.data.toList) V.data.toList) := SealR.crc_cat U V
      go_wp2_with fail
      refine (CrcW.impl_Crc U _ (by omega)).mono ?_
      rintro e wx ⟨rfl, rfl⟩
      go_wp2_with fail
      refine (CrcW.impl_CrcMore (CrcM.crcC 0 U.data.toList) V _ hcu (by omega)).mono ?_
      rintro e wx ⟨rfl, rfl⟩
      have hcz : (U ++ V).size ≤ 8000 := by have : (U ++ V).size = U.size + V.size := ByteArray.size_append; omega
      go_wp2_with fail
      refine (CrcW.impl_Crc (U ++ V) _ hcz).mono ?_
      rintro e wx ⟨rfl, rfl⟩
      rw [HCC.out]
      go_wp2
      go_ret
      exact ⟨rfl, HBh.out⟩
  · have hbm2 : U.size ≤ maxLen := by unfold maxLen; omega
    go_wp2_with fail
    refine (SealW.impl_no U _ hbm2 (by omega)).mono ?_
    rintro e wx ⟨rfl, rfl⟩
    go_wp2_with fail
    refine (SealW.spec_no U _ hbm2 (by omega)).mono ?_
    rintro e wx ⟨rfl, rfl⟩
    go_wp2_with fail
    refine (DrawW.drawCrcMore_any _ a1 len1 cap1 (HW1.out.code (by omega) HBa.out)).mono ?_
    rintro e wf ⟨v, lu, rfl, hl, hv1, hv2, hBf⟩
    have HBf : Hid (Below w.heap.size w wf) := HBa.out.trans (hBf.mono HBa.out.size)
    clear hBf
    have hlv : (⟨lu.toArray⟩ : ByteArray).size ≤ 9 := hl
    generalize (⟨lu.toArray⟩ : ByteArray) = V at *
    clear hl
    go_wp2
    go_ret
    exact ⟨rfl, HBf.out⟩

set_option maxRecDepth 100000 in
theorem lifted (os : Os) (started : os.Started) (H : Type) (enc : TypeId × Value → H) :
    ReturnsInHanded {} Tryd.checked os 4 .any (fun w args => (Rows.fnSealSpec.pre enc Tryd.prog Tryd.f4 [] false w args ∧ laidMetH Tryd.prog DoorL.lst w) ∧ sizedMet enc Tryd.prog Tryd.f4 (OpenSpec.ofChange Rows.fnSealSpec) false w args)
      (Rows.fnSealSpec.post enc Tryd.prog Tryd.f4 false true false false) := by
  refine returnsInHanded_of_change_and (C := Tryd.checked) (X := fun w _ => laidMetH Tryd.prog DoorL.lst w) (fun _ _ _ hh h => h.of_heap hh) DoorL.own started (by kernel_rfl) Tryd.func4
    (ChangeSpec.witness_shaped (enc := enc) (C := Tryd.checked) (os := os) (X := fun w _ => laidMetH Tryd.prog DoorL.lst w) false (World.doorLaid Tryd.prog 400 os) #[.slice none 0 0, .slice none 0 0] 8 rfl (World.shaped_of_RefB (by kernel_rfl) (by kernel_rfl)) (by kernel_rfl) (by kernel_rfl) (by kernel_rfl) (DoorL.door_met os _)) ?_
  intro W base args ds gs before hval0 hW _ _ hL _
  have hval : ∀ (j : Nat) t v, Tryd.f4.params[j]? = some t → args[j]? = some v → Value.okWide Tryd.prog W .any base t v := hval0
  have hW' := hW
  obtain ⟨p, q, hA0, hV, rfl, hfz, hnd⟩ := hW
  have hA : DataW.TrodAll enc Tryd.prog W 0 (fun _ => true) true Tryd.f4.params.toList args.toList ds p := hA0
  rw [Tryd.params4] at hA hval
  obtain ⟨v0, vs0, d0, ds0, p0, q0, hargs, rfl, rfl, h0, r0⟩ := trodAll_cons hA
  obtain ⟨v1, vs1, d1, ds1, p1, q1, rfl, rfl, rfl, h1, r1⟩ := trodAll_cons r0
  obtain ⟨rfl, rfl, rfl⟩ := trodAll_nil r1
  obtain rfl : args = #[v0, v1] := by cases args; simp_all
  obtain ⟨rfl, rfl⟩ := trodVars_none hV
  obtain ⟨a0, len0, cap0, rfl⟩ := okWide_slice Tryd.underlying22 (hval 0 22 v0 rfl rfl)
  have k0 := h0
  have lt0 : ∀ x ∈ p0, x.block < W.heap.size := by obtain ⟨m, hm⟩ := k0; exact DataW.trod_lt m _ _ _ hm
  obtain ⟨z0, w0⟩ : ∃ zs, DrawW.IsRow .u8 W a0 len0 cap0 zs := by
    obtain ⟨fuel, hf⟩ := h0
    rcases open_ints Tryd.underlying22 Tryd.underlying5 (by kernel_rfl) hf with ⟨hcs, _⟩ | ⟨x, l, c, zs, hcs, _, hl, hm, hz, _, hcell, hwz⟩
    · simp [Value.cells] at hcs
      obtain ⟨rfl, rfl, rfl⟩ := hcs
      exact ⟨[], .inl ⟨rfl, rfl, rfl, rfl⟩⟩
    · simp [Value.cells] at hcs
      obtain ⟨rfl, rfl, rfl⟩ := hcs
      exact ⟨zs, .inr ⟨_, rfl, hl, hm, by simpa using hz, hcell, hwz⟩⟩
  obtain ⟨a1, len1, cap1, rfl⟩ := okWide_slice Tryd.underlying22 (hval 1 22 v1 rfl rfl)
  have k1 := h1
  have lt1 : ∀ x ∈ p1, x.block < W.heap.size := by obtain ⟨m, hm⟩ := k1; exact DataW.trod_lt m _ _ _ hm
  obtain ⟨z1, w1⟩ : ∃ zs, DrawW.IsRow .u8 W a1 len1 cap1 zs := by
    obtain ⟨fuel, hf⟩ := h1
    rcases open_ints Tryd.underlying22 Tryd.underlying5 (by kernel_rfl) hf with ⟨hcs, _⟩ | ⟨x, l, c, zs, hcs, _, hl, hm, hz, _, hcell, hwz⟩
    · simp [Value.cells] at hcs
      obtain ⟨rfl, rfl, rfl⟩ := hcs
      exact ⟨[], .inl ⟨rfl, rfl, rfl, rfl⟩⟩
    · simp [Value.cells] at hcs
      obtain ⟨rfl, rfl, rfl⟩ := hcs
      exact ⟨zs, .inr ⟨_, rfl, hl, hm, by simpa using hz, hcell, hwz⟩⟩
  clear hA0 hval0
  refine (walk a0 len0 cap0 z0 a1 len1 cap1 z1 W w0 w1 (DoorL.of_laid hL)).mono fun e W' ⟨he, bel⟩ => ?_
  subst he
  exact ⟨_, rfl, _, _, _, [], _, [], hW', trodAll_mk1 (shut_bool Tryd.underlying4 _), (trodAll_cons_mk (Below.trod DoorL.laidOut (by kernel_rfl) (of_decide_eq_true (by kernel_rfl)) k0 bel lt0) (trodAll_cons_mk (Below.trod DoorL.laidOut (by kernel_rfl) (of_decide_eq_true (by kernel_rfl)) k1 bel lt1) trodAll_mk0)), rfl, bel.frame _, fun h => by cases h⟩

theorem over : Rows.FnSealSaid :=
  OpenClaim.holds_of_wide 4 Tryd.f4 rfl rfl rfl rfl rfl rfl rfl ⟨rfl, rfl, rfl, rfl, rfl⟩ rfl rfl rfl rfl rfl (by kernel_rfl) Tryd.func4 (by kernel_rfl)
    (of_decide_eq_true (by kernel_rfl)) (by unfold Func.isWrapper; first | (rw [if_pos (by decide +kernel)]; kernel_rfl) | (rw [if_neg (by decide +kernel)]; exact ⟨rfl, rfl⟩))
    (fun os started H enc _ => lifted os started H enc)
end Go.Proofs.YtcgaeblegiabjaaDoor.fnSeal
namespace Go.Proofs.YtcgaeblegiabjaaDoor
theorem fnSeal_holds : Rows.FnSealCardSaid :=
  Claim7.holds_tied_plain_at .later [] [.handle] true (true, "cd6a7aab6fdcd82736c62bc6c2d02d46529d440c57e7adcb789868813442b437") true
    fnSeal.over (fun _ h => by cases h) (by kernel_rfl) (fun _ h => by cases h) fnSeal_row_tie rfl ⟨rfl, rfl⟩ (by kernel_rfl) rfl
    (fun f fn hf hfn => by
      obtain rfl : f = 4 := Option.some.inj ((show Tryd.prog.funcNamed "loop.example/g00561/laws.FnSeal" = some 4 by kernel_rfl).symm.trans hf) |>.symm
      obtain rfl : fn = Tryd.f4 := (Option.some.inj (Tryd.func4.symm.trans hfn)).symm
      exact ⟨by kernel_rfl, fun j t ht => by
        rw [Tryd.params4] at ht
        have hm : t ∈ [22, 22] := by simpa using Array.mem_of_getElem? ht
        have hall : ([22, 22].all fun u => !Tryd.prog.wantsStandIn u) = true := by kernel_rfl
        exact (show Tryd.prog.wantsStandIn t = false by simpa using List.all_eq_true.1 hall t hm)⟩)
    (by kernel_rfl)
#print axioms fnSeal_holds
end Go.Proofs.YtcgaeblegiabjaaDoor
