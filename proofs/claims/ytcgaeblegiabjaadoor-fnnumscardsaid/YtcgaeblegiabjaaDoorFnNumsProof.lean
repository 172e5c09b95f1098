/- FnNums answers true at all bytes: whatever number and text is drawn of them, it is got back from its bytes, with the place behind it, and of bytes that end too early nothing is got. The card ties the one package-level variable that errors.As reads to the program's text; over a pruned copy of the project, as the seat says. -/
import Derived.Test.YtcgaeblegiabjaaDoorNumsFacts
import Derived.Test.YtcgaeblegiabjaaDoorDoorLaid
import Derived.Test.YtcgaeblegiabjaaDoorTie
import Derived.Test.YtcgaeblegiabjaaDoorCards
import Derived.ShutString
import Derived.ChangeOld
import Derived.Below
import Derived.SevenTiedAt
namespace Go.Proofs.YtcgaeblegiabjaaDoor.fnNums
open Go.ChangeShapes Go.WideShapes Go.ChangeAt Go.RowKit
open Go.ChangeMaps (open_string shut_string)
set_option linter.unusedVariables false

set_option maxRecDepth 1000000 in
set_option maxHeartbeats 4000000 in
theorem walk (a0 : Option Addr) (len0 cap0 : Nat) (z0 : List Int) (a1 : Option Addr) (len1 cap1 : Nat) (z1 : List Int) (w : World) (w0 : DrawW.IsRow .u8 w a0 len0 cap0 z0) (w1 : DrawW.IsRow .u8 w a1 len1 cap1 z1) (hg : GetNumW.Laid w) :
    Calls Tryd.prog 3 #[.slice a0 len0 cap0, .slice a1 len1 cap1] w fun e w' => e = .returned (.bool true) ∧ Below w.heap.size w w' := by
  have hm0 := w0.len
  have hm1 := w1.len
  unfold maxLen at hm0 hm1
  have hlt := hg.lt
  have HG : Hid (GetNumW.Laid w) := hg
  have HW0 : Hid (DrawW.IsRow .u8 w a0 len0 cap0 z0) := w0
  have HW1 : Hid (DrawW.IsRow .u8 w a1 len1 cap1 z1) := w1
  clear hg w0 w1
  by_cases hb0 : 1048576 < len0
  · go_enter Tryd.func3, Tryd.ntmps3
    go_wp2
    go_ret
    exact ⟨rfl, Below.refl _ _⟩
  by_cases hb1 : 1048576 < len1
  · go_enter Tryd.func3, Tryd.ntmps3
    go_wp2
    go_ret
    exact ⟨rfl, Below.refl _ _⟩
  go_enter Tryd.func3, Tryd.ntmps3
  go_wp2_with fail
  refine (DrawW.drawPutNum_any w a0 len0 cap0 (HW0.out.code (by omega) (Below.refl _ _))).mono ?_
  rintro e wa ⟨n, rfl, hn1, hn2, hBa⟩
  have HBa : Hid (Below w.heap.size w wa) := hBa
  clear hBa
  go_wp2_with fail
  refine (NumW.impl_put n _ hn1 hn2).mono ?_
  rintro e wb ⟨rfl, hBb⟩
  have HBb : Hid (Below w.heap.size w wb) := HBa.out.trans (hBb.mono HBa.out.size)
  clear hBb
  go_wp2_with fail
  refine (NumW.spec_put n _ hn1 hn2).mono ?_
  rintro e wc ⟨rfl, hBc⟩
  have HBc : Hid (Below w.heap.size w wc) := HBb.out.trans (hBc.mono HBb.out.size)
  clear hBc
  have hl1 := NumM.putL_length n
  have hl0 := BackM.putL_pos n
  go_wp2_with fail
  refine (NumsF.num_at _ 2 _ _ _ _ (by rw [NumsF.mid_size]; omega) (HG.out.below HBc.out hlt) (NumsF.mid_read n hn1 hn2)).mono ?_
  rintro e wd ⟨rfl, hBd⟩
  have HBd : Hid (Below w.heap.size w wd) := HBc.out.trans (hBd.mono HBc.out.size)
  clear hBd
  go_wp2_with fail
  refine (NumsF.num_at _ 0 _ _ _ _ (by have := GetTextW.ext_len (⟨(NumM.putL n).toArray⟩ : ByteArray) 0 ((NumM.putL n).length - 1); have e : (⟨(NumM.putL n).toArray⟩ : ByteArray).size = (NumM.putL n).length := rfl; omega) (HG.out.below (HBd.out.alloc HBd.out.size _) hlt) (NumsF.cut_read n hn1 hn2 _ rfl)).mono ?_
  rintro e we ⟨rfl, hBe⟩
  have HBe : Hid (Below w.heap.size w we) := (HBd.out.alloc HBd.out.size _).trans (hBe.mono (by have := HBd.out.size; simp; omega))
  clear hBe
  have hfld := NumsF.num_code
  go_wp2_with fail
  refine (DrawW.drawPutText_any we a1 len1 cap1 (HW1.out.code (by omega) HBe.out)).mono ?_
  rintro e wf ⟨l, rfl, hl, hBf⟩
  clear hfld
  have HBf : Hid (Below w.heap.size w wf) := HBe.out.trans (hBf.mono HBe.out.size)
  clear hBf
  have hlu : (⟨l.toArray⟩ : ByteArray).size ≤ 30000 := by rw [TextW.size_of]; exact hl
  generalize (⟨l.toArray⟩ : ByteArray) = U at *
  clear hl
  by_cases hbig : 8000 < U.size
  · have hbm : U.size ≤ maxLen := by unfold maxLen; omega
    go_wp2_with fail
    refine (TextW.impl_no _ _ hbm hbig).mono ?_
    rintro e wx ⟨rfl, rfl⟩
    go_wp2_with fail
    refine (TextW.spec_no _ _ hbm hbig).mono ?_
    rintro e wx ⟨rfl, rfl⟩
    go_wp2_with fail
    refine (TextW.spec_no _ _ hbm hbig).mono ?_
    rintro e wx ⟨rfl, rfl⟩
    go_wp2
    go_ret
    exact ⟨rfl, HBf.out⟩
  · have hsm : U.size ≤ 8000 := by omega
    have HP : Hid ((⟨(TextW.textL U).toArray⟩ : ByteArray).data.toList = NumM.putL U.size ++ U.data.toList) := NumsF.textL_data U
    go_wp2_with fail
    refine (TextW.impl_yes _ _ hsm).mono ?_
    rintro e wg ⟨rfl, hBg⟩
    have HBg : Hid (Below w.heap.size w wg) := HBf.out.trans (hBg.mono HBf.out.size)
    clear hBg
    have HX : Hid (∃ P : ByteArray, (⟨(TextW.textL U).toArray⟩ : ByteArray) = P ∧ P.data.toList = NumM.putL U.size ++ U.data.toList) := ⟨_, rfl, NumsF.textL_data U⟩
    clear HP
    obtain ⟨P, hP, hPD⟩ := HX.out
    rw [hP]
    have HPE : Hid ((⟨(TextW.textL U).toArray⟩ : ByteArray) = P) := hP
    have HPD : Hid (P.data.toList = NumM.putL U.size ++ U.data.toList) := hPD
    have hPs : P.size = (NumM.putL U.size).length + U.size := by rw [← NumsF.size_data P, hPD, List.length_append, NumsF.size_data]
    have hp1 := BackM.putL_pos (U.size : Int)
    have hp2 := NumM.putL_length (U.size : Int)
    have hpp : 1 ≤ P.size := by omega
    have HPQ : Hid (P.size ≤ 8010) := (show P.size ≤ 8010 by omega)
    clear hPs hp1 hp2 hP hPD HX
    go_wp2_with fail
    refine (TextW.spec_yes _ _ hsm).mono ?_
    rintro e wh ⟨rfl, hBh⟩
    have HBh : Hid (Below w.heap.size w wh) := HBg.out.trans (hBh.mono HBg.out.size)
    clear hBh
    rw [HPE.out]
    have hpe : P.toList.isEmpty = false := by
      rw [ByteArray.toList_eq]
      cases h0 : P.data.toList with
      | nil => have := NumsF.size_data P; rw [h0] at this; simp at this; omega
      | cons c r => rfl
    have hpq : P.size ≤ 8010 := HPQ.out
    by_cases hq : 8000 < P.size + 1
    · go_wp2
      go_ret
      exact ⟨rfl, HBh.out⟩
    · have hfld := NumsF.text_code
      go_wp2_with fail
      refine (NumsF.text_at _ U 1 ((P.size : Int) + 1) 0 _ ?_ (HG.out.below HBh.out hlt) (NumsF.x_textP P U HPD.out (by omega))).mono ?_
      · have e : ((⟨#[120]⟩ : ByteArray) ++ P).size = 1 + P.size := NumsF.x_sizeP P
        omega
      rintro e wi ⟨rfl, hBi⟩
      have HBi : Hid (Below w.heap.size w wi) := HBh.out.trans (hBi.mono HBh.out.size)
      clear hBi
      go_wp2_with fail
      refine (NumsF.text_at _ _ 0 0 4 _ ?_ (HG.out.below HBi.out hlt) (NumsF.cut_textP P U _ rfl HPD.out (by omega))).mono ?_
      · have := GetTextW.ext_len P 0 (P.size - 1); omega
      rintro e wj ⟨rfl, hBj⟩
      have HBj : Hid (Below w.heap.size w wj) := HBi.out.trans (hBj.mono HBi.out.size)
      clear hBj
      go_wp2
      go_ret
      exact ⟨rfl, HBj.out⟩

set_option maxRecDepth 100000 in
theorem lifted (os : Os) (started : os.Started) (H : Type) (enc : TypeId × Value → H) :
    ReturnsInHanded {} Tryd.checked os 3 .any (fun w args => (Rows.fnNumsSpec.pre enc Tryd.prog Tryd.f3 [] false w args ∧ laidMetH Tryd.prog DoorL.lst w) ∧ sizedMet enc Tryd.prog Tryd.f3 (OpenSpec.ofChange Rows.fnNumsSpec) false w args)
      (Rows.fnNumsSpec.post enc Tryd.prog Tryd.f3 false true false false) := by
  refine returnsInHanded_of_change_and (C := Tryd.checked) (X := fun w _ => laidMetH Tryd.prog DoorL.lst w) (fun _ _ _ hh h => h.of_heap hh) DoorL.own started (by kernel_rfl) Tryd.func3
    (ChangeSpec.witness_shaped (enc := enc) (C := Tryd.checked) (os := os) (X := fun w _ => laidMetH Tryd.prog DoorL.lst w) false (World.doorLaid Tryd.prog 400 os) #[.slice none 0 0, .slice none 0 0] 8 rfl (World.shaped_of_RefB (by kernel_rfl) (by kernel_rfl)) (by kernel_rfl) (by kernel_rfl) (by kernel_rfl) (DoorL.door_met os _)) ?_
  intro W base args ds gs before hval0 hW _ _ hL _
  have hval : ∀ (j : Nat) t v, Tryd.f3.params[j]? = some t → args[j]? = some v → Value.okWide Tryd.prog W .any base t v := hval0
  have hW' := hW
  obtain ⟨p, q, hA0, hV, rfl, hfz, hnd⟩ := hW
  have hA : DataW.TrodAll enc Tryd.prog W 0 (fun _ => true) true Tryd.f3.params.toList args.toList ds p := hA0
  rw [Tryd.params3] at hA hval
  obtain ⟨v0, vs0, d0, ds0, p0, q0, hargs, rfl, rfl, h0, r0⟩ := trodAll_cons hA
  obtain ⟨v1, vs1, d1, ds1, p1, q1, rfl, rfl, rfl, h1, r1⟩ := trodAll_cons r0
  obtain ⟨rfl, rfl, rfl⟩ := trodAll_nil r1
  obtain rfl : args = #[v0, v1] := by cases args; simp_all
  obtain ⟨rfl, rfl⟩ := trodVars_none hV
  obtain ⟨a0, len0, cap0, rfl⟩ := okWide_slice Tryd.underlying22 (hval 0 22 v0 rfl rfl)
  have k0 := h0
  have lt0 : ∀ x ∈ p0, x.block < W.heap.size := by obtain ⟨m, hm⟩ := k0; exact DataW.trod_lt m _ _ _ hm
  obtain ⟨z0, w0⟩ : ∃ zs, DrawW.IsRow .u8 W a0 len0 cap0 zs := by
    obtain ⟨fuel, hf⟩ := h0
    rcases open_ints Tryd.underlying22 Tryd.underlying5 (by kernel_rfl) hf with ⟨hcs, _⟩ | ⟨x, l, c, zs, hcs, _, hl, hm, hz, _, hcell, hwz⟩
    · simp [Value.cells] at hcs
      obtain ⟨rfl, rfl, rfl⟩ := hcs
      exact ⟨[], .inl ⟨rfl, rfl, rfl, rfl⟩⟩
    · simp [Value.cells] at hcs
      obtain ⟨rfl, rfl, rfl⟩ := hcs
      exact ⟨zs, .inr ⟨_, rfl, hl, hm, by simpa using hz, hcell, hwz⟩⟩
  obtain ⟨a1, len1, cap1, rfl⟩ := okWide_slice Tryd.underlying22 (hval 1 22 v1 rfl rfl)
  have k1 := h1
  have lt1 : ∀ x ∈ p1, x.block < W.heap.size := by obtain ⟨m, hm⟩ := k1; exact DataW.trod_lt m _ _ _ hm
  obtain ⟨z1, w1⟩ : ∃ zs, DrawW.IsRow .u8 W a1 len1 cap1 zs := by
    obtain ⟨fuel, hf⟩ := h1
    rcases open_ints Tryd.underlying22 Tryd.underlying5 (by kernel_rfl) hf with ⟨hcs, _⟩ | ⟨x, l, c, zs, hcs, _, hl, hm, hz, _, hcell, hwz⟩
    · simp [Value.cells] at hcs
      obtain ⟨rfl, rfl, rfl⟩ := hcs
      exact ⟨[], .inl ⟨rfl, rfl, rfl, rfl⟩⟩
    · simp [Value.cells] at hcs
      obtain ⟨rfl, rfl, rfl⟩ := hcs
      exact ⟨zs, .inr ⟨_, rfl, hl, hm, by simpa using hz, hcell, hwz⟩⟩
  clear hA0 hval0
  refine (walk a0 len0 cap0 z0 a1 len1 cap1 z1 W w0 w1 (DoorL.of_laid hL)).mono fun e W' ⟨he, bel⟩ => ?_
  subst he
  exact ⟨_, rfl, _, _, _, [], _, [], hW', trodAll_mk1 (shut_bool Tryd.underlying4 _), (trodAll_cons_mk (Below.trod DoorL.laidOut (by kernel_rfl) (of_decide_eq_true (by kernel_rfl)) k0 bel lt0) (trodAll_cons_mk (Below.trod DoorL.laidOut (by kernel_rfl) (of_decide_eq_true (by kernel_rfl)) k1 bel lt1) trodAll_mk0)), rfl, bel.frame _, fun h => by cases h⟩

theorem over : Rows.FnNumsSaid :=
  OpenClaim.holds_of_wide 3 Tryd.f3 rfl rfl rfl rfl rfl rfl rfl ⟨rfl, rfl, rfl, rfl, rfl⟩ rfl rfl rfl rfl rfl (by kernel_rfl) Tryd.func3 (by kernel_rfl)
    (of_decide_eq_true (by kernel_rfl)) (by unfold Func.isWrapper; first | (rw [if_pos (by decide +kernel)]; kernel_rfl) | (rw [if_neg (by decide +kernel)]; exact ⟨rfl, rfl⟩))
    (fun os started H enc _ => lifted os started H enc)
end Go.Proofs.YtcgaeblegiabjaaDoor.fnNums
namespace Go.Proofs.YtcgaeblegiabjaaDoor
theorem fnNums_holds : Rows.FnNumsCardSaid :=
  Claim7.holds_tied_plain_at .later [] [.handle] true (true, "cd6a7aab6fdcd82736c62bc6c2d02d46529d440c57e7adcb789868813442b437") true
    fnNums.over (fun _ h => by cases h) (by kernel_rfl) (fun _ h => by cases h) fnNums_row_tie rfl ⟨rfl, rfl⟩ (by kernel_rfl) rfl
    (fun f fn hf hfn => by
      obtain rfl : f = 3 := Option.some.inj ((show Tryd.prog.funcNamed "loop.example/g00561/laws.FnNums" = some 3 by kernel_rfl).symm.trans hf) |>.symm
      obtain rfl : fn = Tryd.f3 := (Option.some.inj (Tryd.func3.symm.trans hfn)).symm
      exact ⟨by kernel_rfl, fun j t ht => by
        rw [Tryd.params3] at ht
        have hm : t ∈ [22, 22] := by simpa using Array.mem_of_getElem? ht
        have hall : ([22, 22].all fun u => !Tryd.prog.wantsStandIn u) = true := by kernel_rfl
        exact (show Tryd.prog.wantsStandIn t = false by simpa using List.all_eq_true.1 hall t hm)⟩)
    (by kernel_rfl)
#print axioms fnNums_holds
end Go.Proofs.YtcgaeblegiabjaaDoor
