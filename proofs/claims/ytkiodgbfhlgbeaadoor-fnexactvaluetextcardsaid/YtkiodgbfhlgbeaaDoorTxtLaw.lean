/- The walk of FnExactValueText. -/
import Derived.Test.YtkiodgbfhlgbeaaDoorTxtSpec
import Derived.Test.YtkiodgbfhlgbeaaDoorTxtCont
import Derived.Test.YtkiodgbfhlgbeaaDoorValOpen
import Derived.Deep.RegionWith
namespace Go.Proofs.YtkiodgbfhlgbeaaDoor.ValL
open Go.RowKit
open ValM ValW ValS ValI ValO

set_option maxRecDepth 10000 in
set_option maxHeartbeats 4000000 in
theorem walk_text (k0 n0 : Int) (a0 : Option Addr) (cap0 : Nat) (z0 : List Int) (t0 : ByteArray) (w : World) (c0 : CodesAny w a0 z0) (s0 : t0.size ≤ maxLen) (hE : TxtI.Env w) :
    Calls Tryd.prog 3 #[av k0 n0 a0 z0.length cap0 t0] w fun e w' => e = .returned (.bool true) ∧ Below w.heap.size w w' := by
  have HC0 : Hid (CodesAny w a0 z0) := c0
  have HS0 : Hid (t0.size ≤ maxLen) := s0
  have hm0 := c0.1
  obtain ⟨r, hr⟩ := TxtI.hide (TxtM.textB k0 n0 z0 t0)
  have HE : Hid (TxtI.Env w) := hE
  clear c0 hE
  unfold maxLen at s0 hm0
  by_cases hbig : 1048576 < z0.length + t0.size
  · go_enter Tryd.func3, Tryd.ntmps3
    go_wp2_with fail
    refine (sz_no k0 n0 a0 z0.length cap0 t0 1048576 _ (by omega) (by omega) (by omega) (by unfold maxLen; omega) HS0.out).mono ?_
    rintro e w1 ⟨rfl, hB1⟩
    have HB : Hid (Below w.heap.size w w1) := (below_one w _).trans (hB1.mono (by simp))
    clear hB1
    go_wp2
    go_ret
    exact ⟨rfl, HB.out⟩
  have HC : Hid (Codes w a0 z0) := HC0.out.codes (by omega)
  clear HC0
  go_enter Tryd.func3, Tryd.ntmps3
  go_wp2_with fail
  refine (sz_yes k0 n0 a0 z0.length cap0 t0 1048576 _ (by omega) (by omega)).mono ?_
  rintro e w1 ⟨rfl, hB1⟩
  have HB1 : Hid (Below w.heap.size w w1) := (below_one w _).trans (hB1.mono (by simp))
  have H41 : Hid (At4 w1 w.heap.size (.int .i64 k0) (.int .i64 n0) (.slice a0 z0.length cap0) (.string t0)) := (At4.laid w _ _ _ _ _).on hB1
  clear hB1
  obtain ⟨c0, c1, c2, c3, hsz⟩ := H41.out
  go_wp2_with fail
  refine (toVal k0 n0 a0 cap0 z0 t0 _ (HC.out.on HB1.out)).mono ?_
  rintro e w2 ⟨b1, rfl, hc1, hB2⟩
  have HB2 : Hid (Below w.heap.size w w2) := HB1.out.trans (hB2.mono HB1.out.size)
  have H42 : Hid (At4 w2 w.heap.size (.int .i64 k0) (.int .i64 n0) (.slice a0 z0.length cap0) (.string t0)) := H41.out.on hB2
  have HC1 : Hid (Codes w2 b1 z0) := hc1
  clear hB2 c0 c1 c2 c3 hsz H41 hc1
  go_wp2_with fail
  refine (TxtS.spec_text k0 n0 b1 z0.length z0 t0 _ HC1.out HS0.out).mono ?_
  rintro e w3 ⟨rfl, hB3⟩
  rw [hr.out]
  have HB3 : Hid (Below w.heap.size w w3) := HB2.out.trans (hB3.mono HB2.out.size)
  have H43 : Hid (At4 w3 w.heap.size (.int .i64 k0) (.int .i64 n0) (.slice a0 z0.length cap0) (.string t0)) := H42.out.on hB3
  clear hB3 H42 HC1 HB1 HB2
  obtain ⟨c0, c1, c2, c3, hsz⟩ := H43.out
  go_wp2_with fail
  refine (toVal k0 n0 a0 cap0 z0 t0 _ (HC.out.on HB3.out)).mono ?_
  rintro e w4 ⟨a2, rfl, hc2, hB4⟩
  have HB4 : Hid (Below w.heap.size w w4) := HB3.out.trans (hB4.mono HB3.out.size)
  have H44 : Hid (At4 w4 w.heap.size (.int .i64 k0) (.int .i64 n0) (.slice a0 z0.length cap0) (.string t0)) := H43.out.on hB4
  have HC2 : Hid (Codes w4 a2 z0) := hc2
  clear hB4 c0 c1 c2 c3 hsz H43 hc2
  go_wp2_with fail
  refine (TxtI.impl_text k0 n0 a2 z0.length z0 t0 _ (HC2.out.alloc _) HS0.out ((HE.out.on HB4.out).on (below_one _ _))).mono ?_
  rintro e w5 ⟨rfl, hB5⟩
  rw [hr.out]
  have HX : Hid (At4 w5 w4.heap.size (.int .i64 k0) (.int .i64 n0) (.slice a2 z0.length z0.length) (.string t0)) := (At4.laid w4 _ _ _ _ _).on hB5
  have H45 : Hid (At4 w5 w.heap.size (.int .i64 k0) (.int .i64 n0) (.slice a0 z0.length cap0) (.string t0)) := (H44.out.on (below_one w4 _)).on hB5
  have HB5 : Hid (Below w.heap.size w w5) := HB4.out.trans (((below_one w4 _).trans (hB5.mono (by simp))).mono HB4.out.size)
  have HC5 : Hid (Codes w5 a2 z0) := (HC2.out.alloc _).on hB5
  clear hB5 H44 HC2 HB4
  go_wp2
  have HCa : Hid (Codes w5 a0 z0) := HC.out.on HB5.out
  obtain ⟨c0, c1, c2, c3, hsz⟩ := H45.out
  obtain ⟨x0, x1, x2, x3, hxz⟩ := HX.out
  have step1 : Calls Tryd.prog 6 #[av k0 n0 a0 z0.length cap0 t0] w5.drew fun e w' => ∃ a', e = .returned (av k0 n0 a' z0.length z0.length t0) ∧ Codes w' a' z0 ∧ Below w5.heap.size w5 w' :=
    (toVal k0 n0 a0 cap0 z0 t0 w5.drew (HCa.out.on (Below.refl _ _).drew)).mono fun e w' ⟨a', h1, h2, h3⟩ => ⟨a', h1, h2, (Below.refl _ _).drew.trans h3⟩
  have HS1 : Hid (Calls Tryd.prog 6 #[av k0 n0 a0 z0.length cap0 t0] w5.drew fun e w' => ∃ a', e = .returned (av k0 n0 a' z0.length z0.length t0) ∧ Codes w' a' z0 ∧ Below w5.heap.size w5 w') := step1
  clear step1 H45
  go_region_with (first
    | (go_at_call 6
       refine HS1.out.mono ?_
       rintro e w6 ⟨a3, rfl, hc3, hB6⟩
       obtain ⟨y0, y1, y2, y3, hyz⟩ := HX.out.on hB6)
    | (go_at_call 8
       refine (eqVal k0 n0 a2 a3 z0.length z0.length z0 t0 w6 (HC5.out.on hB6) hc3).mono ?_
       rintro e w7 ⟨rfl, hB7⟩))
  all_goals
    have HB7 : Hid (Below w.heap.size w w7) := HB5.out.trans ((hB6.trans (hB7.mono hB6.size)).mono HB5.out.size)
    clear hB6 hB7 c0 c1 c2 c3 x0 x1 x2 x3 y0 y1 y2 y3 hc3
    go_wp2
    go_ret
    exact ⟨rfl, HB7.out⟩
end Go.Proofs.YtkiodgbfhlgbeaaDoor.ValL
