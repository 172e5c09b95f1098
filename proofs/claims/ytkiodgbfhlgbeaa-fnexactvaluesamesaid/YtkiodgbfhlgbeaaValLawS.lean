/- The walk of FnExactValueSame. -/
import Derived.Test.YtkiodgbfhlgbeaaValSame
import Derived.Test.YtkiodgbfhlgbeaaValOpen
import Derived.Deep.RegionWith
import Derived.Deep.Cut
import Derived.Deep.CutRange
namespace Go.Proofs.Ytkiodgbfhlgbeaa.ValL
open Go.RowKit
open ValM ValW ValS ValI ValO ValSa

set_option maxRecDepth 10000 in
set_option maxHeartbeats 4000000 in
theorem walk_same (k0 n0 : Int) (a0 : Option Addr) (cap0 : Nat) (z0 : List Int) (t0 : ByteArray) (k1 n1 : Int) (a1 : Option Addr) (cap1 : Nat) (z1 : List Int) (t1 : ByteArray) (w : World) (c0 : CodesAny w a0 z0) (s0 : t0.size ≤ maxLen) (c1 : CodesAny w a1 z1) (s1 : t1.size ≤ maxLen) :
    Calls Try.prog 4 #[av k0 n0 a0 z0.length cap0 t0, av k1 n1 a1 z1.length cap1 t1] w fun e w' => e = .returned (.bool true) ∧ Below w.heap.size w w' := by
  have HC0 : Hid (CodesAny w a0 z0) := c0
  have HS0 : Hid (t0.size ≤ maxLen) := s0
  have hm0 := c0.1
  have HC1 : Hid (CodesAny w a1 z1) := c1
  have HS1 : Hid (t1.size ≤ maxLen) := s1
  have hm1 := c1.1
  obtain ⟨r, hr⟩ : ∃ r, Hid (sameB k0 n0 z0 t0 k1 n1 z1 t1 = r) := ⟨_, rfl⟩
  clear c0 c1
  unfold maxLen at s0 hm0 s1 hm1
  by_cases hbig : 1048576 < z0.length + t0.size
  · go_enter Try.func4, Try.ntmps4
    go_wp2_with fail
    refine (sz_no k0 n0 a0 z0.length cap0 t0 1048576 _ (by omega) (by omega) (by omega) (by unfold maxLen; omega) HS0.out).mono ?_
    rintro e w1 ⟨rfl, hB1⟩
    have HB : Hid (Below w.heap.size w w1) := ((below_one w _).trans ((below_one _ _).mono (by simp))).trans (hB1.mono (by simp; omega))
    clear hB1
    go_wp2
    go_ret
    exact ⟨rfl, HB.out⟩
  have HC : Hid (Codes w a0 z0) := HC0.out.codes (by omega)
  clear HC0
  go_enter Try.func4, Try.ntmps4
  go_wp2_with fail
  refine (sz_yes k0 n0 a0 z0.length cap0 t0 1048576 _ (by omega) (by omega)).mono ?_
  rintro e w1 ⟨rfl, hB1⟩
  have HB1 : Hid (Below w.heap.size w w1) := ((below_one w _).trans ((below_one _ _).mono (by simp))).trans (hB1.mono (by simp; omega))
  have HA1 : Hid (At4 w1 w.heap.size (.int .i64 k0) (.int .i64 n0) (.slice a0 z0.length cap0) (.string t0)) := ((At4.laid w _ _ _ _ _).on (below_one _ _)).on hB1
  have HD1 : Hid (At4 w1 (w.heap.size + 1) (.int .i64 k1) (.int .i64 n1) (.slice a1 z1.length cap1) (.string t1)) := by
    show At4 _ _ _ _ _ _
    refine At4.on ?_ hB1
    have := At4.laid (w.alloc (.cells #[.int .i64 k0, .int .i64 n0, .slice a0 z0.length cap0, .string t0] 24)) 24 (.int .i64 k1) (.int .i64 n1) (.slice a1 z1.length cap1) (.string t1)
    rw [World.size_alloc] at this; exact this
  clear hB1
  obtain ⟨left, hleft⟩ : ∃ left : Int, (1048576 : Int) - z0.length - t0.size = left := ⟨_, rfl⟩
  rw [hleft]
  have hl0 : 0 ≤ left := by omega
  have hl1 : left ≤ 1048576 := by omega
  obtain ⟨d0, d1, d2, d3, hdz⟩ := HD1.out
  by_cases hbig1 : left < z1.length + t1.size
  · go_wp2_with fail
    refine (sz_no k1 n1 a1 z1.length cap1 t1 left _ (by omega) (by omega) (by omega) (by unfold maxLen; omega) HS1.out).mono ?_
    rintro e w2 ⟨rfl, hB2⟩
    have HB : Hid (Below w.heap.size w w2) := HB1.out.trans (hB2.mono HB1.out.size)
    clear hB2 d0 d1 d2 d3
    go_wp2
    go_ret
    exact ⟨rfl, HB.out⟩
  have HC' : Hid (Codes w a1 z1) := HC1.out.codes (by omega)
  clear HC1
  go_wp2_with fail
  refine (sz_yes k1 n1 a1 z1.length cap1 t1 left _ (by omega) (by omega)).mono ?_
  rintro e w2 ⟨rfl, hB2⟩
  have HB2 : Hid (Below w.heap.size w w2) := HB1.out.trans (hB2.mono HB1.out.size)
  have HA2 : Hid (At4 w2 w.heap.size (.int .i64 k0) (.int .i64 n0) (.slice a0 z0.length cap0) (.string t0)) := HA1.out.on hB2
  have HD2 : Hid (At4 w2 (w.heap.size + 1) (.int .i64 k1) (.int .i64 n1) (.slice a1 z1.length cap1) (.string t1)) := HD1.out.on hB2
  clear hB2 d0 d1 d2 d3 hdz HA1 HD1 HB1
  obtain ⟨left2, hleft2⟩ : ∃ left2 : Int, left - z1.length - t1.size = left2 := ⟨_, rfl⟩
  rw [hleft2]
  have hl2 : ¬ left2 < 0 := by omega
  clear hleft hleft2 hl0 hl1 hbig hbig1
  go_upto_region 8 with fail
  go_cut [6] from 20 (fun s wx => s = .bool r ∧ Below w2.heap.size w2 wx)
  case first =>
    obtain ⟨x0, x1, x2, x3, hxz⟩ := HA2.out
    obtain ⟨d0, d1, d2, d3, hdz⟩ := HD2.out
    have step1 : Hid (Calls Try.prog 10 #[av k0 n0 a0 z0.length cap0 t0] w2.drew fun e w' => ∃ a', e = .returned (av k0 n0 a' z0.length z0.length t0) ∧ Codes w' a' z0 ∧ Below w2.heap.size w2 w') :=
      (toVal k0 n0 a0 cap0 z0 t0 w2.drew ((HC.out.on HB2.out).on (Below.refl _ _).drew)).mono fun e w' ⟨a', h1, h2, h3⟩ => ⟨a', h1, h2, (Below.refl _ _).drew.trans h3⟩
    go_region_with (first
      | (go_at_call_of 10 (Value.string t0)
         refine step1.out.mono ?_
         rintro e w3 ⟨b0, rfl, hb0, hB3⟩
         obtain ⟨y0, y1, y2, y3, hyz⟩ := HD2.out.on hB3)
      | (go_at_call_of 10 (Value.string t1)
         refine (toVal k1 n1 a1 cap1 z1 t1 w3 ((HC'.out.on HB2.out).on hB3)).mono ?_
         rintro e w4 ⟨b1, rfl, hb1, hB4⟩)
      | (go_at_call 13
         refine (spec_same k0 n0 b0 z0.length z0 t0 k1 n1 b1 z1.length z1 t1 w4 (hb0.on hB4) hb1 HS0.out HS1.out).mono ?_
         rintro e w5 ⟨rfl, hB5⟩
         rw [hr.out]))
    all_goals
      go_wp2_with fail
      go_meet
      exact ⟨rfl, hB3.trans ((hB4.trans (hB5.mono hB4.size)).mono hB3.size)⟩
  case rest =>
    obtain ⟨rfl, hBc⟩ := hcut
    have HB3 : Hid (Below w.heap.size w wc) := HB2.out.trans (hBc.mono HB2.out.size)
    have HA3 : Hid (At4 wc w.heap.size (.int .i64 k0) (.int .i64 n0) (.slice a0 z0.length cap0) (.string t0)) := HA2.out.on hBc
    have HD3 : Hid (At4 wc (w.heap.size + 1) (.int .i64 k1) (.int .i64 n1) (.slice a1 z1.length cap1) (.string t1)) := HD2.out.on hBc
    clear hBc HA2 HD2 HB2
    obtain ⟨x0, x1, x2, x3, hxz⟩ := HA3.out
    go_wp2_with fail
    refine (toVal k0 n0 a0 cap0 z0 t0 _ (HC.out.on HB3.out)).mono ?_
    rintro e w4 ⟨b0, rfl, hc0, hB4⟩
    have HB4 : Hid (Below w.heap.size w (w4.alloc (.cells #[.int .i64 k0, .int .i64 n0, .slice b0 z0.length z0.length, .string t0] 27))) := (HB3.out.trans (hB4.mono HB3.out.size)).trans ((below_one w4 _).mono (Nat.le_trans HB3.out.size hB4.size))
    have HA4 : Hid (At4 (w4.alloc (.cells #[.int .i64 k0, .int .i64 n0, .slice b0 z0.length z0.length, .string t0] 27)) w.heap.size (.int .i64 k0) (.int .i64 n0) (.slice a0 z0.length cap0) (.string t0)) := (HA3.out.on hB4).on (below_one _ _)
    have HD4 : Hid (At4 (w4.alloc (.cells #[.int .i64 k0, .int .i64 n0, .slice b0 z0.length z0.length, .string t0] 27)) (w.heap.size + 1) (.int .i64 k1) (.int .i64 n1) (.slice a1 z1.length cap1) (.string t1)) := (HD3.out.on hB4).on (below_one _ _)
    have HX4 : Hid (At4 (w4.alloc (.cells #[.int .i64 k0, .int .i64 n0, .slice b0 z0.length z0.length, .string t0] 27)) w4.heap.size (.int .i64 k0) (.int .i64 n0) (.slice b0 z0.length z0.length) (.string t0)) := At4.laid _ _ _ _ _ _
    have HE4 : Hid (Codes (w4.alloc (.cells #[.int .i64 k0, .int .i64 n0, .slice b0 z0.length z0.length, .string t0] 27)) b0 z0) := hc0.alloc _
    have hd4 := HD4.out
    obtain ⟨d0, d1, d2, d3, hdz⟩ := HD3.out.on hB4
    clear hB4 x0 x1 x2 x3 hxz hc0 HA3 HD3 HB3 hd4
    go_wp2_with fail
    refine (toVal k1 n1 a1 cap1 z1 t1 _ (HC'.out.on HB4.out)).mono ?_
    rintro e w5 ⟨b1, rfl, hc1, hB5⟩
    have HB5 : Hid (Below w.heap.size w (w5.alloc (.cells #[.int .i64 k1, .int .i64 n1, .slice b1 z1.length z1.length, .string t1] 27))) := (HB4.out.trans (hB5.mono HB4.out.size)).trans ((below_one w5 _).mono (Nat.le_trans HB4.out.size hB5.size))
    have HA5 : Hid (At4 (w5.alloc (.cells #[.int .i64 k1, .int .i64 n1, .slice b1 z1.length z1.length, .string t1] 27)) w.heap.size (.int .i64 k0) (.int .i64 n0) (.slice a0 z0.length cap0) (.string t0)) := (HA4.out.on hB5).on (below_one _ _)
    have HD5 : Hid (At4 (w5.alloc (.cells #[.int .i64 k1, .int .i64 n1, .slice b1 z1.length z1.length, .string t1] 27)) (w.heap.size + 1) (.int .i64 k1) (.int .i64 n1) (.slice a1 z1.length cap1) (.string t1)) := (HD4.out.on hB5).on (below_one _ _)
    have HX5 : Hid (At4 (w5.alloc (.cells #[.int .i64 k1, .int .i64 n1, .slice b1 z1.length z1.length, .string t1] 27)) w4.heap.size (.int .i64 k0) (.int .i64 n0) (.slice b0 z0.length z0.length) (.string t0)) := (HX4.out.on hB5).on (below_one _ _)
    have HY5 : Hid (At4 (w5.alloc (.cells #[.int .i64 k1, .int .i64 n1, .slice b1 z1.length z1.length, .string t1] 27)) w5.heap.size (.int .i64 k1) (.int .i64 n1) (.slice b1 z1.length z1.length) (.string t1)) := At4.laid _ _ _ _ _ _
    have HE5 : Hid (Codes (w5.alloc (.cells #[.int .i64 k1, .int .i64 n1, .slice b1 z1.length z1.length, .string t1] 27)) b0 z0) := (HE4.out.on hB5).alloc _
    have HF5 : Hid (Codes (w5.alloc (.cells #[.int .i64 k1, .int .i64 n1, .slice b1 z1.length z1.length, .string t1] 27)) b1 z1) := hc1.alloc _
    obtain ⟨x0, x1, x2, x3, hxz⟩ := HX4.out.on hB5
    clear hB5 d0 d1 d2 d3 hdz hc1 HA4 HD4 HX4 HE4 HB4
    go_wp2_with fail
    refine (impl_same k0 n0 b0 z0.length z0 t0 k1 n1 b1 z1.length z1 t1 _ HE5.out HF5.out HS0.out HS1.out).mono ?_
    rintro e w6 ⟨rfl, hB6⟩
    rw [hr.out]
    have HB6 : Hid (Below w.heap.size w w6) := HB5.out.trans (hB6.mono HB5.out.size)
    have HA6 : Hid (At4 w6 w.heap.size (.int .i64 k0) (.int .i64 n0) (.slice a0 z0.length cap0) (.string t0)) := HA5.out.on hB6
    have HD6 : Hid (At4 w6 (w.heap.size + 1) (.int .i64 k1) (.int .i64 n1) (.slice a1 z1.length cap1) (.string t1)) := HD5.out.on hB6
    have HX6 : Hid (At4 w6 w4.heap.size (.int .i64 k0) (.int .i64 n0) (.slice b0 z0.length z0.length) (.string t0)) := HX5.out.on hB6
    have HY6 : Hid (At4 w6 w5.heap.size (.int .i64 k1) (.int .i64 n1) (.slice b1 z1.length z1.length) (.string t1)) := HY5.out.on hB6
    have HE6 : Hid (Codes w6 b0 z0) := HE5.out.on hB6
    have HF6 : Hid (Codes w6 b1 z1) := HF5.out.on hB6
    clear hB6 x0 x1 x2 x3 hxz HA5 HD5 HX5 HY5 HE5 HF5 HB5
    go_upto_region 14 with fail
    go_cut [39] from 35 (fun s wx => s = .bool false ∧ Below w6.heap.size w6 wx)
    case first =>
      obtain ⟨x0, x1, x2, x3, hxz⟩ := HX6.out
      obtain ⟨d0, d1, d2, d3, hdz⟩ := HA6.out
      have step1 : Hid (Calls Try.prog 10 #[av k0 n0 a0 z0.length cap0 t0] w6.drew fun e w' => ∃ a', e = .returned (av k0 n0 a' z0.length z0.length t0) ∧ Codes w' a' z0 ∧ Below w6.heap.size w6 w') :=
        (toVal k0 n0 a0 cap0 z0 t0 w6.drew ((HC.out.on HB6.out).on (Below.refl _ _).drew)).mono fun e w' ⟨a', h1, h2, h3⟩ => ⟨a', h1, h2, (Below.refl _ _).drew.trans h3⟩
      go_region_with (first
        | (go_at_call 10
           refine step1.out.mono ?_
           rintro e w7 ⟨g0, rfl, hg0, hB7⟩
           obtain ⟨y0, y1, y2, y3, hyz⟩ := HX6.out.on hB7)
        | (go_at_call 12
           refine (eqVal k0 n0 b0 g0 z0.length z0.length z0 t0 w7 (HE6.out.on hB7) hg0).mono ?_
           rintro e w8 ⟨rfl, hB8⟩))
      all_goals
        go_wp2_with fail
        go_meet
        exact ⟨rfl, hB7.trans (hB8.mono hB7.size)⟩
    case rest =>
      obtain ⟨rfl, hBc⟩ := hcut
      have HB7 : Hid (Below w.heap.size w wc) := HB6.out.trans (hBc.mono HB6.out.size)
      have HD7 : Hid (At4 wc (w.heap.size + 1) (.int .i64 k1) (.int .i64 n1) (.slice a1 z1.length cap1) (.string t1)) := HD6.out.on hBc
      have HY7 : Hid (At4 wc w5.heap.size (.int .i64 k1) (.int .i64 n1) (.slice b1 z1.length z1.length) (.string t1)) := HY6.out.on hBc
      have HF7 : Hid (Codes wc b1 z1) := HF6.out.on hBc
      clear hBc HA6 HD6 HX6 HY6 HE6 HF6 HB6
      go_upto_region 16 with fail
      obtain ⟨x0, x1, x2, x3, hxz⟩ := HY7.out
      obtain ⟨d0, d1, d2, d3, hdz⟩ := HD7.out
      have step1 : Hid (Calls Try.prog 10 #[av k1 n1 a1 z1.length cap1 t1] wc.drew fun e w' => ∃ a', e = .returned (av k1 n1 a' z1.length z1.length t1) ∧ Codes w' a' z1 ∧ Below wc.heap.size wc w') :=
        (toVal k1 n1 a1 cap1 z1 t1 wc.drew ((HC'.out.on HB7.out).on (Below.refl _ _).drew)).mono fun e w' ⟨a', h1, h2, h3⟩ => ⟨a', h1, h2, (Below.refl _ _).drew.trans h3⟩
      go_region_with (first
        | (go_at_call 10
           refine step1.out.mono ?_
           rintro e w7 ⟨g0, rfl, hg0, hB7⟩
           obtain ⟨y0, y1, y2, y3, hyz⟩ := HY7.out.on hB7)
        | (go_at_call 12
           refine (eqVal k1 n1 b1 g0 z1.length z1.length z1 t1 w7 (HF7.out.on hB7) hg0).mono ?_
           rintro e w8 ⟨rfl, hB8⟩))
      all_goals
        have HB8 : Hid (Below w.heap.size w w8) := HB7.out.trans ((hB7.trans (hB8.mono hB7.size)).mono HB7.out.size)
        clear hB7 hB8 d0 d1 d2 d3 x0 x1 x2 x3 y0 y1 y2 y3 hg0
        go_wp2
        go_ret
        exact ⟨rfl, HB8.out⟩
end Go.Proofs.Ytkiodgbfhlgbeaa.ValL
