/- The walk of FnRatio: true at all bytes that came in; new memory alone is written. -/
import Derived.Test.YthplmgjnlhcapaaRatioFacts
namespace Go.Proofs.Ythplmgjnlhcapaa.RatL
open Go.RowKit
open FixRa RatM FixCl FixS RatF DrawW

set_option maxRecDepth 10000 in
set_option maxHeartbeats 3200000 in
theorem walk (a0 : Option Addr) (len0 cap0 : Nat) (z0 : List Int) (a1 : Option Addr) (len1 cap1 : Nat) (z1 : List Int) (w : World) (w0 : IsRow .u8 w a0 len0 cap0 z0) (w1 : IsRow .u8 w a1 len1 cap1 z1) :
    Calls Try.prog 5 #[.slice a0 len0 cap0, .slice a1 len1 cap1] w fun e w' => e = .returned (.bool true) ∧ Below w.heap.size w w' := by
  have hm0 := w0.len
  have hm1 := w1.len
  unfold maxLen at hm0 hm1
  have HW0 : Hid (IsRow .u8 w a0 len0 cap0 z0) := w0
  have HW1 : Hid (IsRow .u8 w a1 len1 cap1 z1) := w1
  clear w0 w1
  by_cases hb0 : 1048576 < len0
  · go_enter Try.func5, Try.ntmps5
    go_wp2
    go_ret
    exact ⟨rfl, Below.refl _ _⟩
  by_cases hb1 : 1048576 < len1
  · go_enter Try.func5, Try.ntmps5
    go_wp2
    go_ret
    exact ⟨rfl, Below.refl _ _⟩
  go_enter Try.func5, Try.ntmps5
  go_wp2_with fail
  refine (drawRatio_any w a0 len0 cap0 (HW0.out.code (by omega) (Below.refl _ _))).mono ?_
  rintro e wa ⟨a, b, c, d, rfl, ba, bb, bc, bd, hBa⟩
  have HBa : Hid (Below w.heap.size w wa) := hBa
  clear hBa
  obtain ⟨x, hx⟩ : ∃ x, Hid ((ratioR a b c d).1 = x) := ⟨_, rfl⟩
  have bx : -1 ≤ x ∧ x ≤ 1 := by rw [← hx.out]; exact small a b c d
  go_wp2_with fail
  refine (ratio_face a b c d _).mono ?_
  rintro e wb ⟨rfl, hBb⟩
  rw [hx.out]
  have HBb : Hid (Below w.heap.size w wb) := HBa.out.trans (hBb.mono HBa.out.size)
  clear hBb
  go_wp2_with fail
  refine (drawClamp_any wb a1 len1 cap1 (HW1.out.code (by omega) HBb.out)).mono ?_
  rintro e wc ⟨n, lo, hi, rfl, bn, bl, bh, hBc⟩
  have HBc : Hid (Below w.heap.size w wc) := HBb.out.trans (hBc.mono HBb.out.size)
  clear hBc
  obtain ⟨y, hy⟩ : ∃ y, Hid (clampR n lo hi = y) := ⟨_, rfl⟩
  go_wp2_with (first
    | (go_at_call 37; refine (impl_clamp _ _ _ _).mono ?_; rintro e w' ⟨rfl, rfl⟩; rw [hy.out])
    | (go_at_call 38; refine (ratio_spec _ _ _ _ _).mono ?_; rintro e w' ⟨rfl, rfl⟩; rw [hx.out])
    | (go_at_call 39; refine (spec_clamp _ _ _ _).mono ?_; rintro e w' ⟨rfl, rfl⟩; rw [hy.out]))
  refine (ratio_face c d a b _).mono ?_
  rintro e wd ⟨rfl, hBd⟩
  rw [turn, hx.out]
  have HBd : Hid (Below w.heap.size w wd) := HBc.out.trans (hBd.mono HBc.out.size)
  clear hBd
  have HCl : lo ≤ hi → inB y lo hi = true := fun h => by rw [← hy.out]; exact clamped n lo hi h
  by_cases hlh : lo ≤ hi
  · have i0 := HCl hlh
    clear HCl
    go_wp2_with (first | (go_at_call 40; refine (lwis_any _ _ _ _).mono ?_; rintro e w' ⟨rfl, rfl⟩))
    refine (at_any _ _ a1 len1 cap1 0 50 (HW1.out.code (by omega) HBd.out) (by omega) (by omega) (by omega)).mono ?_
    rintro e we ⟨r, rfl, hr, rfl⟩
    cases i1 : inB a 0 1000000
    · go_wp2_with (first | (go_at_call 40; refine (lwis_any _ _ _ _).mono ?_; rintro e w' ⟨rfl, rfl⟩))
      go_ret
      exact ⟨rfl, HBd.out⟩
    · cases i2 : inB b 1 1000000
      · go_wp2_with (first | (go_at_call 40; refine (lwis_any _ _ _ _).mono ?_; rintro e w' ⟨rfl, rfl⟩))
        go_ret
        exact ⟨rfl, HBd.out⟩
      · have j1 : 0 ≤ a ∧ a ≤ 1000000 := by unfold inB at i1; rw [decide_eq_true_iff] at i1; exact i1
        have j2 : 1 ≤ b ∧ b ≤ 1000000 := by unfold inB at i2; rw [decide_eq_true_iff] at i2; exact i2
        have pa := prod_small (k := 1 + (r : Int)) j1.1 j1.2 (by omega) (by omega)
        have pb := prod_small (a := b) (k := 1 + (r : Int)) (by omega) j2.2 (by omega) (by omega)
        have hw0 : IntKind.i64.wrap (a * (1 + (r : Int))) = a * (1 + (r : Int)) := by rw [IntKind.wrap_i64]; omega
        have hw1 : IntKind.i64.wrap (b * (1 + (r : Int))) = b * (1 + (r : Int)) := by rw [IntKind.wrap_i64]; omega
        clear pa pb
        go_wp2_with (first | (go_at_call 40; refine (lwis_any _ _ _ _).mono ?_; rintro e w' ⟨rfl, rfl⟩))
        refine (ratio_face (a * (1 + (r : Int))) (b * (1 + (r : Int))) c d _).mono ?_
        rintro e we ⟨rfl, hBe⟩
        rw [scaled a b c d _ j1 j2 (by omega), hx.out]
        have HBe : Hid (Below w.heap.size w we) := HBd.out.trans (hBe.mono HBd.out.size)
        clear hBe hw0 hw1
        cases i3 : inB c 0 1000000
        · go_wp2_with (first | (go_at_call 40; refine (lwis_any _ _ _ _).mono ?_; rintro e w' ⟨rfl, rfl⟩))
          go_ret
          exact ⟨rfl, HBe.out⟩
        · cases i4 : inB d 1 1000000
          · go_wp2_with (first | (go_at_call 40; refine (lwis_any _ _ _ _).mono ?_; rintro e w' ⟨rfl, rfl⟩))
            go_ret
            exact ⟨rfl, HBe.out⟩
          · have j3 : 0 ≤ c ∧ c ≤ 1000000 := by unfold inB at i3; rw [decide_eq_true_iff] at i3; exact i3
            have j4 : 1 ≤ d ∧ d ≤ 1000000 := by unfold inB at i4; rw [decide_eq_true_iff] at i4; exact i4
            have hp2 := prod_small j1.1 j1.2 j4.1 j4.2
            have hp3 := prod_small j3.1 j3.2 j2.1 j2.2
            have ht := told a b c d j1 j2 j3 j4
            rw [hx.out] at ht
            obtain ⟨e1, he1⟩ : ∃ e, a * d = e := ⟨_, rfl⟩
            obtain ⟨e2, he2⟩ : ∃ e, c * b = e := ⟨_, rfl⟩
            have hw2 : IntKind.i64.wrap (a * d) = e1 := by rw [IntKind.wrap_i64]; omega
            have hw3 : IntKind.i64.wrap (c * b) = e2 := by rw [IntKind.wrap_i64]; omega
            rw [he1, he2] at ht
            clear hp2 hp3 j1 j2 j3 j4 hx bx he1 he2
            rcases ht with ⟨rfl, ht⟩ | ⟨rfl, ht⟩ | ⟨rfl, ht⟩
            · have d1 : decide (e1 < e2) = true := decide_eq_true ht
              have d2 : (e1 == e2) = false := by simp; omega
              go_wp2_with (first | (go_at_call 40; refine (lwis_any _ _ _ _).mono ?_; rintro e w' ⟨rfl, rfl⟩))
              go_ret
              exact ⟨rfl, HBe.out⟩
            · subst ht
              go_wp2_with (first | (go_at_call 40; refine (lwis_any _ _ _ _).mono ?_; rintro e w' ⟨rfl, rfl⟩))
              go_ret
              exact ⟨rfl, HBe.out⟩
            · have d1 : decide (e1 < e2) = false := decide_eq_false (by omega)
              have d2 : (e1 == e2) = false := by simp; omega
              go_wp2_with (first | (go_at_call 40; refine (lwis_any _ _ _ _).mono ?_; rintro e w' ⟨rfl, rfl⟩))
              go_ret
              exact ⟨rfl, HBe.out⟩
  · clear HCl
    go_wp2_with (first | (go_at_call 40; refine (lwis_any _ _ _ _).mono ?_; rintro e w' ⟨rfl, rfl⟩))
    refine (at_any _ _ a1 len1 cap1 0 50 (HW1.out.code (by omega) HBd.out) (by omega) (by omega) (by omega)).mono ?_
    rintro e we ⟨r, rfl, hr, rfl⟩
    cases i1 : inB a 0 1000000
    · go_wp2_with (first | (go_at_call 40; refine (lwis_any _ _ _ _).mono ?_; rintro e w' ⟨rfl, rfl⟩))
      go_ret
      exact ⟨rfl, HBd.out⟩
    · cases i2 : inB b 1 1000000
      · go_wp2_with (first | (go_at_call 40; refine (lwis_any _ _ _ _).mono ?_; rintro e w' ⟨rfl, rfl⟩))
        go_ret
        exact ⟨rfl, HBd.out⟩
      · have j1 : 0 ≤ a ∧ a ≤ 1000000 := by unfold inB at i1; rw [decide_eq_true_iff] at i1; exact i1
        have j2 : 1 ≤ b ∧ b ≤ 1000000 := by unfold inB at i2; rw [decide_eq_true_iff] at i2; exact i2
        have pa := prod_small (k := 1 + (r : Int)) j1.1 j1.2 (by omega) (by omega)
        have pb := prod_small (a := b) (k := 1 + (r : Int)) (by omega) j2.2 (by omega) (by omega)
        have hw0 : IntKind.i64.wrap (a * (1 + (r : Int))) = a * (1 + (r : Int)) := by rw [IntKind.wrap_i64]; omega
        have hw1 : IntKind.i64.wrap (b * (1 + (r : Int))) = b * (1 + (r : Int)) := by rw [IntKind.wrap_i64]; omega
        clear pa pb
        go_wp2_with (first | (go_at_call 40; refine (lwis_any _ _ _ _).mono ?_; rintro e w' ⟨rfl, rfl⟩))
        refine (ratio_face (a * (1 + (r : Int))) (b * (1 + (r : Int))) c d _).mono ?_
        rintro e we ⟨rfl, hBe⟩
        rw [scaled a b c d _ j1 j2 (by omega), hx.out]
        have HBe : Hid (Below w.heap.size w we) := HBd.out.trans (hBe.mono HBd.out.size)
        clear hBe hw0 hw1
        cases i3 : inB c 0 1000000
        · go_wp2_with (first | (go_at_call 40; refine (lwis_any _ _ _ _).mono ?_; rintro e w' ⟨rfl, rfl⟩))
          go_ret
          exact ⟨rfl, HBe.out⟩
        · cases i4 : inB d 1 1000000
          · go_wp2_with (first | (go_at_call 40; refine (lwis_any _ _ _ _).mono ?_; rintro e w' ⟨rfl, rfl⟩))
            go_ret
            exact ⟨rfl, HBe.out⟩
          · have j3 : 0 ≤ c ∧ c ≤ 1000000 := by unfold inB at i3; rw [decide_eq_true_iff] at i3; exact i3
            have j4 : 1 ≤ d ∧ d ≤ 1000000 := by unfold inB at i4; rw [decide_eq_true_iff] at i4; exact i4
            have hp2 := prod_small j1.1 j1.2 j4.1 j4.2
            have hp3 := prod_small j3.1 j3.2 j2.1 j2.2
            have ht := told a b c d j1 j2 j3 j4
            rw [hx.out] at ht
            obtain ⟨e1, he1⟩ : ∃ e, a * d = e := ⟨_, rfl⟩
            obtain ⟨e2, he2⟩ : ∃ e, c * b = e := ⟨_, rfl⟩
            have hw2 : IntKind.i64.wrap (a * d) = e1 := by rw [IntKind.wrap_i64]; omega
            have hw3 : IntKind.i64.wrap (c * b) = e2 := by rw [IntKind.wrap_i64]; omega
            rw [he1, he2] at ht
            clear hp2 hp3 j1 j2 j3 j4 hx bx he1 he2
            rcases ht with ⟨rfl, ht⟩ | ⟨rfl, ht⟩ | ⟨rfl, ht⟩
            · have d1 : decide (e1 < e2) = true := decide_eq_true ht
              have d2 : (e1 == e2) = false := by simp; omega
              go_wp2_with (first | (go_at_call 40; refine (lwis_any _ _ _ _).mono ?_; rintro e w' ⟨rfl, rfl⟩))
              go_ret
              exact ⟨rfl, HBe.out⟩
            · subst ht
              go_wp2_with (first | (go_at_call 40; refine (lwis_any _ _ _ _).mono ?_; rintro e w' ⟨rfl, rfl⟩))
              go_ret
              exact ⟨rfl, HBe.out⟩
            · have d1 : decide (e1 < e2) = false := decide_eq_false (by omega)
              have d2 : (e1 == e2) = false := by simp; omega
              go_wp2_with (first | (go_at_call 40; refine (lwis_any _ _ _ _).mono ?_; rintro e w' ⟨rfl, rfl⟩))
              go_ret
              exact ⟨rfl, HBe.out⟩
end Go.Proofs.Ythplmgjnlhcapaa.RatL
