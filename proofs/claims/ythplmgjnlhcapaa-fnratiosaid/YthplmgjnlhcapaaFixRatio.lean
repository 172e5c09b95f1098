/- What Ratio of the program and of the model tell; new memory alone is written. -/
import Derived.Test.YthplmgjnlhcapaaFixMul
import Derived.Test.YthplmgjnlhcapaaRatioMath
import Derived.Deep.RegionWith
namespace Go.Proofs.Ythplmgjnlhcapaa.FixRa
open Go.RowKit
open FixS FixF FixH FixC FixT FixMu RatM

theorem nan_any (x : Nat) (w : World) : Calls Try.prog 85 #[.int .u64 x] w fun e w' => e = .returned (.bool false) ∧ w' = w := by
  go_enter Try.func85, Try.ntmps85
  go_wp2
  go_ret
  exact ⟨rfl, rfl⟩

set_option maxHeartbeats 400000 in
theorem compare_any (x y : Nat) (w : World) :
    Calls Try.prog 83 #[.int .u64 x, .int .u64 y] w fun e w' => e = .returned (.int .i64 (cmpN x y)) ∧ w' = w := by
  rcases Nat.lt_trichotomy x y with h | h | h
  · rw [cmp_lt h]
    go_enter Try.func83, Try.ntmps83
    go_wp2_with (first | (go_at_call 85; refine (nan_any _ _).mono ?_; rintro e w' ⟨rfl, rfl⟩))
    go_ret
    exact ⟨rfl, rfl⟩
  · rw [cmp_eq h]
    subst h
    go_enter Try.func83, Try.ntmps83
    go_wp2_with (first | (go_at_call 85; refine (nan_any _ _).mono ?_; rintro e w' ⟨rfl, rfl⟩))
    go_ret
    exact ⟨rfl, rfl⟩
  · rw [cmp_gt h]
    go_enter Try.func83, Try.ntmps83
    go_wp2_with (first | (go_at_call 85; refine (nan_any _ _).mono ?_; rintro e w' ⟨rfl, rfl⟩))
    go_ret
    exact ⟨rfl, rfl⟩

set_option maxHeartbeats 400000 in
theorem or_any (p q : Int) (b : Nat) (w : World) (hc0 : w.cell? ⟨b, 0, none⟩ = some (.int .i64 p)) (hc1 : w.cell? ⟨b, 1, none⟩ = some (.int .i64 q)) :
    Calls Try.prog 82 #[.slice (some ⟨b, 0, none⟩) 2 2] w fun e w' => e = .returned (.int .i64 (orN p q)) ∧ w' = w := by
  unfold orN
  by_cases hp : p = 0
  · rw [if_pos hp]
    subst hp
    by_cases hq : q = 0
    · subst hq
      go_enter Try.func82, Try.ntmps82
      go_wp2
      go_loop [5, 8] (fun _ i => i = .int .i64 0 ∨ i = .int .i64 1 ∨ i = .int .i64 2) (fun _ i => 2 - (intOf i).toNat)
      case atStart => exact Or.inl rfl
      case round =>
        rcases hrel with rfl | rfl | rfl
        · go_wp2
          exact ⟨Or.inr (Or.inl rfl), by simp [intOf]⟩
        · go_wp2
          exact ⟨Or.inr (Or.inr rfl), by simp [intOf]⟩
        · go_wp2
          go_ret
          exact ⟨rfl, rfl⟩
    · have hq1 : (q != 0) = true := by simpa using hq
      go_enter Try.func82, Try.ntmps82
      go_wp2
      go_loop [5, 8] (fun _ i => i = .int .i64 0 ∨ i = .int .i64 1) (fun _ i => 2 - (intOf i).toNat)
      case atStart => exact Or.inl rfl
      case round =>
        rcases hrel with rfl | rfl
        · go_wp2
          exact ⟨Or.inr rfl, by simp [intOf]⟩
        · go_wp2
          go_ret
          exact ⟨rfl, rfl⟩
  · rw [if_neg hp]
    have hp1 : (p != 0) = true := by simpa using hp
    go_enter Try.func82, Try.ntmps82
    go_wp2
    go_loop [5, 8] (fun _ i => i = .int .i64 0) (fun _ i => 2 - (intOf i).toNat)
    case atStart => exact rfl
    case round =>
      subst hrel
      go_wp2
      go_ret
      exact ⟨rfl, rfl⟩

set_option maxRecDepth 10000 in
set_option maxHeartbeats 1600000 in
theorem crossed_any (a b c d : Nat) (w : World) (ha : a ≤ 1000000000000000) (hb : b ≤ 1000000000000000) (hc : c ≤ 1000000000000000) (hd : d ≤ 1000000000000000) :
    Calls Try.prog 74 #[.int .i64 a, .int .i64 b, .int .i64 c, .int .i64 d] w fun e w' => e = .returned (.int .i64 (cmpN (a * d) (c * b))) ∧ Below w.heap.size w w' := by
  have hm1 := mul_any a d (by omega) (by omega)
  have hm2 := mul_any c b (by omega) (by omega)
  have hR : Hid (orN (cmpN (a * d / 18446744073709551616) (c * b / 18446744073709551616)) (cmpN (a * d % 18446744073709551616) (c * b % 18446744073709551616)) = cmpN (a * d) (c * b)) := cmp_halves _ _
  generalize a * d / 18446744073709551616 = xh at *
  generalize c * b / 18446744073709551616 = yh at *
  generalize a * d % 18446744073709551616 = xl at *
  generalize c * b % 18446744073709551616 = yl at *
  generalize cmpN (a * d) (c * b) = r at *
  go_enter Try.func74, Try.ntmps74
  go_wp2_with (first
    | (go_at_call_of 77 a; refine (hm1 _).mono ?_; rintro e w' ⟨rfl, rfl⟩)
    | (go_at_call_of 77 c; refine (hm2 _).mono ?_; rintro e w' ⟨rfl, rfl⟩)
    | (go_at_call 83; refine (compare_any _ _ _).mono ?_; rintro e w' ⟨rfl, rfl⟩))
  refine (or_any (cmpN xh yh) (cmpN xl yl) _ _ ?_ ?_).mono ?_
  · simp
  · simp
  rintro e w1 ⟨rfl, rfl⟩
  rw [hR.out]
  clear hR
  go_wp2
  go_ret
  exact ⟨rfl, (Below.refl _ _).alloc (Nat.le_refl _) _⟩

def ratioR (a b c d : Int) : Int × Int := if (0 ≤ a ∧ a ≤ 1000000000000000) ∧ (1 ≤ b ∧ b ≤ 1000000000000000) ∧ (0 ≤ c ∧ c ≤ 1000000000000000) ∧ (1 ≤ d ∧ d ≤ 1000000000000000) then (cmpN (a.toNat * d.toNat) (c.toNat * b.toNat), 0) else (0, 1)
theorem ratio_no (a b c d : Int) (h : ¬ ((0 ≤ a ∧ a ≤ 1000000000000000) ∧ (1 ≤ b ∧ b ≤ 1000000000000000) ∧ (0 ≤ c ∧ c ≤ 1000000000000000) ∧ (1 ≤ d ∧ d ≤ 1000000000000000))) : ratioR a b c d = (0, 1) := by
  unfold ratioR; rw [if_neg h]
theorem ratio_yes (a b c d : Int) (h1 : 0 ≤ a ∧ a ≤ 1000000000000000) (h2 : 1 ≤ b ∧ b ≤ 1000000000000000) (h3 : 0 ≤ c ∧ c ≤ 1000000000000000) (h4 : 1 ≤ d ∧ d ≤ 1000000000000000) :
    ratioR a b c d = (cmpN (a.toNat * d.toNat) (c.toNat * b.toNat), 0) := by unfold ratioR; rw [if_pos ⟨h1, h2, h3, h4⟩]
theorem ratio_zero (a b c d : Int) : ¬ (ratioR a b c d).2 = 0 → (ratioR a b c d).1 = 0 := by
  unfold ratioR; split
  · intro h; exact absurd rfl h
  · intro _; rfl
theorem crossed_end (a b c d : Int) (w : World) (h1 : 0 ≤ a ∧ a ≤ 1000000000000000) (h2 : 1 ≤ b ∧ b ≤ 1000000000000000) (h3 : 0 ≤ c ∧ c ≤ 1000000000000000) (h4 : 1 ≤ d ∧ d ≤ 1000000000000000) :
    Calls Try.prog 74 #[.int .i64 a, .int .i64 b, .int .i64 c, .int .i64 d] w fun e w' => e = endE (cmpN (a.toNat * d.toNat) (c.toNat * b.toNat), 0) ∧ Below w.heap.size w w' := by
  have := crossed_any a.toNat b.toNat c.toNat d.toNat w (by omega) (by omega) (by omega) (by omega)
  rw [show ((a.toNat : Nat) : Int) = a by omega, show ((b.toNat : Nat) : Int) = b by omega, show ((c.toNat : Nat) : Int) = c by omega, show ((d.toNat : Nat) : Int) = d by omega] at this
  exact this

set_option maxRecDepth 10000 in
set_option maxHeartbeats 1600000 in
theorem ratio_call (a b c d : Int) (p0 p1 p2 p3 : Addr) (w : World) (hp0 : w.cell? p0 = some (.int .i64 a)) (hb0 : p0.block < w.heap.size) (hp1 : w.cell? p1 = some (.int .i64 b)) (hb1 : p1.block < w.heap.size) (hp2 : w.cell? p2 = some (.int .i64 c)) (hb2 : p2.block < w.heap.size) (hp3 : w.cell? p3 = some (.int .i64 d)) (hb3 : p3.block < w.heap.size) :
    Calls Try.prog 73 #[.pointer (some p0), .pointer (some p1), .pointer (some p2), .pointer (some p3)] w fun e w' => e = endE (ratioR a b c d) ∧ Below w.heap.size w w' := by
  go_enter Try.func73, Try.ntmps73
  go_wp2_with fail
  refine AnyO.region_by 10 (fun L act W => Below w.heap.size w W ∧ ∃ x4 x5 x6 x7 x8 x9 x10 x11 x12 x13 : Value, act = { tmps := #[.pointer (some p0), .pointer (some p1), .pointer (some p2), .pointer (some p3), x4, x5, x6, x7, x8, x9, x10, x11, x12, x13], defers := [] } ∧
    (L 0 = true → x5 = .int .i64 a) ∧
    (L 1 = true → x6 = .int .i64 a) ∧
    (L 1 = true → 0 ≤ a ∧ a ≤ 1000000000000000) ∧
    (L 2 = true → x7 = .int .i64 b) ∧
    (L 3 = true → x8 = .int .i64 b) ∧
    (L 3 = true → 1 ≤ b ∧ b ≤ 1000000000000000) ∧
    (L 4 = true → x9 = .int .i64 c) ∧
    (L 5 = true → x10 = .int .i64 c) ∧
    (L 5 = true → 0 ≤ c ∧ c ≤ 1000000000000000) ∧
    (L 6 = true → x11 = .int .i64 d) ∧
    (L 7 = true → x12 = .int .i64 d) ∧
    (L 7 = true → 1 ≤ d ∧ d ≤ 1000000000000000) ∧
    (L 8 = true → x13 = .int .i64 (ratioR a b c d).1) ∧
    (L 8 = true → (ratioR a b c d).2 = 0) ∧
    (L 9 = true → x4 = .int .i64 (ratioR a b c d).1)) (by kernel_rfl) (by kernel_rfl) (by kernel_rfl) ?start ?step ?fin
  case start => exact ⟨below_drewN' _ 1 _, _, _, _, _, _, _, _, _, _, _, rfl, by simp, by simp, by simp, by simp, by simp, by simp, by simp, by simp, by simp, by simp, by simp, by simp, by simp, by simp, by simp⟩
  case step =>
    rintro i hi L act W ⟨hB, x4, x5, x6, x7, x8, x9, x10, x11, x12, x13, rfl, h0x, h1x, h1y, h2x, h3x, h3y, h4x, h5x, h5y, h6x, h7x, h7y, h8x, h8y, h9x⟩ hd
    have hcases : i = 0 ∨ i = 1 ∨ i = 2 ∨ i = 3 ∨ i = 4 ∨ i = 5 ∨ i = 6 ∨ i = 7 ∨ i = 8 ∨ i = 9 := by omega
    rcases hcases with rfl | rfl | rfl | rfl | rfl | rfl | rfl | rfl | rfl | rfl
    · have hc : W.cell? p0 = some (.int .i64 a) := by rw [hB.cell hb0]; exact hp0
      refine wpOp_step rfl (fun K hK => ?_)
      clear hi hd
      go_simp
      exact hK _ _ ⟨hB, _, _, _, _, _, _, _, _, _, _, rfl, fun _ => rfl, h1x, h1y, h2x, h3x, h3y, h4x, h5x, h5y, h6x, h7x, h7y, h8x, h8y, h9x⟩
    · have hx := h0x (hd 0 (by kernel_rfl))
      subst hx
      refine wpOp_step rfl (fun K hK => ?_)
      clear hi hd
      go_simp
      refine (FixH.amount_any a _).mono ?_
      rintro e w' ⟨⟨rfl, hin⟩ | ⟨rfl, hout⟩, rfl⟩
      · exact hK _ _ ⟨hB, _, _, _, _, _, _, _, _, _, _, rfl, h0x, fun _ => rfl, fun _ => hin, h2x, h3x, h3y, h4x, h5x, h5y, h6x, h7x, h7y, h8x, h8y, h9x⟩
      · exact ⟨rfl, by rw [ratio_no _ _ _ _ (fun h => hout (h.1))]; rfl, hB⟩
    · have hc : W.cell? p1 = some (.int .i64 b) := by rw [hB.cell hb1]; exact hp1
      refine wpOp_step rfl (fun K hK => ?_)
      clear hi hd
      go_simp
      exact hK _ _ ⟨hB, _, _, _, _, _, _, _, _, _, _, rfl, h0x, h1x, h1y, fun _ => rfl, h3x, h3y, h4x, h5x, h5y, h6x, h7x, h7y, h8x, h8y, h9x⟩
    · have hx := h2x (hd 2 (by kernel_rfl))
      subst hx
      refine wpOp_step rfl (fun K hK => ?_)
      clear hi hd
      go_simp
      refine (FixH.divisor_any b _).mono ?_
      rintro e w' ⟨⟨rfl, hin⟩ | ⟨rfl, hout⟩, rfl⟩
      · exact hK _ _ ⟨hB, _, _, _, _, _, _, _, _, _, _, rfl, h0x, h1x, h1y, h2x, fun _ => rfl, fun _ => hin, h4x, h5x, h5y, h6x, h7x, h7y, h8x, h8y, h9x⟩
      · exact ⟨rfl, by rw [ratio_no _ _ _ _ (fun h => hout (h.2.1))]; rfl, hB⟩
    · have hc : W.cell? p2 = some (.int .i64 c) := by rw [hB.cell hb2]; exact hp2
      refine wpOp_step rfl (fun K hK => ?_)
      clear hi hd
      go_simp
      exact hK _ _ ⟨hB, _, _, _, _, _, _, _, _, _, _, rfl, h0x, h1x, h1y, h2x, h3x, h3y, fun _ => rfl, h5x, h5y, h6x, h7x, h7y, h8x, h8y, h9x⟩
    · have hx := h4x (hd 4 (by kernel_rfl))
      subst hx
      refine wpOp_step rfl (fun K hK => ?_)
      clear hi hd
      go_simp
      refine (FixH.amount_any c _).mono ?_
      rintro e w' ⟨⟨rfl, hin⟩ | ⟨rfl, hout⟩, rfl⟩
      · exact hK _ _ ⟨hB, _, _, _, _, _, _, _, _, _, _, rfl, h0x, h1x, h1y, h2x, h3x, h3y, h4x, fun _ => rfl, fun _ => hin, h6x, h7x, h7y, h8x, h8y, h9x⟩
      · exact ⟨rfl, by rw [ratio_no _ _ _ _ (fun h => hout (h.2.2.1))]; rfl, hB⟩
    · have hc : W.cell? p3 = some (.int .i64 d) := by rw [hB.cell hb3]; exact hp3
      refine wpOp_step rfl (fun K hK => ?_)
      clear hi hd
      go_simp
      exact hK _ _ ⟨hB, _, _, _, _, _, _, _, _, _, _, rfl, h0x, h1x, h1y, h2x, h3x, h3y, h4x, h5x, h5y, fun _ => rfl, h7x, h7y, h8x, h8y, h9x⟩
    · have hx := h6x (hd 6 (by kernel_rfl))
      subst hx
      refine wpOp_step rfl (fun K hK => ?_)
      clear hi hd
      go_simp
      refine (FixH.divisor_any d _).mono ?_
      rintro e w' ⟨⟨rfl, hin⟩ | ⟨rfl, hout⟩, rfl⟩
      · exact hK _ _ ⟨hB, _, _, _, _, _, _, _, _, _, _, rfl, h0x, h1x, h1y, h2x, h3x, h3y, h4x, h5x, h5y, h6x, fun _ => rfl, fun _ => hin, h8x, h8y, h9x⟩
      · exact ⟨rfl, by rw [ratio_no _ _ _ _ (fun h => hout (h.2.2.2))]; rfl, hB⟩
    · have e0 := h1x (hd 1 (by kernel_rfl))
      have g0 := h1y (hd 1 (by kernel_rfl))
      have e1 := h3x (hd 3 (by kernel_rfl))
      have g1 := h3y (hd 3 (by kernel_rfl))
      have e2 := h5x (hd 5 (by kernel_rfl))
      have g2 := h5y (hd 5 (by kernel_rfl))
      have e3 := h7x (hd 7 (by kernel_rfl))
      have g3 := h7y (hd 7 (by kernel_rfl))
      subst e0 e1 e2 e3
      have hR : Hid (ratioR a b c d = _) := ratio_yes _ _ _ _ g0 g1 g2 g3
      refine wpOp_step rfl (fun K hK => ?_)
      clear hi hd
      go_simp
      refine (crossed_end _ _ _ _ _ g0 g1 g2 g3).mono ?_
      rintro e w' ⟨he, hB2⟩
      rw [← hR.out] at he
      have hB3 := hB.trans (hB2.mono hB.size)
      by_cases hz : (ratioR a b c d).2 = 0
      · rw [endE_ok hz] at he
        subst he
        exact hK _ _ ⟨hB3, _, _, _, _, _, _, _, _, _, _, rfl, h0x, h1x, h1y, h2x, h3x, h3y, h4x, h5x, h5y, h6x, h7x, h7y, fun _ => rfl, fun _ => hz, h9x⟩
      · rw [endE_no hz] at he
        subst he
        exact ⟨rfl, (endE_no hz).symm, hB3⟩
    · have hx := h8x (hd 8 (by kernel_rfl))
      subst hx
      refine wpOp_step rfl (fun K hK => ?_)
      clear hi hd
      generalize hgr : (ratioR a b c d).1 = gr at *
      go_simp
      exact hK _ _ ⟨hB, _, _, _, _, _, _, _, _, _, _, rfl, h0x, h1x, h1y, h2x, h3x, h3y, h4x, h5x, h5y, h6x, h7x, h7y, h8x, h8y, fun _ => rfl⟩
  case fin =>
    rintro L act W ⟨hB, x4, x5, x6, x7, x8, x9, x10, x11, x12, x13, rfl, h0x, h1x, h1y, h2x, h3x, h3y, h4x, h5x, h5y, h6x, h7x, h7y, h8x, h8y, h9x⟩ hall
    have hx := h9x (hall 9 (by omega))
    have hz : Hid ((ratioR a b c d).2 = 0) := h8y (hall 8 (by omega))
    subst hx
    clear h0x h1x h1y h2x h3x h3y h4x h5x h5y h6x h7x h7y h8x h8y h9x hall
    go_wp2
    go_ret
    exact ⟨(endE_ok hz.out).symm, hB⟩

theorem field0 (x y z : Int) (w : World) : (Instr.field 26 (.agg #[.int .i64 x, .int .i64 y, .int .i64 z]) 0).run Try.prog w = .ok (.int .i64 x) w := by kernel_rfl

set_option maxRecDepth 10000 in
set_option maxHeartbeats 1600000 in
theorem ratio_face (a b c d : Int) (w : World) :
    Calls Try.prog 35 #[.int .i64 a, .int .i64 b, .int .i64 c, .int .i64 d] w fun e w' => e = .returned (.int .i64 (ratioR a b c d).1) ∧ Below w.heap.size w w' := by
  have hmf : ∀ (fn : Fn) (first cap : Array Value) (w : World), (Instr.makeFunc fn first cap).run Try.prog w = .ok (.func fn first cap) w := fun _ _ _ _ => rfl
  obtain ⟨r, hr⟩ : ∃ r, Hid (ratioR a b c d = r) := ⟨_, rfl⟩
  rw [hr.out]
  go_enter Try.func35, Try.ntmps35
  go_wp2_with fail
  refine (faced_any 73 _ r _ ?_ ?_ ?_).mono ?_
  · rw [← hr.out]; exact ratio_zero a b c d
  · intro W; rfl
  · rw [← hr.out]
    refine ratio_call a b c d _ _ _ _ _ ?_ ?_ ?_ ?_ ?_ ?_ ?_ ?_
    all_goals first | (simp; done) | (go_simp; done) | (simp; omega)
  rintro e w1 ⟨rfl, hB⟩
  have HB : Hid (Below w.heap.size w w1) := (((((Below.refl _ _).alloc (Nat.le_refl _) _).alloc (by simp) _).alloc (by simp; try omega) _).alloc (by simp; try omega) _).trans (hB.mono (by simp; try omega))
  clear hB hr
  unfold numV
  have hfld := field0
  go_wp2
  go_ret
  exact ⟨rfl, HB.out⟩

set_option maxRecDepth 10000 in
set_option maxHeartbeats 1600000 in
theorem ratio_in (A B C D : Nat) (w : World) (hA : A ≤ 1000000000000000) (hB : 1 ≤ B ∧ B ≤ 1000000000000000) (hC : C ≤ 1000000000000000) (hD : 1 ≤ D ∧ D ≤ 1000000000000000) :
    Calls Try.prog 38 #[.int .i64 A, .int .i64 B, .int .i64 C, .int .i64 D] w fun e w' => e = .returned (.int .i64 (cmpN (A * D) (C * B))) ∧ w' = w := by
  have i1 : inB (A : Int) 0 1000000000000000 = true := inB_t (by omega)
  have i2 : inB (B : Int) 1 1000000000000000 = true := inB_t (by omega)
  have i3 : inB (C : Int) 0 1000000000000000 = true := inB_t (by omega)
  have i4 : inB (D : Int) 1 1000000000000000 = true := inB_t (by omega)
  obtain ⟨r, hr⟩ : ∃ r, Hid (cmpN (A * D) (C * B) = r) := ⟨_, rfl⟩
  rw [hr.out]
  go_enter Try.func38, Try.ntmps38
  go_wp2_with (first | (go_at_call 69; refine (is_any _ _ _ _).mono ?_; rintro e w' ⟨rfl, rfl⟩))
  clear i1 i2 i3 i4
  go_loop [0, 1, 2, 3, 9, 10] (fun a b c d _ _ => ∃ x y u v : Nat, a = .int .i64 x ∧ b = .int .i64 y ∧ c = .int .i64 u ∧ d = .int .i64 v ∧ x ≤ 1000000000000000 ∧ (1 ≤ y ∧ y ≤ 1000000000000000) ∧ u ≤ 1000000000000000 ∧ (1 ≤ v ∧ v ≤ 1000000000000000) ∧ Hid (cmpN (x * v) (u * y) = r)) (fun _ b _ d _ _ => (intOf b).toNat + (intOf d).toNat)
  case atStart => exact ⟨A, B, C, D, rfl, rfl, rfl, rfl, hA, hB, hC, hD, hr⟩
  case round =>
    obtain ⟨x, y, u, v, rfl, rfl, rfl, rfl, hx, hy, hu, hv, HR⟩ := hrel
    clear hA hB hC hD hr
    obtain ⟨p, hp⟩ : ∃ p : Nat, Hid (x / y = p) := ⟨_, rfl⟩
    obtain ⟨q, hq⟩ : ∃ q : Nat, Hid (u / v = q) := ⟨_, rfl⟩
    obtain ⟨m, hm⟩ : ∃ m : Nat, Hid (x % y = m) := ⟨_, rfl⟩
    obtain ⟨k, hk⟩ : ∃ k : Nat, Hid (u % v = k) := ⟨_, rfl⟩
    have bp : p ≤ 1000000000000000 := by rw [← hp.out]; exact Nat.le_trans (Nat.div_le_self _ _) hx
    have bq : q ≤ 1000000000000000 := by rw [← hq.out]; exact Nat.le_trans (Nat.div_le_self _ _) hu
    have bm : m < y := by rw [← hm.out]; exact Nat.mod_lt _ (by omega)
    have bk : k < v := by rw [← hk.out]; exact Nat.mod_lt _ (by omega)
    have dp : (x : Int).tdiv (y : Int) = (p : Int) := by rw [← hp.out]; exact (Int.ofNat_tdiv x y).symm
    have dq : (u : Int).tdiv (v : Int) = (q : Int) := by rw [← hq.out]; exact (Int.ofNat_tdiv u v).symm
    have dm : (x : Int).tmod (y : Int) = (m : Int) := by rw [← hm.out]; exact (Int.ofNat_tmod x y).symm
    have dk : (u : Int).tmod (v : Int) = (k : Int) := by rw [← hk.out]; exact (Int.ofNat_tmod u v).symm
    have y0 : ¬ (y : Int) = 0 := by omega
    have v0 : ¬ (v : Int) = 0 := by omega
    by_cases hpq : p = q
    · subst hpq
      have HW : Hid (cmpN (m * v) (k * y) = r) := by
        show _ = r
        have hW := whole_eq (a := x) (b := y) (c := u) (d := v) (by rw [hp.out, hq.out])
        rw [hm.out, hk.out, HR.out] at hW
        exact hW.symm
      clear HR
      by_cases hm0 : m = 0
      · subst hm0
        by_cases hk0 : k = 0
        · subst hk0
          have HE : Hid (r = 0) := by show r = 0; rw [← HW.out]; exact cmp_eq (by simp)
          go_wp2
          go_ret
          exact ⟨by rw [HE.out]; rfl, rfl⟩
        · have HE : Hid (r = -1) := by show r = -1; rw [← HW.out]; exact cmp_lt (by rw [Nat.zero_mul]; exact Nat.mul_pos (by omega) (by omega))
          go_wp2
          go_ret
          exact ⟨by rw [HE.out]; rfl, rfl⟩
      · by_cases hk0 : k = 0
        · subst hk0
          have HE : Hid (r = 1) := by show r = 1; rw [← HW.out]; exact cmp_gt (by rw [Nat.zero_mul]; exact Nat.mul_pos (by omega) (by omega))
          go_wp2
          go_ret
          exact ⟨by rw [HE.out]; rfl, rfl⟩
        · have hm1 : ((m : Int) == 0) = false := by simp; omega
          have hk1 : ((k : Int) == 0) = false := by simp; omega
          go_wp2
          refine ⟨⟨v, k, y, m, rfl, rfl, rfl, rfl, by omega, by omega, by omega, by omega, ?_⟩, by simp [intOf]; omega⟩
          show _ = r
          rw [Nat.mul_comm v m, Nat.mul_comm y k]; exact HW.out
    · by_cases hlt : p < q
      · have HE : Hid (r = -1) := by show r = -1; rw [← HR.out]; exact cmp_lt (whole_lt (by omega) (by omega) (by rw [hp.out, hq.out]; exact hlt))
        go_wp2
        go_ret
        exact ⟨by rw [HE.out]; rfl, rfl⟩
      · have HE : Hid (r = 1) := by
          show r = 1; rw [← HR.out]; exact cmp_gt (whole_lt (by omega) (by omega) (by rw [hp.out, hq.out]; omega))
        go_wp2
        go_ret
        exact ⟨by rw [HE.out]; rfl, rfl⟩

set_option maxRecDepth 10000 in
set_option maxHeartbeats 1600000 in
theorem ratio_spec (a b c d : Int) (w : World) :
    Calls Try.prog 38 #[.int .i64 a, .int .i64 b, .int .i64 c, .int .i64 d] w fun e w' => e = .returned (.int .i64 (ratioR a b c d).1) ∧ w' = w := by
  by_cases h : (0 ≤ a ∧ a ≤ 1000000000000000) ∧ (1 ≤ b ∧ b ≤ 1000000000000000) ∧ (0 ≤ c ∧ c ≤ 1000000000000000) ∧ (1 ≤ d ∧ d ≤ 1000000000000000)
  · obtain ⟨h1, h2, h3, h4⟩ := h
    rw [ratio_yes a b c d h1 h2 h3 h4]
    have := ratio_in a.toNat b.toNat c.toNat d.toNat w (by omega) (by omega) (by omega) (by omega)
    rw [show ((a.toNat : Nat) : Int) = a by omega, show ((b.toNat : Nat) : Int) = b by omega, show ((c.toNat : Nat) : Int) = c by omega, show ((d.toNat : Nat) : Int) = d by omega] at this
    exact this
  · rw [ratio_no a b c d h]
    cases i1 : inB a 0 1000000000000000 <;> cases i3 : inB c 0 1000000000000000 <;> cases i2 : inB b 1 1000000000000000 <;> cases i4 : inB d 1 1000000000000000
    all_goals first
      | (exfalso; unfold inB at i1 i2 i3 i4; rw [decide_eq_true_iff] at i1 i2 i3 i4; exact h ⟨i1, i2, i3, i4⟩)
      | (clear h
         go_enter Try.func38, Try.ntmps38
         go_wp2_with (first | (go_at_call 69; refine (is_any _ _ _ _).mono ?_; rintro e w' ⟨rfl, rfl⟩))
         go_ret
         exact ⟨rfl, rfl⟩)
end Go.Proofs.Ythplmgjnlhcapaa.FixRa
