/- Texts of ours, laid together. -/
import Derived.Test.YtmbhmknfipdadaaGreatDoorBd6
import Derived.Shelf.Bits.Mul64
namespace Go.Proofs.YtmbhmknfipdadaaGreatDoor.FixMu
open Go.RowKit
open FixS FixF FixH FixC
set_option maxHeartbeats 1000000 in
theorem mul_any (x y : Nat) (hx : x < 18446744073709551616) (hy : y < 18446744073709551616) (w : World) :
  Calls Tryz.prog 212 #[.int .u64 x, .int .u64 y] w fun e w' => e = .returned (.tuple #[.int .u64 ((x * y / 18446744073709551616 : Nat) : Int), .int .u64 ((x * y % 18446744073709551616 : Nat) : Int)]) ∧ w' = w := by
 obtain ⟨bd, bt, bw, hhi⟩ := Lib.mul64_hi x y hx hy
 have b11 := Lib.half_mul_le (a := x / 4294967296) (b := y / 4294967296) (by omega) (by omega)
 have b10 := Lib.half_mul_le (a := x / 4294967296) (b := y % 4294967296) (by omega) (by omega)
 have b01 := Lib.half_mul_le (a := x % 4294967296) (b := y / 4294967296) (by omega) (by omega)
 have c11 : x / 4294967296 * (y / 4294967296) < 18446744073709551616 := by omega
 have c10 : x / 4294967296 * (y % 4294967296) < 18446744073709551616 := by omega
 have c01 : x % 4294967296 * (y / 4294967296) < 18446744073709551616 := by omega
 have s1 : x / 4294967296 * (y / 4294967296) + (x / 4294967296 * (y % 4294967296) + x % 4294967296 * (y % 4294967296) / 4294967296) / 4294967296 < 18446744073709551616 := by omega
 have s2 : x / 4294967296 * (y / 4294967296) + (x / 4294967296 * (y % 4294967296) + x % 4294967296 * (y % 4294967296) / 4294967296) / 4294967296 + ((x / 4294967296 * (y % 4294967296) + x % 4294967296 * (y % 4294967296) / 4294967296) % 4294967296 + x % 4294967296 * (y / 4294967296)) / 4294967296 < 18446744073709551616 := by omega
 go_enter Tryz.func212, Tryz.ntmps212
 go_wp2
 simp only [Mul64.maskN x hx, Mul64.maskN y hy, Mul64.divN, Mul64.mulN, Mul64.addN, Mul64.wrapN _ bd, Mul64.wrapN _ c10, Mul64.wrapN _ bt, Mul64.maskN _ bt, Mul64.wrapN _ c01, Mul64.wrapN _ bw, Mul64.wrapN _ c11, Mul64.wrapN _ s1, Mul64.wrapN _ s2, Mul64.wrapM (x * y)]
 rw [hhi]
 go_ret2
 exact ⟨rfl, rfl⟩
theorem unsigned_any (n : Int) (w : World) (h : -1000000000000000 ≤ n ∧ n ≤ 1000000000000000) :
  Calls Tryz.prog 213 #[.int .i64 n] w fun e w' => e = .returned (.int .u64 ((n.natAbs : Nat) : Int)) ∧ w' = w := by
 by_cases hn : n < 0
 ·have e1 : ((n.natAbs : Nat) : Int) = -n := by omega
  rw [e1]
  go_enter Tryz.func213, Tryz.ntmps213
  go_wp2
  go_ret
  exact ⟨by first | rfl | go_num, rfl⟩
 ·have e1 : ((n.natAbs : Nat) : Int) = n := by omega
  rw [e1]
  go_enter Tryz.func213, Tryz.ntmps213
  go_wp2
  go_ret
  exact ⟨by first | rfl | go_num, rfl⟩
def timesF (a b : Int) : Int × Int := if a.natAbs * b.natAbs ≤ 1000000000000000 then (a * b, 0) else (0, 12)
theorem times_sign_ne {a b : Int} (h : (a < 0 ∧ ¬ b < 0) ∨ (¬ a < 0 ∧ b < 0)) : a * b = -((a.natAbs * b.natAbs : Nat) : Int) := by
 rw [Int.natCast_mul]
 rcases h with ⟨h1, h2⟩ | ⟨h1, h2⟩
 ·rw [show a = -(a.natAbs : Int) by omega, show b = (b.natAbs : Int) by omega]; simp [Int.neg_mul]
 ·rw [show a = (a.natAbs : Int) by omega, show b = -(b.natAbs : Int) by omega]; simp [Int.mul_neg]
theorem times_sign_eq {a b : Int} (h : (a < 0 ∧ b < 0) ∨ (¬ a < 0 ∧ ¬ b < 0)) : a * b = ((a.natAbs * b.natAbs : Nat) : Int) := by
 rw [Int.natCast_mul]
 rcases h with ⟨h1, h2⟩ | ⟨h1, h2⟩
 ·rw [show a = -(a.natAbs : Int) by omega, show b = -(b.natAbs : Int) by omega]; simp [Int.neg_mul_neg]
 ·rw [show a = (a.natAbs : Int) by omega, show b = (b.natAbs : Int) by omega]; simp
set_option maxRecDepth 10000 in
set_option maxHeartbeats 1600000 in
theorem product_any (a b : Int) (w : World) (ha : -1000000000000000 ≤ a ∧ a ≤ 1000000000000000) (hb : -1000000000000000 ≤ b ∧ b ≤ 1000000000000000) :
  Calls Tryz.prog 185 #[.int .i64 a, .int .i64 b] w fun e w' => e = endE (timesF a b) ∧ w' = w := by
 have hma := mul_any a.natAbs b.natAbs (by omega) (by omega)
 unfold timesF
 by_cases hp : a.natAbs * b.natAbs ≤ 1000000000000000
 ·rw [if_pos hp, endE_ok rfl]
  rw [Nat.div_eq_of_lt (by omega), Nat.mod_eq_of_lt (by omega)] at hma
  by_cases h1 : a < 0 <;> by_cases h2 : b < 0
  all_goals first | rw [times_sign_ne (by omega)] | rw [times_sign_eq (by omega)]
  all_goals generalize hpp : a.natAbs * b.natAbs = p at *
  all_goals clear hpp
  all_goals first | have d1 : decide (a < 0) = true := decide_eq_true (by omega) | have d1 : decide (a < 0) = false := decide_eq_false (by omega)
  all_goals first | have d2 : decide (b < 0) = true := decide_eq_true (by omega) | have d2 : decide (b < 0) = false := decide_eq_false (by omega)
  all_goals go_enter Tryz.func185, Tryz.ntmps185
  all_goals go_wp2_with (first
   | (go_at_call 213; refine (unsigned_any _ _ (by assumption)).mono ?_; rintro e w' ⟨rfl, rfl⟩)
   | (go_at_call 212; refine (hma _).mono ?_; rintro e w' ⟨rfl, rfl⟩)
   | (go_at_call 214; refine (heldU_in _ _ _ _ _ (by omega)).mono ?_; rintro e w' ⟨rfl, rfl⟩))
  all_goals go_ret
  all_goals exact ⟨by first | rfl | go_num, rfl⟩
 ·rw [if_neg hp, endE_no (by decide)]
  generalize hpp : a.natAbs * b.natAbs = p at *
  clear hpp
  by_cases hz : p / 18446744073709551616 = 0
  ·have hlow : p % 18446744073709551616 = p := by omega
   rw [hz, hlow] at hma
   go_enter Tryz.func185, Tryz.ntmps185
   go_wp2_with (first
    | (go_at_call 213; refine (unsigned_any _ _ (by assumption)).mono ?_; rintro e w' ⟨rfl, rfl⟩)
    | (go_at_call 212; refine (hma _).mono ?_; rintro e w' ⟨rfl, rfl⟩)
    | (go_at_call 214; refine (heldU_in _ _ _ _ _ (by omega)).mono ?_; rintro e w' ⟨rfl, rfl⟩)
    | (go_at_call 214; refine (heldU_out _ _ _ _ _ (by omega)).mono ?_; rintro e w' ⟨rfl, rfl⟩))
   exact ⟨rfl, rfl, rfl⟩
  ·go_enter Tryz.func185, Tryz.ntmps185
   go_wp2_with (first
    | (go_at_call 213; refine (unsigned_any _ _ (by assumption)).mono ?_; rintro e w' ⟨rfl, rfl⟩)
    | (go_at_call 212; refine (hma _).mono ?_; rintro e w' ⟨rfl, rfl⟩)
    | (go_at_call 214; refine (heldU_out _ _ _ _ _ (by omega)).mono ?_; rintro e w' ⟨rfl, rfl⟩))
   exact ⟨rfl, rfl, rfl⟩
end Go.Proofs.YtmbhmknfipdadaaGreatDoor.FixMu
namespace Go.Proofs.YtmbhmknfipdadaaGreatDoor.FixTi
open Go.RowKit
open FixS FixF FixH FixC FixT FixMu
def timesR (a b : Int) : Int × Int := if (-1000000000000000 ≤ a ∧ a ≤ 1000000000000000) ∧ (-1000000000000000 ≤ b ∧ b ≤ 1000000000000000) then timesF a b else (0, 1)
theorem times_no (a b : Int) (h : ¬ ((-1000000000000000 ≤ a ∧ a ≤ 1000000000000000) ∧ (-1000000000000000 ≤ b ∧ b ≤ 1000000000000000))) : timesR a b = (0, 1) := by
 unfold timesR; rw [if_neg h]
theorem times_yes (a b : Int) (h : -1000000000000000 ≤ a ∧ a ≤ 1000000000000000) (h2 : -1000000000000000 ≤ b ∧ b ≤ 1000000000000000) : timesR a b = timesF a b := by
 unfold timesR; rw [if_pos ⟨h, h2⟩]
theorem times_zero (a b : Int) : ¬ (timesR a b).2 = 0 → (timesR a b).1 = 0 := by
 unfold timesR timesF; split
 ·split
  ·intro h; exact absurd rfl h
  ·intro _; rfl
 ·intro _; rfl
theorem product_end (a b : Int) (w : World) (ha : -1000000000000000 ≤ a ∧ a ≤ 1000000000000000) (hb : -1000000000000000 ≤ b ∧ b ≤ 1000000000000000) :
  Calls Tryz.prog 185 #[.int .i64 a, .int .i64 b] w fun e w' => e = endE (timesF a b) ∧ Below w.heap.size w w' :=
 (product_any a b w ha hb).mono fun e w' h => ⟨h.1, by rw [h.2]; exact Below.refl _ _⟩
set_option maxRecDepth 10000 in
set_option maxHeartbeats 1600000 in
theorem times_call (a b : Int) (p0 p1 : Addr) (w : World) (hp0 : w.cell? p0 = some (.int .i64 a)) (hb0 : p0.block < w.heap.size) (hp1 : w.cell? p1 = some (.int .i64 b)) (hb1 : p1.block < w.heap.size) :
  Calls Tryz.prog 184 #[.pointer (some p0), .pointer (some p1)] w fun e w' => e = endE (timesR a b) ∧ Below w.heap.size w w' := by
 go_enter Tryz.func184, Tryz.ntmps184
 go_wp2_with fail
 refine AnyO.region_by 6 (fun L act W => Below w.heap.size w W ∧ ∃ x2 x3 x4 x5 x6 x7 : Value, act = { tmps := #[.pointer (some p0), .pointer (some p1), x2, x3, x4, x5, x6, x7], defers := [] } ∧
  (L 0 = true → x3 = .int .i64 a) ∧
  (L 1 = true → x4 = .int .i64 a) ∧
  (L 1 = true → -1000000000000000 ≤ a ∧ a ≤ 1000000000000000) ∧
  (L 2 = true → x5 = .int .i64 b) ∧
  (L 3 = true → x6 = .int .i64 b) ∧
  (L 3 = true → -1000000000000000 ≤ b ∧ b ≤ 1000000000000000) ∧
  (L 4 = true → x7 = .int .i64 (timesR a b).1) ∧
  (L 4 = true → (timesR a b).2 = 0) ∧
  (L 5 = true → x2 = .int .i64 (timesR a b).1)) (by kernel_rfl) (by kernel_rfl) (by kernel_rfl) ?start ?step ?fin
 case start => exact ⟨below_drewN' _ 1 _, _, _, _, _, _, _, rfl, by simp, by simp, by simp, by simp, by simp, by simp, by simp, by simp, by simp⟩
 case step =>
  rintro i hi L act W ⟨hB, x2, x3, x4, x5, x6, x7, rfl, h0x, h1x, h1y, h2x, h3x, h3y, h4x, h4y, h5x⟩ hd
  have hcases : i = 0 ∨ i = 1 ∨ i = 2 ∨ i = 3 ∨ i = 4 ∨ i = 5 := by omega
  rcases hcases with rfl | rfl | rfl | rfl | rfl | rfl
  ·have hc : W.cell? p0 = some (.int .i64 a) := by rw [hB.cell hb0]; exact hp0
   refine wpOp_step rfl (fun K hK => ?_)
   clear hi hd
   go_simp
   exact hK _ _ ⟨hB, _, _, _, _, _, _, rfl, fun _ => rfl, h1x, h1y, h2x, h3x, h3y, h4x, h4y, h5x⟩
  ·have hx := h0x (hd 0 (by kernel_rfl))
   subst hx
   refine wpOp_step rfl (fun K hK => ?_)
   clear hi hd
   go_simp
   refine (FixH.handed_any a _).mono ?_
   rintro e w' ⟨⟨rfl, hin⟩ | ⟨rfl, hout⟩, rfl⟩
   ·exact hK _ _ ⟨hB, _, _, _, _, _, _, rfl, h0x, fun _ => rfl, fun _ => hin, h2x, h3x, h3y, h4x, h4y, h5x⟩
   ·exact ⟨rfl, by rw [times_no _ _ (fun h => hout (h.1))]; rfl, hB⟩
  ·have hc : W.cell? p1 = some (.int .i64 b) := by rw [hB.cell hb1]; exact hp1
   refine wpOp_step rfl (fun K hK => ?_)
   clear hi hd
   go_simp
   exact hK _ _ ⟨hB, _, _, _, _, _, _, rfl, h0x, h1x, h1y, fun _ => rfl, h3x, h3y, h4x, h4y, h5x⟩
  ·have hx := h2x (hd 2 (by kernel_rfl))
   subst hx
   refine wpOp_step rfl (fun K hK => ?_)
   clear hi hd
   go_simp
   refine (FixH.handed_any b _).mono ?_
   rintro e w' ⟨⟨rfl, hin⟩ | ⟨rfl, hout⟩, rfl⟩
   ·exact hK _ _ ⟨hB, _, _, _, _, _, _, rfl, h0x, h1x, h1y, h2x, fun _ => rfl, fun _ => hin, h4x, h4y, h5x⟩
   ·exact ⟨rfl, by rw [times_no _ _ (fun h => hout (h.2))]; rfl, hB⟩
  ·have e0 := h1x (hd 1 (by kernel_rfl))
   have g0 := h1y (hd 1 (by kernel_rfl))
   have e1 := h3x (hd 3 (by kernel_rfl))
   have g1 := h3y (hd 3 (by kernel_rfl))
   subst e0 e1
   have hR : Hid (timesR a b = _) := times_yes _ _ g0 g1
   refine wpOp_step rfl (fun K hK => ?_)
   clear hi hd
   go_simp
   refine (product_end _ _ _ g0 g1).mono ?_
   rintro e w' ⟨he, hB2⟩
   rw [← hR.out] at he
   have hB3 := hB.trans (hB2.mono hB.size)
   by_cases hz : (timesR a b).2 = 0
   ·rw [endE_ok hz] at he
    subst he
    exact hK _ _ ⟨hB3, _, _, _, _, _, _, rfl, h0x, h1x, h1y, h2x, h3x, h3y, fun _ => rfl, fun _ => hz, h5x⟩
   ·rw [endE_no hz] at he
    subst he
    exact ⟨rfl, (endE_no hz).symm, hB3⟩
  ·have hx := h4x (hd 4 (by kernel_rfl))
   subst hx
   refine wpOp_step rfl (fun K hK => ?_)
   clear hi hd
   generalize hgr : (timesR a b).1 = gr at *
   go_simp
   exact hK _ _ ⟨hB, _, _, _, _, _, _, rfl, h0x, h1x, h1y, h2x, h3x, h3y, h4x, h4y, fun _ => rfl⟩
 case fin =>
  rintro L act W ⟨hB, x2, x3, x4, x5, x6, x7, rfl, h0x, h1x, h1y, h2x, h3x, h3y, h4x, h4y, h5x⟩ hall
  have hx := h5x (hall 5 (by omega))
  have hz : Hid ((timesR a b).2 = 0) := h4y (hall 4 (by omega))
  subst hx
  clear h0x h1x h1y h2x h3x h3y h4x h4y h5x hall
  go_wp2
  go_ret
  exact ⟨(endE_ok hz.out).symm, hB⟩
set_option maxRecDepth 10000 in
set_option maxHeartbeats 1600000 in
theorem times_face (a b : Int) (w : World) :
  Calls Tryz.prog 146 #[.int .i64 a, .int .i64 b] w fun e w' => e = .returned (numV (timesR a b).1 (timesR a b).2) ∧ Below w.heap.size w w' := by
 have hmf : ∀ (fn : Fn) (first cap : Array Value) (w : World), (Instr.makeFunc fn first cap).run Tryz.prog w = .ok (.func fn first cap) w := fun _ _ _ _ => rfl
 obtain ⟨r, hr⟩ : ∃ r, Hid (timesR a b = r) := ⟨_, rfl⟩
 rw [hr.out]
 go_enter Tryz.func146, Tryz.ntmps146
 go_wp2_with fail
 refine (faced_any 184 _ r _ ?_ ?_ ?_).mono ?_
 ·rw [← hr.out]; exact times_zero a b
 ·intro W; rfl
 ·rw [← hr.out]
  refine times_call a b _ _ _ ?_ ?_ ?_ ?_
  all_goals first | (simp; done) | (go_simp; done) | (simp; omega)
 rintro e w1 ⟨rfl, hB⟩
 obtain ⟨hc0, hc1, hc2, hf⟩ := cells_out' hB (b := w.heap.size + 1 + 1) (by simp) (by first | (go_simp; done) | simp) (by first | (go_simp; done) | simp) (by first | (go_simp; done) | simp) (by intro o; first | (go_simp; done) | simp)
 have HB : Hid (Below w.heap.size w w1) := ((((Below.refl _ _).alloc (Nat.le_refl _) _).alloc (by simp; try omega) _).alloc (by simp; try omega) _).trans (hB.mono (by simp; try omega))
 clear hB hr
 unfold numV
 go_wp2
 refine bodyPost_ret (v := numV r.1 r.2) (by simp [results, Tryz.results146, go_sem, numV, hc0, hc1, hc2]) rfl ⟨rfl, ?_⟩
 exact (((HB.out).setCell (by simp; try omega) _).setCell (by simp; try omega) _).setCell (by simp; try omega) _
theorem inM_no {n : Int} (h : ¬ (-1000000000000000 ≤ n ∧ n ≤ 1000000000000000)) : inM n = false := inB_f h
theorem inM_yes {n : Int} (h : -1000000000000000 ≤ n ∧ n ≤ 1000000000000000) : inM n = true := inB_t h
theorem abs_any (n : Int) (w : World) (h : -1000000000000000 ≤ n ∧ n ≤ 1000000000000000) :
  Calls Tryz.prog 200 #[.int .i64 n] w fun e w' => e = .returned (.int .i64 ((n.natAbs : Nat) : Int)) ∧ w' = w := by
 by_cases hn : n < 0
 ·have e1 : ((n.natAbs : Nat) : Int) = -n := by omega
  rw [e1]
  go_enter Tryz.func200, Tryz.ntmps200
  go_wp2
  go_ret
  exact ⟨by first | rfl | go_num, rfl⟩
 ·have e1 : ((n.natAbs : Nat) : Int) = n := by omega
  rw [e1]
  go_enter Tryz.func200, Tryz.ntmps200
  go_wp2
  go_ret
  exact ⟨by first | rfl | go_num, rfl⟩
theorem timesF_ok {a b : Int} (h : a.natAbs * b.natAbs ≤ 1000000000000000) : timesF a b = (a * b, 0) := by unfold timesF; rw [if_pos h]
theorem timesF_no {a b : Int} (h : ¬ a.natAbs * b.natAbs ≤ 1000000000000000) : timesF a b = (0, 12) := by unfold timesF; rw [if_neg h]
set_option maxRecDepth 10000 in
set_option maxHeartbeats 1600000 in
theorem times_any (a b : Int) (w : World) :
  Calls Tryz.prog 172 #[.int .i64 a, .int .i64 b] w fun e w' => e = .returned (FixF.numV (timesR a b).1 (timesR a b).2) ∧ Below w.heap.size w w' := by
 by_cases ha : -1000000000000000 ≤ a ∧ a ≤ 1000000000000000
 ·have na := inM_yes ha
  by_cases hb : -1000000000000000 ≤ b ∧ b ≤ 1000000000000000
  ·have nb := inM_yes hb
   rw [times_yes a b ha hb]
   by_cases hb0 : b = 0
   ·subst hb0
    rw [timesF_ok (by simp), Int.mul_zero]
    go_enter Tryz.func172, Tryz.ntmps172
    go_wp2_with (first
   | (go_at_call 197; refine (num_any _ _).mono ?_; rintro e w' ⟨rfl, rfl⟩)
   | (go_at_call 200; refine (abs_any _ _ (by assumption)).mono ?_; rintro e w' ⟨rfl, rfl⟩))
    refine bodyPost_ret (v := FixF.numV 0 0) (by simp [results, Tryz.results172, go_sem, FixF.numV]) rfl ⟨rfl, ?_⟩
    exact (Below.refl _ _).alloc (Nat.le_refl _) _
   ·have hq : (1000000000000000 : Int).tdiv ((b.natAbs : Nat) : Int) = ((1000000000000000 / b.natAbs : Nat) : Int) := by
     exact Int.ofNat_tdiv 1000000000000000 b.natAbs
    have hpos : 0 < b.natAbs := by omega
    have hn0 : ¬ ((b.natAbs : Nat) : Int) = 0 := by omega
    have hk : 1000000000000000 / b.natAbs ≤ 1000000000000000 := Nat.div_le_self _ _
    have hne : (b != 0) = true := by simpa using hb0
    by_cases hp : a.natAbs * b.natAbs ≤ 1000000000000000
    ·have hcmp : ¬ (1000000000000000 / b.natAbs < a.natAbs) := by rw [Nat.div_lt_iff_lt_mul hpos]; omega
     have hab : (a * b).natAbs ≤ 1000000000000000 := by rw [Int.natAbs_mul]; exact hp
     rw [timesF_ok hp]
     have hwm : IntKind.i64.wrap (a * b) = a * b := by rw [IntKind.wrap_i64]; omega
     clear hp hpos
     generalize 1000000000000000 / b.natAbs = k at *
     go_enter Tryz.func172, Tryz.ntmps172
     go_wp2_with (first
   | (go_at_call 197; refine (num_any _ _).mono ?_; rintro e w' ⟨rfl, rfl⟩)
   | (go_at_call 200; refine (abs_any _ _ (by assumption)).mono ?_; rintro e w' ⟨rfl, rfl⟩))
     refine bodyPost_ret (v := FixF.numV (a * b) 0) (by simp [results, Tryz.results172, go_sem, FixF.numV]) rfl ⟨rfl, ?_⟩
     exact (Below.refl _ _).alloc (Nat.le_refl _) _
    ·have hcmp : 1000000000000000 / b.natAbs < a.natAbs := by rw [Nat.div_lt_iff_lt_mul hpos]; omega
     rw [timesF_no hp]
     clear hp hpos
     generalize 1000000000000000 / b.natAbs = k at *
     go_enter Tryz.func172, Tryz.ntmps172
     go_wp2_with (first
        | (go_at_call 197; refine (num_any _ _).mono ?_; rintro e w' ⟨rfl, rfl⟩)
        | (go_at_call 200; refine (abs_any _ _ (by assumption)).mono ?_; rintro e w' ⟨rfl, rfl⟩))
     refine (ill_any _ _).mono ?_
     rintro e w1 ⟨rfl, hB⟩
     obtain ⟨hc0, hc1, hc2, hf⟩ := cells_out hB (by simp)
     have HB : Hid (Below w.heap.size w w1) := below_out hB (by simp)
     clear hB
     unfold FixF.numV
     go_wp2
     refine bodyPost_ret (v := FixF.numV 0 12) (by simp [results, Tryz.results172, go_sem, FixF.numV, hc0, hc1, hc2]) rfl ⟨rfl, ?_⟩
     exact (((HB.out).setCell (Nat.le_refl _) _).setCell (Nat.le_refl _) _).setCell (Nat.le_refl _) _
  ·have nb := inM_no hb
   rw [times_no _ _ (by omega)]
   clear ha hb
   go_enter Tryz.func172, Tryz.ntmps172
   go_wp2_with (first
      | (go_at_call 197; refine (num_any _ _).mono ?_; rintro e w' ⟨rfl, rfl⟩)
      | (go_at_call 200; refine (abs_any _ _ (by assumption)).mono ?_; rintro e w' ⟨rfl, rfl⟩))
   refine (ill_any _ _).mono ?_
   rintro e w1 ⟨rfl, hB⟩
   obtain ⟨hc0, hc1, hc2, hf⟩ := cells_out hB (by simp)
   have HB : Hid (Below w.heap.size w w1) := below_out hB (by simp)
   clear hB
   unfold FixF.numV
   go_wp2
   refine bodyPost_ret (v := FixF.numV 0 1) (by simp [results, Tryz.results172, go_sem, FixF.numV, hc0, hc1, hc2]) rfl ⟨rfl, ?_⟩
   exact (((HB.out).setCell (Nat.le_refl _) _).setCell (Nat.le_refl _) _).setCell (Nat.le_refl _) _
 ·have na := inM_no ha
  rw [times_no _ _ (by omega)]
  clear ha
  go_enter Tryz.func172, Tryz.ntmps172
  go_wp2_with (first
     | (go_at_call 197; refine (num_any _ _).mono ?_; rintro e w' ⟨rfl, rfl⟩)
     | (go_at_call 200; refine (abs_any _ _ (by assumption)).mono ?_; rintro e w' ⟨rfl, rfl⟩))
  refine (ill_any _ _).mono ?_
  rintro e w1 ⟨rfl, hB⟩
  obtain ⟨hc0, hc1, hc2, hf⟩ := cells_out hB (by simp)
  have HB : Hid (Below w.heap.size w w1) := below_out hB (by simp)
  clear hB
  unfold FixF.numV
  go_wp2
  refine bodyPost_ret (v := FixF.numV 0 1) (by simp [results, Tryz.results172, go_sem, FixF.numV, hc0, hc1, hc2]) rfl ⟨rfl, ?_⟩
  exact (((HB.out).setCell (Nat.le_refl _) _).setCell (Nat.le_refl _) _).setCell (Nat.le_refl _) _
end Go.Proofs.YtmbhmknfipdadaaGreatDoor.FixTi
