/- What math/bits.Mul64 answers at this program: both halves of the product; the world stays as it is. And what the program's product of two numbers reckons. -/
import Derived.Test.YthplmgjnlhcapaaFixTop
import Derived.Shelf.Bits.Mul64
namespace Go.Proofs.Ythplmgjnlhcapaa.FixMu
open Go.RowKit
open FixS FixF FixH FixC

set_option maxHeartbeats 1000000 in
theorem mul_any (x y : Nat) (hx : x < 18446744073709551616) (hy : y < 18446744073709551616) (w : World) :
    Calls Try.prog 77 #[.int .u64 x, .int .u64 y] w fun e w' => e = .returned (.tuple #[.int .u64 ((x * y / 18446744073709551616 : Nat) : Int), .int .u64 ((x * y % 18446744073709551616 : Nat) : Int)]) ∧ w' = w := by
  obtain ⟨bd, bt, bw, hhi⟩ := Lib.mul64_hi x y hx hy
  have b11 := Lib.half_mul_le (a := x / 4294967296) (b := y / 4294967296) (by omega) (by omega)
  have b10 := Lib.half_mul_le (a := x / 4294967296) (b := y % 4294967296) (by omega) (by omega)
  have b01 := Lib.half_mul_le (a := x % 4294967296) (b := y / 4294967296) (by omega) (by omega)
  have c11 : x / 4294967296 * (y / 4294967296) < 18446744073709551616 := by omega
  have c10 : x / 4294967296 * (y % 4294967296) < 18446744073709551616 := by omega
  have c01 : x % 4294967296 * (y / 4294967296) < 18446744073709551616 := by omega
  have s1 : x / 4294967296 * (y / 4294967296) + (x / 4294967296 * (y % 4294967296) + x % 4294967296 * (y % 4294967296) / 4294967296) / 4294967296 < 18446744073709551616 := by omega
  have s2 : x / 4294967296 * (y / 4294967296) + (x / 4294967296 * (y % 4294967296) + x % 4294967296 * (y % 4294967296) / 4294967296) / 4294967296 + ((x / 4294967296 * (y % 4294967296) + x % 4294967296 * (y % 4294967296) / 4294967296) % 4294967296 + x % 4294967296 * (y / 4294967296)) / 4294967296 < 18446744073709551616 := by omega
  go_enter Try.func77, Try.ntmps77
  go_wp2
  simp only [Mul64.maskN x hx, Mul64.maskN y hy, Mul64.divN, Mul64.mulN, Mul64.addN, Mul64.wrapN _ bd, Mul64.wrapN _ c10, Mul64.wrapN _ bt, Mul64.maskN _ bt, Mul64.wrapN _ c01, Mul64.wrapN _ bw, Mul64.wrapN _ c11, Mul64.wrapN _ s1, Mul64.wrapN _ s2, Mul64.wrapM (x * y)]
  rw [hhi]
  go_ret2
  exact ⟨rfl, rfl⟩

theorem unsigned_any (n : Int) (w : World) (h : -1000000000000000 ≤ n ∧ n ≤ 1000000000000000) :
    Calls Try.prog 78 #[.int .i64 n] w fun e w' => e = .returned (.int .u64 ((n.natAbs : Nat) : Int)) ∧ w' = w := by
  by_cases hn : n < 0
  · have e1 : ((n.natAbs : Nat) : Int) = -n := by omega
    rw [e1]
    go_enter Try.func78, Try.ntmps78
    go_wp2
    go_ret
    exact ⟨by first | rfl | go_num, rfl⟩
  · have e1 : ((n.natAbs : Nat) : Int) = n := by omega
    rw [e1]
    go_enter Try.func78, Try.ntmps78
    go_wp2
    go_ret
    exact ⟨by first | rfl | go_num, rfl⟩

def timesF (a b : Int) : Int × Int := if a.natAbs * b.natAbs ≤ 1000000000000000 then (a * b, 0) else (0, 12)
theorem times_sign_ne {a b : Int} (h : (a < 0 ∧ ¬ b < 0) ∨ (¬ a < 0 ∧ b < 0)) : a * b = -((a.natAbs * b.natAbs : Nat) : Int) := by
  rw [Int.natCast_mul]
  rcases h with ⟨h1, h2⟩ | ⟨h1, h2⟩
  · rw [show a = -(a.natAbs : Int) by omega, show b = (b.natAbs : Int) by omega]; simp [Int.neg_mul]
  · rw [show a = (a.natAbs : Int) by omega, show b = -(b.natAbs : Int) by omega]; simp [Int.mul_neg]
theorem times_sign_eq {a b : Int} (h : (a < 0 ∧ b < 0) ∨ (¬ a < 0 ∧ ¬ b < 0)) : a * b = ((a.natAbs * b.natAbs : Nat) : Int) := by
  rw [Int.natCast_mul]
  rcases h with ⟨h1, h2⟩ | ⟨h1, h2⟩
  · rw [show a = -(a.natAbs : Int) by omega, show b = -(b.natAbs : Int) by omega]; simp [Int.neg_mul_neg]
  · rw [show a = (a.natAbs : Int) by omega, show b = (b.natAbs : Int) by omega]; simp

set_option maxRecDepth 10000 in
set_option maxHeartbeats 1600000 in
theorem product_any (a b : Int) (w : World) (ha : -1000000000000000 ≤ a ∧ a ≤ 1000000000000000) (hb : -1000000000000000 ≤ b ∧ b ≤ 1000000000000000) :
    Calls Try.prog 51 #[.int .i64 a, .int .i64 b] w fun e w' => e = endE (timesF a b) ∧ w' = w := by
  have hma := mul_any a.natAbs b.natAbs (by omega) (by omega)
  unfold timesF
  by_cases hp : a.natAbs * b.natAbs ≤ 1000000000000000
  · rw [if_pos hp, endE_ok rfl]
    rw [Nat.div_eq_of_lt (by omega), Nat.mod_eq_of_lt (by omega)] at hma
    by_cases h1 : a < 0 <;> by_cases h2 : b < 0
    all_goals first | rw [times_sign_ne (by omega)] | rw [times_sign_eq (by omega)]
    all_goals generalize hpp : a.natAbs * b.natAbs = p at *
    all_goals clear hpp
    all_goals first | have d1 : decide (a < 0) = true := decide_eq_true (by omega) | have d1 : decide (a < 0) = false := decide_eq_false (by omega)
    all_goals first | have d2 : decide (b < 0) = true := decide_eq_true (by omega) | have d2 : decide (b < 0) = false := decide_eq_false (by omega)
    all_goals go_enter Try.func51, Try.ntmps51
    all_goals go_wp2_with (first
      | (go_at_call 78; refine (unsigned_any _ _ (by assumption)).mono ?_; rintro e w' ⟨rfl, rfl⟩)
      | (go_at_call 77; refine (hma _).mono ?_; rintro e w' ⟨rfl, rfl⟩)
      | (go_at_call 79; refine (heldU_in _ _ _ _ _ (by omega)).mono ?_; rintro e w' ⟨rfl, rfl⟩))
    all_goals go_ret
    all_goals exact ⟨by first | rfl | go_num, rfl⟩
  · rw [if_neg hp, endE_no (by decide)]
    generalize hpp : a.natAbs * b.natAbs = p at *
    clear hpp
    by_cases hz : p / 18446744073709551616 = 0
    · have hlow : p % 18446744073709551616 = p := by omega
      rw [hz, hlow] at hma
      go_enter Try.func51, Try.ntmps51
      go_wp2_with (first
        | (go_at_call 78; refine (unsigned_any _ _ (by assumption)).mono ?_; rintro e w' ⟨rfl, rfl⟩)
        | (go_at_call 77; refine (hma _).mono ?_; rintro e w' ⟨rfl, rfl⟩)
        | (go_at_call 79; refine (heldU_in _ _ _ _ _ (by omega)).mono ?_; rintro e w' ⟨rfl, rfl⟩)
        | (go_at_call 79; refine (heldU_out _ _ _ _ _ (by omega)).mono ?_; rintro e w' ⟨rfl, rfl⟩))
      exact ⟨rfl, rfl, rfl⟩
    · go_enter Try.func51, Try.ntmps51
      go_wp2_with (first
        | (go_at_call 78; refine (unsigned_any _ _ (by assumption)).mono ?_; rintro e w' ⟨rfl, rfl⟩)
        | (go_at_call 77; refine (hma _).mono ?_; rintro e w' ⟨rfl, rfl⟩)
        | (go_at_call 79; refine (heldU_out _ _ _ _ _ (by omega)).mono ?_; rintro e w' ⟨rfl, rfl⟩))
      exact ⟨rfl, rfl, rfl⟩
end Go.Proofs.Ythplmgjnlhcapaa.FixMu
