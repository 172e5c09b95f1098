/- What promise 5 leans on: parts turned round, parts of both multiplied, what is clamped. -/
import Derived.Test.YthplmgjnlhcapaaFixRatio
import Derived.Test.YthplmgjnlhcapaaFixClamp
import Derived.Test.YthplmgjnlhcapaaFixDraws
import Derived.Test.YthplmgjnlhcapaaDrawAt
namespace Go.Proofs.Ythplmgjnlhcapaa.RatF
open Go.RowKit
open FixRa RatM FixCl FixS

theorem turn (a b c d : Int) : (ratioR c d a b).1 = -(ratioR a b c d).1 := by
  by_cases h : (0 ≤ a ∧ a ≤ 1000000000000000) ∧ (1 ≤ b ∧ b ≤ 1000000000000000) ∧ (0 ≤ c ∧ c ≤ 1000000000000000) ∧ (1 ≤ d ∧ d ≤ 1000000000000000)
  · obtain ⟨h1, h2, h3, h4⟩ := h
    rw [ratio_yes a b c d h1 h2 h3 h4, ratio_yes c d a b h3 h4 h1 h2]
    exact cmp_turn _ _
  · rw [ratio_no a b c d h, ratio_no c d a b (fun g => h ⟨g.2.2.1, g.2.2.2, g.1, g.2.1⟩)]; rfl
theorem small (a b c d : Int) : -1 ≤ (ratioR a b c d).1 ∧ (ratioR a b c d).1 ≤ 1 := by
  unfold ratioR; split
  · exact cmp_small _ _
  · simp
theorem cmp_mul (x y k : Nat) (hk : 0 < k) : cmpN (x * k) (y * k) = cmpN x y := by
  rcases Nat.lt_trichotomy x y with h | h | h
  · rw [cmp_lt h, cmp_lt (Nat.mul_lt_mul_of_pos_right h hk)]
  · rw [cmp_eq h, cmp_eq (by rw [h])]
  · rw [cmp_gt h, cmp_gt (Nat.mul_lt_mul_of_pos_right h hk)]
theorem prod_small {a k : Int} (h1 : 0 ≤ a) (h2 : a ≤ 1000000) (h3 : 1 ≤ k) (h4 : k ≤ 1000000) : 0 ≤ a * k ∧ a * k ≤ 1000000000000 ∧ a ≤ a * k := by
  have e1 : 0 ≤ a * k := Int.mul_nonneg h1 (by omega)
  have e2 : a * k ≤ 1000000 * 1000000 := Int.mul_le_mul h2 h4 (by omega) (by omega)
  have e3 : a * 1 ≤ a * k := Int.mul_le_mul_of_nonneg_left h3 h1
  omega
theorem scaled (a b c d k : Int) (h1 : 0 ≤ a ∧ a ≤ 1000000) (h2 : 1 ≤ b ∧ b ≤ 1000000) (hk : 1 ≤ k ∧ k ≤ 50) : (ratioR (a * k) (b * k) c d).1 = (ratioR a b c d).1 := by
  have pa := prod_small h1.1 h1.2 hk.1 (by omega)
  have pb := prod_small (show 0 ≤ b by omega) h2.2 hk.1 (by omega)
  by_cases h : (0 ≤ c ∧ c ≤ 1000000000000000) ∧ (1 ≤ d ∧ d ≤ 1000000000000000)
  · rw [ratio_yes a b c d (by omega) (by omega) h.1 h.2, ratio_yes (a * k) (b * k) c d (by omega) (by omega) h.1 h.2]
    obtain ⟨A, rfl⟩ : ∃ A : Nat, a = (A : Int) := ⟨a.toNat, by omega⟩
    obtain ⟨B, rfl⟩ : ∃ A : Nat, b = (A : Int) := ⟨b.toNat, by omega⟩
    obtain ⟨K, rfl⟩ : ∃ A : Nat, k = (A : Int) := ⟨k.toNat, by omega⟩
    rw [← Int.natCast_mul, ← Int.natCast_mul]
    simp only [Int.toNat_natCast]
    rw [Nat.mul_right_comm A K, ← Nat.mul_assoc c.toNat B K]
    exact cmp_mul _ _ _ (by omega)
  · rw [ratio_no a b c d (fun g => h g.2.2), ratio_no (a * k) (b * k) c d (fun g => h g.2.2)]
/-- what is told of small parts, by their products -/
theorem told (a b c d : Int) (h1 : 0 ≤ a ∧ a ≤ 1000000) (h2 : 1 ≤ b ∧ b ≤ 1000000) (h3 : 0 ≤ c ∧ c ≤ 1000000) (h4 : 1 ≤ d ∧ d ≤ 1000000) :
    ((ratioR a b c d).1 = -1 ∧ a * d < c * b) ∨ ((ratioR a b c d).1 = 0 ∧ a * d = c * b) ∨ ((ratioR a b c d).1 = 1 ∧ c * b < a * d) := by
  rw [ratio_yes a b c d (by omega) (by omega) (by omega) (by omega)]
  obtain ⟨A, rfl⟩ : ∃ A : Nat, a = (A : Int) := ⟨a.toNat, by omega⟩
  obtain ⟨B, rfl⟩ : ∃ A : Nat, b = (A : Int) := ⟨b.toNat, by omega⟩
  obtain ⟨C, rfl⟩ : ∃ A : Nat, c = (A : Int) := ⟨c.toNat, by omega⟩
  obtain ⟨D, rfl⟩ : ∃ A : Nat, d = (A : Int) := ⟨d.toNat, by omega⟩
  simp only [Int.toNat_natCast]
  rw [← Int.natCast_mul, ← Int.natCast_mul]
  rcases Nat.lt_trichotomy (A * D) (C * B) with h | h | h
  · left; exact ⟨cmp_lt h, by omega⟩
  · right; left; exact ⟨cmp_eq h, by omega⟩
  · right; right; exact ⟨cmp_gt h, by omega⟩
theorem clamped (n lo hi : Int) (h : lo ≤ hi) : inB (clampR n lo hi) lo hi = true := by
  refine inB_t ?_
  unfold clampR; split
  · omega
  · split <;> omega

set_option maxHeartbeats 400000 in
theorem lwis_any (n lo hi : Int) (w : World) :
    Calls Try.prog 40 #[.int .i64 n, .int .i64 lo, .int .i64 hi] w fun e w' => e = .returned (.bool (inB n lo hi)) ∧ w' = w := by
  by_cases h : lo ≤ n
  · by_cases h2 : n ≤ hi
    · rw [inB_t ⟨h, h2⟩]
      go_enter Try.func40, Try.ntmps40
      go_wp2
      go_ret
      exact ⟨rfl, rfl⟩
    · rw [inB_f (by omega)]
      go_enter Try.func40, Try.ntmps40
      go_wp2
      go_ret
      exact ⟨rfl, rfl⟩
  · rw [inB_f (by omega)]
    go_enter Try.func40, Try.ntmps40
    go_wp2
    go_ret
    exact ⟨rfl, rfl⟩
end Go.Proofs.Ythplmgjnlhcapaa.RatF
