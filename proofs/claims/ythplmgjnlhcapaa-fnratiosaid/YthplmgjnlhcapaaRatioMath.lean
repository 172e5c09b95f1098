/- Which of two parts is more, by products: the arithmetic of the model's way (whole parts, then what is left turned round). -/
import Derived.Test.YthplmgjnlhcapaaProg
namespace Go.Proofs.Ythplmgjnlhcapaa.RatM

def cmpN (x y : Nat) : Int := if x < y then -1 else if y < x then 1 else 0
theorem cmp_lt {x y : Nat} (h : x < y) : cmpN x y = -1 := by unfold cmpN; rw [if_pos h]
theorem cmp_gt {x y : Nat} (h : y < x) : cmpN x y = 1 := by unfold cmpN; rw [if_neg (by omega), if_pos h]
theorem cmp_eq {x y : Nat} (h : x = y) : cmpN x y = 0 := by unfold cmpN; rw [if_neg (by omega), if_neg (by omega)]
theorem cmp_add (k x y : Nat) : cmpN (k + x) (k + y) = cmpN x y := by
  rcases Nat.lt_trichotomy x y with h | h | h
  · rw [cmp_lt h, cmp_lt (by omega)]
  · rw [cmp_eq h, cmp_eq (by omega)]
  · rw [cmp_gt h, cmp_gt (by omega)]
theorem cmp_turn (x y : Nat) : cmpN y x = -cmpN x y := by
  rcases Nat.lt_trichotomy x y with h | h | h
  · rw [cmp_lt h, cmp_gt h]; rfl
  · rw [cmp_eq h, cmp_eq h.symm]; rfl
  · rw [cmp_gt h, cmp_lt h]
theorem cmp_small (x y : Nat) : -1 ≤ cmpN x y ∧ cmpN x y ≤ 1 := by
  unfold cmpN; split
  · omega
  · split <;> omega

/-- the first of two that is not 0 -/
def orN (p q : Int) : Int := if p = 0 then q else p
/-- by the halves of 64 bits -/
theorem cmp_halves (x y : Nat) : orN (cmpN (x / 18446744073709551616) (y / 18446744073709551616)) (cmpN (x % 18446744073709551616) (y % 18446744073709551616)) = cmpN x y := by
  unfold orN
  rcases Nat.lt_trichotomy (x / 18446744073709551616) (y / 18446744073709551616) with h | h | h
  · rw [cmp_lt h, cmp_lt (x := x) (y := y) (by omega)]; rfl
  · rw [cmp_eq h, if_pos rfl]
    rcases Nat.lt_trichotomy (x % 18446744073709551616) (y % 18446744073709551616) with g | g | g
    · rw [cmp_lt g, cmp_lt (by omega)]
    · rw [cmp_eq g, cmp_eq (by omega)]
    · rw [cmp_gt g, cmp_gt (by omega)]
  · rw [cmp_gt h, cmp_gt (x := x) (y := y) (by omega)]; rfl

theorem whole_lt {a b c d : Nat} (hb : 0 < b) (hd : 0 < d) (h : a / b < c / d) : a * d < c * b := by
  have h1 : a < b * (a / b + 1) := by have := Nat.div_add_mod a b; have := Nat.mod_lt a hb; rw [Nat.mul_add]; omega
  have h2 : b * (a / b + 1) ≤ b * (c / d) := Nat.mul_le_mul_left _ h
  have h3 : a * d < b * (c / d) * d := Nat.mul_lt_mul_of_pos_right (Nat.lt_of_lt_of_le h1 h2) hd
  have h4 : b * (c / d) * d ≤ c * b := by
    rw [Nat.mul_assoc, Nat.mul_comm c b]; exact Nat.mul_le_mul_left _ (Nat.div_mul_le_self c d)
  omega
theorem whole_eq {a b c d : Nat} (h : a / b = c / d) : cmpN (a * d) (c * b) = cmpN (a % b * d) (c % d * b) := by
  have h1 : a * d = b * d * (a / b) + a % b * d := by
    conv => lhs; rw [← Nat.div_add_mod a b]
    rw [Nat.add_mul]; congr 1; rw [Nat.mul_right_comm]
  have h2 : c * b = b * d * (a / b) + c % d * b := by
    conv => lhs; rw [← Nat.div_add_mod c d]
    rw [Nat.add_mul, h]; congr 1; rw [Nat.mul_right_comm, Nat.mul_comm d b]
  rw [h1, h2, cmp_add]
end Go.Proofs.Ythplmgjnlhcapaa.RatM
