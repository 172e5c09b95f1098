/- The school's long division of two digits of 32 bits, as math/bits.Div64 does it: the guess of a digit, and what the digits make. -/
import Derived.Test.YthplmgjnlhcapaaProg
import Derived.Laws.Bits64
namespace Go.Proofs.Ythplmgjnlhcapaa.DivM

section
variable {Y y1 y0 U v q r : Nat}

theorem split_q (hY : Y = y1 * 4294967296 + y0) (h : q * y1 + r = U) : q * Y + 4294967296 * r = U * 4294967296 + q * y0 := by
  subst hY; subst h
  rw [Nat.mul_add, Nat.add_mul, ← Nat.mul_assoc, Nat.mul_comm r]; omega
theorem digit_lt (hU : U < Y) (hv : v < 4294967296) : (U * 4294967296 + v) / Y < 4294967296 := by
  rw [Nat.div_lt_iff_lt_mul (by omega)]
  have : (U + 1) * 4294967296 ≤ Y * 4294967296 := Nat.mul_le_mul_right _ hU
  rw [Nat.mul_comm 4294967296 Y]; omega
theorem guess_ge (hY : Y = y1 * 4294967296 + y0) (hy1 : 0 < y1) (hv : v < 4294967296) : (U * 4294967296 + v) / Y ≤ U / y1 := by
  rw [Nat.le_div_iff_mul_le hy1]
  have h1 : (U * 4294967296 + v) / Y * Y ≤ U * 4294967296 + v := Nat.div_mul_le_self _ _
  generalize (U * 4294967296 + v) / Y = Q at *
  rw [hY, Nat.mul_add, ← Nat.mul_assoc] at h1
  have : Q * y1 * 4294967296 < (U + 1) * 4294967296 := by omega
  have := Nat.lt_of_mul_lt_mul_right this
  omega
theorem guess_le (hY : Y = y1 * 4294967296 + y0) (h0 : y0 < 4294967296) (hy1 : 2147483648 ≤ y1) (hU : U < Y) : U / y1 ≤ 4294967297 := by
  rw [Nat.div_le_iff_le_mul (by omega)]
  have : 4294967297 * y1 = 4294967296 * y1 + y1 := by omega
  omega
theorem less_of_test (hY : Y = y1 * 4294967296 + y0) (hp : 0 < Y) (h : q * y1 + r = U) (ht : 4294967296 * r + v < q * y0) : (U * 4294967296 + v) / Y < q := by
  rw [Nat.div_lt_iff_lt_mul hp]
  have := split_q hY h; omega
theorem is_digit (hY : Y = y1 * 4294967296 + y0) (hp : 0 < Y) (h : q * y1 + r = U) (ht : q * y0 ≤ 4294967296 * r + v) (hq : (U * 4294967296 + v) / Y ≤ q) : (U * 4294967296 + v) / Y = q := by
  have : q ≤ (U * 4294967296 + v) / Y := by
    rw [Nat.le_div_iff_mul_le hp]
    have := split_q hY h; omega
  omega
theorem is_digit_broke (hY : Y = y1 * 4294967296 + y0) (hp : 0 < Y) (h0 : y0 < 4294967296) (h : q * y1 + r = U) (hr : 4294967296 ≤ r) (hqb : q ≤ 4294967296) (hq : (U * 4294967296 + v) / Y ≤ q) : (U * 4294967296 + v) / Y = q := by
  refine is_digit hY hp h ?_ hq
  have h1 : q * y0 ≤ 4294967296 * y0 := Nat.mul_le_mul_right _ hqb
  have h2 : 4294967296 * y0 ≤ 4294967296 * r := Nat.mul_le_mul_left _ (by omega)
  omega
end

theorem comb (a b R0 R1 U V : Nat) (e1 : a + R1 = U * 4294967296 + V / 4294967296) (e0 : b + R0 = R1 * 4294967296 + V % 4294967296) : a * 4294967296 + b + R0 = U * 18446744073709551616 + V := by
  omega
/-- both digits make the quotient, and what is left -/
theorem digits_make {N P Y y U V : Nat} (hP : 0 < P) (hy : 0 < y) (hY : Y = y * P) (hN : U * 18446744073709551616 + V = N * P) :
    (U * 4294967296 + V / 4294967296) / Y * 4294967296 + ((U * 4294967296 + V / 4294967296) % Y * 4294967296 + V % 4294967296) / Y = N / y ∧
    ((U * 4294967296 + V / 4294967296) % Y * 4294967296 + V % 4294967296) % Y = N % y * P := by
  have hYp : 0 < Y := by rw [hY]; exact Nat.mul_pos hy hP
  have e1 := Nat.div_add_mod (U * 4294967296 + V / 4294967296) Y
  obtain ⟨Q1, hQ1⟩ : ∃ x, (U * 4294967296 + V / 4294967296) / Y = x := ⟨_, rfl⟩
  obtain ⟨R1, hR1⟩ : ∃ x, (U * 4294967296 + V / 4294967296) % Y = x := ⟨_, rfl⟩
  rw [hQ1, hR1] at e1
  rw [hQ1, hR1]
  have e0 := Nat.div_add_mod (R1 * 4294967296 + V % 4294967296) Y
  have hr := Nat.mod_lt (R1 * 4294967296 + V % 4294967296) hYp
  obtain ⟨Q0, hQ0⟩ : ∃ x, (R1 * 4294967296 + V % 4294967296) / Y = x := ⟨_, rfl⟩
  obtain ⟨R0, hR0⟩ : ∃ x, (R1 * 4294967296 + V % 4294967296) % Y = x := ⟨_, rfl⟩
  rw [hQ0, hR0] at e0
  rw [hR0] at hr
  rw [hQ0, hR0]
  clear hQ1 hR1 hQ0 hR0
  have hall : Y * (Q1 * 4294967296 + Q0) + R0 = N * P := by
    rw [Nat.mul_add, ← Nat.mul_assoc, ← hN]
    exact comb _ _ _ _ _ _ e1 e0
  have hu := (Nat.div_mod_unique (a := N * P) (b := Y) (c := R0) (d := Q1 * 4294967296 + Q0) hYp).2 ⟨by omega, hr⟩
  rw [hY, Nat.mul_div_mul_right _ _ hP, Nat.mul_mod_mul_right] at hu
  exact ⟨hu.1.symm, hu.2.symm⟩
theorem dec_eq {Q x y1 z U : Nat} (h : Q < x) (hx : x * y1 + z = U) : (x - 1) * y1 + (z + y1) = U := by
  obtain ⟨k, rfl⟩ : ∃ k, x = k + 1 := ⟨x - 1, by omega⟩
  rw [Nat.add_mul, Nat.one_mul] at hx
  rw [Nat.add_sub_cancel]; omega
theorem wrap_prod {x y a : Nat} (h : x * y = a) (hx : (x : Int) < 4294967296) (hy : (y : Int) < 4294967296) : IntKind.u64.wrap ((x : Int) * (y : Int)) = (a : Int) := by
  have h1 : x * y ≤ 4294967295 * 4294967295 := Nat.mul_le_mul (by omega) (by omega)
  have e : (x : Int) * (y : Int) = (a : Int) := by rw [← h]; simp
  rw [e, IntKind.wrap_u64]; omega
/-- what is left, by words of 64 bits that run over -/
theorem wrap_left {U v Q Y R : Nat} (h : Y * Q + R = U * 4294967296 + v) (hR : R < 18446744073709551616) :
    IntKind.u64.wrap (IntKind.u64.wrap (IntKind.u64.wrap ((U : Int) * 4294967296) + (v : Int)) - IntKind.u64.wrap ((Q : Int) * (Y : Int))) = (R : Int) := by
  have e : (Q : Int) * (Y : Int) = ((Y * Q : Nat) : Int) := by rw [Int.natCast_mul, Int.mul_comm]
  rw [e]
  generalize Y * Q = X at *
  simp only [IntKind.wrap_u64]
  omega
theorem cast_pow (s : Nat) : ((2 ^ s : Nat) : Int) = (2 : Int) ^ s := by rw [Int.natCast_pow]; rfl
theorem wrap_shl {y s Y : Nat} (h : y * 2 ^ s = Y) (hb : Y < 18446744073709551616) : IntKind.u64.wrap ((y : Int) * 2 ^ s) = (Y : Int) := by
  rw [← cast_pow, ← Int.natCast_mul, h, IntKind.wrap_u64]; omega
theorem wrap_shl_mod {y s V : Nat} (h : y * 2 ^ s % 18446744073709551616 = V) : IntKind.u64.wrap ((y : Int) * 2 ^ s) = (V : Int) := by
  rw [← cast_pow, ← Int.natCast_mul, IntKind.wrap_u64]; omega
theorem shr_of {x k L : Nat} (h : x / 2 ^ k = L) : (x : Int) / 2 ^ k = (L : Int) := by
  rw [← cast_pow, ← h, Int.natCast_ediv]
/-- the shifted number, word by word -/
theorem shifted {hi lo P T : Nat} (hPT : T * P = 18446744073709551616) (hP : 0 < P) : (hi * P + lo / T) * 18446744073709551616 + lo * P % 18446744073709551616 = (hi * 18446744073709551616 + lo) * P := by
  have h1 := Nat.div_add_mod (lo * P) 18446744073709551616
  have h2 : lo * P / 18446744073709551616 = lo / T := by rw [← hPT, Nat.mul_div_mul_right _ _ hP]
  rw [h2] at h1
  have h3 : (hi * 18446744073709551616 + lo) * P = hi * P * 18446744073709551616 + lo * P := by rw [Nat.add_mul, Nat.mul_right_comm]
  rw [h3]
  generalize lo * P % 18446744073709551616 = V at *
  generalize lo * P = X at *
  generalize lo / T = L at *
  generalize hi * P = H at *
  omega
theorem top_lt {hi lo y U V P N : Nat} (hN : U * 18446744073709551616 + V = N * P) (hn : N = hi * 18446744073709551616 + lo) (hlo : lo < 18446744073709551616) (hhi : hi < y) (hP : 0 < P) : U < y * P := by
  have h1 : N < y * 18446744073709551616 := by
    have : (hi + 1) * 18446744073709551616 ≤ y * 18446744073709551616 := Nat.mul_le_mul_right _ hhi
    omega
  have h2 : N * P < y * 18446744073709551616 * P := Nat.mul_lt_mul_of_pos_right h1 hP
  rw [Nat.mul_right_comm] at h2
  have h3 : U * 18446744073709551616 < y * P * 18446744073709551616 := by omega
  exact Nat.lt_of_mul_lt_mul_right h3
end Go.Proofs.Ythplmgjnlhcapaa.DivM
