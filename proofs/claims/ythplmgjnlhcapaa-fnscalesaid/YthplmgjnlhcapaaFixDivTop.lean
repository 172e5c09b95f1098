/- What math/bits.Div64 answers at this program, of every divisor up to Most and every number whose high word is below it. -/
import Derived.Test.YthplmgjnlhcapaaFixDiv
import Derived.Test.YthplmgjnlhcapaaFixMul
import Derived.Laws.Bits64b
namespace Go.Proofs.Ythplmgjnlhcapaa.FixD
open Go.RowKit DivM

theorem shift_bounds (y : Nat) (h1 : 1 ≤ y) (h2 : y ≤ 1000000000000000) : 1 ≤ bitLen y ∧ bitLen y ≤ 50 ∧ 2 ^ (bitLen y - 1) ≤ y ∧ y < 2 ^ bitLen y := by
  have hs := bitLen_spec y
  have hl := hs.2 (by omega)
  have h0 : 1 ≤ bitLen y := by
    rcases Nat.eq_zero_or_pos (bitLen y) with h | h
    · have := hs.1; rw [h] at this; simp at this; omega
    · exact h
  refine ⟨h0, ?_, hl, hs.1⟩
  rcases Nat.lt_or_ge 50 (bitLen y) with h | h
  · have : (2 : Nat) ^ 50 ≤ 2 ^ (bitLen y - 1) := Nat.pow_le_pow_right (by omega) (by omega)
    have e : (2 : Nat) ^ 50 = 1125899906842624 := by decide
    omega
  · exact h

set_option maxRecDepth 10000 in
theorem div_big (hi lo y : Nat) (w : World) (h1 : 1 ≤ hi) (h2 : hi < y) (h3 : y ≤ 1000000000000000) (h4 : lo < 18446744073709551616) :
    Calls Try.prog 81 #[.int .u64 hi, .int .u64 lo, .int .u64 y] w fun e w' =>
      e = .returned (.tuple #[.int .u64 (((hi * 18446744073709551616 + lo) / y : Nat) : Int), .int .u64 (((hi * 18446744073709551616 + lo) % y : Nat) : Int)]) ∧ w' = w := by
  obtain ⟨l1, l2, l3, l4⟩ := shift_bounds y (by omega) h3
  obtain ⟨s, hs⟩ : ∃ s, 64 - bitLen y = s := ⟨_, rfl⟩
  obtain ⟨P, hP⟩ : ∃ P, 2 ^ s = P := ⟨_, rfl⟩
  obtain ⟨T, hT⟩ : ∃ T, 2 ^ (64 - s) = T := ⟨_, rfl⟩
  have hPT : T * P = 18446744073709551616 := by
    rw [← hP, ← hT, ← Nat.pow_add, show 64 - s + s = 64 by omega]
  have hPp : 0 < P := by rw [← hP]; exact Nat.two_pow_pos s
  have hTp : 0 < T := by rw [← hT]; exact Nat.two_pow_pos _
  have hlT : 2 ^ bitLen y = T := by rw [← hT]; congr 1; omega
  obtain ⟨Y, hY⟩ : ∃ Y, y * P = Y := ⟨_, rfl⟩
  have hYlo : 9223372036854775808 ≤ Y := by
    have e : 2 ^ (bitLen y - 1) * P = 9223372036854775808 := by
      rw [← hP, ← Nat.pow_add, show bitLen y - 1 + s = 63 by omega]
    rw [← hY, ← e]; exact Nat.mul_le_mul_right _ l3
  have hYhi : Y < 18446744073709551616 := by
    rw [← hY, ← hPT]; exact Nat.mul_lt_mul_of_pos_right (by rw [← hlT]; exact l4) hPp
  obtain ⟨N, hN⟩ : ∃ N, hi * 18446744073709551616 + lo = N := ⟨_, rfl⟩
  rw [hN]
  obtain ⟨L, hL⟩ : ∃ L, lo / T = L := ⟨_, rfl⟩
  obtain ⟨H, hH⟩ : ∃ H, hi * P = H := ⟨_, rfl⟩
  obtain ⟨V, hV⟩ : ∃ V, lo * P % 18446744073709551616 = V := ⟨_, rfl⟩
  have hsh := shifted (hi := hi) (lo := lo) hPT hPp
  rw [hL, hH, hV, hN] at hsh
  obtain ⟨U, hU⟩ : ∃ U, H + L = U := ⟨_, rfl⟩
  rw [hU] at hsh
  have hVb : V < 18446744073709551616 := by rw [← hV]; exact Nat.mod_lt _ (by omega)
  have hUY : U < Y := by rw [← hY]; exact top_lt hsh hN.symm h4 h2 hPp
  have hLP : L < 2 ^ s := by
    rw [← hL, Nat.div_lt_iff_lt_mul hTp, hP, Nat.mul_comm P T, hPT]; exact h4
  obtain ⟨y1, hy1⟩ : ∃ y1, Y / 4294967296 = y1 := ⟨_, rfl⟩
  obtain ⟨y0, hy0⟩ : ∃ y0, Y % 4294967296 = y0 := ⟨_, rfl⟩
  obtain ⟨v1, hv1⟩ : ∃ v1, V / 4294967296 = v1 := ⟨_, rfl⟩
  obtain ⟨v0, hv0⟩ : ∃ v0, V % 4294967296 = v0 := ⟨_, rfl⟩
  have b1 : 2147483648 ≤ y1 ∧ y1 < 4294967296 := by omega
  have b0 : y0 < 4294967296 := by omega
  have c1 : v1 < 4294967296 := by omega
  have c0 : v0 < 4294967296 := by omega
  have hYd : Y = y1 * 4294967296 + y0 := by omega
  have hmk := digits_make (N := N) (P := P) (Y := Y) (y := y) (U := U) (V := V) hPp (by omega) hY.symm hsh
  rw [hv1, hv0] at hmk
  have hdm := Nat.div_add_mod (U * 4294967296 + v1) Y
  have hRY := Nat.mod_lt (U * 4294967296 + v1) (show 0 < Y by omega)
  have bQ := digit_lt (U := U) (Y := Y) (v := v1) hUY c1
  have gQ := guess_ge (U := U) (Y := Y) (v := v1) hYd (by omega) c1
  have lQ := guess_le (U := U) hYd b0 b1.1 hUY
  obtain ⟨Q, hQ⟩ : ∃ Q, (U * 4294967296 + v1) / Y = Q := ⟨_, rfl⟩
  obtain ⟨R, hR⟩ : ∃ R, (U * 4294967296 + v1) % Y = R := ⟨_, rfl⟩
  rw [hQ, hR] at hdm
  rw [hR] at hRY
  rw [hQ] at bQ gQ
  rw [hQ, hR] at hmk
  have hdm0 := Nat.div_add_mod (R * 4294967296 + v0) Y
  have hSY := Nat.mod_lt (R * 4294967296 + v0) (show 0 < Y by omega)
  have bQ0 := digit_lt (U := R) (Y := Y) (v := v0) hRY c0
  have gQ0 := guess_ge (U := R) (Y := Y) (v := v0) hYd (by omega) c0
  have lQ0 := guess_le (U := R) hYd b0 b1.1 hRY
  obtain ⟨Q0, hQ0⟩ : ∃ Q, (R * 4294967296 + v0) / Y = Q := ⟨_, rfl⟩
  obtain ⟨S, hS⟩ : ∃ x, (R * 4294967296 + v0) % Y = x := ⟨_, rfl⟩
  rw [hQ0, hS] at hdm0
  rw [hS] at hSY
  rw [hQ0] at bQ0 gQ0
  rw [hQ0, hS] at hmk
  have eU := Nat.div_add_mod U y1
  have rU := Nat.mod_lt U (show 0 < y1 by omega)
  have eR := Nat.div_add_mod R y1
  have rR := Nat.mod_lt R (show 0 < y1 by omega)
  obtain ⟨q, hq⟩ : ∃ q, U / y1 = q := ⟨_, rfl⟩
  obtain ⟨r, hr⟩ : ∃ r, U % y1 = r := ⟨_, rfl⟩
  obtain ⟨g, hg⟩ : ∃ q, R / y1 = q := ⟨_, rfl⟩
  obtain ⟨t, ht⟩ : ∃ r, R % y1 = r := ⟨_, rfl⟩
  rw [hq, hr, Nat.mul_comm] at eU
  rw [hr] at rU
  rw [hg, ht, Nat.mul_comm] at eR
  rw [ht] at rR
  rw [hq] at gQ lQ
  rw [hg] at gQ0 lQ0
  obtain ⟨m, hm⟩ : ∃ m, q * y1 = m := ⟨_, rfl⟩
  obtain ⟨n, hn⟩ : ∃ m, g * y1 = m := ⟨_, rfl⟩
  have wrapm : ∀ (a b c : Nat), a * b = c → c < 18446744073709551616 → IntKind.u64.wrap ((a : Int) * (b : Int)) = (c : Int) := by
    intro a b c h hc
    rw [← Int.natCast_mul, h, IntKind.wrap_u64]; omega
  have hor : bits .or .u64 (H : Int) (L : Int) = (U : Int) := by
    rw [bits_or_u64_nat H L (by omega) (by omega), ← hU, ← hH, ← hP, Nat.mul_comm, Nat.two_pow_add_eq_or_of_lt hLP]
  have hr2 : (S : Int) / 2 ^ s = ((N % y : Nat) : Int) := shr_of (by rw [hmk.2, hP]; exact Nat.mul_div_cancel _ hPp)
  have hqq : Q * 4294967296 + Q0 = N / y := hmk.1
  clear hmk hsh
  refine div_core hi lo y s Y y1 y0 H L U V v1 v0 Q q r m R Q0 g t n S (N / y) (N % y) w h1 h2 h3 hs (by omega)
    (wrap_shl (by rw [hP]; exact hY) hYhi) (by omega) (by rw [Mul64.maskN Y hYhi, hy0]) (wrap_shl (by rw [hP]; exact hH) (by omega)) (shr_of (by rw [hT]; exact hL)) hor
    (wrap_shl_mod (by rw [hP]; exact hV)) (by omega) (by rw [Mul64.maskN V hVb, hv0]) b1 b0 hUY hYhi c1 c0 hYd hQ (by rw [← hq, Int.natCast_ediv]) (wrapm q y1 m hm (by omega)) (by omega)
    lQ rU eU gQ (wrap_left hdm (by omega)) hRY hQ0 (by show _ = _; rw [← hg, Int.natCast_ediv]) (wrapm g y1 n hn (by omega)) (by show (R : Int) - (n : Int) = (t : Int); omega)
    lQ0 rR eR gQ0 (wrap_left hdm0 (by omega)) hSY hr2 bQ bQ0 hqq

set_option maxHeartbeats 1000000 in
theorem div_small (lo y : Nat) (w : World) (h2 : 1 ≤ y) (h3 : y ≤ 1000000000000000) (h4 : lo < 18446744073709551616) :
    Calls Try.prog 81 #[.int .u64 0, .int .u64 lo, .int .u64 y] w fun e w' =>
      e = .returned (.tuple #[.int .u64 ((lo / y : Nat) : Int), .int .u64 ((lo % y : Nat) : Int)]) ∧ Below w.heap.size w w' := by
  have hq : (lo : Int) / (y : Int) = ((lo / y : Nat) : Int) := (Int.natCast_ediv lo y).symm
  have hr : (lo : Int) % (y : Int) = ((lo % y : Nat) : Int) := (Int.natCast_emod lo y).symm
  have bq : lo / y ≤ lo := Nat.div_le_self _ _
  have br : lo % y < y := Nat.mod_lt _ (by omega)
  generalize lo / y = q at *
  generalize lo % y = r at *
  have n1 : ((y : Int) == 0) = false := by simp; omega
  have n3 : ¬ (y : Int) = 0 := by omega
  go_enter Try.func81, Try.ntmps81
  go_wp2
  go_quiet (fail)
  go_wp2
  rw [hr]
  go_ret2
  exact ⟨rfl, below_drewN (Below.refl _ _) _⟩

theorem div_any (hi lo y : Nat) (w : World) (h2 : hi < y) (h3 : y ≤ 1000000000000000) (h4 : lo < 18446744073709551616) :
    Calls Try.prog 81 #[.int .u64 hi, .int .u64 lo, .int .u64 y] w fun e w' =>
      e = .returned (.tuple #[.int .u64 (((hi * 18446744073709551616 + lo) / y : Nat) : Int), .int .u64 (((hi * 18446744073709551616 + lo) % y : Nat) : Int)]) ∧ Below w.heap.size w w' := by
  rcases Nat.eq_zero_or_pos hi with h | h
  · subst h; rw [Nat.zero_mul, Nat.zero_add]; exact div_small lo y w (by omega) h3 h4
  · exact (div_big hi lo y w h h2 h3 h4).mono fun e w' he => ⟨he.1, by rw [he.2]; exact Below.refl _ _⟩
end Go.Proofs.Ythplmgjnlhcapaa.FixD
