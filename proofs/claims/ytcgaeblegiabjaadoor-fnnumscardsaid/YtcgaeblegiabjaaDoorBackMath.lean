/- Plain mathematics of promise 1: a number comes back from its bytes, with the place behind it; of bytes that end too early nothing is got. Nothing of the program is imported here. -/
import Derived.Test.YtcgaeblegiabjaaDoorGetMath
namespace Go.Proofs.YtcgaeblegiabjaaDoor.BackM
open NumM GetM

theorem back_fold (n : Int) : backN (foldN n) = n := by
  unfold backN foldN
  by_cases h : n < 0
  · rw [if_pos h, if_pos (by omega)]; omega
  · rw [if_neg h, if_neg (by omega)]; omega
theorem byte_of (x : Nat) (h : x < 256) : (UInt8.ofNat x).toNat = x := by simp; omega
theorem pow_pos (i : Nat) : 0 < 128 ^ i := Nat.pow_pos (by omega)
theorem get_put (f : Nat) : ∀ (i u acc : Nat) (rest : List UInt8), f + i = 9 → u < 128 * 128 ^ f → (0 < i → 0 < u) → acc + u * 128 ^ i < 18446744073709551616 →
    getF (10 - i) (putF f u ++ rest) i acc = (backN (acc + u * 128 ^ i), i + (putF f u).length, 0) := by
  induction f with
  | zero =>
    intro i u acc rest hi hu h0 hs
    have hi9 : i = 9 := by omega
    subst hi9
    have hu1 : u ≤ 1 := by
      rcases Nat.lt_or_ge u 2 with h | h
      · omega
      · have : 2 * 128 ^ 9 ≤ u * 128 ^ 9 := Nat.mul_le_mul_right _ h
        have e : (2 : Nat) * 128 ^ 9 = 18446744073709551616 := by decide
        omega
    have hb := byte_of u (by omega)
    show getF (0 + 1) (UInt8.ofNat u :: rest) 9 acc = _
    rw [getF, hb, if_neg (by omega), if_pos (by omega), if_neg (by omega)]
    have hm : u % 128 = u := by omega
    rw [hm]; rfl
  | succ f ih =>
    intro i u acc rest hi hu h0 hs
    have hk : 10 - i = (9 - i) + 1 := by omega
    by_cases h : u < 128
    · rw [putF_small _ _ h, hk]
      have hb := byte_of u (by omega)
      show getF (9 - i + 1) (UInt8.ofNat u :: rest) i acc = _
      rw [getF, hb, if_neg (by omega), if_pos h, if_neg (by omega)]
      have hm : u % 128 = u := by omega
      rw [hm]; rfl
    · rw [putF_more _ _ h, hk]
      have hb := byte_of (u % 128 + 128) (by omega)
      show getF (9 - i + 1) (UInt8.ofNat (u % 128 + 128) :: (putF f (u / 128) ++ rest)) i acc = _
      rw [getF, hb, if_neg (by omega), if_neg (by omega)]
      have hm : (u % 128 + 128) % 128 = u % 128 := by omega
      have he : 9 - i = 10 - (i + 1) := by omega
      have hsum : acc + u % 128 * 128 ^ i + u / 128 * 128 ^ (i + 1) = acc + u * 128 ^ i := by
        have e1 : u / 128 * 128 ^ (i + 1) = u / 128 * 128 * 128 ^ i := by rw [Nat.pow_succ, Nat.mul_comm (128 ^ i) 128, Nat.mul_assoc]
        have e2 : u % 128 * 128 ^ i + u / 128 * 128 * 128 ^ i = (u % 128 + u / 128 * 128) * 128 ^ i := by rw [Nat.add_mul]
        have e3 : u % 128 + u / 128 * 128 = u := by omega
        rw [e1, Nat.add_assoc, e2, e3]
      rw [hm, he, ih (i + 1) (u / 128) (acc + u % 128 * 128 ^ i) rest (by omega) ?_ (by omega) (by rw [hsum]; exact hs), hsum]
      · simp; omega
      · rw [Nat.pow_succ] at hu
        apply Nat.div_lt_of_lt_mul
        rw [Nat.mul_comm 128 (128 ^ f)] at *
        omega
theorem get_cut (f : Nat) : ∀ (i u acc : Nat), f + i = 9 → u < 128 * 128 ^ f → getF (10 - i) (putF f u).dropLast i acc = (0, 0, 4) := by
  induction f with
  | zero => intro i u acc hi hu; rw [putF_small 0 u (by omega), show 10 - i = (9 - i) + 1 by omega]; rfl
  | succ f ih =>
    intro i u acc hi hu
    have hk : 10 - i = (9 - i) + 1 := by omega
    by_cases h : u < 128
    · rw [putF_small _ _ h, hk]; rfl
    · have hne : putF f (u / 128) ≠ [] := by
        intro e
        by_cases h2 : u / 128 < 128
        · rw [putF_small _ _ h2] at e; cases e
        · cases f with
          | zero => rw [Nat.pow_succ] at hu; omega
          | succ f => rw [putF_more _ _ h2] at e; cases e
      rw [putF_more _ _ h, hk, List.dropLast_cons_of_ne_nil hne]
      have hb := byte_of (u % 128 + 128) (by omega)
      rw [getF, hb, if_neg (by omega), if_neg (by omega), show 9 - i = 10 - (i + 1) by omega]
      refine ih (i + 1) (u / 128) _ (by omega) ?_
      rw [Nat.pow_succ] at hu
      apply Nat.div_lt_of_lt_mul
      rw [Nat.mul_comm 128 (128 ^ f)] at *
      omega

theorem put_back (n : Int) (h1 : -9223372036854775808 ≤ n) (h2 : n ≤ 9223372036854775807) (rest : List UInt8) : getN (putL n ++ rest) = (n, (putL n).length, 0) := by
  have hf := foldN_lt n h1 h2
  have := get_put 9 0 (foldN n) 0 rest (by omega) (by omega) (by omega) (by omega)
  unfold getN putL
  rw [Nat.zero_add, Nat.pow_zero, Nat.mul_one, Nat.zero_add, back_fold] at this
  exact this
theorem put_cut (n : Int) (h1 : -9223372036854775808 ≤ n) (h2 : n ≤ 9223372036854775807) : getN (putL n).dropLast = (0, 0, 4) := by
  have hf := foldN_lt n h1 h2
  exact get_cut 9 0 (foldN n) 0 (by omega) (by omega)
theorem putL_pos (n : Int) : 1 ≤ (putL n).length := by
  unfold putL
  by_cases h : foldN n < 128
  · rw [putF_small _ _ h]; simp
  · rw [putF_more _ _ h]; simp
/-- behind some bytes ahead -/
theorem read_back (pre rest : List UInt8) (n : Int) (h1 : -9223372036854775808 ≤ n) (h2 : n ≤ 9223372036854775807) (hl : pre.length + (putL n).length + rest.length ≤ 8000) :
    readR (pre ++ (putL n ++ rest)) (pre.length : Int) = (n, (pre.length : Int) + (putL n).length, 0) := by
  have hd : (pre ++ (putL n ++ rest)).drop pre.length = putL n ++ rest := List.drop_left
  have hg := put_back n h1 h2 rest
  have := read_ok (pre ++ (putL n ++ rest)) pre.length (by simp; omega) (by simp) (by rw [hd, hg])
  rw [hd, hg] at this; exact this
theorem read_cut (n : Int) (h1 : -9223372036854775808 ≤ n) (h2 : n ≤ 9223372036854775807) : readR (putL n).dropLast 0 = (0, 0, 4) := by
  have hg := put_cut n h1 h2
  have hl := putL_length n
  have := read_bad (putL n).dropLast 0 (by simp; omega) (by omega) (by rw [List.drop_zero, hg]; decide)
  rw [List.drop_zero, hg] at this; exact this
end Go.Proofs.YtcgaeblegiabjaaDoor.BackM
