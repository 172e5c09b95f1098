/- Plain mathematics of reading a number's bytes: what is told (the number, how many bytes it has, the code). Nothing of the program is imported here. -/
import Derived.Test.YtcgaeblegiabjaaDoorNumMath
namespace Go.Proofs.YtcgaeblegiabjaaDoor.GetM
open NumM

/-- the number that was folded -/
def backN (u : Nat) : Int := if u % 2 = 1 then -((u / 2 : Nat) : Int) - 1 else ((u / 2 : Nat) : Int)
/-- with fuel f, at the i-th byte, u reckoned so far -/
def getF : Nat → List UInt8 → Nat → Nat → Int × Nat × Int
  | 0, _, _, _ => (0, 0, 3)
  | _ + 1, [], _, _ => (0, 0, 4)
  | f + 1, c :: r, i, u =>
    if i = 9 ∧ 1 < c.toNat then (0, 0, 3)
    else if c.toNat < 128 then (if c.toNat = 0 ∧ 0 < i then (0, 0, 3) else (backN (u + c.toNat % 128 * 128 ^ i), i + 1, 0))
    else getF f r (i + 1) (u + c.toNat % 128 * 128 ^ i)
def getN (l : List UInt8) : Int × Nat × Int := getF 10 l 0 0

/-- at the i-th byte of l, with u so far -/
def At (l : List UInt8) (i u : Nat) : Prop := i ≤ 9 ∧ i ≤ l.length ∧ u < 128 ^ i ∧ getN l = getF (10 - i) (l.drop i) i u
theorem at_start (l : List UInt8) : At l 0 0 := ⟨by omega, by omega, by omega, rfl⟩
theorem at_short (l : List UInt8) (i u : Nat) (h : At l i u) (hi : l.length ≤ i) : getN l = (0, 0, 4) := by
  obtain ⟨h1, _, _, h4⟩ := h
  rw [h4, List.drop_eq_nil_of_le hi, show 10 - i = (9 - i) + 1 by omega]; rfl
theorem drop_cons (l : List UInt8) (i : Nat) (h : i < l.length) : l.drop i = l[i] :: l.drop (i + 1) := List.drop_eq_getElem_cons h
theorem at_tenth (l : List UInt8) (u : Nat) (h : At l 9 u) (hi : 9 < l.length) (hc : 1 < l[9].toNat) : getN l = (0, 0, 3) := by
  obtain ⟨_, _, _, h4⟩ := h
  rw [h4, drop_cons l 9 hi, show 10 - 9 = 0 + 1 by omega, getF, if_pos ⟨rfl, hc⟩]
theorem pow_le (i : Nat) (h : i ≤ 9) : 128 ^ i ≤ 9223372036854775808 := by
  have h2 : 128 ^ i ≤ 128 ^ 9 := Nat.pow_le_pow_right (by omega) h
  have e : (128 : Nat) ^ 9 = 9223372036854775808 := by decide
  rw [e] at h2; exact h2
theorem at_next_lt (i u c : Nat) (hu : u < 128 ^ i) : u + c % 128 * 128 ^ i < 128 ^ (i + 1) := by
  have hc : c % 128 ≤ 127 := by omega
  have : c % 128 * 128 ^ i ≤ 127 * 128 ^ i := Nat.mul_le_mul_right _ hc
  rw [Nat.pow_succ]; omega
theorem at_more (l : List UInt8) (i u : Nat) (h : At l i u) (hi : i < l.length) (h9 : i < 9) (hc : ¬ l[i].toNat < 128) : At l (i + 1) (u + l[i].toNat % 128 * 128 ^ i) := by
  obtain ⟨h1, h2, h3, h4⟩ := h
  refine ⟨by omega, by omega, at_next_lt i u _ h3, ?_⟩
  rw [h4, drop_cons l i hi, show 10 - i = (9 - i) + 1 by omega, getF, if_neg (by omega), if_neg hc, show 10 - (i + 1) = 9 - i by omega]
theorem at_nought (l : List UInt8) (i u : Nat) (h : At l i u) (hi : i < l.length) (hc : l[i].toNat = 0) (h0 : 0 < i) : getN l = (0, 0, 3) := by
  obtain ⟨h1, h2, h3, h4⟩ := h
  rw [h4, drop_cons l i hi, show 10 - i = (9 - i) + 1 by omega, getF, if_neg (by omega), if_pos (by omega), if_pos ⟨hc, h0⟩]
theorem at_done (l : List UInt8) (i u : Nat) (h : At l i u) (hi : i < l.length) (h9 : ¬ (i = 9 ∧ 1 < l[i].toNat)) (hc : l[i].toNat < 128) (hn : ¬ (l[i].toNat = 0 ∧ 0 < i)) :
    getN l = (backN (u + l[i].toNat % 128 * 128 ^ i), i + 1, 0) := by
  obtain ⟨h1, h2, h3, h4⟩ := h
  rw [h4, drop_cons l i hi, show 10 - i = (9 - i) + 1 by omega, getF, if_neg h9, if_pos hc, if_neg hn]
theorem at_sum_lt (i u c : Nat) (h : i ≤ 9) (hu : u < 128 ^ i) (h9 : ¬ (i = 9 ∧ 1 < c)) : u + c % 128 * 128 ^ i < 18446744073709551616 := by
  by_cases hi : i = 9
  · have hc : c % 128 ≤ 1 := by omega
    have : c % 128 * 128 ^ i ≤ 1 * 128 ^ i := Nat.mul_le_mul_right _ hc
    have := pow_le i h
    omega
  · have := at_next_lt i u c hu
    have := pow_le (i + 1) (by omega)
    omega
theorem getF_len (f : Nat) : ∀ l i u, (getF f l i u).2.1 ≤ i + l.length := by
  induction f with
  | zero => intro l i u; simp [getF]
  | succ f ih =>
    intro l i u
    cases l with
    | nil => simp [getF]
    | cons c r =>
      rw [getF]
      split
      · simp
      · split
        · split
          · simp
          · simp
        · have := ih r (i + 1) (u + c.toNat % 128 * 128 ^ i); simp; omega
theorem getN_len (l : List UInt8) : (getN l).2.1 ≤ l.length := by
  have := getF_len 10 l 0 0; unfold getN; omega

/-- what is told of a number at a place of a text: the number, the place behind it, the code -/
def readR (l : List UInt8) (n : Int) : Int × Int × Int :=
  if 8000 < l.length then (0, 0, 2) else if n < 0 then (0, 0, 1) else if (l.length : Int) < n then (0, 0, 4)
  else if (getN (l.drop n.toNat)).2.2 = 0 then ((getN (l.drop n.toNat)).1, n + ((getN (l.drop n.toNat)).2.1 : Int), 0) else (0, 0, (getN (l.drop n.toNat)).2.2)
theorem read_size (l : List UInt8) (n : Int) (h : 8000 < l.length) : readR l n = (0, 0, 2) := by unfold readR; rw [if_pos h]
theorem read_form (l : List UInt8) (n : Int) (h : ¬ 8000 < l.length) (h1 : n < 0) : readR l n = (0, 0, 1) := by unfold readR; rw [if_neg h, if_pos h1]
theorem read_past (l : List UInt8) (n : Int) (h : ¬ 8000 < l.length) (h1 : ¬ n < 0) (h2 : (l.length : Int) < n) : readR l n = (0, 0, 4) := by unfold readR; rw [if_neg h, if_neg h1, if_pos h2]
theorem read_ok (l : List UInt8) (n : Nat) (h : ¬ 8000 < l.length) (h2 : n ≤ l.length) (h3 : (getN (l.drop n)).2.2 = 0) : readR l n = ((getN (l.drop n)).1, n + ((getN (l.drop n)).2.1 : Int), 0) := by
  unfold readR; rw [if_neg h, if_neg (by omega), if_neg (by omega), Int.toNat_natCast, if_pos h3]
theorem read_bad (l : List UInt8) (n : Nat) (h : ¬ 8000 < l.length) (h2 : n ≤ l.length) (h3 : ¬ (getN (l.drop n)).2.2 = 0) : readR l n = (0, 0, (getN (l.drop n)).2.2) := by
  unfold readR; rw [if_neg h, if_neg (by omega), if_neg (by omega), Int.toNat_natCast, if_neg h3]
end Go.Proofs.YtcgaeblegiabjaaDoor.GetM
