/- Plain arithmetic of chapter 3: quotients and what is left, rounded. -/
import Derived.Test.YthplmgjnlhcapaaProg
namespace Go.Proofs.Ythplmgjnlhcapaa.FixM

/-- a quotient rounded down, and what is left, by Go's own division -/
theorem floor_of (a b : Int) (hb : 1 ≤ b) :
    (a.tmod b < 0 → a.tdiv b - 1 = a / b ∧ a.tmod b + b = a % b) ∧ (¬ a.tmod b < 0 → a.tdiv b = a / b ∧ a.tmod b = a % b) := by
  have h1 : b * a.tdiv b + a.tmod b = a := Int.mul_tdiv_add_tmod a b
  have h2 : a.tmod b < b := Int.tmod_lt_of_pos a (by omega)
  have h3 : -b < a.tmod b := by
    have := Int.tmod_lt_of_pos (-a) (b := b) (by omega)
    rw [Int.neg_tmod] at this; omega
  constructor
  · intro h
    have := (Int.ediv_emod_unique (a := a) (b := b) (q := a.tdiv b - 1) (r := a.tmod b + b) (by omega)).2 ⟨by rw [Int.mul_sub]; omega, by omega, by omega⟩
    omega
  · intro h
    have := (Int.ediv_emod_unique (a := a) (b := b) (q := a.tdiv b) (r := a.tmod b) (by omega)).2 ⟨by omega, by omega, by omega⟩
    omega

/-- is the quotient one more? -/
def upB (left by' mode : Int) : Bool := decide ((mode = 1 ∧ 0 < left) ∨ (mode = 2 ∧ by' - left ≤ left))
def roundR (down left by' mode : Int) : Int := if upB left by' mode = true then down + 1 else down
theorem round_up {down left by' mode : Int} (h : (mode = 1 ∧ 0 < left) ∨ (mode = 2 ∧ by' - left ≤ left)) : roundR down left by' mode = down + 1 := by
  unfold roundR upB; rw [if_pos (by rw [decide_eq_true_iff]; exact h)]
theorem round_no {down left by' mode : Int} (h : ¬ ((mode = 1 ∧ 0 < left) ∨ (mode = 2 ∧ by' - left ≤ left))) : roundR down left by' mode = down := by
  unfold roundR upB; rw [if_neg (by rw [decide_eq_true_iff]; exact h)]
theorem up_pos {left by' mode : Int} (hb : 1 ≤ by') (h : upB left by' mode = true) : 0 < left := by
  unfold upB at h; rw [decide_eq_true_iff] at h; omega

theorem le_mul_one {b x : Int} (hb : 1 ≤ b) (hx : 0 ≤ x) : x ≤ b * x := by
  have := Int.mul_le_mul_of_nonneg_right hb hx; omega
theorem mul_le_neg {b x : Int} (hb : 1 ≤ b) (hx : x ≤ 0) : b * x ≤ x := by
  have := Int.mul_le_mul_of_nonpos_right hb hx; omega

theorem quot_bounds (a b M : Int) (hb : 1 ≤ b) (hM : 0 ≤ M) (h1 : -M ≤ a) (h2 : a ≤ M) : -M ≤ a / b ∧ a / b ≤ M ∧ (0 < a % b → a / b + 1 ≤ M) := by
  have e := Int.mul_ediv_add_emod a b
  have r0 := Int.emod_nonneg a (b := b) (by omega)
  have r1 := Int.emod_lt_of_pos a (b := b) (by omega)
  generalize a / b = q at *
  generalize a % b = r at *
  refine ⟨?_, ?_, ?_⟩
  · rcases (by omega : q < -M ∨ -M ≤ q) with h | h
    · have := mul_le_neg (x := q + 1) hb (by omega)
      rw [Int.mul_add] at this; omega
    · exact h
  · rcases (by omega : M < q ∨ q ≤ M) with h | h
    · have := le_mul_one (x := q) hb (by omega); omega
    · exact h
  · intro hr
    rcases (by omega : M < q + 1 ∨ q + 1 ≤ M) with h | h
    · have := le_mul_one (x := q) hb (by omega); omega
    · exact h

def partsQ (a b mode : Int) : Int := roundR (a / b) (a % b) b mode
theorem parts_bounds (a b mode : Int) (hb : 1 ≤ b) (h1 : -1000000000000000 ≤ a) (h2 : a ≤ 1000000000000000) : -1000000000000000 ≤ partsQ a b mode ∧ partsQ a b mode ≤ 1000000000000000 := by
  have := quot_bounds a b 1000000000000000 hb (by omega) h1 h2
  unfold partsQ roundR
  split
  · rename_i h; have := up_pos hb h; omega
  · omega
end Go.Proofs.Ythplmgjnlhcapaa.FixM
