/- Plain mathematics of a number's bytes: the fold to a number from 0 on, seven bits a byte. Nothing of the program is imported here. -/
namespace Go.Proofs.YtjbefbknacnfgaaDoor.NumM

def foldN (n : Int) : Nat := if n < 0 then (-2 * n - 1).toNat else (2 * n).toNat
def putF : Nat → Nat → List UInt8
  | 0, u => [UInt8.ofNat u]
  | f + 1, u => if u < 128 then [UInt8.ofNat u] else UInt8.ofNat (u % 128 + 128) :: putF f (u / 128)
def putL (n : Int) : List UInt8 := putF 9 (foldN n)

theorem foldN_lt (n : Int) (h1 : -9223372036854775808 ≤ n) (h2 : n ≤ 9223372036854775807) : foldN n < 18446744073709551616 := by
  unfold foldN; split <;> omega
theorem putF_small (f u : Nat) (h : u < 128) : putF f u = [UInt8.ofNat u] := by
  cases f with
  | zero => rfl
  | succ f => unfold putF; rw [if_pos h]
theorem putF_more (f u : Nat) (h : ¬ u < 128) : putF (f + 1) u = UInt8.ofNat (u % 128 + 128) :: putF f (u / 128) := by
  rw [putF, if_neg h]
theorem putF_length (f : Nat) : ∀ u, (putF f u).length ≤ f + 1 := by
  induction f with
  | zero => intro u; simp [putF]
  | succ f ih =>
    intro u
    by_cases h : u < 128
    · rw [putF_small _ _ h]; simp
    · rw [putF_more _ _ h]; have := ih (u / 128); simp; omega
theorem putL_length (n : Int) : (putL n).length ≤ 10 := putF_length 9 _
/-- what has been laid so far, and what is left -/
def At (n : Int) (l : List UInt8) (u : Nat) : Prop := ∃ f, l.length + f = 9 ∧ u < 128 * 128 ^ f ∧ putL n = l ++ putF f u
theorem at_start (n : Int) (h1 : -9223372036854775808 ≤ n) (h2 : n ≤ 9223372036854775807) : At n [] (foldN n) :=
  ⟨9, rfl, by have := foldN_lt n h1 h2; omega, rfl⟩
theorem at_more (n : Int) (l : List UInt8) (u : Nat) (h : At n l u) (hu : ¬ u < 128) : At n (l ++ [UInt8.ofNat (u % 128 + 128)]) (u / 128) := by
  obtain ⟨f, h1, h2, h3⟩ := h
  cases f with
  | zero => omega
  | succ f =>
    refine ⟨f, by simp; omega, ?_, by rw [h3, putF_more f u hu]; simp⟩
    rw [Nat.pow_succ] at h2
    apply Nat.div_lt_of_lt_mul
    rw [Nat.mul_comm 128 (128 ^ f)] at *
    omega
theorem at_end (n : Int) (l : List UInt8) (u : Nat) (h : At n l u) (hu : u < 128) : putL n = l ++ [UInt8.ofNat u] := by
  obtain ⟨f, _, _, h3⟩ := h
  rw [h3, putF_small f u hu]
theorem at_len (n : Int) (l : List UInt8) (u : Nat) (h : At n l u) : l.length ≤ 9 := by
  obtain ⟨f, h1, _, _⟩ := h; omega
end Go.Proofs.YtjbefbknacnfgaaDoor.NumM
