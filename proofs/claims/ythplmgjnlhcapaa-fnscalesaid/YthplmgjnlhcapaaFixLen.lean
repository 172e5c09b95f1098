/- What math/bits.Len64 and LeadingZeros64 answer at this program: the number of bits; the world stays as it is. -/
import Derived.Test.YthplmgjnlhcapaaProg
import Derived.WalkKit
import Derived.WalkSpells
import Derived.WalkLawsBesides
import Derived.Laws.MathBits
namespace Go.Proofs.Ythplmgjnlhcapaa.FixL
open Go.RowKit

theorem close_len (n p : Nat) (x k : Int) (hp : p = 2 ^ n) (hn : n ≤ 56) (h1 : 1 ≤ k) (h2 : k < 256) (hk : k.toNat = x.toNat / p) :
    wrap64 ((n : Int) + wrap64 ((bitLen k.toNat : Nat) : Int)) = ((bitLen x.toNat : Nat) : Int) := by
  have hl := bitLen_le8 k.toNat (by omega)
  have hs := bitLen_shift x.toNat n (by rw [← hp, ← hk]; omega)
  rw [← hp, ← hk] at hs
  unfold wrap64; omega
theorem close_len0 (x : Int) (h1 : 0 ≤ x) (h2 : x < 256) : wrap64 (wrap64 ((bitLen x.toNat : Nat) : Int)) = ((bitLen x.toNat : Nat) : Int) := by
  have hl := bitLen_le8 x.toNat (by omega)
  unfold wrap64; omega

set_option maxHeartbeats 4000000 in
set_option maxRecDepth 100000 in
theorem len_any (x : Int) (w : World) (h0 : 0 ≤ x) (h1 : x ≤ 18446744073709551615) :
    Calls Try.prog 86 #[.int .u64 x] w fun e w' => e = .returned (.int .i64 (bitLen x.toNat)) ∧ w' = w := by
  go_enter Try.func86, Try.ntmps86
  go_wp2
  all_goals (go_ret; refine ⟨congrArg Ending.returned (congrArg (Value.int IntKind.i64) ?_), rfl⟩; rw [len8tab_get])
  all_goals first
    | exact close_len 56 72057594037927936 x _ (by decide) (by omega) (by omega) (by omega) (by omega)
    | exact close_len 48 281474976710656 x _ (by decide) (by omega) (by omega) (by omega) (by omega)
    | exact close_len 40 1099511627776 x _ (by decide) (by omega) (by omega) (by omega) (by omega)
    | exact close_len 32 4294967296 x _ (by decide) (by omega) (by omega) (by omega) (by omega)
    | exact close_len 24 16777216 x _ (by decide) (by omega) (by omega) (by omega) (by omega)
    | exact close_len 16 65536 x _ (by decide) (by omega) (by omega) (by omega) (by omega)
    | exact close_len 8 256 x _ (by decide) (by omega) (by omega) (by omega) (by omega)
    | exact close_len0 x (by omega) (by omega)

theorem bits_le (x : Int) (h0 : 0 ≤ x) (h1 : x ≤ 18446744073709551615) : bitLen x.toNat ≤ 64 := by
  rcases Nat.lt_or_ge 64 (bitLen x.toNat) with h | h
  · have hs := (bitLen_spec x.toNat).2 (by intro hz; rw [hz] at h; simp [bitLen] at h)
    have : (2 : Nat) ^ 64 ≤ 2 ^ (bitLen x.toNat - 1) := Nat.pow_le_pow_right (by omega) (by omega)
    have e : (2 : Nat) ^ 64 = 18446744073709551616 := by decide
    omega
  · exact h
set_option maxHeartbeats 400000 in
theorem zeros_any (x : Int) (w : World) (h0 : 0 ≤ x) (h1 : x ≤ 18446744073709551615) :
    Calls Try.prog 84 #[.int .u64 x] w fun e w' => e = .returned (.int .i64 ((64 - bitLen x.toNat : Nat) : Int)) ∧ w' = w := by
  have hb := bits_le x h0 h1
  have hc := len_any x
  generalize bitLen x.toNat = k at *
  have he : ((64 - k : Nat) : Int) = 64 - (k : Int) := by omega
  rw [he]
  go_enter Try.func84, Try.ntmps84
  go_wp2_with (first | (go_at_call 86; refine (hc _ h0 h1).mono ?_; rintro e w' ⟨rfl, rfl⟩))
  go_ret
  exact ⟨rfl, rfl⟩
end Go.Proofs.Ythplmgjnlhcapaa.FixL
