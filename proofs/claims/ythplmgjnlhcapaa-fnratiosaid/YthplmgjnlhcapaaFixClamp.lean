/- What Clamp of the program and of the model answers; the world stays as it is. -/
import Derived.Test.YthplmgjnlhcapaaProg
import Derived.WalkKit
import Derived.WalkSpells
import Derived.WalkLawsBesides
namespace Go.Proofs.Ythplmgjnlhcapaa.FixCl
open Go.RowKit

def clampR (n lo hi : Int) : Int := if n < lo then lo else if hi < n then hi else n
theorem clamp_low {n lo hi : Int} (h : n < lo) : clampR n lo hi = lo := by unfold clampR; rw [if_pos h]
theorem clamp_high {n lo hi : Int} (h : ¬ n < lo) (h2 : hi < n) : clampR n lo hi = hi := by unfold clampR; rw [if_neg h, if_pos h2]
theorem clamp_same {n lo hi : Int} (h : ¬ n < lo) (h2 : ¬ hi < n) : clampR n lo hi = n := by unfold clampR; rw [if_neg h, if_neg h2]

theorem spec_clamp (n lo hi : Int) (w : World) :
    Calls Try.prog 39 #[.int .i64 n, .int .i64 lo, .int .i64 hi] w fun e w' => e = .returned (.int .i64 (clampR n lo hi)) ∧ w' = w := by
  by_cases h : n < lo
  · rw [clamp_low h]
    go_enter Try.func39, Try.ntmps39
    go_wp2
    go_ret
    exact ⟨rfl, rfl⟩
  by_cases h2 : hi < n
  · rw [clamp_high h h2]
    go_enter Try.func39, Try.ntmps39
    go_wp2
    go_ret
    exact ⟨rfl, rfl⟩
  · rw [clamp_same h h2]
    go_enter Try.func39, Try.ntmps39
    go_wp2
    go_ret
    exact ⟨rfl, rfl⟩
theorem impl_clamp (n lo hi : Int) (w : World) :
    Calls Try.prog 37 #[.int .i64 n, .int .i64 lo, .int .i64 hi] w fun e w' => e = .returned (.int .i64 (clampR n lo hi)) ∧ w' = w := by
  by_cases h : n < lo
  · rw [clamp_low h]
    go_enter Try.func37, Try.ntmps37
    go_wp2
    go_ret
    exact ⟨rfl, rfl⟩
  by_cases h2 : hi < n
  · rw [clamp_high h h2]
    go_enter Try.func37, Try.ntmps37
    go_wp2
    go_ret
    exact ⟨rfl, rfl⟩
  · rw [clamp_same h h2]
    go_enter Try.func37, Try.ntmps37
    go_wp2
    go_ret
    exact ⟨rfl, rfl⟩
end Go.Proofs.Ythplmgjnlhcapaa.FixCl
