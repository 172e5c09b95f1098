/- What the program's bounds answer: the number itself within its bounds, else a panic with a fault of that code; the world stays as it is. -/
import Derived.Test.YthplmgjnlhcapaaProg
import Derived.WalkKit
import Derived.WalkSpells
import Derived.WalkLawsBesides
namespace Go.Proofs.Ythplmgjnlhcapaa.FixH
open Go.RowKit

/-- the panic that a fault of this code is -/
def ill (c : Int) : List PanicEntry := [{ v := .iface 58 (.agg #[.int .i64 c]), recovered := false }]
/-- a number within its bounds is answered, else a panic -/
def heldE (n lo hi c : Int) : Ending := if lo ≤ n ∧ n ≤ hi then .returned (.int .i64 n) else .panicked (ill c)
theorem held_ok {n lo hi : Int} (c : Int) (h : lo ≤ n ∧ n ≤ hi) : heldE n lo hi c = .returned (.int .i64 n) := by unfold heldE; rw [if_pos h]
theorem held_no {n lo hi : Int} (c : Int) (h : ¬ (lo ≤ n ∧ n ≤ hi)) : heldE n lo hi c = .panicked (ill c) := by unfold heldE; rw [if_neg h]

set_option maxHeartbeats 400000 in
theorem held_in (n lo hi c : Int) (w : World) (h : lo ≤ n ∧ n ≤ hi) :
    Calls Try.prog 72 #[.int .i64 n, .int .i64 lo, .int .i64 hi, .int .i64 c] w fun e w' => e = .returned (.int .i64 n) ∧ w' = w := by
  have h1 : ¬ n < lo := by omega
  have h2 : ¬ hi < n := by omega
  clear h
  go_enter Try.func72, Try.ntmps72
  go_wp2
  go_ret
  exact ⟨rfl, rfl⟩
set_option maxHeartbeats 400000 in
theorem held_out (n lo hi c : Int) (w : World) (h : ¬ (lo ≤ n ∧ n ≤ hi)) :
    Calls Try.prog 72 #[.int .i64 n, .int .i64 lo, .int .i64 hi, .int .i64 c] w fun e w' => e = .panicked (ill c) ∧ w' = w := by
  by_cases h1 : n < lo
  · clear h
    go_enter Try.func72, Try.ntmps72
    go_wp2
    exact ⟨rfl, rfl, rfl⟩
  · have h2 : hi < n := by omega
    clear h
    go_enter Try.func72, Try.ntmps72
    go_wp2
    exact ⟨rfl, rfl, rfl⟩

set_option maxHeartbeats 400000 in
theorem heldU_in (n lo hi : Int) (c : Int) (w : World) (h : lo ≤ n ∧ n ≤ hi) :
    Calls Try.prog 79 #[.int .u64 n, .int .u64 lo, .int .u64 hi, .int .i64 c] w fun e w' => e = .returned (.int .u64 n) ∧ w' = w := by
  have h1 : ¬ n < lo := by omega
  have h2 : ¬ hi < n := by omega
  clear h
  go_enter Try.func79, Try.ntmps79
  go_wp2
  go_ret
  exact ⟨rfl, rfl⟩
set_option maxHeartbeats 400000 in
theorem heldU_out (n lo hi : Int) (c : Int) (w : World) (h : ¬ (lo ≤ n ∧ n ≤ hi)) :
    Calls Try.prog 79 #[.int .u64 n, .int .u64 lo, .int .u64 hi, .int .i64 c] w fun e w' => e = .panicked (ill c) ∧ w' = w := by
  by_cases h1 : n < lo
  · clear h
    go_enter Try.func79, Try.ntmps79
    go_wp2
    exact ⟨rfl, rfl, rfl⟩
  · have h2 : hi < n := by omega
    clear h
    go_enter Try.func79, Try.ntmps79
    go_wp2
    exact ⟨rfl, rfl, rfl⟩

theorem handed_in (n : Int) (w : World) (h : -1000000000000000 ≤ n ∧ n ≤ 1000000000000000) :
    Calls Try.prog 48 #[.int .i64 n] w fun e w' => e = .returned (.int .i64 n) ∧ w' = w := by
  go_enter Try.func48, Try.ntmps48
  go_wp2_with (first | (go_at_call 72; refine (held_in _ _ _ _ _ h).mono ?_; rintro e w' ⟨rfl, rfl⟩))
  go_ret
  exact ⟨rfl, rfl⟩
theorem handed_out (n : Int) (w : World) (h : ¬ (-1000000000000000 ≤ n ∧ n ≤ 1000000000000000)) :
    Calls Try.prog 48 #[.int .i64 n] w fun e w' => e = .panicked (ill 1) ∧ w' = w := by
  go_enter Try.func48, Try.ntmps48
  go_wp2_with (first | (go_at_call 72; refine (held_out _ _ _ _ _ h).mono ?_; rintro e w' ⟨rfl, rfl⟩))
  exact ⟨rfl, rfl, rfl⟩

theorem amount_in (n : Int) (w : World) (h : 0 ≤ n ∧ n ≤ 1000000000000000) :
    Calls Try.prog 66 #[.int .i64 n] w fun e w' => e = .returned (.int .i64 n) ∧ w' = w := by
  go_enter Try.func66, Try.ntmps66
  go_wp2_with (first | (go_at_call 72; refine (held_in _ _ _ _ _ h).mono ?_; rintro e w' ⟨rfl, rfl⟩))
  go_ret
  exact ⟨rfl, rfl⟩
theorem amount_out (n : Int) (w : World) (h : ¬ (0 ≤ n ∧ n ≤ 1000000000000000)) :
    Calls Try.prog 66 #[.int .i64 n] w fun e w' => e = .panicked (ill 1) ∧ w' = w := by
  go_enter Try.func66, Try.ntmps66
  go_wp2_with (first | (go_at_call 72; refine (held_out _ _ _ _ _ h).mono ?_; rintro e w' ⟨rfl, rfl⟩))
  exact ⟨rfl, rfl, rfl⟩

theorem divisor_in (n : Int) (w : World) (h : 1 ≤ n ∧ n ≤ 1000000000000000) :
    Calls Try.prog 56 #[.int .i64 n] w fun e w' => e = .returned (.int .i64 n) ∧ w' = w := by
  go_enter Try.func56, Try.ntmps56
  go_wp2_with (first | (go_at_call 72; refine (held_in _ _ _ _ _ h).mono ?_; rintro e w' ⟨rfl, rfl⟩))
  go_ret
  exact ⟨rfl, rfl⟩
theorem divisor_out (n : Int) (w : World) (h : ¬ (1 ≤ n ∧ n ≤ 1000000000000000)) :
    Calls Try.prog 56 #[.int .i64 n] w fun e w' => e = .panicked (ill 1) ∧ w' = w := by
  go_enter Try.func56, Try.ntmps56
  go_wp2_with (first | (go_at_call 72; refine (held_out _ _ _ _ _ h).mono ?_; rintro e w' ⟨rfl, rfl⟩))
  exact ⟨rfl, rfl, rfl⟩

theorem rounding_in (n : Int) (w : World) (h : 0 ≤ n ∧ n ≤ 2) :
    Calls Try.prog 57 #[.int .i64 n] w fun e w' => e = .returned (.int .i64 n) ∧ w' = w := by
  go_enter Try.func57, Try.ntmps57
  go_wp2_with (first | (go_at_call 72; refine (held_in _ _ _ _ _ h).mono ?_; rintro e w' ⟨rfl, rfl⟩))
  go_ret
  exact ⟨rfl, rfl⟩
theorem rounding_out (n : Int) (w : World) (h : ¬ (0 ≤ n ∧ n ≤ 2)) :
    Calls Try.prog 57 #[.int .i64 n] w fun e w' => e = .panicked (ill 1) ∧ w' = w := by
  go_enter Try.func57, Try.ntmps57
  go_wp2_with (first | (go_at_call 72; refine (held_out _ _ _ _ _ h).mono ?_; rintro e w' ⟨rfl, rfl⟩))
  exact ⟨rfl, rfl, rfl⟩

theorem reckoned_in (n : Int) (w : World) (h : -1000000000000000 ≤ n ∧ n ≤ 1000000000000000) :
    Calls Try.prog 47 #[.int .i64 n] w fun e w' => e = .returned (.int .i64 n) ∧ w' = w := by
  go_enter Try.func47, Try.ntmps47
  go_wp2_with (first | (go_at_call 72; refine (held_in _ _ _ _ _ h).mono ?_; rintro e w' ⟨rfl, rfl⟩))
  go_ret
  exact ⟨rfl, rfl⟩
theorem reckoned_out (n : Int) (w : World) (h : ¬ (-1000000000000000 ≤ n ∧ n ≤ 1000000000000000)) :
    Calls Try.prog 47 #[.int .i64 n] w fun e w' => e = .panicked (ill 12) ∧ w' = w := by
  go_enter Try.func47, Try.ntmps47
  go_wp2_with (first | (go_at_call 72; refine (held_out _ _ _ _ _ h).mono ?_; rintro e w' ⟨rfl, rfl⟩))
  exact ⟨rfl, rfl, rfl⟩

theorem handed_any (n : Int) (w : World) :
    Calls Try.prog 48 #[.int .i64 n] w fun e w' => ((e = .returned (.int .i64 n) ∧ (-1000000000000000 ≤ n ∧ n ≤ 1000000000000000)) ∨ (e = .panicked (ill 1) ∧ ¬ (-1000000000000000 ≤ n ∧ n ≤ 1000000000000000))) ∧ w' = w := by
  by_cases h : -1000000000000000 ≤ n ∧ n ≤ 1000000000000000
  · exact (handed_in n w h).mono fun e w' he => ⟨Or.inl ⟨he.1, h⟩, he.2⟩
  · exact (handed_out n w h).mono fun e w' he => ⟨Or.inr ⟨he.1, h⟩, he.2⟩

theorem amount_any (n : Int) (w : World) :
    Calls Try.prog 66 #[.int .i64 n] w fun e w' => ((e = .returned (.int .i64 n) ∧ (0 ≤ n ∧ n ≤ 1000000000000000)) ∨ (e = .panicked (ill 1) ∧ ¬ (0 ≤ n ∧ n ≤ 1000000000000000))) ∧ w' = w := by
  by_cases h : 0 ≤ n ∧ n ≤ 1000000000000000
  · exact (amount_in n w h).mono fun e w' he => ⟨Or.inl ⟨he.1, h⟩, he.2⟩
  · exact (amount_out n w h).mono fun e w' he => ⟨Or.inr ⟨he.1, h⟩, he.2⟩

theorem divisor_any (n : Int) (w : World) :
    Calls Try.prog 56 #[.int .i64 n] w fun e w' => ((e = .returned (.int .i64 n) ∧ (1 ≤ n ∧ n ≤ 1000000000000000)) ∨ (e = .panicked (ill 1) ∧ ¬ (1 ≤ n ∧ n ≤ 1000000000000000))) ∧ w' = w := by
  by_cases h : 1 ≤ n ∧ n ≤ 1000000000000000
  · exact (divisor_in n w h).mono fun e w' he => ⟨Or.inl ⟨he.1, h⟩, he.2⟩
  · exact (divisor_out n w h).mono fun e w' he => ⟨Or.inr ⟨he.1, h⟩, he.2⟩

theorem rounding_any (n : Int) (w : World) :
    Calls Try.prog 57 #[.int .i64 n] w fun e w' => ((e = .returned (.int .i64 n) ∧ (0 ≤ n ∧ n ≤ 2)) ∨ (e = .panicked (ill 1) ∧ ¬ (0 ≤ n ∧ n ≤ 2))) ∧ w' = w := by
  by_cases h : 0 ≤ n ∧ n ≤ 2
  · exact (rounding_in n w h).mono fun e w' he => ⟨Or.inl ⟨he.1, h⟩, he.2⟩
  · exact (rounding_out n w h).mono fun e w' he => ⟨Or.inr ⟨he.1, h⟩, he.2⟩

theorem reckoned_any (n : Int) (w : World) :
    Calls Try.prog 47 #[.int .i64 n] w fun e w' => ((e = .returned (.int .i64 n) ∧ (-1000000000000000 ≤ n ∧ n ≤ 1000000000000000)) ∨ (e = .panicked (ill 12) ∧ ¬ (-1000000000000000 ≤ n ∧ n ≤ 1000000000000000))) ∧ w' = w := by
  by_cases h : -1000000000000000 ≤ n ∧ n ≤ 1000000000000000
  · exact (reckoned_in n w h).mono fun e w' he => ⟨Or.inl ⟨he.1, h⟩, he.2⟩
  · exact (reckoned_out n w h).mono fun e w' he => ⟨Or.inr ⟨he.1, h⟩, he.2⟩

theorem held_any (n lo hi c : Int) (w : World) :
    Calls Try.prog 72 #[.int .i64 n, .int .i64 lo, .int .i64 hi, .int .i64 c] w fun e w' => ((e = .returned (.int .i64 n) ∧ (lo ≤ n ∧ n ≤ hi)) ∨ (e = .panicked (ill c) ∧ ¬ (lo ≤ n ∧ n ≤ hi))) ∧ w' = w := by
  by_cases h : lo ≤ n ∧ n ≤ hi
  · exact (held_in n lo hi c w h).mono fun e w' he => ⟨Or.inl ⟨he.1, h⟩, he.2⟩
  · exact (held_out n lo hi c w h).mono fun e w' he => ⟨Or.inr ⟨he.1, h⟩, he.2⟩
end Go.Proofs.Ythplmgjnlhcapaa.FixH
