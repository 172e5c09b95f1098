/- The model's small functions of chapter 5, as plain functions. -/
import Derived.Test.YtbhblnpehhaiiaaDoorPrtMath
namespace Go.Proofs.YtbhblnpehhaiiaaDoor.PrtS
open Go.RowKit
open PrtW PrtM NameW

theorem inB_t {n lo hi : Int} (h : lo ≤ n ∧ n ≤ hi) : inB n lo hi = true := by unfold inB; rw [decide_eq_true_iff]; exact h
theorem inB_f {n lo hi : Int} (h : ¬ (lo ≤ n ∧ n ≤ hi)) : inB n lo hi = false := by unfold inB; rw [decide_eq_false_iff_not]; exact h
set_option maxHeartbeats 400000 in
theorem is_any (n lo hi : Int) (w : World) :
    Calls Tryd.prog 64 #[.int .i64 n, .int .i64 lo, .int .i64 hi] w fun e w' => e = .returned (.bool (inB n lo hi)) ∧ w' = w := by
  by_cases h : lo ≤ n
  · by_cases h2 : n ≤ hi
    · rw [inB_t ⟨h, h2⟩]
      go_enter Tryd.func64, Tryd.ntmps64
      go_wp2
      go_ret
      exact ⟨rfl, rfl⟩
    · rw [inB_f (by omega)]
      go_enter Tryd.func64, Tryd.ntmps64
      go_wp2
      go_ret
      exact ⟨rfl, rfl⟩
  · rw [inB_f (by omega)]
    go_enter Tryd.func64, Tryd.ntmps64
    go_wp2
    go_ret
    exact ⟨rfl, rfl⟩

set_option maxHeartbeats 400000 in
theorem spec_number (x : Int) (w : World) : Calls Tryd.prog 76 #[.int .i64 x] w fun e w' => e = .returned (.bool (numB x)) ∧ w' = w := by
  unfold numB
  by_cases h1 : 1 ≤ x
  · by_cases h2 : x ≤ 5
    · rw [decide_eq_true ⟨h1, h2⟩]
      go_enter Tryd.func76, Tryd.ntmps76
      go_wp2
      go_ret
      exact ⟨rfl, rfl⟩
    · rw [decide_eq_false (fun h => h2 h.2)]
      go_enter Tryd.func76, Tryd.ntmps76
      go_wp2
      go_ret
      exact ⟨rfl, rfl⟩
  · rw [decide_eq_false (fun h => h1 h.1)]
    go_enter Tryd.func76, Tryd.ntmps76
    go_wp2
    go_ret
    exact ⟨rfl, rfl⟩
set_option maxHeartbeats 400000 in
theorem spec_wants (x : Int) (w : World) : Calls Tryd.prog 87 #[.int .i64 x] w fun e w' => e = .returned (.bool (wantsB x)) ∧ w' = w := by
  unfold wantsB
  by_cases h1 : 3 ≤ x
  · by_cases h2 : x ≤ 8
    · rw [decide_eq_true ⟨h1, h2⟩]
      go_enter Tryd.func87, Tryd.ntmps87
      go_wp2
      go_ret
      exact ⟨rfl, rfl⟩
    · rw [decide_eq_false (fun h => h2 h.2)]
      go_enter Tryd.func87, Tryd.ntmps87
      go_wp2
      go_ret
      exact ⟨rfl, rfl⟩
  · rw [decide_eq_false (fun h => h1 h.1)]
    go_enter Tryd.func87, Tryd.ntmps87
    go_wp2
    go_ret
    exact ⟨rfl, rfl⟩
set_option maxHeartbeats 800000 in
theorem spec_many (x : Int) (w : World) : Calls Tryd.prog 86 #[.int .i64 x] w fun e w' => e = .returned (.int .i64 (manyI x)) ∧ w' = w := by
  rcases (by omega : x = 1 ∨ x = 2 ∨ x = 12 ∨ x = 13 ∨ x = 11 ∨ (x ≠ 1 ∧ x ≠ 2 ∧ x ≠ 12 ∧ x ≠ 13 ∧ x ≠ 11)) with rfl | rfl | rfl | rfl | rfl | ⟨h1, h2, h3, h4, h5⟩
  · go_enter Tryd.func86, Tryd.ntmps86
    go_wp2; go_ret; exact ⟨rfl, rfl⟩
  · go_enter Tryd.func86, Tryd.ntmps86
    go_wp2; go_ret; exact ⟨rfl, rfl⟩
  · go_enter Tryd.func86, Tryd.ntmps86
    go_wp2; go_ret; exact ⟨rfl, rfl⟩
  · go_enter Tryd.func86, Tryd.ntmps86
    go_wp2; go_ret; exact ⟨rfl, rfl⟩
  · go_enter Tryd.func86, Tryd.ntmps86
    go_wp2; go_ret; exact ⟨rfl, rfl⟩
  · have e1 : (x == 1) = false := by simp [h1]
    have e2 : (x == 2) = false := by simp [h2]
    have e3 : (x == 12) = false := by simp [h3]
    have e4 : (x == 13) = false := by simp [h4]
    have e5 : (x == 11) = false := by simp [h5]
    have em : manyI x = if 3 ≤ x ∧ x ≤ 10 then 2 else -1 := by unfold manyI; rw [if_neg (by omega), if_neg (by omega)]
    by_cases h6 : 3 ≤ x
    · by_cases h7 : x ≤ 10
      · rw [em, if_pos ⟨h6, h7⟩]
        clear em
        go_enter Tryd.func86, Tryd.ntmps86
        go_wp2; go_ret; exact ⟨rfl, rfl⟩
      · rw [em, if_neg (by omega)]
        clear em
        go_enter Tryd.func86, Tryd.ntmps86
        go_wp2; go_ret; exact ⟨rfl, rfl⟩
    · rw [em, if_neg (by omega)]
      clear em
      go_enter Tryd.func86, Tryd.ntmps86
      go_wp2; go_ret; exact ⟨rfl, rfl⟩

set_option maxHeartbeats 1600000 in
theorem spec_part (x n : Int) (t : ByteArray) (ht : t.size ≤ maxLen) (w : World) :
    Calls Tryd.prog 85 #[.agg #[.int .i64 x, .int .i64 n, .string t]] w fun e w' => e = .returned (.bool (partB (x, n, t))) ∧ Below w.heap.size w w' := by
  have HT : Hid (t.size ≤ maxLen) := ht
  clear ht
  rcases (by omega : x = 1 ∨ x = 2 ∨ x = 13 ∨ x = 12 ∨ (x ≠ 1 ∧ x ≠ 2 ∧ x ≠ 12 ∧ x ≠ 13)) with rfl | rfl | rfl | rfl | ⟨h1, h2, h3, h4⟩
  · have e : partB (1, n, t) = (inB n (-1000000) 1000000 && emptyB t) := rfl
    rw [e]
    clear e
    obtain ⟨r, hr⟩ : ∃ r, Hid (inB n (-1000000) 1000000 = r) := ⟨_, rfl⟩
    rw [hr.out]
    cases r
    · go_enter Tryd.func85, Tryd.ntmps85
      go_wp2_with (first | (go_at_call 64; refine (is_any _ _ _ _).mono ?_; rintro e w' ⟨rfl, rfl⟩; rw [hr.out]))
      go_ret
      exact ⟨rfl, by go_grown⟩
    · rw [Bool.true_and]; unfold emptyB
      go_enter Tryd.func85, Tryd.ntmps85
      go_wp2_with (first | (go_at_call 64; refine (is_any _ _ _ _).mono ?_; rintro e w' ⟨rfl, rfl⟩; rw [hr.out]))
      go_ret
      exact ⟨rfl, by go_grown⟩
  · have e : partB (2, n, t) = (inB n 0 0 && nameB t) := rfl
    rw [e]
    clear e
    by_cases h0 : n = 0
    · subst h0
      rw [inB_t (by omega), Bool.true_and]
      go_enter Tryd.func85, Tryd.ntmps85
      go_wp2_with (first | (go_at_call 54; refine (spec_name _ _ HT.out).mono ?_; rintro e w' ⟨rfl, rfl⟩))
      go_ret
      exact ⟨rfl, by go_grown⟩
    · rw [inB_f (by omega), Bool.false_and]
      have e0 : (n == 0) = false := by simp [h0]
      go_enter Tryd.func85, Tryd.ntmps85
      go_wp2_with (first | (go_at_call 54; refine (spec_name _ _ HT.out).mono ?_; rintro e w' ⟨rfl, rfl⟩))
      go_ret
      exact ⟨rfl, by go_grown⟩
  · have e : partB (13, n, t) = (inB n 0 0 && nameB t) := rfl
    rw [e]
    clear e
    by_cases h0 : n = 0
    · subst h0
      rw [inB_t (by omega), Bool.true_and]
      go_enter Tryd.func85, Tryd.ntmps85
      go_wp2_with (first | (go_at_call 54; refine (spec_name _ _ HT.out).mono ?_; rintro e w' ⟨rfl, rfl⟩))
      go_ret
      exact ⟨rfl, by go_grown⟩
    · rw [inB_f (by omega), Bool.false_and]
      have e0 : (n == 0) = false := by simp [h0]
      go_enter Tryd.func85, Tryd.ntmps85
      go_wp2_with (first | (go_at_call 54; refine (spec_name _ _ HT.out).mono ?_; rintro e w' ⟨rfl, rfl⟩))
      go_ret
      exact ⟨rfl, by go_grown⟩
  · have e : partB (12, n, t) = (inB n 1 20 && nameB t) := rfl
    rw [e]
    clear e
    obtain ⟨r, hr⟩ : ∃ r, Hid (inB n 1 20 = r) := ⟨_, rfl⟩
    rw [hr.out]
    cases r
    · go_enter Tryd.func85, Tryd.ntmps85
      go_wp2_with (first | (go_at_call 64; refine (is_any _ _ _ _).mono ?_; rintro e w' ⟨rfl, rfl⟩; rw [hr.out]) | (go_at_call 54; refine (spec_name _ _ HT.out).mono ?_; rintro e w' ⟨rfl, rfl⟩))
      go_ret
      exact ⟨rfl, by go_grown⟩
    · rw [Bool.true_and]
      go_enter Tryd.func85, Tryd.ntmps85
      go_wp2_with (first | (go_at_call 64; refine (is_any _ _ _ _).mono ?_; rintro e w' ⟨rfl, rfl⟩; rw [hr.out]) | (go_at_call 54; refine (spec_name _ _ HT.out).mono ?_; rintro e w' ⟨rfl, rfl⟩))
      go_ret
      exact ⟨rfl, by go_grown⟩
  · have e : partB (x, n, t) = (inB x 3 11 && (inB n 0 0 && emptyB t)) := by unfold partB; simp only; rw [if_neg (by omega), if_neg (by omega), if_neg (by omega)]
    rw [e]
    clear e
    have e1 : (x == 1) = false := by simp [h1]
    have e2 : (x == 2) = false := by simp [h2]
    have e3 : (x == 12) = false := by simp [h3]
    have e4 : (x == 13) = false := by simp [h4]
    obtain ⟨m, hm⟩ : ∃ m, Hid (manyI x = m) := ⟨_, rfl⟩
    by_cases hx : 3 ≤ x ∧ x ≤ 11
    · have hm0 : 0 < m := by
        have := hm.out
        unfold manyI at this
        rw [if_neg (by omega)] at this
        by_cases h11 : x = 11
        · rw [if_pos h11] at this; omega
        · rw [if_neg h11, if_pos (by omega)] at this; omega
      rw [inB_t hx, Bool.true_and]
      clear hx
      by_cases h0 : n = 0
      · subst h0
        rw [inB_t (by omega), Bool.true_and]
        unfold emptyB
        go_enter Tryd.func85, Tryd.ntmps85
        go_wp2_with (first | (go_at_call 86; refine (spec_many _ _).mono ?_; rintro e w' ⟨rfl, rfl⟩; rw [hm.out]))
        go_ret
        exact ⟨rfl, by go_grown⟩
      · rw [inB_f (by omega), Bool.false_and]
        have e0 : (n == 0) = false := by simp [h0]
        go_enter Tryd.func85, Tryd.ntmps85
        go_wp2_with (first | (go_at_call 86; refine (spec_many _ _).mono ?_; rintro e w' ⟨rfl, rfl⟩; rw [hm.out]))
        go_ret
        exact ⟨rfl, by go_grown⟩
    · have hm0 : ¬ 0 < m := by
        have := hm.out
        unfold manyI at this
        rw [if_neg (by omega), if_neg (by omega), if_neg (by omega)] at this
        omega
      rw [inB_f hx, Bool.false_and]
      clear hx
      go_enter Tryd.func85, Tryd.ntmps85
      go_wp2_with (first | (go_at_call 86; refine (spec_many _ _).mono ?_; rintro e w' ⟨rfl, rfl⟩; rw [hm.out]))
      go_ret
      exact ⟨rfl, by go_grown⟩
end Go.Proofs.YtbhblnpehhaiiaaDoor.PrtS
