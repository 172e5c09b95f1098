/- What the model says of an item's parts: its text, its bounds. -/
import Derived.Test.YtbhblnpehhaiiaaDoorItmMath
import Derived.Test.YtbhblnpehhaiiaaDoorValSpec
import Derived.Test.YtbhblnpehhaiiaaDoorPrtSpec
namespace Go.Proofs.YtbhblnpehhaiiaaDoor.ItmS
open Go.RowKit
open PrtW PrtM NameW ItmW ValM ItmM
open PrtS (is_any)
open ValS (plain_in)

theorem inB_eq (n lo hi : Int) : inB n lo hi = decide (lo ≤ n ∧ n ≤ hi) := rfl
set_option maxRecDepth 10000 in
set_option maxHeartbeats 800000 in
theorem spec_label (t : ByteArray) (w : World) (ht : t.size ≤ maxLen) :
    Calls Tryd.prog 56 #[.string t] w fun e w' => e = .returned (.bool (labelB t)) ∧ w' = w := by
  have HT := hid ht
  unfold maxLen at ht
  unfold labelB
  by_cases h1 : 1 ≤ t.size
  · rw [decide_eq_true h1, Bool.true_and]
    obtain ⟨m, hm⟩ : ∃ m, Hid ((plainB t && decide ((t.size : Int) ≤ 60)) = m) := ⟨_, rfl⟩
    rw [hm.out]
    have k0 : chr t 0 = (t[0]'(by omega)).toNat := chr_at (by omega)
    have k1 : chr t (t.size - 1) = (t[t.size - 1]'(by omega)).toNat := chr_at (by omega)
    rw [k0, k1]
    clear k0 k1
    cases m
    · go_enter Tryd.func56, Tryd.ntmps56
      go_wp2_with (first | (go_at_call 66; refine (plain_in t 60 _ HT.out).mono ?_; rintro e w' ⟨rfl, rfl⟩; rw [hm.out]))
      go_ret
      exact ⟨rfl, rfl⟩
    · rw [Bool.true_and]
      go_enter Tryd.func56, Tryd.ntmps56
      go_wp2_with (first | (go_at_call 66; refine (plain_in t 60 _ HT.out).mono ?_; rintro e w' ⟨rfl, rfl⟩; rw [hm.out]))
      all_goals
        go_ret
        exact ⟨ret_bool (by rw [Bool.eq_iff_iff]; simp <;> omega), rfl⟩
  · rw [decide_eq_false h1, Bool.false_and]
    go_enter Tryd.func56, Tryd.ntmps56
    go_wp2
    go_ret
    exact ⟨rfl, rfl⟩

set_option maxRecDepth 10000 in
set_option maxHeartbeats 1600000 in
theorem spec_range (k : Int) (s : ByteArray) (ty lo hi : Int) (t : ByteArray) (a : Option Addr) (len cap : Nat) (hd : Bool) (w : World) :
    Calls Tryd.prog 55 #[.agg #[.int .i64 k, .string s, .int .i64 ty, .int .i64 lo, .int .i64 hi, .string t, .slice a len cap, .bool hd]] w fun e w' => e = .returned (.bool (rangeB ty lo hi)) ∧ Below w.heap.size w w' := by
  rcases (by omega : ty = 1 ∨ ty = 2 ∨ ty = 3 ∨ ty = 4 ∨ (ty ≠ 1 ∧ ty ≠ 2 ∧ ty ≠ 3 ∧ ty ≠ 4)) with rfl | rfl | rfl | rfl | ⟨h1, h2, h3, h4⟩
  · have e : rangeB 1 lo hi = (inB lo (-1000000) 1000000 && inB hi lo 1000000) := rfl
    rw [e]
    clear e
    obtain ⟨r, hr⟩ : ∃ r, Hid (inB lo (-1000000) 1000000 = r) := ⟨_, rfl⟩
    rw [hr.out]
    cases r
    · go_enter Tryd.func55, Tryd.ntmps55
      go_wp2_with (first | (go_at_call 64; refine (is_any _ _ _ _).mono ?_; rintro e w' ⟨rfl, rfl⟩; rw [hr.out]))
      go_ret
      exact ⟨rfl, by go_grown⟩
    · rw [Bool.true_and]
      go_enter Tryd.func55, Tryd.ntmps55
      go_wp2_with (first | (go_at_call 64; refine (is_any _ _ _ _).mono ?_; rintro e w' ⟨rfl, rfl⟩; (try rw [hr.out])))
      go_ret
      exact ⟨rfl, by go_grown⟩
  · by_cases h0 : lo = 1
    · subst h0
      have e : rangeB 2 1 hi = inB hi 1 20 := by unfold rangeB inB; simp
      rw [e]
      clear e
      go_enter Tryd.func55, Tryd.ntmps55
      go_wp2_with (first | (go_at_call 64; refine (is_any _ _ _ _).mono ?_; rintro e w' ⟨rfl, rfl⟩))
      go_ret
      exact ⟨rfl, by go_grown⟩
    · have e : rangeB 2 lo hi = false := by unfold rangeB; simp [h0]
      rw [e]
      have e0 : (lo == 1) = false := by simp [h0]
      go_enter Tryd.func55, Tryd.ntmps55
      go_wp2
      go_ret
      exact ⟨rfl, by go_grown⟩
  · by_cases h0 : lo = 1
    · subst h0
      have e : rangeB 3 1 hi = inB hi 1 20 := by unfold rangeB inB; simp
      rw [e]
      clear e
      go_enter Tryd.func55, Tryd.ntmps55
      go_wp2_with (first | (go_at_call 64; refine (is_any _ _ _ _).mono ?_; rintro e w' ⟨rfl, rfl⟩))
      go_ret
      exact ⟨rfl, by go_grown⟩
    · have e : rangeB 3 lo hi = false := by unfold rangeB; simp [h0]
      rw [e]
      have e0 : (lo == 1) = false := by simp [h0]
      go_enter Tryd.func55, Tryd.ntmps55
      go_wp2
      go_ret
      exact ⟨rfl, by go_grown⟩
  · by_cases h0 : lo = 0
    · subst h0
      have e : rangeB 4 0 hi = inB hi 1 40 := by unfold rangeB inB; simp
      rw [e]
      clear e
      go_enter Tryd.func55, Tryd.ntmps55
      go_wp2_with (first | (go_at_call 64; refine (is_any _ _ _ _).mono ?_; rintro e w' ⟨rfl, rfl⟩))
      go_ret
      exact ⟨rfl, by go_grown⟩
    · have e : rangeB 4 lo hi = false := by unfold rangeB; simp [h0]
      rw [e]
      have e0 : (lo == 0) = false := by simp [h0]
      go_enter Tryd.func55, Tryd.ntmps55
      go_wp2
      go_ret
      exact ⟨rfl, by go_grown⟩
  · have e : rangeB ty lo hi = false := by unfold rangeB; simp [h1, h2, h3, h4]
    rw [e]
    have e1 : (ty == 1) = false := by simp [h1]
    have e2 : (ty == 2) = false := by simp [h2]
    have e3 : (ty == 3) = false := by simp [h3]
    have e4 : (ty == 4) = false := by simp [h4]
    go_enter Tryd.func55, Tryd.ntmps55
    go_wp2
    go_ret
    exact ⟨rfl, by go_grown⟩
set_option maxHeartbeats 800000 in
theorem spec_bare (k : Int) (s : ByteArray) (ty lo hi : Int) (t : ByteArray) (a : Option Addr) (len cap : Nat) (hd : Bool) (w : World) :
    Calls Tryd.prog 57 #[.agg #[.int .i64 k, .string s, .int .i64 ty, .int .i64 lo, .int .i64 hi, .string t, .slice a len cap, .bool hd]] w fun e w' => e = .returned (.bool (bareB ty lo hi)) ∧ Below w.heap.size w w' := by
  go_enter Tryd.func57, Tryd.ntmps57
  go_wp2
  all_goals
    go_ret
    exact ⟨ret_bool (by unfold bareB; rw [Bool.eq_iff_iff]; simp <;> omega), by go_grown⟩
end Go.Proofs.YtbhblnpehhaiiaaDoor.ItmS
