/- What the program says of an item. -/
import Derived.Test.YtbhblnpehhaiiaaDoorItmSp
import Derived.Test.YtbhblnpehhaiiaaDoorTrimMath
import Derived.Test.YtbhblnpehhaiiaaDoorPrtTopT
import Derived.Test.YtbhblnpehhaiiaaDoorValMeth
import Derived.Test.YtbhblnpehhaiiaaDoorShelf
namespace Go.Proofs.YtbhblnpehhaiiaaDoor.ItmI
open Go.RowKit
open PrtW PrtM NameW ItmW ValM ItmM
open PrtI (EnvS between_any)
open ItmS (At8 At8.laid below_one)

theorem beq_dec (x y : Int) : (x == y) = decide (x = y) := by rw [Bool.eq_iff_iff]; simp
set_option maxRecDepth 10000 in
set_option maxHeartbeats 1600000 in
theorem impl_bounds (k : Int) (s : ByteArray) (ty lo hi : Int) (t : ByteArray) (a : Option Addr) (len cap : Nat) (hd : Bool) (w : World) :
    Calls Tryd.prog 71 #[.agg #[.int .i64 k, .string s, .int .i64 ty, .int .i64 lo, .int .i64 hi, .string t, .slice a len cap, .bool hd]] w fun e w' => e = .returned (.bool (rangeB ty lo hi)) ∧ Below w.heap.size w w' := by
  rcases (by omega : ty = 1 ∨ ty = 2 ∨ ty = 3 ∨ ty = 4 ∨ (ty ≠ 1 ∧ ty ≠ 2 ∧ ty ≠ 3 ∧ ty ≠ 4)) with rfl | rfl | rfl | rfl | ⟨h1, h2, h3, h4⟩
  · by_cases h0 : -1000000 ≤ lo
    · have e : rangeB 1 lo hi = inB hi lo 1000000 := by unfold rangeB inB; rw [if_pos rfl, Bool.eq_iff_iff, Bool.and_eq_true, decide_eq_true_iff, decide_eq_true_iff]; omega
      rw [e]
      clear e
      go_enter Tryd.func71, Tryd.ntmps71
      go_wp2_with (first | (go_at_call 68; refine (between_any _ _ _ _).mono ?_; rintro e w' ⟨rfl, rfl⟩))
      go_ret
      exact ⟨rfl, by go_grown⟩
    · have e : rangeB 1 lo hi = false := by unfold rangeB; rw [if_pos rfl, decide_eq_false (by omega), Bool.false_and]
      rw [e]
      clear e
      go_enter Tryd.func71, Tryd.ntmps71
      go_wp2
      go_ret
      exact ⟨rfl, by go_grown⟩
  · by_cases h0 : lo = 1
    · subst h0
      have e : rangeB 2 1 hi = inB hi 1 20 := by unfold rangeB inB; simp
      rw [e]
      clear e
      go_enter Tryd.func71, Tryd.ntmps71
      go_wp2_with (first | (go_at_call 68; refine (between_any _ _ _ _).mono ?_; rintro e w' ⟨rfl, rfl⟩))
      go_ret
      exact ⟨rfl, by go_grown⟩
    · have e : rangeB 2 lo hi = false := by unfold rangeB; simp [h0]
      rw [e]
      have e0 : (lo == 1) = false := by simp [h0]
      go_enter Tryd.func71, Tryd.ntmps71
      go_wp2
      go_ret
      exact ⟨rfl, by go_grown⟩
  · by_cases h0 : lo = 1
    · subst h0
      have e : rangeB 3 1 hi = inB hi 1 20 := by unfold rangeB inB; simp
      rw [e]
      clear e
      go_enter Tryd.func71, Tryd.ntmps71
      go_wp2_with (first | (go_at_call 68; refine (between_any _ _ _ _).mono ?_; rintro e w' ⟨rfl, rfl⟩))
      go_ret
      exact ⟨rfl, by go_grown⟩
    · have e : rangeB 3 lo hi = false := by unfold rangeB; simp [h0]
      rw [e]
      have e0 : (lo == 1) = false := by simp [h0]
      go_enter Tryd.func71, Tryd.ntmps71
      go_wp2
      go_ret
      exact ⟨rfl, by go_grown⟩
  · by_cases h0 : lo = 0
    · subst h0
      have e : rangeB 4 0 hi = inB hi 1 40 := by unfold rangeB inB; simp
      rw [e]
      clear e
      go_enter Tryd.func71, Tryd.ntmps71
      go_wp2_with (first | (go_at_call 68; refine (between_any _ _ _ _).mono ?_; rintro e w' ⟨rfl, rfl⟩))
      go_ret
      exact ⟨rfl, by go_grown⟩
    · have e : rangeB 4 lo hi = false := by unfold rangeB; simp [h0]
      rw [e]
      have e0 : (lo == 0) = false := by simp [h0]
      go_enter Tryd.func71, Tryd.ntmps71
      go_wp2
      go_ret
      exact ⟨rfl, by go_grown⟩
  · have e : rangeB ty lo hi = false := by unfold rangeB; simp [h1, h2, h3, h4]
    rw [e]
    have e1 : (ty == 1) = false := by simp [h1]
    have e2 : (ty == 2) = false := by simp [h2]
    have e3 : (ty == 3) = false := by simp [h3]
    have e4 : (ty == 4) = false := by simp [h4]
    go_enter Tryd.func71, Tryd.ntmps71
    go_wp2
    go_ret
    exact ⟨rfl, by go_grown⟩

set_option maxRecDepth 10000 in
set_option maxHeartbeats 800000 in
theorem impl_asked (t : ByteArray) (w : World) (ht : t.size ≤ maxLen) :
    Calls Tryd.prog 72 #[.string t] w fun e w' => e = .returned (.bool (labelB t)) ∧ Below w.heap.size w w' := by
  have HT := hid ht
  have HT2 : Hid (t.size ≤ 9223372036854775807) := Nat.le_trans ht (by decide)
  unfold maxLen at ht
  obtain ⟨b1, hb1⟩ : ∃ b, Hid (inB (t.size : Int) 1 60 = b) := ⟨_, rfl⟩
  obtain ⟨b2, hb2⟩ : ∃ b, Hid (plainB t = b) := ⟨_, rfl⟩
  cases b1
  · have e : labelB t = false := by
      have := hb1.out
      unfold inB at this
      rw [decide_eq_false_iff_not] at this
      unfold labelB
      by_cases h1 : 1 ≤ t.size
      · rw [decide_eq_false (p := (t.size : Int) ≤ 60) (by omega), Bool.and_false, Bool.false_and, Bool.and_false]
      · rw [decide_eq_false h1, Bool.false_and]
    rw [e]
    clear e
    go_enter Tryd.func72, Tryd.ntmps72
    go_wp2_with (first | (go_at_call 68; refine (between_any _ _ _ _).mono ?_; rintro e w' ⟨rfl, rfl⟩; rw [hb1.out]))
    go_ret
    exact ⟨rfl, Below.refl _ _⟩
  have h1 : 1 ≤ t.size ∧ t.size ≤ 60 := by
    have := hb1.out
    unfold inB at this
    rw [decide_eq_true_iff] at this
    omega
  have e : labelB t = (b2 && ((⟨(Lib.trimB t.data.toList 32).toArray⟩ : ByteArray).toList == t.toList)) := by
    rw [trim_same t h1.1, ← hb2.out]
    unfold labelB
    rw [decide_eq_true h1.1, decide_eq_true (p := (t.size : Int) ≤ 60) (by omega), Bool.true_and, Bool.and_true]
  rw [e]
  clear e
  obtain ⟨b3, hb3⟩ : ∃ b, ((⟨(Lib.trimB t.data.toList 32).toArray⟩ : ByteArray).toList == t.toList) = b := ⟨_, rfl⟩
  rw [hb3]
  cases b2
  · go_enter Tryd.func72, Tryd.ntmps72
    go_wp2_with (first | (go_at_call 68; refine (between_any _ _ _ _).mono ?_; rintro e w' ⟨rfl, rfl⟩; rw [hb1.out]) | (go_at_call 81; refine (ValI.plain_impl t _ HT.out).mono ?_; rintro e w' ⟨rfl, rfl⟩; rw [hb2.out]))
    go_ret
    exact ⟨rfl, Below.refl _ _⟩
  · rw [Bool.true_and]
    go_enter Tryd.func72, Tryd.ntmps72
    go_wp2_with (first | (go_at_call 68; refine (between_any _ _ _ _).mono ?_; rintro e w' ⟨rfl, rfl⟩; rw [hb1.out]) | (go_at_call 81; refine (ValI.plain_impl t _ HT.out).mono ?_; rintro e w' ⟨rfl, rfl⟩; rw [hb2.out]))
    refine (Tryd.strings_Trim_one t 32 (by decide) _ HT2.out).mono ?_
    rintro e w1 ⟨rfl, hw⟩
    have HW : Hid (Below w'.heap.size w' w1) := by
      rcases hw with h | h
      · rw [h]; exact Below.refl _ _
      · rw [h]; exact (Below.refl _ _).drew
    clear hw
    generalize (⟨(Lib.trimB t.data.toList 32).toArray⟩ : ByteArray) = tt at *
    go_wp2_with fail
    go_ret
    exact ⟨rfl, HW.out⟩
end Go.Proofs.YtbhblnpehhaiiaaDoor.ItmI
