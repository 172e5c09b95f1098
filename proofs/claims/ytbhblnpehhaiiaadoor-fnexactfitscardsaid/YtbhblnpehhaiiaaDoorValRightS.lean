/- ValueRight of the model, kind by kind. -/
import Derived.Test.YtbhblnpehhaiiaaDoorValSpec
namespace Go.Proofs.YtbhblnpehhaiiaaDoor.ValS
open Go.RowKit
open ValM ValW

set_option maxRecDepth 10000 in
set_option maxHeartbeats 1000000 in
theorem sr_nothing (k n : Int) (a : Option Addr) (cap : Nat) (zs : List Int) (t : ByteArray) (w : World) (hc : Codes w a zs) (ht : t.size ≤ maxLen) (hk : k = 0 ∨ k = 5 ∨ k = 6) :
    Calls Tryd.prog 45 #[av k n a zs.length cap t] w fun e w' => e = .returned (.bool (right k n zs t)) ∧ Below w.heap.size w w' := by
  have HC : Hid (Codes w a zs) := hc
  have hl := hc.1
  have HT : Hid (t.size ≤ maxLen) := ht
  unfold maxLen at ht
  have hte := empty_list t
  obtain ⟨r, hr⟩ : ∃ r, Hid (right k n zs t = r) := ⟨_, rfl⟩
  rw [hr.out]
  clear hc
  rcases hk with rfl | rfl | rfl
  · by_cases hn : n = 0
    rotate_left
    · go_enter Tryd.func45, Tryd.ntmps45
      go_wp2
      go_ret
      exact ⟨ret_bool (by rw [← hr.out, right_none n zs t (Or.inl rfl)]; simp [*]), by go_grown⟩
    by_cases hz : zs.length = 0
    rotate_left
    · have hz2 : 0 < zs.length := by omega
      go_enter Tryd.func45, Tryd.ntmps45
      go_wp2
      go_ret
      exact ⟨ret_bool (by rw [← hr.out, right_none n zs t (Or.inl rfl)]; simp [*]), by go_grown⟩
    by_cases h0 : t.size = 0
    rotate_left
    · rw [decide_eq_false h0] at hte
      go_enter Tryd.func45, Tryd.ntmps45
      go_wp2
      go_ret
      exact ⟨ret_bool (by rw [← hr.out, right_none n zs t (Or.inl rfl)]; simp [*]), by go_grown⟩
    rw [decide_eq_true h0] at hte
    go_enter Tryd.func45, Tryd.ntmps45
    go_wp2
    go_ret
    exact ⟨ret_bool (by rw [← hr.out, right_none n zs t (Or.inl rfl)]; simp [*]), by go_grown⟩
  · by_cases hn : n = 0
    rotate_left
    · go_enter Tryd.func45, Tryd.ntmps45
      go_wp2
      go_ret
      exact ⟨ret_bool (by rw [← hr.out, right_none n zs t (Or.inr (Or.inl rfl))]; simp [*]), by go_grown⟩
    by_cases hz : zs.length = 0
    rotate_left
    · have hz2 : 0 < zs.length := by omega
      go_enter Tryd.func45, Tryd.ntmps45
      go_wp2
      go_ret
      exact ⟨ret_bool (by rw [← hr.out, right_none n zs t (Or.inr (Or.inl rfl))]; simp [*]), by go_grown⟩
    by_cases h0 : t.size = 0
    rotate_left
    · rw [decide_eq_false h0] at hte
      go_enter Tryd.func45, Tryd.ntmps45
      go_wp2
      go_ret
      exact ⟨ret_bool (by rw [← hr.out, right_none n zs t (Or.inr (Or.inl rfl))]; simp [*]), by go_grown⟩
    rw [decide_eq_true h0] at hte
    go_enter Tryd.func45, Tryd.ntmps45
    go_wp2
    go_ret
    exact ⟨ret_bool (by rw [← hr.out, right_none n zs t (Or.inr (Or.inl rfl))]; simp [*]), by go_grown⟩
  · by_cases hn : n = 0
    rotate_left
    · go_enter Tryd.func45, Tryd.ntmps45
      go_wp2
      go_ret
      exact ⟨ret_bool (by rw [← hr.out, right_none n zs t (Or.inr (Or.inr rfl))]; simp [*]), by go_grown⟩
    by_cases hz : zs.length = 0
    rotate_left
    · have hz2 : 0 < zs.length := by omega
      go_enter Tryd.func45, Tryd.ntmps45
      go_wp2
      go_ret
      exact ⟨ret_bool (by rw [← hr.out, right_none n zs t (Or.inr (Or.inr rfl))]; simp [*]), by go_grown⟩
    by_cases h0 : t.size = 0
    rotate_left
    · rw [decide_eq_false h0] at hte
      go_enter Tryd.func45, Tryd.ntmps45
      go_wp2
      go_ret
      exact ⟨ret_bool (by rw [← hr.out, right_none n zs t (Or.inr (Or.inr rfl))]; simp [*]), by go_grown⟩
    rw [decide_eq_true h0] at hte
    go_enter Tryd.func45, Tryd.ntmps45
    go_wp2
    go_ret
    exact ⟨ret_bool (by rw [← hr.out, right_none n zs t (Or.inr (Or.inr rfl))]; simp [*]), by go_grown⟩

set_option maxRecDepth 10000 in
set_option maxHeartbeats 1000000 in
theorem sr_int (k n : Int) (a : Option Addr) (cap : Nat) (zs : List Int) (t : ByteArray) (w : World) (hc : Codes w a zs) (ht : t.size ≤ maxLen) (hk : k = 1) :
    Calls Tryd.prog 45 #[av k n a zs.length cap t] w fun e w' => e = .returned (.bool (right k n zs t)) ∧ Below w.heap.size w w' := by
  have HC : Hid (Codes w a zs) := hc
  have hl := hc.1
  have HT : Hid (t.size ≤ maxLen) := ht
  unfold maxLen at ht
  have hte := empty_list t
  obtain ⟨r, hr⟩ : ∃ r, Hid (right k n zs t = r) := ⟨_, rfl⟩
  rw [hr.out]
  clear hc
  subst hk
  by_cases hz : zs.length = 0
  rotate_left
  · have hz2 : 0 < zs.length := by omega
    go_enter Tryd.func45, Tryd.ntmps45
    go_wp2
    go_ret
    exact ⟨ret_bool (by rw [← hr.out, right_int]; simp [*]), by go_grown⟩
  by_cases h0 : t.size = 0
  rotate_left
  · rw [decide_eq_false h0] at hte
    go_enter Tryd.func45, Tryd.ntmps45
    go_wp2
    go_ret
    exact ⟨ret_bool (by rw [← hr.out, right_int]; simp [*]), by go_grown⟩
  rw [decide_eq_true h0] at hte
  by_cases h1 : -1000000000 ≤ n
  rotate_left
  · go_enter Tryd.func45, Tryd.ntmps45
    go_wp2_with ((go_at_call 64; refine (is_no _ _ _ _ (by omega)).mono ?_; rintro e w' ⟨rfl, rfl⟩))
    go_ret
    exact ⟨ret_bool (by rw [← hr.out, right_int]; simp; omega), by go_grown⟩
  by_cases h2 : n ≤ 1000000000
  rotate_left
  · go_enter Tryd.func45, Tryd.ntmps45
    go_wp2_with ((go_at_call 64; refine (is_no _ _ _ _ (by omega)).mono ?_; rintro e w' ⟨rfl, rfl⟩))
    go_ret
    exact ⟨ret_bool (by rw [← hr.out, right_int]; simp; omega), by go_grown⟩
  go_enter Tryd.func45, Tryd.ntmps45
  go_wp2_with ((go_at_call 64; refine (is_yes _ _ _ _ h1 h2).mono ?_; rintro e w' ⟨rfl, rfl⟩))
  go_ret
  exact ⟨ret_bool (by rw [← hr.out, right_int]; simp [*]), by go_grown⟩

set_option maxRecDepth 10000 in
set_option maxHeartbeats 1000000 in
theorem sr_code (k n : Int) (a : Option Addr) (cap : Nat) (zs : List Int) (t : ByteArray) (w : World) (hc : Codes w a zs) (ht : t.size ≤ maxLen) (hk : k = 2) :
    Calls Tryd.prog 45 #[av k n a zs.length cap t] w fun e w' => e = .returned (.bool (right k n zs t)) ∧ Below w.heap.size w w' := by
  have HC : Hid (Codes w a zs) := hc
  have hl := hc.1
  have HT : Hid (t.size ≤ maxLen) := ht
  unfold maxLen at ht
  have hte := empty_list t
  obtain ⟨r, hr⟩ : ∃ r, Hid (right k n zs t = r) := ⟨_, rfl⟩
  rw [hr.out]
  clear hc
  subst hk
  by_cases hz : zs.length = 0
  rotate_left
  · have hz2 : 0 < zs.length := by omega
    go_enter Tryd.func45, Tryd.ntmps45
    go_wp2
    go_ret
    exact ⟨ret_bool (by rw [← hr.out, right_code]; simp [*]), by go_grown⟩
  by_cases h0 : t.size = 0
  rotate_left
  · rw [decide_eq_false h0] at hte
    go_enter Tryd.func45, Tryd.ntmps45
    go_wp2
    go_ret
    exact ⟨ret_bool (by rw [← hr.out, right_code]; simp [*]), by go_grown⟩
  rw [decide_eq_true h0] at hte
  by_cases h1 : 1 ≤ n
  rotate_left
  · go_enter Tryd.func45, Tryd.ntmps45
    go_wp2_with ((go_at_call 64; refine (is_no _ _ _ _ (by omega)).mono ?_; rintro e w' ⟨rfl, rfl⟩))
    go_ret
    exact ⟨ret_bool (by rw [← hr.out, right_code]; simp; omega), by go_grown⟩
  by_cases h2 : n ≤ 20
  rotate_left
  · go_enter Tryd.func45, Tryd.ntmps45
    go_wp2_with ((go_at_call 64; refine (is_no _ _ _ _ (by omega)).mono ?_; rintro e w' ⟨rfl, rfl⟩))
    go_ret
    exact ⟨ret_bool (by rw [← hr.out, right_code]; simp; omega), by go_grown⟩
  go_enter Tryd.func45, Tryd.ntmps45
  go_wp2_with ((go_at_call 64; refine (is_yes _ _ _ _ h1 h2).mono ?_; rintro e w' ⟨rfl, rfl⟩))
  go_ret
  exact ⟨ret_bool (by rw [← hr.out, right_code]; simp [*]), by go_grown⟩

set_option maxRecDepth 10000 in
set_option maxHeartbeats 1000000 in
theorem sr_set (k n : Int) (a : Option Addr) (cap : Nat) (zs : List Int) (t : ByteArray) (w : World) (hc : Codes w a zs) (ht : t.size ≤ maxLen) (hk : k = 3) :
    Calls Tryd.prog 45 #[av k n a zs.length cap t] w fun e w' => e = .returned (.bool (right k n zs t)) ∧ Below w.heap.size w w' := by
  have HC : Hid (Codes w a zs) := hc
  have hl := hc.1
  have HT : Hid (t.size ≤ maxLen) := ht
  unfold maxLen at ht
  have hte := empty_list t
  obtain ⟨r, hr⟩ : ∃ r, Hid (right k n zs t = r) := ⟨_, rfl⟩
  rw [hr.out]
  clear hc
  subst hk
  by_cases hn : n = 0
  rotate_left
  · go_enter Tryd.func45, Tryd.ntmps45
    go_wp2
    go_ret
    exact ⟨ret_bool (by rw [← hr.out, right_set]; simp [*]), by go_grown⟩
  by_cases h0 : t.size = 0
  rotate_left
  · rw [decide_eq_false h0] at hte
    go_enter Tryd.func45, Tryd.ntmps45
    go_wp2
    go_ret
    exact ⟨ret_bool (by rw [← hr.out, right_set]; simp [*]), by go_grown⟩
  rw [decide_eq_true h0] at hte
  go_enter Tryd.func45, Tryd.ntmps45
  go_wp2_with fail
  refine (codes_in a cap zs _ (HC.out.alloc _)).mono ?_
  rintro e w1 ⟨rfl, hB1⟩
  have HB : Hid (Below w.heap.size w w1) := (below_one w _).trans (hB1.mono (by simp))
  clear hB1
  go_wp2
  go_ret
  exact ⟨ret_bool (by rw [← hr.out, right_set]; simp [*]), HB.out⟩

set_option maxRecDepth 10000 in
set_option maxHeartbeats 1000000 in
theorem sr_text (k n : Int) (a : Option Addr) (cap : Nat) (zs : List Int) (t : ByteArray) (w : World) (hc : Codes w a zs) (ht : t.size ≤ maxLen) (hk : k = 4) :
    Calls Tryd.prog 45 #[av k n a zs.length cap t] w fun e w' => e = .returned (.bool (right k n zs t)) ∧ Below w.heap.size w w' := by
  have HC : Hid (Codes w a zs) := hc
  have hl := hc.1
  have HT : Hid (t.size ≤ maxLen) := ht
  unfold maxLen at ht
  have hte := empty_list t
  obtain ⟨r, hr⟩ : ∃ r, Hid (right k n zs t = r) := ⟨_, rfl⟩
  rw [hr.out]
  clear hc
  subst hk
  by_cases hn : n = 0
  rotate_left
  · go_enter Tryd.func45, Tryd.ntmps45
    go_wp2
    go_ret
    exact ⟨ret_bool (by rw [← hr.out, right_text]; simp [*]), by go_grown⟩
  by_cases hz : zs.length = 0
  rotate_left
  · have hz2 : 0 < zs.length := by omega
    go_enter Tryd.func45, Tryd.ntmps45
    go_wp2
    go_ret
    exact ⟨ret_bool (by rw [← hr.out, right_text]; simp [*]), by go_grown⟩
  go_enter Tryd.func45, Tryd.ntmps45
  go_wp2_with ((go_at_call 66; refine (plain_in _ _ _ HT.out).mono ?_; rintro e w' ⟨rfl, rfl⟩))
  go_ret
  exact ⟨ret_bool (by rw [← hr.out, right_text]; simp [*]; congr 1; exact decide_eq_decide.2 (by omega)), by go_grown⟩

set_option maxRecDepth 10000 in
set_option maxHeartbeats 1000000 in
theorem sr_else (k n : Int) (a : Option Addr) (cap : Nat) (zs : List Int) (t : ByteArray) (w : World) (hc : Codes w a zs) (ht : t.size ≤ maxLen) (hk : ¬ (0 ≤ k ∧ k ≤ 6)) :
    Calls Tryd.prog 45 #[av k n a zs.length cap t] w fun e w' => e = .returned (.bool (right k n zs t)) ∧ Below w.heap.size w w' := by
  have HC : Hid (Codes w a zs) := hc
  have hl := hc.1
  have HT : Hid (t.size ≤ maxLen) := ht
  unfold maxLen at ht
  have hte := empty_list t
  obtain ⟨r, hr⟩ : ∃ r, Hid (right k n zs t = r) := ⟨_, rfl⟩
  rw [hr.out]
  clear hc
  have hf := right_other n zs t hk
  have HK : Hid (¬ (0 ≤ k ∧ k ≤ 6)) := hk
  have HR : Hid (r = false) := hr.out.symm.trans hf
  clear hf hk
  rcases Int.lt_or_le k 0 with hk | hk
  · have q0 : ¬ k = 0 := by omega
    have q1 : ¬ k = 1 := by omega
    have q2 : ¬ k = 2 := by omega
    have q3 : ¬ k = 3 := by omega
    have q4 : ¬ k = 4 := by omega
    have q5 : ¬ k = 5 := by omega
    have q6 : ¬ k = 6 := by omega
    by_cases hn : n = 0
    rotate_left
    · go_enter Tryd.func45, Tryd.ntmps45
      go_wp2
      go_ret
      exact ⟨ret_bool (by rw [HR.out]), by go_grown⟩
    by_cases hz : zs.length = 0
    rotate_left
    · have hz2 : 0 < zs.length := by omega
      go_enter Tryd.func45, Tryd.ntmps45
      go_wp2
      go_ret
      exact ⟨ret_bool (by rw [HR.out]), by go_grown⟩
    by_cases h0 : t.size = 0
    rotate_left
    · rw [decide_eq_false h0] at hte
      go_enter Tryd.func45, Tryd.ntmps45
      go_wp2
      go_ret
      exact ⟨ret_bool (by rw [HR.out]), by go_grown⟩
    rw [decide_eq_true h0] at hte
    go_enter Tryd.func45, Tryd.ntmps45
    go_wp2
    go_ret
    exact ⟨ret_bool (by rw [HR.out]), by go_grown⟩
  have hk : 6 < k := by have := HK.out; omega
  · have q0 : ¬ k = 0 := by omega
    have q1 : ¬ k = 1 := by omega
    have q2 : ¬ k = 2 := by omega
    have q3 : ¬ k = 3 := by omega
    have q4 : ¬ k = 4 := by omega
    have q5 : ¬ k = 5 := by omega
    have q6 : ¬ k = 6 := by omega
    by_cases hn : n = 0
    rotate_left
    · go_enter Tryd.func45, Tryd.ntmps45
      go_wp2
      go_ret
      exact ⟨ret_bool (by rw [HR.out]), by go_grown⟩
    by_cases hz : zs.length = 0
    rotate_left
    · have hz2 : 0 < zs.length := by omega
      go_enter Tryd.func45, Tryd.ntmps45
      go_wp2
      go_ret
      exact ⟨ret_bool (by rw [HR.out]), by go_grown⟩
    by_cases h0 : t.size = 0
    rotate_left
    · rw [decide_eq_false h0] at hte
      go_enter Tryd.func45, Tryd.ntmps45
      go_wp2
      go_ret
      exact ⟨ret_bool (by rw [HR.out]), by go_grown⟩
    rw [decide_eq_true h0] at hte
    go_enter Tryd.func45, Tryd.ntmps45
    go_wp2
    go_ret
    exact ⟨ret_bool (by rw [HR.out]), by go_grown⟩


theorem spec_right (k n : Int) (a : Option Addr) (cap : Nat) (zs : List Int) (t : ByteArray) (w : World) (hc : Codes w a zs) (ht : t.size ≤ maxLen) :
    Calls Tryd.prog 45 #[av k n a zs.length cap t] w fun e w' => e = .returned (.bool (right k n zs t)) ∧ Below w.heap.size w w' := by
  by_cases h : 0 ≤ k ∧ k ≤ 6
  · rcases (by omega : (k = 0 ∨ k = 5 ∨ k = 6) ∨ k = 1 ∨ k = 2 ∨ k = 3 ∨ k = 4) with h | h | h | h | h
    · exact sr_nothing k n a cap zs t w hc ht h
    · exact sr_int k n a cap zs t w hc ht h
    · exact sr_code k n a cap zs t w hc ht h
    · exact sr_set k n a cap zs t w hc ht h
    · exact sr_text k n a cap zs t w hc ht h
  · exact sr_else k n a cap zs t w hc ht h
end Go.Proofs.YtbhblnpehhaiiaaDoor.ValS
