/- Answered, Known, HasCode: what the model and the program say. -/
import Derived.Test.YtmmijhpeinobbaaGreatDoorValRightS
import Derived.Test.YtmmijhpeinobbaaGreatDoorValRightI
import Derived.Test.YtmmijhpeinobbaaGreatDoorValTypes
namespace Go.Proofs.YtmmijhpeinobbaaGreatDoor.ValK
open Go.RowKit
open ValM ValW ValS ValI

def answeredB (k n : Int) (zs : List Int) (t : ByteArray) : Bool := right k n zs t && decide (k ≠ 0)
def knownB (k n : Int) (zs : List Int) (t : ByteArray) : Bool := right k n zs t && decide (1 ≤ k ∧ k ≤ 4)
def hasB (k n : Int) (zs : List Int) (t : ByteArray) (c : Int) : Bool := right k n zs t && decide (k = 3) && zs.contains c

theorem spec_answered (k n : Int) (a : Option Addr) (cap : Nat) (zs : List Int) (t : ByteArray) (w : World) (hc : Codes w a zs) (ht : t.size ≤ maxLen) :
    Calls Tryz.prog 21 #[av k n a zs.length cap t] w fun e w' => e = .returned (.bool (answeredB k n zs t)) ∧ Below w.heap.size w w' := by
  have HC : Hid (Codes w a zs) := hc
  have HT : Hid (t.size ≤ maxLen) := ht
  unfold answeredB
  obtain ⟨r, hr⟩ : ∃ r, Hid (right k n zs t = r) := ⟨_, rfl⟩
  rw [hr.out]
  clear hc ht
  go_enter Tryz.func21, Tryz.ntmps21
  go_wp2_with fail
  refine (spec_right k n a cap zs t _ (HC.out.alloc _) HT.out).mono ?_
  rintro e w1 ⟨rfl, hB1⟩
  rw [hr.out]
  have HB : Hid (Below w.heap.size w w1) := (below_one w _).trans (hB1.mono (by simp))
  obtain ⟨c0, c1, c2, c3, hsz⟩ := (At4.laid w 25 (.int .i64 k) (.int .i64 n) (.slice a zs.length cap) (.string t)).on hB1
  clear hB1 HC
  cases r
  all_goals
    go_wp2
    go_ret
    exact ⟨ret_bool (by first | (simp; done) | (rw [Bool.eq_iff_iff]; simp)), HB.out⟩
theorem impl_answered (k n : Int) (a : Option Addr) (cap : Nat) (zs : List Int) (t : ByteArray) (w : World) (hc : Codes w a zs) (ht : t.size ≤ maxLen) :
    Calls Tryz.prog 20 #[av k n a zs.length cap t] w fun e w' => e = .returned (.bool (answeredB k n zs t)) ∧ Below w.heap.size w w' := by
  have HC : Hid (Codes w a zs) := hc
  have HT : Hid (t.size ≤ maxLen) := ht
  unfold answeredB
  obtain ⟨r, hr⟩ : ∃ r, Hid (right k n zs t = r) := ⟨_, rfl⟩
  rw [hr.out]
  clear hc ht
  by_cases hk : k = 0
  · go_enter Tryz.func20, Tryz.ntmps20
    go_wp2
    go_ret
    exact ⟨ret_bool (by simp [hk]), by go_grown⟩
  go_enter Tryz.func20, Tryz.ntmps20
  go_wp2_with fail
  refine (impl_right k n a cap zs t _ (HC.out.alloc _) HT.out).mono ?_
  rintro e w1 ⟨rfl, hB1⟩
  rw [hr.out]
  have HB : Hid (Below w.heap.size w w1) := (below_one w _).trans (hB1.mono (by simp))
  clear hB1 HC
  go_wp2
  go_ret
  exact ⟨ret_bool (by simp [hk]), HB.out⟩

theorem spec_kn (k n : Int) (a : Option Addr) (len cap : Nat) (t : ByteArray) (w : World) :
    Calls Tryz.prog 49 #[av k n a len cap t] w fun e w' => e = .returned (.bool (decide (1 ≤ k ∧ k ≤ 4))) ∧ Below w.heap.size w w' := by
  by_cases h1 : 1 ≤ k
  · go_enter Tryz.func49, Tryz.ntmps49
    go_wp2
    go_ret
    exact ⟨ret_bool (by simp [h1]), by go_grown⟩
  · go_enter Tryz.func49, Tryz.ntmps49
    go_wp2
    go_ret
    exact ⟨ret_bool (by simp; omega), by go_grown⟩
theorem spec_known (k n : Int) (a : Option Addr) (cap : Nat) (zs : List Int) (t : ByteArray) (w : World) (hc : Codes w a zs) (ht : t.size ≤ maxLen) :
    Calls Tryz.prog 23 #[av k n a zs.length cap t] w fun e w' => e = .returned (.bool (knownB k n zs t)) ∧ Below w.heap.size w w' := by
  have HC : Hid (Codes w a zs) := hc
  have HT : Hid (t.size ≤ maxLen) := ht
  unfold knownB
  obtain ⟨r, hr⟩ : ∃ r, Hid (right k n zs t = r) := ⟨_, rfl⟩
  obtain ⟨d, hd⟩ : ∃ d, Hid (decide (1 ≤ k ∧ k ≤ 4) = d) := ⟨_, rfl⟩
  rw [hr.out, hd.out]
  clear hc ht
  go_enter Tryz.func23, Tryz.ntmps23
  go_wp2_with fail
  refine (spec_right k n a cap zs t _ (HC.out.alloc _) HT.out).mono ?_
  rintro e w1 ⟨rfl, hB1⟩
  rw [hr.out]
  have HB : Hid (Below w.heap.size w w1) := (below_one w _).trans (hB1.mono (by simp))
  obtain ⟨c0, c1, c2, c3, hsz⟩ := (At4.laid w 25 (.int .i64 k) (.int .i64 n) (.slice a zs.length cap) (.string t)).on hB1
  clear hB1 HC
  cases r
  · go_wp2
    go_ret
    exact ⟨rfl, HB.out⟩
  · go_wp2_with fail
    refine (spec_kn k n a zs.length cap t _).mono ?_
    rintro e w2 ⟨rfl, hB2⟩
    rw [hd.out]
    have HB2 : Hid (Below w.heap.size w w2) := HB.out.trans (hB2.mono HB.out.size)
    clear hB2 c0 c1 c2 c3
    go_wp2
    go_ret
    exact ⟨rfl, HB2.out⟩

theorem tells_silence (v : Value) (w : World) :
    Calls Tryz.prog 48 #[.iface 78 v] w fun e w' => e = .returned (.bool false) ∧ w' = w := by
  have q0 := ValT.silence_integer v
  have q1 := ValT.silence_choice v
  have q2 := ValT.silence_choices v
  have q3 := ValT.silence_words v
  go_enter Tryz.func48, Tryz.ntmps48
  go_wp2
  go_ret
  exact ⟨rfl, rfl⟩
theorem tells_integer (v : Value) (w : World) :
    Calls Tryz.prog 48 #[.iface 81 v] w fun e w' => e = .returned (.bool true) ∧ w' = w := by
  have q0 := ValT.integer_integer v
  have q1 := ValT.integer_choice v
  have q2 := ValT.integer_choices v
  have q3 := ValT.integer_words v
  go_enter Tryz.func48, Tryz.ntmps48
  go_wp2
  go_ret
  exact ⟨rfl, rfl⟩
theorem tells_choice (v : Value) (w : World) :
    Calls Tryz.prog 48 #[.iface 83 v] w fun e w' => e = .returned (.bool true) ∧ w' = w := by
  have q0 := ValT.choice_integer v
  have q1 := ValT.choice_choice v
  have q2 := ValT.choice_choices v
  have q3 := ValT.choice_words v
  go_enter Tryz.func48, Tryz.ntmps48
  go_wp2
  go_ret
  exact ⟨rfl, rfl⟩
theorem tells_choices (v : Value) (w : World) :
    Calls Tryz.prog 48 #[.iface 85 v] w fun e w' => e = .returned (.bool true) ∧ w' = w := by
  have q0 := ValT.choices_integer v
  have q1 := ValT.choices_choice v
  have q2 := ValT.choices_choices v
  have q3 := ValT.choices_words v
  go_enter Tryz.func48, Tryz.ntmps48
  go_wp2
  go_ret
  exact ⟨rfl, rfl⟩
theorem tells_words (v : Value) (w : World) :
    Calls Tryz.prog 48 #[.iface 88 v] w fun e w' => e = .returned (.bool true) ∧ w' = w := by
  have q0 := ValT.words_integer v
  have q1 := ValT.words_choice v
  have q2 := ValT.words_choices v
  have q3 := ValT.words_words v
  go_enter Tryz.func48, Tryz.ntmps48
  go_wp2
  go_ret
  exact ⟨rfl, rfl⟩

theorem ik_none (k n : Int) (a : Option Addr) (cap : Nat) (zs : List Int) (t : ByteArray) (w : World) (hc : Codes w a zs) (ht : t.size ≤ maxLen) (hr : right k n zs t = true) (hk : k = 0 ∨ k = 5 ∨ k = 6) :
    Calls Tryz.prog 22 #[av k n a zs.length cap t] w fun e w' => e = .returned (.bool false) ∧ Below w.heap.size w w' := by
  have HC : Hid (Codes w a zs) := hc
  have HT : Hid (t.size ≤ maxLen) := ht
  have HR : Hid (right k n zs t = true) := hr
  have HK : Hid (k = 0 ∨ k = 5 ∨ k = 6) := hk
  clear hc ht hr hk
  go_enter Tryz.func22, Tryz.ntmps22
  go_wp2_with fail
  refine (impl_right k n a cap zs t _ (HC.out.alloc _) HT.out).mono ?_
  rintro e w1 ⟨rfl, hB1⟩
  rw [HR.out]
  have HB : Hid (Below w.heap.size w w1) := (below_one w _).trans (hB1.mono (by simp))
  obtain ⟨c0, c1, c2, c3, hsz⟩ := (At4.laid w 25 (.int .i64 k) (.int .i64 n) (.slice a zs.length cap) (.string t)).on hB1
  clear hB1 HC
  go_wp2_with fail
  refine (content_none k n a zs.length cap t _ HK.out).mono ?_
  rintro e w2 ⟨rfl, hB2⟩
  have HB2 : Hid (Below w.heap.size w w2) := HB.out.trans (hB2.mono HB.out.size)
  clear hB2 c0 c1 c2 c3
  go_wp2_with (go_at_call 48; refine (tells_silence _ _).mono ?_; rintro e w' ⟨rfl, rfl⟩)
  go_ret
  exact ⟨rfl, HB2.out⟩

theorem ik_int (k n : Int) (a : Option Addr) (cap : Nat) (zs : List Int) (t : ByteArray) (w : World) (hc : Codes w a zs) (ht : t.size ≤ maxLen) (hr : right k n zs t = true) (hk : k = 1) :
    Calls Tryz.prog 22 #[av k n a zs.length cap t] w fun e w' => e = .returned (.bool true) ∧ Below w.heap.size w w' := by
  have HC : Hid (Codes w a zs) := hc
  have HT : Hid (t.size ≤ maxLen) := ht
  have HR : Hid (right k n zs t = true) := hr
  have HK : Hid (k = 1) := hk
  clear hc ht hr hk
  go_enter Tryz.func22, Tryz.ntmps22
  go_wp2_with fail
  refine (impl_right k n a cap zs t _ (HC.out.alloc _) HT.out).mono ?_
  rintro e w1 ⟨rfl, hB1⟩
  rw [HR.out]
  have HB : Hid (Below w.heap.size w w1) := (below_one w _).trans (hB1.mono (by simp))
  obtain ⟨c0, c1, c2, c3, hsz⟩ := (At4.laid w 25 (.int .i64 k) (.int .i64 n) (.slice a zs.length cap) (.string t)).on hB1
  clear hB1 HC
  go_wp2_with fail
  refine (content_int k n a zs.length cap t _ HK.out).mono ?_
  rintro e w2 ⟨rfl, hB2⟩
  have HB2 : Hid (Below w.heap.size w w2) := HB.out.trans (hB2.mono HB.out.size)
  clear hB2 c0 c1 c2 c3
  go_wp2_with (go_at_call 48; refine (tells_integer _ _).mono ?_; rintro e w' ⟨rfl, rfl⟩)
  go_ret
  exact ⟨rfl, HB2.out⟩

theorem ik_code (k n : Int) (a : Option Addr) (cap : Nat) (zs : List Int) (t : ByteArray) (w : World) (hc : Codes w a zs) (ht : t.size ≤ maxLen) (hr : right k n zs t = true) (hk : k = 2) :
    Calls Tryz.prog 22 #[av k n a zs.length cap t] w fun e w' => e = .returned (.bool true) ∧ Below w.heap.size w w' := by
  have HC : Hid (Codes w a zs) := hc
  have HT : Hid (t.size ≤ maxLen) := ht
  have HR : Hid (right k n zs t = true) := hr
  have HK : Hid (k = 2) := hk
  clear hc ht hr hk
  go_enter Tryz.func22, Tryz.ntmps22
  go_wp2_with fail
  refine (impl_right k n a cap zs t _ (HC.out.alloc _) HT.out).mono ?_
  rintro e w1 ⟨rfl, hB1⟩
  rw [HR.out]
  have HB : Hid (Below w.heap.size w w1) := (below_one w _).trans (hB1.mono (by simp))
  obtain ⟨c0, c1, c2, c3, hsz⟩ := (At4.laid w 25 (.int .i64 k) (.int .i64 n) (.slice a zs.length cap) (.string t)).on hB1
  clear hB1 HC
  go_wp2_with fail
  refine (content_code k n a zs.length cap t _ HK.out).mono ?_
  rintro e w2 ⟨rfl, hB2⟩
  have HB2 : Hid (Below w.heap.size w w2) := HB.out.trans (hB2.mono HB.out.size)
  clear hB2 c0 c1 c2 c3
  go_wp2_with (go_at_call 48; refine (tells_choice _ _).mono ?_; rintro e w' ⟨rfl, rfl⟩)
  go_ret
  exact ⟨rfl, HB2.out⟩

theorem ik_set (k n : Int) (a : Option Addr) (cap : Nat) (zs : List Int) (t : ByteArray) (w : World) (hc : Codes w a zs) (ht : t.size ≤ maxLen) (hr : right k n zs t = true) (hk : k = 3) :
    Calls Tryz.prog 22 #[av k n a zs.length cap t] w fun e w' => e = .returned (.bool true) ∧ Below w.heap.size w w' := by
  have HC : Hid (Codes w a zs) := hc
  have HT : Hid (t.size ≤ maxLen) := ht
  have HR : Hid (right k n zs t = true) := hr
  have HK : Hid (k = 3) := hk
  clear hc ht hr hk
  go_enter Tryz.func22, Tryz.ntmps22
  go_wp2_with fail
  refine (impl_right k n a cap zs t _ (HC.out.alloc _) HT.out).mono ?_
  rintro e w1 ⟨rfl, hB1⟩
  rw [HR.out]
  have HB : Hid (Below w.heap.size w w1) := (below_one w _).trans (hB1.mono (by simp))
  obtain ⟨c0, c1, c2, c3, hsz⟩ := (At4.laid w 25 (.int .i64 k) (.int .i64 n) (.slice a zs.length cap) (.string t)).on hB1
  clear hB1 HC
  go_wp2_with fail
  refine (content_set k n a zs.length cap t _ HK.out).mono ?_
  rintro e w2 ⟨rfl, hB2⟩
  have HB2 : Hid (Below w.heap.size w w2) := HB.out.trans (hB2.mono HB.out.size)
  clear hB2 c0 c1 c2 c3
  go_wp2_with (go_at_call 48; refine (tells_choices _ _).mono ?_; rintro e w' ⟨rfl, rfl⟩)
  go_ret
  exact ⟨rfl, HB2.out⟩

theorem ik_text (k n : Int) (a : Option Addr) (cap : Nat) (zs : List Int) (t : ByteArray) (w : World) (hc : Codes w a zs) (ht : t.size ≤ maxLen) (hr : right k n zs t = true) (hk : k = 4) :
    Calls Tryz.prog 22 #[av k n a zs.length cap t] w fun e w' => e = .returned (.bool true) ∧ Below w.heap.size w w' := by
  have HC : Hid (Codes w a zs) := hc
  have HT : Hid (t.size ≤ maxLen) := ht
  have HR : Hid (right k n zs t = true) := hr
  have HK : Hid (k = 4) := hk
  clear hc ht hr hk
  go_enter Tryz.func22, Tryz.ntmps22
  go_wp2_with fail
  refine (impl_right k n a cap zs t _ (HC.out.alloc _) HT.out).mono ?_
  rintro e w1 ⟨rfl, hB1⟩
  rw [HR.out]
  have HB : Hid (Below w.heap.size w w1) := (below_one w _).trans (hB1.mono (by simp))
  obtain ⟨c0, c1, c2, c3, hsz⟩ := (At4.laid w 25 (.int .i64 k) (.int .i64 n) (.slice a zs.length cap) (.string t)).on hB1
  clear hB1 HC
  go_wp2_with fail
  refine (content_text k n a zs.length cap t _ HK.out).mono ?_
  rintro e w2 ⟨rfl, hB2⟩
  have HB2 : Hid (Below w.heap.size w w2) := HB.out.trans (hB2.mono HB.out.size)
  clear hB2 c0 c1 c2 c3
  go_wp2_with (go_at_call 48; refine (tells_words _ _).mono ?_; rintro e w' ⟨rfl, rfl⟩)
  go_ret
  exact ⟨rfl, HB2.out⟩

theorem ik_not (k n : Int) (a : Option Addr) (cap : Nat) (zs : List Int) (t : ByteArray) (w : World) (hc : Codes w a zs) (ht : t.size ≤ maxLen) (hr : right k n zs t = false) :
    Calls Tryz.prog 22 #[av k n a zs.length cap t] w fun e w' => e = .returned (.bool false) ∧ Below w.heap.size w w' := by
  have HC : Hid (Codes w a zs) := hc
  have HT : Hid (t.size ≤ maxLen) := ht
  have HR : Hid (right k n zs t = false) := hr
  clear hc ht hr
  go_enter Tryz.func22, Tryz.ntmps22
  go_wp2_with fail
  refine (impl_right k n a cap zs t _ (HC.out.alloc _) HT.out).mono ?_
  rintro e w1 ⟨rfl, hB1⟩
  rw [HR.out]
  have HB : Hid (Below w.heap.size w w1) := (below_one w _).trans (hB1.mono (by simp))
  clear hB1 HC
  go_wp2
  go_ret
  exact ⟨rfl, HB.out⟩
theorem impl_known (k n : Int) (a : Option Addr) (cap : Nat) (zs : List Int) (t : ByteArray) (w : World) (hc : Codes w a zs) (ht : t.size ≤ maxLen) :
    Calls Tryz.prog 22 #[av k n a zs.length cap t] w fun e w' => e = .returned (.bool (knownB k n zs t)) ∧ Below w.heap.size w w' := by
  cases hr : right k n zs t with
  | false => have : knownB k n zs t = false := by unfold knownB; rw [hr]; rfl
             rw [this]; exact ik_not k n a cap zs t w hc ht hr
  | true =>
    have e : knownB k n zs t = decide (1 ≤ k ∧ k ≤ 4) := by unfold knownB; rw [hr]; rfl
    rcases kinds hr with ⟨h, _⟩ | ⟨h, _⟩ | ⟨h, _⟩ | ⟨h, _⟩ | ⟨h, _⟩
    · rw [e, decide_eq_false (by omega)]; exact ik_none k n a cap zs t w hc ht hr h
    · rw [e, decide_eq_true (by omega)]; exact ik_int k n a cap zs t w hc ht hr h
    · rw [e, decide_eq_true (by omega)]; exact ik_code k n a cap zs t w hc ht hr h
    · rw [e, decide_eq_true (by omega)]; exact ik_set k n a cap zs t w hc ht hr h
    · rw [e, decide_eq_true (by omega)]; exact ik_text k n a cap zs t w hc ht hr h
end Go.Proofs.YtmmijhpeinobbaaGreatDoor.ValK
