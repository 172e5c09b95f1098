/- Texts of ours, laid together. -/
import Derived.Test.YtmbhmknfipdadaaGreatDoorProg
import Derived.WalkKit
import Derived.WalkSpells
import Derived.WalkLawsBesides
namespace Go.Proofs.YtmbhmknfipdadaaGreatDoor.NameW
open Go.RowKit
def isL (c : UInt8) : Bool := decide (97 ≤ c.toNat ∧ c.toNat ≤ 122)
def isO (c : UInt8) : Bool := decide ((97 ≤ c.toNat ∧ c.toNat ≤ 122) ∨ (48 ≤ c.toNat ∧ c.toNat ≤ 57) ∨ c.toNat = 95)
def okAt (s : ByteArray) (k : Nat) : Bool := if h : k < s.size then (if k = 0 then isL s[k] else isO s[k]) else true
def nameB (s : ByteArray) : Bool := decide (1 ≤ s.size ∧ s.size ≤ 20 ∧ ∀ k, k < s.size → okAt s k = true)
theorem name_no (s : ByteArray) (h : s.size < 1 ∨ 20 < s.size) : nameB s = false := by
 unfold nameB; rw [decide_eq_false_iff_not]; omega
theorem name_bad (s : ByteArray) (k : Nat) (hk : k < s.size) (h : okAt s k = false) : nameB s = false := by
 unfold nameB; rw [decide_eq_false_iff_not]; rintro ⟨_, _, a⟩; have := a k hk; rw [h] at this; cases this
theorem name_yes (s : ByteArray) (h1 : 1 ≤ s.size) (h2 : s.size ≤ 20) (h : ∀ k, k < s.size → okAt s k = true) : nameB s = true := by
 unfold nameB; rw [decide_eq_true_iff]; exact ⟨h1, h2, h⟩
theorem ok_true (s : ByteArray) (k : Nat) (hk : k < s.size) (h0 : k = 0 → 97 ≤ s[k].toNat ∧ s[k].toNat ≤ 122)
  (h1 : ¬ k = 0 → (97 ≤ s[k].toNat ∧ s[k].toNat ≤ 122) ∨ (48 ≤ s[k].toNat ∧ s[k].toNat ≤ 57) ∨ s[k].toNat = 95) : okAt s k = true := by
 unfold okAt isL isO; rw [dif_pos hk]; split
 ·rw [decide_eq_true_iff]; exact h0 (by assumption)
 ·rw [decide_eq_true_iff]; exact h1 (by assumption)
theorem ok_false (s : ByteArray) (k : Nat) (hk : k < s.size) (h0 : k = 0 → ¬ (97 ≤ s[k].toNat ∧ s[k].toNat ≤ 122))
  (h1 : ¬ k = 0 → ¬ ((97 ≤ s[k].toNat ∧ s[k].toNat ≤ 122) ∨ (48 ≤ s[k].toNat ∧ s[k].toNat ≤ 57) ∨ s[k].toNat = 95)) : okAt s k = false := by
 unfold okAt isL isO; rw [dif_pos hk]; split
 ·rw [decide_eq_false_iff_not]; exact h0 (by assumption)
 ·rw [decide_eq_false_iff_not]; exact h1 (by assumption)
theorem ret_bool {a b : Bool} (h : a = b) : Ending.returned (.bool a) = .returned (.bool b) := by rw [h]
set_option maxHeartbeats 400000 in
theorem spec_name (s : ByteArray) (w : World) (hs : s.size ≤ maxLen) :
    Calls Tryz.prog 83 #[.string s] w fun e w' => e = .returned (.bool (nameB s)) ∧ w' = w := by
  unfold maxLen at hs
  by_cases h1 : s.size < 1
  · go_enter Tryz.func83, Tryz.ntmps83
    go_wp2
    go_ret
    exact ⟨ret_bool (name_no s (Or.inl h1)).symm, rfl⟩
  by_cases h2 : 20 < s.size
  · go_enter Tryz.func83, Tryz.ntmps83
    go_wp2
    go_ret
    exact ⟨ret_bool (name_no s (Or.inr h2)).symm, rfl⟩
  go_enter Tryz.func83, Tryz.ntmps83
  go_wp2
  go_loop [3, 4] (fun i _ => ∃ k : Nat, k ≤ s.size ∧ i = .int .i64 k ∧ Hid (∀ j, j < k → okAt s j = true)) (fun i _ => s.size - (intOf i).toNat)
  case atStart => exact ⟨0, Nat.zero_le _, rfl, fun j hj => absurd hj (Nat.not_lt_zero _)⟩
  case round =>
    obtain ⟨k, hk, rfl, hall⟩ := hrel
    by_cases hlt : k < s.size
    · go_wp2
      all_goals first
        | (go_ret; refine ⟨ret_bool (name_bad s k hlt ?_).symm, rfl⟩; refine ok_false s k hlt ?_ ?_ <;> (intro hz; (try subst hz); (simp at * <;> omega)))
        | (refine ⟨⟨k + 1, by omega, by first | go_num | (subst_vars; rfl), fun j hj => ?_⟩, by simp [intOf]; omega⟩
           rcases Nat.lt_succ_iff_lt_or_eq.1 hj with hj' | rfl
           · exact hall.out j hj'
           · refine ok_true s _ hlt ?_ ?_ <;> (intro hz; (try subst hz); (simp at * <;> omega)))
    · go_wp2
      go_ret
      exact ⟨ret_bool (name_yes s (by omega) (by omega) (fun j hj => hall.out j (by omega))).symm, rfl⟩
set_option maxHeartbeats 1000000 in
theorem impl_name (s : ByteArray) (w : World) (hs : s.size ≤ maxLen) :
    Calls Tryz.prog 91 #[.string s] w fun e w' => e = .returned (.bool (nameB s)) ∧ w' = w := by
  unfold maxLen at hs
  by_cases h1 : s.size < 1
  · go_enter Tryz.func91, Tryz.ntmps91
    go_wp2
    go_ret
    exact ⟨ret_bool (name_no s (Or.inl h1)).symm, rfl⟩
  by_cases h2 : 20 < s.size
  · go_enter Tryz.func91, Tryz.ntmps91
    go_wp2
    go_ret
    exact ⟨ret_bool (name_no s (Or.inr h2)).symm, rfl⟩
  have h0 : 0 < s.size := by omega
  by_cases ha : s[0].toNat < 97
  · go_enter Tryz.func91, Tryz.ntmps91
    go_wp2
    go_ret
    exact ⟨ret_bool (name_bad s 0 h0 (ok_false s 0 h0 (fun _ => by omega) (fun h => absurd rfl h))).symm, rfl⟩
  by_cases hb : 122 < s[0].toNat
  · have hd0 : decide ((s[0].toNat : Int) ≤ 122) = false := by simp; omega
    go_enter Tryz.func91, Tryz.ntmps91
    go_wp2
    go_ret
    exact ⟨ret_bool (name_bad s 0 h0 (ok_false s 0 h0 (fun _ => by omega) (fun h => absurd rfl h))).symm, rfl⟩
  have hd0 : decide ((s[0].toNat : Int) ≤ 122) = true := by simp; omega
  have hd1 : decide ((97 : Int) ≤ s[0].toNat) = true := by simp; omega
  have hok0 : Hid (okAt s 0 = true) := ok_true s 0 h0 (fun _ => by omega) (fun h => absurd rfl h)
  go_enter Tryz.func91, Tryz.ntmps91
  go_wp2
  go_loop [3] (fun i => ∃ k : Nat, 1 ≤ k ∧ k ≤ s.size ∧ i = .int .i64 k ∧ Hid (∀ j, j < k → okAt s j = true)) (fun i => s.size - (intOf i).toNat)
  case atStart => exact ⟨1, Nat.le_refl _, by omega, rfl, fun j hj => by have : j = 0 := by omega
                                                                         subst this; exact hok0.out⟩
  case round =>
    obtain ⟨k, hk1, hk, rfl, hall⟩ := hrel
    clear hd0 hd1 ha hb
    by_cases hlt : k < s.size
    · go_wp2
      all_goals first
        | (go_ret; refine ⟨ret_bool (name_bad s k hlt ?_).symm, rfl⟩; refine ok_false s k hlt ?_ ?_ <;> (intro hz; (try subst hz); (simp at * <;> omega)))
        | (refine ⟨⟨k + 1, by omega, by omega, by go_num, fun j hj => ?_⟩, by simp [intOf]; omega⟩
           rcases Nat.lt_succ_iff_lt_or_eq.1 hj with hj' | rfl
           · exact hall.out j hj'
           · refine ok_true s _ hlt ?_ ?_ <;> (intro hz; (try subst hz); (simp at * <;> omega)))
    · go_wp2
      go_ret
      exact ⟨ret_bool (name_yes s (by omega) (by omega) (fun j hj => hall.out j (by omega))).symm, rfl⟩
end Go.Proofs.YtmbhmknfipdadaaGreatDoor.NameW
namespace Go.Proofs.YtmbhmknfipdadaaGreatDoor.FixH
open Go.RowKit
def ill (c : Int) : List PanicEntry := [{ v := .iface 142 (.agg #[.int .i64 c]), recovered := false }]
set_option maxHeartbeats 400000 in
theorem held_in (n lo hi c : Int) (w : World) (h : lo ≤ n ∧ n ≤ hi) :
  Calls Tryz.prog 211 #[.int .i64 n, .int .i64 lo, .int .i64 hi, .int .i64 c] w fun e w' => e = .returned (.int .i64 n) ∧ w' = w := by
 have h1 : ¬ n < lo := by omega
 have h2 : ¬ hi < n := by omega
 clear h
 go_enter Tryz.func211, Tryz.ntmps211
 go_wp2
 go_ret
 exact ⟨rfl, rfl⟩
set_option maxHeartbeats 400000 in
theorem held_out (n lo hi c : Int) (w : World) (h : ¬ (lo ≤ n ∧ n ≤ hi)) :
  Calls Tryz.prog 211 #[.int .i64 n, .int .i64 lo, .int .i64 hi, .int .i64 c] w fun e w' => e = .panicked (ill c) ∧ w' = w := by
 by_cases h1 : n < lo
 ·clear h
  go_enter Tryz.func211, Tryz.ntmps211
  go_wp2
  exact ⟨rfl, rfl, rfl⟩
 ·have h2 : hi < n := by omega
  clear h
  go_enter Tryz.func211, Tryz.ntmps211
  go_wp2
  exact ⟨rfl, rfl, rfl⟩
set_option maxHeartbeats 400000 in
theorem heldU_in (n lo hi : Int) (c : Int) (w : World) (h : lo ≤ n ∧ n ≤ hi) :
  Calls Tryz.prog 214 #[.int .u64 n, .int .u64 lo, .int .u64 hi, .int .i64 c] w fun e w' => e = .returned (.int .u64 n) ∧ w' = w := by
 have h1 : ¬ n < lo := by omega
 have h2 : ¬ hi < n := by omega
 clear h
 go_enter Tryz.func214, Tryz.ntmps214
 go_wp2
 go_ret
 exact ⟨rfl, rfl⟩
set_option maxHeartbeats 400000 in
theorem heldU_out (n lo hi : Int) (c : Int) (w : World) (h : ¬ (lo ≤ n ∧ n ≤ hi)) :
  Calls Tryz.prog 214 #[.int .u64 n, .int .u64 lo, .int .u64 hi, .int .i64 c] w fun e w' => e = .panicked (ill c) ∧ w' = w := by
 by_cases h1 : n < lo
 ·clear h
  go_enter Tryz.func214, Tryz.ntmps214
  go_wp2
  exact ⟨rfl, rfl, rfl⟩
 ·have h2 : hi < n := by omega
  clear h
  go_enter Tryz.func214, Tryz.ntmps214
  go_wp2
  exact ⟨rfl, rfl, rfl⟩
theorem handed_in (n : Int) (w : World) (h : -1000000000000000 ≤ n ∧ n ≤ 1000000000000000) :
  Calls Tryz.prog 182 #[.int .i64 n] w fun e w' => e = .returned (.int .i64 n) ∧ w' = w := by
 go_enter Tryz.func182, Tryz.ntmps182
 go_wp2_with (first | (go_at_call 211; refine (held_in _ _ _ _ _ h).mono ?_; rintro e w' ⟨rfl, rfl⟩))
 go_ret
 exact ⟨rfl, rfl⟩
theorem handed_out (n : Int) (w : World) (h : ¬ (-1000000000000000 ≤ n ∧ n ≤ 1000000000000000)) :
  Calls Tryz.prog 182 #[.int .i64 n] w fun e w' => e = .panicked (ill 1) ∧ w' = w := by
 go_enter Tryz.func182, Tryz.ntmps182
 go_wp2_with (first | (go_at_call 211; refine (held_out _ _ _ _ _ h).mono ?_; rintro e w' ⟨rfl, rfl⟩))
 exact ⟨rfl, rfl, rfl⟩
theorem reckoned_in (n : Int) (w : World) (h : -1000000000000000 ≤ n ∧ n ≤ 1000000000000000) :
  Calls Tryz.prog 181 #[.int .i64 n] w fun e w' => e = .returned (.int .i64 n) ∧ w' = w := by
 go_enter Tryz.func181, Tryz.ntmps181
 go_wp2_with (first | (go_at_call 211; refine (held_in _ _ _ _ _ h).mono ?_; rintro e w' ⟨rfl, rfl⟩))
 go_ret
 exact ⟨rfl, rfl⟩
theorem reckoned_out (n : Int) (w : World) (h : ¬ (-1000000000000000 ≤ n ∧ n ≤ 1000000000000000)) :
  Calls Tryz.prog 181 #[.int .i64 n] w fun e w' => e = .panicked (ill 12) ∧ w' = w := by
 go_enter Tryz.func181, Tryz.ntmps181
 go_wp2_with (first | (go_at_call 211; refine (held_out _ _ _ _ _ h).mono ?_; rintro e w' ⟨rfl, rfl⟩))
 exact ⟨rfl, rfl, rfl⟩
theorem handed_any (n : Int) (w : World) :
  Calls Tryz.prog 182 #[.int .i64 n] w fun e w' => ((e = .returned (.int .i64 n) ∧ (-1000000000000000 ≤ n ∧ n ≤ 1000000000000000)) ∨ (e = .panicked (ill 1) ∧ ¬ (-1000000000000000 ≤ n ∧ n ≤ 1000000000000000))) ∧ w' = w := by
 by_cases h : -1000000000000000 ≤ n ∧ n ≤ 1000000000000000
 ·exact (handed_in n w h).mono fun e w' he => ⟨Or.inl ⟨he.1, h⟩, he.2⟩
 ·exact (handed_out n w h).mono fun e w' he => ⟨Or.inr ⟨he.1, h⟩, he.2⟩
theorem reckoned_any (n : Int) (w : World) :
  Calls Tryz.prog 181 #[.int .i64 n] w fun e w' => ((e = .returned (.int .i64 n) ∧ (-1000000000000000 ≤ n ∧ n ≤ 1000000000000000)) ∨ (e = .panicked (ill 12) ∧ ¬ (-1000000000000000 ≤ n ∧ n ≤ 1000000000000000))) ∧ w' = w := by
 by_cases h : -1000000000000000 ≤ n ∧ n ≤ 1000000000000000
 ·exact (reckoned_in n w h).mono fun e w' he => ⟨Or.inl ⟨he.1, h⟩, he.2⟩
 ·exact (reckoned_out n w h).mono fun e w' he => ⟨Or.inr ⟨he.1, h⟩, he.2⟩
end Go.Proofs.YtmbhmknfipdadaaGreatDoor.FixH
namespace Go.Proofs.YtmbhmknfipdadaaGreatDoor.ValT
open Go.RowKit
theorem silence_integer (v : Value) (w : World) : (Instr.typeAssert (.iface 162 v) 134 164 true).run Tryz.prog w = .ok (.tuple #[.agg #[.int .i64 0], .bool false]) w := by kernel_rfl
theorem silence_choice (v : Value) (w : World) : (Instr.typeAssert (.iface 162 v) 134 165 true).run Tryz.prog w = .ok (.tuple #[.agg #[.int .i64 0], .bool false]) w := by kernel_rfl
theorem silence_choices (v : Value) (w : World) : (Instr.typeAssert (.iface 162 v) 134 167 true).run Tryz.prog w = .ok (.tuple #[.agg #[.slice none 0 0], .bool false]) w := by kernel_rfl
theorem silence_words (v : Value) (w : World) : (Instr.typeAssert (.iface 162 v) 134 169 true).run Tryz.prog w = .ok (.tuple #[.agg #[.string ByteArray.empty], .bool false]) w := by kernel_rfl
theorem integer_integer (v : Value) (w : World) : (Instr.typeAssert (.iface 164 v) 134 164 true).run Tryz.prog w = .ok (.tuple #[v, .bool true]) w := by kernel_rfl
theorem integer_choice (v : Value) (w : World) : (Instr.typeAssert (.iface 164 v) 134 165 true).run Tryz.prog w = .ok (.tuple #[.agg #[.int .i64 0], .bool false]) w := by kernel_rfl
theorem integer_choices (v : Value) (w : World) : (Instr.typeAssert (.iface 164 v) 134 167 true).run Tryz.prog w = .ok (.tuple #[.agg #[.slice none 0 0], .bool false]) w := by kernel_rfl
theorem integer_words (v : Value) (w : World) : (Instr.typeAssert (.iface 164 v) 134 169 true).run Tryz.prog w = .ok (.tuple #[.agg #[.string ByteArray.empty], .bool false]) w := by kernel_rfl
theorem choice_integer (v : Value) (w : World) : (Instr.typeAssert (.iface 165 v) 134 164 true).run Tryz.prog w = .ok (.tuple #[.agg #[.int .i64 0], .bool false]) w := by kernel_rfl
theorem choice_choice (v : Value) (w : World) : (Instr.typeAssert (.iface 165 v) 134 165 true).run Tryz.prog w = .ok (.tuple #[v, .bool true]) w := by kernel_rfl
theorem choice_choices (v : Value) (w : World) : (Instr.typeAssert (.iface 165 v) 134 167 true).run Tryz.prog w = .ok (.tuple #[.agg #[.slice none 0 0], .bool false]) w := by kernel_rfl
theorem choice_words (v : Value) (w : World) : (Instr.typeAssert (.iface 165 v) 134 169 true).run Tryz.prog w = .ok (.tuple #[.agg #[.string ByteArray.empty], .bool false]) w := by kernel_rfl
theorem choices_integer (v : Value) (w : World) : (Instr.typeAssert (.iface 167 v) 134 164 true).run Tryz.prog w = .ok (.tuple #[.agg #[.int .i64 0], .bool false]) w := by kernel_rfl
theorem choices_choice (v : Value) (w : World) : (Instr.typeAssert (.iface 167 v) 134 165 true).run Tryz.prog w = .ok (.tuple #[.agg #[.int .i64 0], .bool false]) w := by kernel_rfl
theorem choices_choices (v : Value) (w : World) : (Instr.typeAssert (.iface 167 v) 134 167 true).run Tryz.prog w = .ok (.tuple #[v, .bool true]) w := by kernel_rfl
theorem choices_words (v : Value) (w : World) : (Instr.typeAssert (.iface 167 v) 134 169 true).run Tryz.prog w = .ok (.tuple #[.agg #[.string ByteArray.empty], .bool false]) w := by kernel_rfl
theorem words_integer (v : Value) (w : World) : (Instr.typeAssert (.iface 169 v) 134 164 true).run Tryz.prog w = .ok (.tuple #[.agg #[.int .i64 0], .bool false]) w := by kernel_rfl
theorem words_choice (v : Value) (w : World) : (Instr.typeAssert (.iface 169 v) 134 165 true).run Tryz.prog w = .ok (.tuple #[.agg #[.int .i64 0], .bool false]) w := by kernel_rfl
theorem words_choices (v : Value) (w : World) : (Instr.typeAssert (.iface 169 v) 134 167 true).run Tryz.prog w = .ok (.tuple #[.agg #[.slice none 0 0], .bool false]) w := by kernel_rfl
theorem words_words (v : Value) (w : World) : (Instr.typeAssert (.iface 169 v) 134 169 true).run Tryz.prog w = .ok (.tuple #[v, .bool true]) w := by kernel_rfl
end Go.Proofs.YtmbhmknfipdadaaGreatDoor.ValT
