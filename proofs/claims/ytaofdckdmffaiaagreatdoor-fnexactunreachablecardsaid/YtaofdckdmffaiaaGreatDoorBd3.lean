/- Texts of ours, laid together: NameWalks, FixHeld. -/
import Derived.Test.YtaofdckdmffaiaaGreatDoorProg
import Derived.WalkKit
import Derived.WalkSpells
import Derived.WalkLawsBesides
/- What the two functions NameRight (the program's and the model's) answer, as one Bool of the text; both leave the world as it is. -/
namespace Go.Proofs.YtaofdckdmffaiaaGreatDoor.NameW
open Go.RowKit

def isL (c : UInt8) : Bool := decide (97 ≤ c.toNat ∧ c.toNat ≤ 122)
def isO (c : UInt8) : Bool := decide ((97 ≤ c.toNat ∧ c.toNat ≤ 122) ∨ (48 ≤ c.toNat ∧ c.toNat ≤ 57) ∨ c.toNat = 95)
def okAt (s : ByteArray) (k : Nat) : Bool := if h : k < s.size then (if k = 0 then isL s[k] else isO s[k]) else true
def nameB (s : ByteArray) : Bool := decide (1 ≤ s.size ∧ s.size ≤ 20 ∧ ∀ k, k < s.size → okAt s k = true)

theorem name_no (s : ByteArray) (h : s.size < 1 ∨ 20 < s.size) : nameB s = false := by
  unfold nameB; rw [decide_eq_false_iff_not]; omega
theorem name_bad (s : ByteArray) (k : Nat) (hk : k < s.size) (h : okAt s k = false) : nameB s = false := by
  unfold nameB; rw [decide_eq_false_iff_not]; rintro ⟨_, _, a⟩; have := a k hk; rw [h] at this; cases this
theorem name_yes (s : ByteArray) (h1 : 1 ≤ s.size) (h2 : s.size ≤ 20) (h : ∀ k, k < s.size → okAt s k = true) : nameB s = true := by
  unfold nameB; rw [decide_eq_true_iff]; exact ⟨h1, h2, h⟩
theorem ok_true (s : ByteArray) (k : Nat) (hk : k < s.size) (h0 : k = 0 → 97 ≤ s[k].toNat ∧ s[k].toNat ≤ 122)
    (h1 : ¬ k = 0 → (97 ≤ s[k].toNat ∧ s[k].toNat ≤ 122) ∨ (48 ≤ s[k].toNat ∧ s[k].toNat ≤ 57) ∨ s[k].toNat = 95) : okAt s k = true := by
  unfold okAt isL isO; rw [dif_pos hk]; split
  · rw [decide_eq_true_iff]; exact h0 (by assumption)
  · rw [decide_eq_true_iff]; exact h1 (by assumption)
theorem ok_false (s : ByteArray) (k : Nat) (hk : k < s.size) (h0 : k = 0 → ¬ (97 ≤ s[k].toNat ∧ s[k].toNat ≤ 122))
    (h1 : ¬ k = 0 → ¬ ((97 ≤ s[k].toNat ∧ s[k].toNat ≤ 122) ∨ (48 ≤ s[k].toNat ∧ s[k].toNat ≤ 57) ∨ s[k].toNat = 95)) : okAt s k = false := by
  unfold okAt isL isO; rw [dif_pos hk]; split
  · rw [decide_eq_false_iff_not]; exact h0 (by assumption)
  · rw [decide_eq_false_iff_not]; exact h1 (by assumption)
theorem ret_bool {a b : Bool} (h : a = b) : Ending.returned (.bool a) = .returned (.bool b) := by rw [h]

set_option maxHeartbeats 400000 in
theorem spec_name (s : ByteArray) (w : World) (hs : s.size ≤ maxLen) :
    Calls Tryz.prog 72 #[.string s] w fun e w' => e = .returned (.bool (nameB s)) ∧ w' = w := by
  unfold maxLen at hs
  by_cases h1 : s.size < 1
  · go_enter Tryz.func72, Tryz.ntmps72
    go_wp2
    go_ret
    exact ⟨ret_bool (name_no s (Or.inl h1)).symm, rfl⟩
  by_cases h2 : 20 < s.size
  · go_enter Tryz.func72, Tryz.ntmps72
    go_wp2
    go_ret
    exact ⟨ret_bool (name_no s (Or.inr h2)).symm, rfl⟩
  go_enter Tryz.func72, Tryz.ntmps72
  go_wp2
  go_loop [3, 4] (fun i _ => ∃ k : Nat, k ≤ s.size ∧ i = .int .i64 k ∧ Hid (∀ j, j < k → okAt s j = true)) (fun i _ => s.size - (intOf i).toNat)
  case atStart => exact ⟨0, Nat.zero_le _, rfl, fun j hj => absurd hj (Nat.not_lt_zero _)⟩
  case round =>
    obtain ⟨k, hk, rfl, hall⟩ := hrel
    by_cases hlt : k < s.size
    · go_wp2
      all_goals first
        | (go_ret; refine ⟨ret_bool (name_bad s k hlt ?_).symm, rfl⟩; refine ok_false s k hlt ?_ ?_ <;> (intro hz; (try subst hz); (simp at * <;> omega)))
        | (refine ⟨⟨k + 1, by omega, by first | go_num | (subst_vars; rfl), fun j hj => ?_⟩, by simp [intOf]; omega⟩
           rcases Nat.lt_succ_iff_lt_or_eq.1 hj with hj' | rfl
           · exact hall.out j hj'
           · refine ok_true s _ hlt ?_ ?_ <;> (intro hz; (try subst hz); (simp at * <;> omega)))
    · go_wp2
      go_ret
      exact ⟨ret_bool (name_yes s (by omega) (by omega) (fun j hj => hall.out j (by omega))).symm, rfl⟩

set_option maxHeartbeats 1000000 in
theorem impl_name (s : ByteArray) (w : World) (hs : s.size ≤ maxLen) :
    Calls Tryz.prog 92 #[.string s] w fun e w' => e = .returned (.bool (nameB s)) ∧ w' = w := by
  unfold maxLen at hs
  by_cases h1 : s.size < 1
  · go_enter Tryz.func92, Tryz.ntmps92
    go_wp2
    go_ret
    exact ⟨ret_bool (name_no s (Or.inl h1)).symm, rfl⟩
  by_cases h2 : 20 < s.size
  · go_enter Tryz.func92, Tryz.ntmps92
    go_wp2
    go_ret
    exact ⟨ret_bool (name_no s (Or.inr h2)).symm, rfl⟩
  have h0 : 0 < s.size := by omega
  by_cases ha : s[0].toNat < 97
  · go_enter Tryz.func92, Tryz.ntmps92
    go_wp2
    go_ret
    exact ⟨ret_bool (name_bad s 0 h0 (ok_false s 0 h0 (fun _ => by omega) (fun h => absurd rfl h))).symm, rfl⟩
  by_cases hb : 122 < s[0].toNat
  · have hd0 : decide ((s[0].toNat : Int) ≤ 122) = false := by simp; omega
    go_enter Tryz.func92, Tryz.ntmps92
    go_wp2
    go_ret
    exact ⟨ret_bool (name_bad s 0 h0 (ok_false s 0 h0 (fun _ => by omega) (fun h => absurd rfl h))).symm, rfl⟩
  have hd0 : decide ((s[0].toNat : Int) ≤ 122) = true := by simp; omega
  have hd1 : decide ((97 : Int) ≤ s[0].toNat) = true := by simp; omega
  have hok0 : Hid (okAt s 0 = true) := ok_true s 0 h0 (fun _ => by omega) (fun h => absurd rfl h)
  go_enter Tryz.func92, Tryz.ntmps92
  go_wp2
  go_loop [3] (fun i => ∃ k : Nat, 1 ≤ k ∧ k ≤ s.size ∧ i = .int .i64 k ∧ Hid (∀ j, j < k → okAt s j = true)) (fun i => s.size - (intOf i).toNat)
  case atStart => exact ⟨1, Nat.le_refl _, by omega, rfl, fun j hj => by have : j = 0 := by omega
                                                                         subst this; exact hok0.out⟩
  case round =>
    obtain ⟨k, hk1, hk, rfl, hall⟩ := hrel
    clear hd0 hd1 ha hb
    by_cases hlt : k < s.size
    · go_wp2
      all_goals first
        | (go_ret; refine ⟨ret_bool (name_bad s k hlt ?_).symm, rfl⟩; refine ok_false s k hlt ?_ ?_ <;> (intro hz; (try subst hz); (simp at * <;> omega)))
        | (refine ⟨⟨k + 1, by omega, by omega, by go_num, fun j hj => ?_⟩, by simp [intOf]; omega⟩
           rcases Nat.lt_succ_iff_lt_or_eq.1 hj with hj' | rfl
           · exact hall.out j hj'
           · refine ok_true s _ hlt ?_ ?_ <;> (intro hz; (try subst hz); (simp at * <;> omega)))
    · go_wp2
      go_ret
      exact ⟨ret_bool (name_yes s (by omega) (by omega) (fun j hj => hall.out j (by omega))).symm, rfl⟩
end Go.Proofs.YtaofdckdmffaiaaGreatDoor.NameW
/- What the program's bounds answer: the number itself within its bounds, else a panic with a fault of that code; the world stays as it is. -/
namespace Go.Proofs.YtaofdckdmffaiaaGreatDoor.FixH
open Go.RowKit

/-- the panic that a fault of this code is -/
def ill (c : Int) : List PanicEntry := [{ v := .iface 143 (.agg #[.int .i64 c]), recovered := false }]
/-- a number within its bounds is answered, else a panic -/
def heldE (n lo hi c : Int) : Ending := if lo ≤ n ∧ n ≤ hi then .returned (.int .i64 n) else .panicked (ill c)
theorem held_ok {n lo hi : Int} (c : Int) (h : lo ≤ n ∧ n ≤ hi) : heldE n lo hi c = .returned (.int .i64 n) := by unfold heldE; rw [if_pos h]
theorem held_no {n lo hi : Int} (c : Int) (h : ¬ (lo ≤ n ∧ n ≤ hi)) : heldE n lo hi c = .panicked (ill c) := by unfold heldE; rw [if_neg h]

set_option maxHeartbeats 400000 in
theorem held_in (n lo hi c : Int) (w : World) (h : lo ≤ n ∧ n ≤ hi) :
    Calls Tryz.prog 131 #[.int .i64 n, .int .i64 lo, .int .i64 hi, .int .i64 c] w fun e w' => e = .returned (.int .i64 n) ∧ w' = w := by
  have h1 : ¬ n < lo := by omega
  have h2 : ¬ hi < n := by omega
  clear h
  go_enter Tryz.func131, Tryz.ntmps131
  go_wp2
  go_ret
  exact ⟨rfl, rfl⟩
set_option maxHeartbeats 400000 in
theorem held_out (n lo hi c : Int) (w : World) (h : ¬ (lo ≤ n ∧ n ≤ hi)) :
    Calls Tryz.prog 131 #[.int .i64 n, .int .i64 lo, .int .i64 hi, .int .i64 c] w fun e w' => e = .panicked (ill c) ∧ w' = w := by
  by_cases h1 : n < lo
  · clear h
    go_enter Tryz.func131, Tryz.ntmps131
    go_wp2
    exact ⟨rfl, rfl, rfl⟩
  · have h2 : hi < n := by omega
    clear h
    go_enter Tryz.func131, Tryz.ntmps131
    go_wp2
    exact ⟨rfl, rfl, rfl⟩

set_option maxHeartbeats 400000 in
theorem heldU_in (n lo hi : Int) (c : Int) (w : World) (h : lo ≤ n ∧ n ≤ hi) :
    Calls Tryz.prog 134 #[.int .u64 n, .int .u64 lo, .int .u64 hi, .int .i64 c] w fun e w' => e = .returned (.int .u64 n) ∧ w' = w := by
  have h1 : ¬ n < lo := by omega
  have h2 : ¬ hi < n := by omega
  clear h
  go_enter Tryz.func134, Tryz.ntmps134
  go_wp2
  go_ret
  exact ⟨rfl, rfl⟩
set_option maxHeartbeats 400000 in
theorem heldU_out (n lo hi : Int) (c : Int) (w : World) (h : ¬ (lo ≤ n ∧ n ≤ hi)) :
    Calls Tryz.prog 134 #[.int .u64 n, .int .u64 lo, .int .u64 hi, .int .i64 c] w fun e w' => e = .panicked (ill c) ∧ w' = w := by
  by_cases h1 : n < lo
  · clear h
    go_enter Tryz.func134, Tryz.ntmps134
    go_wp2
    exact ⟨rfl, rfl, rfl⟩
  · have h2 : hi < n := by omega
    clear h
    go_enter Tryz.func134, Tryz.ntmps134
    go_wp2
    exact ⟨rfl, rfl, rfl⟩

theorem handed_in (n : Int) (w : World) (h : -1000000000000000 ≤ n ∧ n ≤ 1000000000000000) :
    Calls Tryz.prog 118 #[.int .i64 n] w fun e w' => e = .returned (.int .i64 n) ∧ w' = w := by
  go_enter Tryz.func118, Tryz.ntmps118
  go_wp2_with (first | (go_at_call 131; refine (held_in _ _ _ _ _ h).mono ?_; rintro e w' ⟨rfl, rfl⟩))
  go_ret
  exact ⟨rfl, rfl⟩
theorem handed_out (n : Int) (w : World) (h : ¬ (-1000000000000000 ≤ n ∧ n ≤ 1000000000000000)) :
    Calls Tryz.prog 118 #[.int .i64 n] w fun e w' => e = .panicked (ill 1) ∧ w' = w := by
  go_enter Tryz.func118, Tryz.ntmps118
  go_wp2_with (first | (go_at_call 131; refine (held_out _ _ _ _ _ h).mono ?_; rintro e w' ⟨rfl, rfl⟩))
  exact ⟨rfl, rfl, rfl⟩

theorem reckoned_in (n : Int) (w : World) (h : -1000000000000000 ≤ n ∧ n ≤ 1000000000000000) :
    Calls Tryz.prog 117 #[.int .i64 n] w fun e w' => e = .returned (.int .i64 n) ∧ w' = w := by
  go_enter Tryz.func117, Tryz.ntmps117
  go_wp2_with (first | (go_at_call 131; refine (held_in _ _ _ _ _ h).mono ?_; rintro e w' ⟨rfl, rfl⟩))
  go_ret
  exact ⟨rfl, rfl⟩
theorem reckoned_out (n : Int) (w : World) (h : ¬ (-1000000000000000 ≤ n ∧ n ≤ 1000000000000000)) :
    Calls Tryz.prog 117 #[.int .i64 n] w fun e w' => e = .panicked (ill 12) ∧ w' = w := by
  go_enter Tryz.func117, Tryz.ntmps117
  go_wp2_with (first | (go_at_call 131; refine (held_out _ _ _ _ _ h).mono ?_; rintro e w' ⟨rfl, rfl⟩))
  exact ⟨rfl, rfl, rfl⟩

theorem handed_any (n : Int) (w : World) :
    Calls Tryz.prog 118 #[.int .i64 n] w fun e w' => ((e = .returned (.int .i64 n) ∧ (-1000000000000000 ≤ n ∧ n ≤ 1000000000000000)) ∨ (e = .panicked (ill 1) ∧ ¬ (-1000000000000000 ≤ n ∧ n ≤ 1000000000000000))) ∧ w' = w := by
  by_cases h : -1000000000000000 ≤ n ∧ n ≤ 1000000000000000
  · exact (handed_in n w h).mono fun e w' he => ⟨Or.inl ⟨he.1, h⟩, he.2⟩
  · exact (handed_out n w h).mono fun e w' he => ⟨Or.inr ⟨he.1, h⟩, he.2⟩

theorem reckoned_any (n : Int) (w : World) :
    Calls Tryz.prog 117 #[.int .i64 n] w fun e w' => ((e = .returned (.int .i64 n) ∧ (-1000000000000000 ≤ n ∧ n ≤ 1000000000000000)) ∨ (e = .panicked (ill 12) ∧ ¬ (-1000000000000000 ≤ n ∧ n ≤ 1000000000000000))) ∧ w' = w := by
  by_cases h : -1000000000000000 ≤ n ∧ n ≤ 1000000000000000
  · exact (reckoned_in n w h).mono fun e w' he => ⟨Or.inl ⟨he.1, h⟩, he.2⟩
  · exact (reckoned_out n w h).mono fun e w' he => ⟨Or.inr ⟨he.1, h⟩, he.2⟩

theorem held_any (n lo hi c : Int) (w : World) :
    Calls Tryz.prog 131 #[.int .i64 n, .int .i64 lo, .int .i64 hi, .int .i64 c] w fun e w' => ((e = .returned (.int .i64 n) ∧ (lo ≤ n ∧ n ≤ hi)) ∨ (e = .panicked (ill c) ∧ ¬ (lo ≤ n ∧ n ≤ hi))) ∧ w' = w := by
  by_cases h : lo ≤ n ∧ n ≤ hi
  · exact (held_in n lo hi c w h).mono fun e w' he => ⟨Or.inl ⟨he.1, h⟩, he.2⟩
  · exact (held_out n lo hi c w h).mono fun e w' he => ⟨Or.inr ⟨he.1, h⟩, he.2⟩
end Go.Proofs.YtaofdckdmffaiaaGreatDoor.FixH
