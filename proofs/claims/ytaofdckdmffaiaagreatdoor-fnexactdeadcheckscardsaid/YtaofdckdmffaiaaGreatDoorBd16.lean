/- Texts of ours, laid together: ValSpec, ValMeth. -/
import Derived.Test.YtaofdckdmffaiaaGreatDoorBd1
import Derived.Test.YtaofdckdmffaiaaGreatDoorBd8
import Derived.Deep.QuietTactic
import Derived.BigQuiet
import Derived.Laws.Strings
/- What the model says of a right answer: the tests on codes and on letters, and ValueRight itself. -/
namespace Go.Proofs.YtaofdckdmffaiaaGreatDoor.ValS
open Go.RowKit
open ValM ValW

theorem ret_bool {a b : Bool} (h : a = b) : Ending.returned (.bool a) = .returned (.bool b) := by rw [h]

theorem below_drewN {B : Nat} {a w : World} (h : Below B a w) (n : Nat) : Below B a (w.drewN n) := ⟨h.os, h.tape, h.output, h.size, h.block⟩

theorem below_one (w : World) (o : Obj) : Below w.heap.size w (w.alloc o) := (Below.refl _ _).alloc (Nat.le_refl _) _
theorem empty_list (t : ByteArray) : t.toList.isEmpty = decide (t.size = 0) := by
  rw [ByteArray.toList_eq, Bool.eq_iff_iff, List.isEmpty_iff, decide_eq_true_iff, ← List.length_eq_zero_iff]
  exact Iff.of_eq (by rw [Array.length_toList]; rfl)

theorem is_yes (n lo hi : Int) (w : World) (h1 : lo ≤ n) (h2 : n ≤ hi) :
    Calls Tryz.prog 88 #[.int .i64 n, .int .i64 lo, .int .i64 hi] w fun e w' => e = .returned (.bool true) ∧ w' = w := by
  go_enter Tryz.func88, Tryz.ntmps88
  go_wp2
  go_ret
  exact ⟨ret_bool (by simp), rfl⟩
theorem is_no (n lo hi : Int) (w : World) (h : n < lo ∨ hi < n) :
    Calls Tryz.prog 88 #[.int .i64 n, .int .i64 lo, .int .i64 hi] w fun e w' => e = .returned (.bool false) ∧ w' = w := by
  by_cases h1 : lo ≤ n
  · go_enter Tryz.func88, Tryz.ntmps88
    go_wp2
    go_ret
    exact ⟨ret_bool (by simp; omega), rfl⟩
  · go_enter Tryz.func88, Tryz.ntmps88
    go_wp2
    go_ret
    exact ⟨rfl, rfl⟩

theorem plain_in (t : ByteArray) (most : Int) (w : World) (hs : t.size ≤ maxLen) :
    Calls Tryz.prog 89 #[.string t, .int .i64 most] w fun e w' => e = .returned (.bool (plainB t && decide ((t.size : Int) ≤ most))) ∧ w' = w := by
  unfold maxLen at hs
  go_enter Tryz.func89, Tryz.ntmps89
  go_wp2
  go_loop [5] (fun i => ∃ k : Nat, k ≤ t.size ∧ i = .int .i64 k ∧ Hid (∀ j, j < k → plainAt t j)) (fun i => t.size - (intOf i).toNat)
  case atStart => exact ⟨0, Nat.zero_le _, rfl, fun j hj => absurd hj (Nat.not_lt_zero _)⟩
  case round =>
    obtain ⟨k, hk, rfl, hall⟩ := hrel
    by_cases hlt : k < t.size
    · have hch : Hid (chr t k = (t[k]'hlt).toNat) := chr_at hlt
      by_cases h1 : (t[k]'hlt).toNat < 32
      · go_wp2
        go_ret
        exact ⟨ret_bool (by rw [plain_no k hlt (by unfold plainAt; rw [hch.out]; omega)]; rfl), rfl⟩
      by_cases h2 : 126 < (t[k]'hlt).toNat
      · go_wp2
        go_ret
        exact ⟨ret_bool (by rw [plain_no k hlt (by unfold plainAt; rw [hch.out]; omega)]; rfl), rfl⟩
      · go_wp2
        refine ⟨⟨k + 1, by omega, by go_num, fun j hj => ?_⟩, by simp [intOf]; omega⟩
        rcases Nat.lt_succ_iff_lt_or_eq.1 hj with hj' | rfl
        · exact hall.out j hj'
        · unfold plainAt; rw [hch.out]; omega
    · go_wp2
      go_ret
      exact ⟨ret_bool (by rw [plain_yes (fun j hj => hall.out j (by omega))]; rfl), rfl⟩

end Go.Proofs.YtaofdckdmffaiaaGreatDoor.ValS
/- What the program holds behind its interface of an answer: the five kinds, what each says of itself, and the answer that it makes again. -/
namespace Go.Proofs.YtaofdckdmffaiaaGreatDoor.ValI
open Go.RowKit
open ValM ValW ValS

theorem btw_yes (n lo hi : Int) (w : World) (h1 : lo ≤ n) (h2 : n ≤ hi) :
    Calls Tryz.prog 90 #[.int .i64 n, .int .i64 lo, .int .i64 hi] w fun e w' => e = .returned (.bool true) ∧ w' = w := by
  go_enter Tryz.func90, Tryz.ntmps90
  go_wp2
  go_ret
  exact ⟨ret_bool (by simp), rfl⟩
theorem btw_no (n lo hi : Int) (w : World) (h : n < lo ∨ hi < n) :
    Calls Tryz.prog 90 #[.int .i64 n, .int .i64 lo, .int .i64 hi] w fun e w' => e = .returned (.bool false) ∧ w' = w := by
  by_cases h1 : lo ≤ n
  · go_enter Tryz.func90, Tryz.ntmps90
    go_wp2
    go_ret
    exact ⟨ret_bool (by simp; omega), rfl⟩
  · go_enter Tryz.func90, Tryz.ntmps90
    go_wp2
    go_ret
    exact ⟨rfl, rfl⟩
theorem btw (n lo hi : Int) (w : World) :
    Calls Tryz.prog 90 #[.int .i64 n, .int .i64 lo, .int .i64 hi] w fun e w' => e = .returned (.bool (decide (lo ≤ n ∧ n ≤ hi))) ∧ w' = w := by
  by_cases h : lo ≤ n ∧ n ≤ hi
  · rw [decide_eq_true h]; exact btw_yes n lo hi w h.1 h.2
  · rw [decide_eq_false h]; exact btw_no n lo hi w (by omega)

theorem plain_impl (t : ByteArray) (w : World) (hs : t.size ≤ maxLen) :
    Calls Tryz.prog 110 #[.string t] w fun e w' => e = .returned (.bool (plainB t)) ∧ w' = w := by
  unfold maxLen at hs
  go_enter Tryz.func110, Tryz.ntmps110
  go_wp2
  go_loop [3] (fun i => ∃ k : Nat, k ≤ t.size ∧ i = .int .i64 k ∧ Hid (∀ j, j < k → plainAt t j)) (fun i => t.size - (intOf i).toNat)
  case atStart => exact ⟨0, Nat.zero_le _, rfl, fun j hj => absurd hj (Nat.not_lt_zero _)⟩
  case round =>
    obtain ⟨k, hk, rfl, hall⟩ := hrel
    by_cases hlt : k < t.size
    · have hch : Hid (chr t k = (t[k]'hlt).toNat) := chr_at hlt
      by_cases h1 : (t[k]'hlt).toNat < 32
      · go_wp2
        go_ret
        exact ⟨ret_bool (by rw [plain_no k hlt (by unfold plainAt; rw [hch.out]; omega)]), rfl⟩
      by_cases h2 : 126 < (t[k]'hlt).toNat
      · go_wp2
        go_ret
        exact ⟨ret_bool (by rw [plain_no k hlt (by unfold plainAt; rw [hch.out]; omega)]), rfl⟩
      · go_wp2
        refine ⟨⟨k + 1, by omega, by go_num, fun j hj => ?_⟩, by simp [intOf]; omega⟩
        rcases Nat.lt_succ_iff_lt_or_eq.1 hj with hj' | rfl
        · exact hall.out j hj'
        · unfold plainAt; rw [hch.out]; omega
    · go_wp2
      go_ret
      exact ⟨ret_bool (by rw [plain_yes (fun j hj => hall.out j (by omega))]), rfl⟩
end Go.Proofs.YtaofdckdmffaiaaGreatDoor.ValI
