/- Texts of ours, laid together. -/
import Derived.Test.YtmbhmknfipdadaaGreatDoorBd0
import Derived.Test.YtmbhmknfipdadaaGreatDoorBd6
import Derived.Deep.QuietTactic
import Derived.BigQuiet
import Derived.Laws.Strings
namespace Go.Proofs.YtmbhmknfipdadaaGreatDoor.ValS
open Go.RowKit
open ValM ValW
theorem ret_bool {a b : Bool} (h : a = b) : Ending.returned (.bool a) = .returned (.bool b) := by rw [h]
theorem below_drewN {B : Nat} {a w : World} (h : Below B a w) (n : Nat) : Below B a (w.drewN n) := ⟨h.os, h.tape, h.output, h.size, h.block⟩
theorem below_one (w : World) (o : Obj) : Below w.heap.size w (w.alloc o) := (Below.refl _ _).alloc (Nat.le_refl _) _
theorem empty_list (t : ByteArray) : t.toList.isEmpty = decide (t.size = 0) := by
 rw [ByteArray.toList_eq, Bool.eq_iff_iff, List.isEmpty_iff, decide_eq_true_iff, ← List.length_eq_zero_iff]
 exact Iff.of_eq (by rw [Array.length_toList]; rfl)
theorem is_yes (n lo hi : Int) (w : World) (h1 : lo ≤ n) (h2 : n ≤ hi) :
  Calls Tryz.prog 60 #[.int .i64 n, .int .i64 lo, .int .i64 hi] w fun e w' => e = .returned (.bool true) ∧ w' = w := by
 go_enter Tryz.func60, Tryz.ntmps60
 go_wp2
 go_ret
 exact ⟨ret_bool (by simp), rfl⟩
theorem is_no (n lo hi : Int) (w : World) (h : n < lo ∨ hi < n) :
  Calls Tryz.prog 60 #[.int .i64 n, .int .i64 lo, .int .i64 hi] w fun e w' => e = .returned (.bool false) ∧ w' = w := by
 by_cases h1 : lo ≤ n
 ·go_enter Tryz.func60, Tryz.ntmps60
  go_wp2
  go_ret
  exact ⟨ret_bool (by simp; omega), rfl⟩
 ·go_enter Tryz.func60, Tryz.ntmps60
  go_wp2
  go_ret
  exact ⟨rfl, rfl⟩
theorem plain_in (t : ByteArray) (most : Int) (w : World) (hs : t.size ≤ maxLen) :
  Calls Tryz.prog 131 #[.string t, .int .i64 most] w fun e w' => e = .returned (.bool (plainB t && decide ((t.size : Int) ≤ most))) ∧ w' = w := by
 unfold maxLen at hs
 go_enter Tryz.func131, Tryz.ntmps131
 go_wp2
 go_loop [5] (fun i => ∃ k : Nat, k ≤ t.size ∧ i = .int .i64 k ∧ Hid (∀ j, j < k → plainAt t j)) (fun i => t.size - (intOf i).toNat)
 case atStart => exact ⟨0, Nat.zero_le _, rfl, fun j hj => absurd hj (Nat.not_lt_zero _)⟩
 case round =>
  obtain ⟨k, hk, rfl, hall⟩ := hrel
  by_cases hlt : k < t.size
  ·have hch : Hid (chr t k = (t[k]'hlt).toNat) := chr_at hlt
   by_cases h1 : (t[k]'hlt).toNat < 32
   ·go_wp2
    go_ret
    exact ⟨ret_bool (by rw [plain_no k hlt (by unfold plainAt; rw [hch.out]; omega)]; rfl), rfl⟩
   by_cases h2 : 126 < (t[k]'hlt).toNat
   ·go_wp2
    go_ret
    exact ⟨ret_bool (by rw [plain_no k hlt (by unfold plainAt; rw [hch.out]; omega)]; rfl), rfl⟩
   ·go_wp2
    refine ⟨⟨k + 1, by omega, by go_num, fun j hj => ?_⟩, by simp [intOf]; omega⟩
    rcases Nat.lt_succ_iff_lt_or_eq.1 hj with hj' | rfl
    ·exact hall.out j hj'
    ·unfold plainAt; rw [hch.out]; omega
  ·go_wp2
   go_ret
   exact ⟨ret_bool (by rw [plain_yes (fun j hj => hall.out j (by omega))]; rfl), rfl⟩
set_option maxRecDepth 10000 in
set_option maxHeartbeats 1000000 in
theorem codes_in (a : Option Addr) (cap : Nat) (zs : List Int) (w : World) (hc : Codes w a zs) :
  Calls Tryz.prog 133 #[.slice a zs.length cap] w fun e w' => e = .returned (.bool (risesB zs)) ∧ Below w.heap.size w w' := by
 obtain ⟨hl, hc⟩ := hc
 have HC : Hid (0 < zs.length → ∃ b o, a = some ⟨b, o, none⟩ ∧ b < w.heap.size ∧ ∀ i, i < zs.length → w.cell? ⟨b, o + i, none⟩ = some (.int .i64 (zs.getD i 0))) := hc
 clear hc
 go_enter Tryz.func133, Tryz.ntmps133
 go_wp2
 go_loopw [3] (fun i wr => ∃ k : Nat, k ≤ zs.length ∧ i = .int .i64 k ∧ Hid (∀ j, j < k → okAt zs j) ∧ Below w.heap.size w wr) (fun i _ => zs.length - (intOf i).toNat)
 case atStart => exact ⟨0, Nat.zero_le _, rfl, fun j hj => absurd hj (Nat.not_lt_zero _), Below.refl _ _⟩
 case round =>
  obtain ⟨k, hk, rfl, hall, hbel⟩ := hrel
  have HB : Hid (Below w.heap.size w wr) := hbel
  by_cases hlt : k < zs.length
  ·obtain ⟨b, o, rfl, hb, hcs⟩ := HC.out (by omega)
   have hcell : wr.cell? ⟨b, o + k, none⟩ = some (.int .i64 (zs.getD k 0)) := (hbel.cell hb).trans (hcs k hlt)
   obtain ⟨v, hv⟩ : ∃ v, Hid (zs.getD k 0 = v) := ⟨_, rfl⟩
   rw [hv.out] at hcell
   by_cases h1 : v < 1 ∨ 20 < v
   ·have hno : Hid (¬ okAt zs k) := fun h => by unfold okAt at h; rw [hv.out] at h; omega
    clear hcs hbel
    go_wp2
    go_quiet ((go_at_call 60; exact Calls.quiet_of_same (is_no _ _ _ _ h1)))
    go_wp2
    go_ret
    exact ⟨ret_bool (by rw [rises_no k hlt hno.out]), below_drewN HB.out _⟩
   have h1' : 1 ≤ v := by omega
   have h2' : v ≤ 20 := by omega
   clear h1
   by_cases hk0 : 0 < k
   ·obtain ⟨j, rfl⟩ : ∃ j, k = j + 1 := ⟨k - 1, by omega⟩
    have hcell2 : wr.cell? ⟨b, o + j, none⟩ = some (.int .i64 (zs.getD j 0)) := (hbel.cell hb).trans (hcs j (by omega))
    obtain ⟨u, hu⟩ : ∃ u, Hid (zs.getD j 0 = u) := ⟨_, rfl⟩
    rw [hu.out] at hcell2
    by_cases huv : v ≤ u
    ·have hno : Hid (¬ okAt zs (j + 1)) := fun h => by unfold okAt at h; rw [hv.out, Nat.add_sub_cancel, hu.out] at h; omega
     clear hcs hbel
     go_wp2
     go_quiet ((go_at_call 60; exact Calls.quiet_of_same (is_yes _ _ _ _ h1' h2')))
     go_wp2
     go_ret
     exact ⟨ret_bool (by rw [rises_no _ hlt hno.out]), below_drewN HB.out _⟩
    ·have hyes : Hid (okAt zs (j + 1)) := show okAt zs (j + 1) by unfold okAt; rw [hv.out, Nat.add_sub_cancel, hu.out]; exact ⟨h1', h2', fun _ => by omega⟩
     clear hcs hbel
     go_wp2
     go_quiet ((go_at_call 60; exact Calls.quiet_of_same (is_yes _ _ _ _ h1' h2')))
     go_wp2
     refine ⟨⟨j + 1 + 1, by omega, by go_num, fun i hi => ?_, below_drewN HB.out _⟩, by simp [intOf]; omega⟩
     rcases Nat.lt_succ_iff_lt_or_eq.1 hi with hj' | rfl
     ·exact hall.out i hj'
     ·exact hyes.out
   ·have hyes : Hid (okAt zs k) := show okAt zs k by unfold okAt; rw [hv.out]; exact ⟨h1', h2', fun h => absurd h hk0⟩
    clear hcs hbel
    go_wp2
    go_quiet ((go_at_call 60; exact Calls.quiet_of_same (is_yes _ _ _ _ h1' h2')))
    go_wp2
    refine ⟨⟨k + 1, by omega, by go_num, fun i hi => ?_, below_drewN HB.out _⟩, by simp [intOf]; omega⟩
    rcases Nat.lt_succ_iff_lt_or_eq.1 hi with hj' | rfl
    ·exact hall.out i hj'
    ·exact hyes.out
  ·go_wp2
   go_ret
   exact ⟨ret_bool (by rw [rises_yes (fun j hj => hall.out j (by omega))]), hbel⟩
open Go.RowKit
open ValM ValW
set_option maxRecDepth 10000 in
set_option maxHeartbeats 1000000 in
theorem sr_nothing (k n : Int) (a : Option Addr) (cap : Nat) (zs : List Int) (t : ByteArray) (w : World) (hc : Codes w a zs) (ht : t.size ≤ maxLen) (hk : k = 0 ∨ k = 5 ∨ k = 6) :
  Calls Tryz.prog 112 #[av k n a zs.length cap t] w fun e w' => e = .returned (.bool (right k n zs t)) ∧ Below w.heap.size w w' := by
 have HC : Hid (Codes w a zs) := hc
 have hl := hc.1
 have HT : Hid (t.size ≤ maxLen) := ht
 unfold maxLen at ht
 have hte := empty_list t
 obtain ⟨r, hr⟩ : ∃ r, Hid (right k n zs t = r) := ⟨_, rfl⟩
 rw [hr.out]
 clear hc
 rcases hk with rfl | rfl | rfl
 ·by_cases hn : n = 0
  rotate_left
  ·go_enter Tryz.func112, Tryz.ntmps112
   go_wp2
   go_ret
   exact ⟨ret_bool (by rw [← hr.out, right_none n zs t (Or.inl rfl)]; simp [*]), by go_grown⟩
  by_cases hz : zs.length = 0
  rotate_left
  ·have hz2 : 0 < zs.length := by omega
   go_enter Tryz.func112, Tryz.ntmps112
   go_wp2
   go_ret
   exact ⟨ret_bool (by rw [← hr.out, right_none n zs t (Or.inl rfl)]; simp [*]), by go_grown⟩
  by_cases h0 : t.size = 0
  rotate_left
  ·rw [decide_eq_false h0] at hte
   go_enter Tryz.func112, Tryz.ntmps112
   go_wp2
   go_ret
   exact ⟨ret_bool (by rw [← hr.out, right_none n zs t (Or.inl rfl)]; simp [*]), by go_grown⟩
  rw [decide_eq_true h0] at hte
  go_enter Tryz.func112, Tryz.ntmps112
  go_wp2
  go_ret
  exact ⟨ret_bool (by rw [← hr.out, right_none n zs t (Or.inl rfl)]; simp [*]), by go_grown⟩
 ·by_cases hn : n = 0
  rotate_left
  ·go_enter Tryz.func112, Tryz.ntmps112
   go_wp2
   go_ret
   exact ⟨ret_bool (by rw [← hr.out, right_none n zs t (Or.inr (Or.inl rfl))]; simp [*]), by go_grown⟩
  by_cases hz : zs.length = 0
  rotate_left
  ·have hz2 : 0 < zs.length := by omega
   go_enter Tryz.func112, Tryz.ntmps112
   go_wp2
   go_ret
   exact ⟨ret_bool (by rw [← hr.out, right_none n zs t (Or.inr (Or.inl rfl))]; simp [*]), by go_grown⟩
  by_cases h0 : t.size = 0
  rotate_left
  ·rw [decide_eq_false h0] at hte
   go_enter Tryz.func112, Tryz.ntmps112
   go_wp2
   go_ret
   exact ⟨ret_bool (by rw [← hr.out, right_none n zs t (Or.inr (Or.inl rfl))]; simp [*]), by go_grown⟩
  rw [decide_eq_true h0] at hte
  go_enter Tryz.func112, Tryz.ntmps112
  go_wp2
  go_ret
  exact ⟨ret_bool (by rw [← hr.out, right_none n zs t (Or.inr (Or.inl rfl))]; simp [*]), by go_grown⟩
 ·by_cases hn : n = 0
  rotate_left
  ·go_enter Tryz.func112, Tryz.ntmps112
   go_wp2
   go_ret
   exact ⟨ret_bool (by rw [← hr.out, right_none n zs t (Or.inr (Or.inr rfl))]; simp [*]), by go_grown⟩
  by_cases hz : zs.length = 0
  rotate_left
  ·have hz2 : 0 < zs.length := by omega
   go_enter Tryz.func112, Tryz.ntmps112
   go_wp2
   go_ret
   exact ⟨ret_bool (by rw [← hr.out, right_none n zs t (Or.inr (Or.inr rfl))]; simp [*]), by go_grown⟩
  by_cases h0 : t.size = 0
  rotate_left
  ·rw [decide_eq_false h0] at hte
   go_enter Tryz.func112, Tryz.ntmps112
   go_wp2
   go_ret
   exact ⟨ret_bool (by rw [← hr.out, right_none n zs t (Or.inr (Or.inr rfl))]; simp [*]), by go_grown⟩
  rw [decide_eq_true h0] at hte
  go_enter Tryz.func112, Tryz.ntmps112
  go_wp2
  go_ret
  exact ⟨ret_bool (by rw [← hr.out, right_none n zs t (Or.inr (Or.inr rfl))]; simp [*]), by go_grown⟩
set_option maxRecDepth 10000 in
set_option maxHeartbeats 1000000 in
theorem sr_int (k n : Int) (a : Option Addr) (cap : Nat) (zs : List Int) (t : ByteArray) (w : World) (hc : Codes w a zs) (ht : t.size ≤ maxLen) (hk : k = 1) :
  Calls Tryz.prog 112 #[av k n a zs.length cap t] w fun e w' => e = .returned (.bool (right k n zs t)) ∧ Below w.heap.size w w' := by
 have HC : Hid (Codes w a zs) := hc
 have hl := hc.1
 have HT : Hid (t.size ≤ maxLen) := ht
 unfold maxLen at ht
 have hte := empty_list t
 obtain ⟨r, hr⟩ : ∃ r, Hid (right k n zs t = r) := ⟨_, rfl⟩
 rw [hr.out]
 clear hc
 subst hk
 by_cases hz : zs.length = 0
 rotate_left
 ·have hz2 : 0 < zs.length := by omega
  go_enter Tryz.func112, Tryz.ntmps112
  go_wp2
  go_ret
  exact ⟨ret_bool (by rw [← hr.out, right_int]; simp [*]), by go_grown⟩
 by_cases h0 : t.size = 0
 rotate_left
 ·rw [decide_eq_false h0] at hte
  go_enter Tryz.func112, Tryz.ntmps112
  go_wp2
  go_ret
  exact ⟨ret_bool (by rw [← hr.out, right_int]; simp [*]), by go_grown⟩
 rw [decide_eq_true h0] at hte
 by_cases h1 : -1000000000 ≤ n
 rotate_left
 ·go_enter Tryz.func112, Tryz.ntmps112
  go_wp2_with ((go_at_call 60; refine (is_no _ _ _ _ (by omega)).mono ?_; rintro e w' ⟨rfl, rfl⟩))
  go_ret
  exact ⟨ret_bool (by rw [← hr.out, right_int]; simp; omega), by go_grown⟩
 by_cases h2 : n ≤ 1000000000
 rotate_left
 ·go_enter Tryz.func112, Tryz.ntmps112
  go_wp2_with ((go_at_call 60; refine (is_no _ _ _ _ (by omega)).mono ?_; rintro e w' ⟨rfl, rfl⟩))
  go_ret
  exact ⟨ret_bool (by rw [← hr.out, right_int]; simp; omega), by go_grown⟩
 go_enter Tryz.func112, Tryz.ntmps112
 go_wp2_with ((go_at_call 60; refine (is_yes _ _ _ _ h1 h2).mono ?_; rintro e w' ⟨rfl, rfl⟩))
 go_ret
 exact ⟨ret_bool (by rw [← hr.out, right_int]; simp [*]), by go_grown⟩
set_option maxRecDepth 10000 in
set_option maxHeartbeats 1000000 in
theorem sr_code (k n : Int) (a : Option Addr) (cap : Nat) (zs : List Int) (t : ByteArray) (w : World) (hc : Codes w a zs) (ht : t.size ≤ maxLen) (hk : k = 2) :
  Calls Tryz.prog 112 #[av k n a zs.length cap t] w fun e w' => e = .returned (.bool (right k n zs t)) ∧ Below w.heap.size w w' := by
 have HC : Hid (Codes w a zs) := hc
 have hl := hc.1
 have HT : Hid (t.size ≤ maxLen) := ht
 unfold maxLen at ht
 have hte := empty_list t
 obtain ⟨r, hr⟩ : ∃ r, Hid (right k n zs t = r) := ⟨_, rfl⟩
 rw [hr.out]
 clear hc
 subst hk
 by_cases hz : zs.length = 0
 rotate_left
 ·have hz2 : 0 < zs.length := by omega
  go_enter Tryz.func112, Tryz.ntmps112
  go_wp2
  go_ret
  exact ⟨ret_bool (by rw [← hr.out, right_code]; simp [*]), by go_grown⟩
 by_cases h0 : t.size = 0
 rotate_left
 ·rw [decide_eq_false h0] at hte
  go_enter Tryz.func112, Tryz.ntmps112
  go_wp2
  go_ret
  exact ⟨ret_bool (by rw [← hr.out, right_code]; simp [*]), by go_grown⟩
 rw [decide_eq_true h0] at hte
 by_cases h1 : 1 ≤ n
 rotate_left
 ·go_enter Tryz.func112, Tryz.ntmps112
  go_wp2_with ((go_at_call 60; refine (is_no _ _ _ _ (by omega)).mono ?_; rintro e w' ⟨rfl, rfl⟩))
  go_ret
  exact ⟨ret_bool (by rw [← hr.out, right_code]; simp; omega), by go_grown⟩
 by_cases h2 : n ≤ 20
 rotate_left
 ·go_enter Tryz.func112, Tryz.ntmps112
  go_wp2_with ((go_at_call 60; refine (is_no _ _ _ _ (by omega)).mono ?_; rintro e w' ⟨rfl, rfl⟩))
  go_ret
  exact ⟨ret_bool (by rw [← hr.out, right_code]; simp; omega), by go_grown⟩
 go_enter Tryz.func112, Tryz.ntmps112
 go_wp2_with ((go_at_call 60; refine (is_yes _ _ _ _ h1 h2).mono ?_; rintro e w' ⟨rfl, rfl⟩))
 go_ret
 exact ⟨ret_bool (by rw [← hr.out, right_code]; simp [*]), by go_grown⟩
set_option maxRecDepth 10000 in
set_option maxHeartbeats 1000000 in
theorem sr_set (k n : Int) (a : Option Addr) (cap : Nat) (zs : List Int) (t : ByteArray) (w : World) (hc : Codes w a zs) (ht : t.size ≤ maxLen) (hk : k = 3) :
  Calls Tryz.prog 112 #[av k n a zs.length cap t] w fun e w' => e = .returned (.bool (right k n zs t)) ∧ Below w.heap.size w w' := by
 have HC : Hid (Codes w a zs) := hc
 have hl := hc.1
 have HT : Hid (t.size ≤ maxLen) := ht
 unfold maxLen at ht
 have hte := empty_list t
 obtain ⟨r, hr⟩ : ∃ r, Hid (right k n zs t = r) := ⟨_, rfl⟩
 rw [hr.out]
 clear hc
 subst hk
 by_cases hn : n = 0
 rotate_left
 ·go_enter Tryz.func112, Tryz.ntmps112
  go_wp2
  go_ret
  exact ⟨ret_bool (by rw [← hr.out, right_set]; simp [*]), by go_grown⟩
 by_cases h0 : t.size = 0
 rotate_left
 ·rw [decide_eq_false h0] at hte
  go_enter Tryz.func112, Tryz.ntmps112
  go_wp2
  go_ret
  exact ⟨ret_bool (by rw [← hr.out, right_set]; simp [*]), by go_grown⟩
 rw [decide_eq_true h0] at hte
 go_enter Tryz.func112, Tryz.ntmps112
 go_wp2_with fail
 refine (codes_in a cap zs _ (HC.out.alloc _)).mono ?_
 rintro e w1 ⟨rfl, hB1⟩
 have HB : Hid (Below w.heap.size w w1) := (below_one w _).trans (hB1.mono (by simp))
 clear hB1
 go_wp2
 go_ret
 exact ⟨ret_bool (by rw [← hr.out, right_set]; simp [*]), HB.out⟩
set_option maxRecDepth 10000 in
set_option maxHeartbeats 1000000 in
theorem sr_text (k n : Int) (a : Option Addr) (cap : Nat) (zs : List Int) (t : ByteArray) (w : World) (hc : Codes w a zs) (ht : t.size ≤ maxLen) (hk : k = 4) :
  Calls Tryz.prog 112 #[av k n a zs.length cap t] w fun e w' => e = .returned (.bool (right k n zs t)) ∧ Below w.heap.size w w' := by
 have HC : Hid (Codes w a zs) := hc
 have hl := hc.1
 have HT : Hid (t.size ≤ maxLen) := ht
 unfold maxLen at ht
 have hte := empty_list t
 obtain ⟨r, hr⟩ : ∃ r, Hid (right k n zs t = r) := ⟨_, rfl⟩
 rw [hr.out]
 clear hc
 subst hk
 by_cases hn : n = 0
 rotate_left
 ·go_enter Tryz.func112, Tryz.ntmps112
  go_wp2
  go_ret
  exact ⟨ret_bool (by rw [← hr.out, right_text]; simp [*]), by go_grown⟩
 by_cases hz : zs.length = 0
 rotate_left
 ·have hz2 : 0 < zs.length := by omega
  go_enter Tryz.func112, Tryz.ntmps112
  go_wp2
  go_ret
  exact ⟨ret_bool (by rw [← hr.out, right_text]; simp [*]), by go_grown⟩
 go_enter Tryz.func112, Tryz.ntmps112
 go_wp2_with ((go_at_call 131; refine (plain_in _ _ _ HT.out).mono ?_; rintro e w' ⟨rfl, rfl⟩))
 go_ret
 exact ⟨ret_bool (by rw [← hr.out, right_text]; simp [*]; congr 1; exact decide_eq_decide.2 (by omega)), by go_grown⟩
set_option maxRecDepth 10000 in
set_option maxHeartbeats 1000000 in
theorem sr_else (k n : Int) (a : Option Addr) (cap : Nat) (zs : List Int) (t : ByteArray) (w : World) (hc : Codes w a zs) (ht : t.size ≤ maxLen) (hk : ¬ (0 ≤ k ∧ k ≤ 6)) :
  Calls Tryz.prog 112 #[av k n a zs.length cap t] w fun e w' => e = .returned (.bool (right k n zs t)) ∧ Below w.heap.size w w' := by
 have HC : Hid (Codes w a zs) := hc
 have hl := hc.1
 have HT : Hid (t.size ≤ maxLen) := ht
 unfold maxLen at ht
 have hte := empty_list t
 obtain ⟨r, hr⟩ : ∃ r, Hid (right k n zs t = r) := ⟨_, rfl⟩
 rw [hr.out]
 clear hc
 have hf := right_other n zs t hk
 have HK : Hid (¬ (0 ≤ k ∧ k ≤ 6)) := hk
 have HR : Hid (r = false) := hr.out.symm.trans hf
 clear hf hk
 rcases Int.lt_or_le k 0 with hk | hk
 ·have q0 : ¬ k = 0 := by omega
  have q1 : ¬ k = 1 := by omega
  have q2 : ¬ k = 2 := by omega
  have q3 : ¬ k = 3 := by omega
  have q4 : ¬ k = 4 := by omega
  have q5 : ¬ k = 5 := by omega
  have q6 : ¬ k = 6 := by omega
  by_cases hn : n = 0
  rotate_left
  ·go_enter Tryz.func112, Tryz.ntmps112
   go_wp2
   go_ret
   exact ⟨ret_bool (by rw [HR.out]), by go_grown⟩
  by_cases hz : zs.length = 0
  rotate_left
  ·have hz2 : 0 < zs.length := by omega
   go_enter Tryz.func112, Tryz.ntmps112
   go_wp2
   go_ret
   exact ⟨ret_bool (by rw [HR.out]), by go_grown⟩
  by_cases h0 : t.size = 0
  rotate_left
  ·rw [decide_eq_false h0] at hte
   go_enter Tryz.func112, Tryz.ntmps112
   go_wp2
   go_ret
   exact ⟨ret_bool (by rw [HR.out]), by go_grown⟩
  rw [decide_eq_true h0] at hte
  go_enter Tryz.func112, Tryz.ntmps112
  go_wp2
  go_ret
  exact ⟨ret_bool (by rw [HR.out]), by go_grown⟩
 have hk : 6 < k := by have := HK.out; omega
 ·have q0 : ¬ k = 0 := by omega
  have q1 : ¬ k = 1 := by omega
  have q2 : ¬ k = 2 := by omega
  have q3 : ¬ k = 3 := by omega
  have q4 : ¬ k = 4 := by omega
  have q5 : ¬ k = 5 := by omega
  have q6 : ¬ k = 6 := by omega
  by_cases hn : n = 0
  rotate_left
  ·go_enter Tryz.func112, Tryz.ntmps112
   go_wp2
   go_ret
   exact ⟨ret_bool (by rw [HR.out]), by go_grown⟩
  by_cases hz : zs.length = 0
  rotate_left
  ·have hz2 : 0 < zs.length := by omega
   go_enter Tryz.func112, Tryz.ntmps112
   go_wp2
   go_ret
   exact ⟨ret_bool (by rw [HR.out]), by go_grown⟩
  by_cases h0 : t.size = 0
  rotate_left
  ·rw [decide_eq_false h0] at hte
   go_enter Tryz.func112, Tryz.ntmps112
   go_wp2
   go_ret
   exact ⟨ret_bool (by rw [HR.out]), by go_grown⟩
  rw [decide_eq_true h0] at hte
  go_enter Tryz.func112, Tryz.ntmps112
  go_wp2
  go_ret
  exact ⟨ret_bool (by rw [HR.out]), by go_grown⟩
theorem spec_right (k n : Int) (a : Option Addr) (cap : Nat) (zs : List Int) (t : ByteArray) (w : World) (hc : Codes w a zs) (ht : t.size ≤ maxLen) :
  Calls Tryz.prog 112 #[av k n a zs.length cap t] w fun e w' => e = .returned (.bool (right k n zs t)) ∧ Below w.heap.size w w' := by
 by_cases h : 0 ≤ k ∧ k ≤ 6
 ·rcases (by omega : (k = 0 ∨ k = 5 ∨ k = 6) ∨ k = 1 ∨ k = 2 ∨ k = 3 ∨ k = 4) with h | h | h | h | h
  ·exact sr_nothing k n a cap zs t w hc ht h
  ·exact sr_int k n a cap zs t w hc ht h
  ·exact sr_code k n a cap zs t w hc ht h
  ·exact sr_set k n a cap zs t w hc ht h
  ·exact sr_text k n a cap zs t w hc ht h
 ·exact sr_else k n a cap zs t w hc ht h
end Go.Proofs.YtmbhmknfipdadaaGreatDoor.ValS
namespace Go.Proofs.YtmbhmknfipdadaaGreatDoor.ValI
open Go.RowKit
open ValM ValW ValS
theorem btw_yes (n lo hi : Int) (w : World) (h1 : lo ≤ n) (h2 : n ≤ hi) :
  Calls Tryz.prog 127 #[.int .i64 n, .int .i64 lo, .int .i64 hi] w fun e w' => e = .returned (.bool true) ∧ w' = w := by
 go_enter Tryz.func127, Tryz.ntmps127
 go_wp2
 go_ret
 exact ⟨ret_bool (by simp), rfl⟩
theorem btw_no (n lo hi : Int) (w : World) (h : n < lo ∨ hi < n) :
  Calls Tryz.prog 127 #[.int .i64 n, .int .i64 lo, .int .i64 hi] w fun e w' => e = .returned (.bool false) ∧ w' = w := by
 by_cases h1 : lo ≤ n
 ·go_enter Tryz.func127, Tryz.ntmps127
  go_wp2
  go_ret
  exact ⟨ret_bool (by simp; omega), rfl⟩
 ·go_enter Tryz.func127, Tryz.ntmps127
  go_wp2
  go_ret
  exact ⟨rfl, rfl⟩
theorem btw (n lo hi : Int) (w : World) :
  Calls Tryz.prog 127 #[.int .i64 n, .int .i64 lo, .int .i64 hi] w fun e w' => e = .returned (.bool (decide (lo ≤ n ∧ n ≤ hi))) ∧ w' = w := by
 by_cases h : lo ≤ n ∧ n ≤ hi
 ·rw [decide_eq_true h]; exact btw_yes n lo hi w h.1 h.2
 ·rw [decide_eq_false h]; exact btw_no n lo hi w (by omega)
theorem silence_right (k : Int) (w : World) :
  Calls Tryz.prog 249 #[.agg #[.int .i64 k]] w fun e w' => e = .returned (.bool true) ∧ Below w.heap.size w w' := by
 go_enter Tryz.func249, Tryz.ntmps249
 go_wp2
 go_ret
 exact ⟨rfl, by go_grown⟩
theorem integer_right (n : Int) (w : World) :
  Calls Tryz.prog 251 #[.agg #[.int .i64 n]] w fun e w' => e = .returned (.bool (decide (-1000000000 ≤ n ∧ n ≤ 1000000000))) ∧ Below w.heap.size w w' := by
 go_enter Tryz.func251, Tryz.ntmps251
 go_wp2_with (go_at_call 127; refine (btw _ _ _ _).mono ?_; rintro e w' ⟨rfl, rfl⟩)
 go_ret
 exact ⟨ret_bool (by simp), by go_grown⟩
theorem choice_right (n : Int) (w : World) :
  Calls Tryz.prog 253 #[.agg #[.int .i64 n]] w fun e w' => e = .returned (.bool (decide (1 ≤ n ∧ n ≤ 20))) ∧ Below w.heap.size w w' := by
 go_enter Tryz.func253, Tryz.ntmps253
 go_wp2_with (go_at_call 127; refine (btw _ _ _ _).mono ?_; rintro e w' ⟨rfl, rfl⟩)
 go_ret
 exact ⟨ret_bool (by simp), by go_grown⟩
theorem plain_impl (t : ByteArray) (w : World) (hs : t.size ≤ maxLen) :
  Calls Tryz.prog 173 #[.string t] w fun e w' => e = .returned (.bool (plainB t)) ∧ w' = w := by
 unfold maxLen at hs
 go_enter Tryz.func173, Tryz.ntmps173
 go_wp2
 go_loop [3] (fun i => ∃ k : Nat, k ≤ t.size ∧ i = .int .i64 k ∧ Hid (∀ j, j < k → plainAt t j)) (fun i => t.size - (intOf i).toNat)
 case atStart => exact ⟨0, Nat.zero_le _, rfl, fun j hj => absurd hj (Nat.not_lt_zero _)⟩
 case round =>
  obtain ⟨k, hk, rfl, hall⟩ := hrel
  by_cases hlt : k < t.size
  ·have hch : Hid (chr t k = (t[k]'hlt).toNat) := chr_at hlt
   by_cases h1 : (t[k]'hlt).toNat < 32
   ·go_wp2
    go_ret
    exact ⟨ret_bool (by rw [plain_no k hlt (by unfold plainAt; rw [hch.out]; omega)]), rfl⟩
   by_cases h2 : 126 < (t[k]'hlt).toNat
   ·go_wp2
    go_ret
    exact ⟨ret_bool (by rw [plain_no k hlt (by unfold plainAt; rw [hch.out]; omega)]), rfl⟩
   ·go_wp2
    refine ⟨⟨k + 1, by omega, by go_num, fun j hj => ?_⟩, by simp [intOf]; omega⟩
    rcases Nat.lt_succ_iff_lt_or_eq.1 hj with hj' | rfl
    ·exact hall.out j hj'
    ·unfold plainAt; rw [hch.out]; omega
  ·go_wp2
   go_ret
   exact ⟨ret_bool (by rw [plain_yes (fun j hj => hall.out j (by omega))]), rfl⟩
theorem words_right (t : ByteArray) (w : World) (ht : t.size ≤ maxLen) :
  Calls Tryz.prog 257 #[.agg #[.string t]] w fun e w' => e = .returned (.bool (plainB t && decide (t.size ≤ 40))) ∧ Below w.heap.size w w' := by
 have HT : Hid (t.size ≤ maxLen) := ht
 unfold maxLen at ht
 by_cases h : t.size ≤ 40
 ·go_enter Tryz.func257, Tryz.ntmps257
  go_wp2_with (go_at_call 173; refine (plain_impl _ _ HT.out).mono ?_; rintro e w' ⟨rfl, rfl⟩)
  go_ret
  exact ⟨ret_bool (by first | (simp; done) | simp [h]), by go_grown⟩
 ·go_enter Tryz.func257, Tryz.ntmps257
  go_wp2_with (go_at_call 173; refine (plain_impl _ _ HT.out).mono ?_; rintro e w' ⟨rfl, rfl⟩)
  go_ret
  exact ⟨ret_bool (by first | (simp; done) | simp [h]), by go_grown⟩
set_option maxRecDepth 10000 in
set_option maxHeartbeats 400000 in
theorem choices_right (a : Option Addr) (cap : Nat) (zs : List Int) (w : World) (hc : Codes w a zs) :
  Calls Tryz.prog 255 #[.agg #[.slice a zs.length cap]] w fun e w' => e = .returned (.bool (risesB zs)) ∧ Below w.heap.size w w' := by
 obtain ⟨hl, hc⟩ := hc
 have HC : Hid (0 < zs.length → ∃ b o, a = some ⟨b, o, none⟩ ∧ b < w.heap.size ∧ ∀ i, i < zs.length → w.cell? ⟨b, o + i, none⟩ = some (.int .i64 (zs.getD i 0))) := hc
 clear hc
 go_enter Tryz.func255, Tryz.ntmps255
 go_wp2
 go_loop [3, 5, 9] (fun l _ i => ∃ k : Nat, k ≤ zs.length ∧ i = .int .i64 k ∧ l = .int .i64 (least zs k) ∧ Hid (∀ j, j < k → okAt zs j)) (fun _ _ i => zs.length - (intOf i).toNat)
 case atStart => exact ⟨0, Nat.zero_le _, rfl, rfl, fun j hj => absurd hj (Nat.not_lt_zero _)⟩
 case round =>
  obtain ⟨k, hk, rfl, rfl, hall⟩ := hrel
  by_cases hlt : k < zs.length
  ·obtain ⟨b, o, rfl, hb, hcs⟩ := HC.out (by omega)
   have hcell : (w.alloc (.cells #[.slice (some ⟨b, o, none⟩) zs.length cap] 167)).cell? ⟨b, o + k, none⟩ = some (.int .i64 (zs.getD k 0)) := by
    rw [World.cell?_alloc_lt _ _ ⟨b, o + k, none⟩ hb]; exact hcs k hlt
   obtain ⟨v, hv⟩ : ∃ v, Hid (zs.getD k 0 = v) := ⟨_, rfl⟩
   obtain ⟨m, hm⟩ : ∃ m, Hid (least zs k = m) := ⟨_, rfl⟩
   rw [hv.out] at hcell
   rw [hm.out]
   clear hcs
   by_cases h1 : m ≤ v ∧ v ≤ 20
   ·have hyes : Hid (okAt zs k) := ok_of_least hall.out (by rw [hm.out, hv.out]; exact h1.1) (by rw [hv.out]; exact h1.2)
    have hs : Hid (least zs (k + 1) = v + 1) := by show _ = _; rw [least_succ, hv.out]
    obtain ⟨h2, h3⟩ := h1
    have h4 : 1 ≤ v := by have := hyes.out.1; rw [hv.out] at this; exact this
    go_wp2_with (go_at_call 127; refine (btw_yes _ _ _ _ h2 h3).mono ?_; rintro e w' ⟨rfl, rfl⟩)
    refine ⟨⟨k + 1, by omega, by go_num, by rw [hs.out], fun j hj => ?_⟩, by simp [intOf]; omega⟩
    rcases Nat.lt_succ_iff_lt_or_eq.1 hj with hj' | rfl
    ·exact hall.out j hj'
    ·exact hyes.out
   ·have hno : Hid (¬ okAt zs k) := not_ok_least (by rw [hm.out, hv.out]; omega)
    have h5 : v < m ∨ 20 < v := by omega
    clear h1
    go_wp2_with (go_at_call 127; refine (btw_no _ _ _ _ h5).mono ?_; rintro e w' ⟨rfl, rfl⟩)
    go_ret
    exact ⟨ret_bool (by rw [rises_no k hlt hno.out]), by go_grown⟩
  ·go_wp2
   go_ret
   exact ⟨ret_bool (by rw [rises_yes (fun j hj => hall.out j (by omega))]), by go_grown⟩
theorem silence_value (k : Int) (w : World) :
  Calls Tryz.prog 250 #[.agg #[.int .i64 k]] w fun e w' => e = .returned (av k 0 none 0 0 ByteArray.empty) ∧ Below w.heap.size w w' := by
 go_enter Tryz.func250, Tryz.ntmps250
 go_wp2
 refine bodyPost_ret (v := av k 0 none 0 0 ByteArray.empty) (by simp [results, Tryz.results250, go_sem]; rfl) rfl ⟨rfl, ?_⟩
 go_grown
theorem integer_value (n : Int) (w : World) :
  Calls Tryz.prog 252 #[.agg #[.int .i64 n]] w fun e w' => e = .returned (av 1 n none 0 0 ByteArray.empty) ∧ Below w.heap.size w w' := by
 go_enter Tryz.func252, Tryz.ntmps252
 go_wp2
 refine bodyPost_ret (v := av 1 n none 0 0 ByteArray.empty) (by simp [results, Tryz.results252, go_sem]; rfl) rfl ⟨rfl, ?_⟩
 go_grown
theorem choice_value (n : Int) (w : World) :
  Calls Tryz.prog 254 #[.agg #[.int .i64 n]] w fun e w' => e = .returned (av 2 n none 0 0 ByteArray.empty) ∧ Below w.heap.size w w' := by
 go_enter Tryz.func254, Tryz.ntmps254
 go_wp2
 refine bodyPost_ret (v := av 2 n none 0 0 ByteArray.empty) (by simp [results, Tryz.results254, go_sem]; rfl) rfl ⟨rfl, ?_⟩
 go_grown
theorem choices_value (a : Option Addr) (len cap : Nat) (w : World) :
  Calls Tryz.prog 256 #[.agg #[.slice a len cap]] w fun e w' => e = .returned (av 3 0 a len cap ByteArray.empty) ∧ Below w.heap.size w w' := by
 go_enter Tryz.func256, Tryz.ntmps256
 go_wp2
 refine bodyPost_ret (v := av 3 0 a len cap ByteArray.empty) (by simp [results, Tryz.results256, go_sem]; rfl) rfl ⟨rfl, ?_⟩
 go_grown
theorem words_value (t : ByteArray) (w : World) :
  Calls Tryz.prog 258 #[.agg #[.string t]] w fun e w' => e = .returned (av 4 0 none 0 0 t) ∧ Below w.heap.size w w' := by
 go_enter Tryz.func258, Tryz.ntmps258
 go_wp2
 refine bodyPost_ret (v := av 4 0 none 0 0 t) (by simp [results, Tryz.results258, go_sem]) rfl ⟨rfl, ?_⟩
 go_grown
theorem content_none (k n : Int) (a : Option Addr) (len cap : Nat) (t : ByteArray) (w : World) (hk : k = 0 ∨ k = 5 ∨ k = 6) :
  Calls Tryz.prog 104 #[av k n a len cap t] w fun e w' => e = .returned (.iface 162 (.agg #[.int .i64 k])) ∧ Below w.heap.size w w' := by
 rcases hk with rfl | rfl | rfl
 all_goals
  go_enter Tryz.func104, Tryz.ntmps104
  go_wp2
  go_ret
  exact ⟨rfl, by go_grown⟩
theorem content_int (k n : Int) (a : Option Addr) (len cap : Nat) (t : ByteArray) (w : World) (hk : k = 1) :
  Calls Tryz.prog 104 #[av k n a len cap t] w fun e w' => e = .returned (.iface 164 (.agg #[.int .i64 n])) ∧ Below w.heap.size w w' := by
 subst hk
 go_enter Tryz.func104, Tryz.ntmps104
 go_wp2
 go_ret
 exact ⟨rfl, by go_grown⟩
theorem content_code (k n : Int) (a : Option Addr) (len cap : Nat) (t : ByteArray) (w : World) (hk : k = 2) :
  Calls Tryz.prog 104 #[av k n a len cap t] w fun e w' => e = .returned (.iface 165 (.agg #[.int .i64 n])) ∧ Below w.heap.size w w' := by
 subst hk
 go_enter Tryz.func104, Tryz.ntmps104
 go_wp2
 go_ret
 exact ⟨rfl, by go_grown⟩
theorem content_set (k n : Int) (a : Option Addr) (len cap : Nat) (t : ByteArray) (w : World) (hk : k = 3) :
  Calls Tryz.prog 104 #[av k n a len cap t] w fun e w' => e = .returned (.iface 167 (.agg #[.slice a len cap])) ∧ Below w.heap.size w w' := by
 subst hk
 go_enter Tryz.func104, Tryz.ntmps104
 go_wp2
 go_ret
 exact ⟨rfl, by go_grown⟩
theorem content_text (k n : Int) (a : Option Addr) (len cap : Nat) (t : ByteArray) (w : World) (hk : k = 4) :
  Calls Tryz.prog 104 #[av k n a len cap t] w fun e w' => e = .returned (.iface 169 (.agg #[.string t])) ∧ Below w.heap.size w w' := by
 subst hk
 go_enter Tryz.func104, Tryz.ntmps104
 go_wp2
 go_ret
 exact ⟨rfl, by go_grown⟩
theorem content_else (k n : Int) (a : Option Addr) (len cap : Nat) (t : ByteArray) (w : World) (hk : ¬ (0 ≤ k ∧ k ≤ 6)) :
  Calls Tryz.prog 104 #[av k n a len cap t] w fun e w' => e = .returned .nilIface ∧ Below w.heap.size w w' := by
 have q0 : ¬ k = 0 := by omega
 have q1 : ¬ k = 1 := by omega
 have q2 : ¬ k = 2 := by omega
 have q3 : ¬ k = 3 := by omega
 have q4 : ¬ k = 4 := by omega
 have q5 : ¬ k = 5 := by omega
 have q6 : ¬ k = 6 := by omega
 clear hk
 go_enter Tryz.func104, Tryz.ntmps104
 go_wp2
 go_ret
 exact ⟨rfl, by go_grown⟩
end Go.Proofs.YtmbhmknfipdadaaGreatDoor.ValI
