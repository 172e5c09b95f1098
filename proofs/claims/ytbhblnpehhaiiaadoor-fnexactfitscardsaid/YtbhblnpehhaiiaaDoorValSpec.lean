/- What the model says of a right answer: the tests on codes and on letters, and ValueRight itself. -/
import Derived.Test.YtbhblnpehhaiiaaDoorValMath
import Derived.Test.YtbhblnpehhaiiaaDoorValCore
import Derived.Deep.QuietTactic
import Derived.BigQuiet
import Derived.Laws.Strings
namespace Go.Proofs.YtbhblnpehhaiiaaDoor.ValS
open Go.RowKit
open ValM ValW

theorem ret_bool {a b : Bool} (h : a = b) : Ending.returned (.bool a) = .returned (.bool b) := by rw [h]

theorem below_drewN {B : Nat} {a w : World} (h : Below B a w) (n : Nat) : Below B a (w.drewN n) := ⟨h.os, h.tape, h.output, h.size, h.block⟩

theorem below_one (w : World) (o : Obj) : Below w.heap.size w (w.alloc o) := (Below.refl _ _).alloc (Nat.le_refl _) _
theorem empty_list (t : ByteArray) : t.toList.isEmpty = decide (t.size = 0) := by
  rw [ByteArray.toList_eq, Bool.eq_iff_iff, List.isEmpty_iff, decide_eq_true_iff, ← List.length_eq_zero_iff]
  exact Iff.of_eq (by rw [Array.length_toList]; rfl)

theorem is_yes (n lo hi : Int) (w : World) (h1 : lo ≤ n) (h2 : n ≤ hi) :
    Calls Tryd.prog 64 #[.int .i64 n, .int .i64 lo, .int .i64 hi] w fun e w' => e = .returned (.bool true) ∧ w' = w := by
  go_enter Tryd.func64, Tryd.ntmps64
  go_wp2
  go_ret
  exact ⟨ret_bool (by simp), rfl⟩
theorem is_no (n lo hi : Int) (w : World) (h : n < lo ∨ hi < n) :
    Calls Tryd.prog 64 #[.int .i64 n, .int .i64 lo, .int .i64 hi] w fun e w' => e = .returned (.bool false) ∧ w' = w := by
  by_cases h1 : lo ≤ n
  · go_enter Tryd.func64, Tryd.ntmps64
    go_wp2
    go_ret
    exact ⟨ret_bool (by simp; omega), rfl⟩
  · go_enter Tryd.func64, Tryd.ntmps64
    go_wp2
    go_ret
    exact ⟨rfl, rfl⟩

theorem plain_in (t : ByteArray) (most : Int) (w : World) (hs : t.size ≤ maxLen) :
    Calls Tryd.prog 66 #[.string t, .int .i64 most] w fun e w' => e = .returned (.bool (plainB t && decide ((t.size : Int) ≤ most))) ∧ w' = w := by
  unfold maxLen at hs
  go_enter Tryd.func66, Tryd.ntmps66
  go_wp2
  go_loop [5] (fun i => ∃ k : Nat, k ≤ t.size ∧ i = .int .i64 k ∧ Hid (∀ j, j < k → plainAt t j)) (fun i => t.size - (intOf i).toNat)
  case atStart => exact ⟨0, Nat.zero_le _, rfl, fun j hj => absurd hj (Nat.not_lt_zero _)⟩
  case round =>
    obtain ⟨k, hk, rfl, hall⟩ := hrel
    by_cases hlt : k < t.size
    · have hch : Hid (chr t k = (t[k]'hlt).toNat) := chr_at hlt
      by_cases h1 : (t[k]'hlt).toNat < 32
      · go_wp2
        go_ret
        exact ⟨ret_bool (by rw [plain_no k hlt (by unfold plainAt; rw [hch.out]; omega)]; rfl), rfl⟩
      by_cases h2 : 126 < (t[k]'hlt).toNat
      · go_wp2
        go_ret
        exact ⟨ret_bool (by rw [plain_no k hlt (by unfold plainAt; rw [hch.out]; omega)]; rfl), rfl⟩
      · go_wp2
        refine ⟨⟨k + 1, by omega, by go_num, fun j hj => ?_⟩, by simp [intOf]; omega⟩
        rcases Nat.lt_succ_iff_lt_or_eq.1 hj with hj' | rfl
        · exact hall.out j hj'
        · unfold plainAt; rw [hch.out]; omega
    · go_wp2
      go_ret
      exact ⟨ret_bool (by rw [plain_yes (fun j hj => hall.out j (by omega))]; rfl), rfl⟩

set_option maxRecDepth 10000 in
set_option maxHeartbeats 1000000 in
theorem codes_in (a : Option Addr) (cap : Nat) (zs : List Int) (w : World) (hc : Codes w a zs) :
    Calls Tryd.prog 65 #[.slice a zs.length cap] w fun e w' => e = .returned (.bool (risesB zs)) ∧ Below w.heap.size w w' := by
  obtain ⟨hl, hc⟩ := hc
  have HC : Hid (0 < zs.length → ∃ b o, a = some ⟨b, o, none⟩ ∧ b < w.heap.size ∧ ∀ i, i < zs.length → w.cell? ⟨b, o + i, none⟩ = some (.int .i64 (zs.getD i 0))) := hc
  clear hc
  go_enter Tryd.func65, Tryd.ntmps65
  go_wp2
  go_loopw [3] (fun i wr => ∃ k : Nat, k ≤ zs.length ∧ i = .int .i64 k ∧ Hid (∀ j, j < k → okAt zs j) ∧ Below w.heap.size w wr) (fun i _ => zs.length - (intOf i).toNat)
  case atStart => exact ⟨0, Nat.zero_le _, rfl, fun j hj => absurd hj (Nat.not_lt_zero _), Below.refl _ _⟩
  case round =>
    obtain ⟨k, hk, rfl, hall, hbel⟩ := hrel
    have HB : Hid (Below w.heap.size w wr) := hbel
    by_cases hlt : k < zs.length
    · obtain ⟨b, o, rfl, hb, hcs⟩ := HC.out (by omega)
      have hcell : wr.cell? ⟨b, o + k, none⟩ = some (.int .i64 (zs.getD k 0)) := (hbel.cell hb).trans (hcs k hlt)
      obtain ⟨v, hv⟩ : ∃ v, Hid (zs.getD k 0 = v) := ⟨_, rfl⟩
      rw [hv.out] at hcell
      by_cases h1 : v < 1 ∨ 20 < v
      · have hno : Hid (¬ okAt zs k) := fun h => by unfold okAt at h; rw [hv.out] at h; omega
        clear hcs hbel
        go_wp2
        go_quiet ((go_at_call 64; exact Calls.quiet_of_same (is_no _ _ _ _ h1)))
        go_wp2
        go_ret
        exact ⟨ret_bool (by rw [rises_no k hlt hno.out]), below_drewN HB.out _⟩
      have h1' : 1 ≤ v := by omega
      have h2' : v ≤ 20 := by omega
      clear h1
      by_cases hk0 : 0 < k
      · obtain ⟨j, rfl⟩ : ∃ j, k = j + 1 := ⟨k - 1, by omega⟩
        have hcell2 : wr.cell? ⟨b, o + j, none⟩ = some (.int .i64 (zs.getD j 0)) := (hbel.cell hb).trans (hcs j (by omega))
        obtain ⟨u, hu⟩ : ∃ u, Hid (zs.getD j 0 = u) := ⟨_, rfl⟩
        rw [hu.out] at hcell2
        by_cases huv : v ≤ u
        · have hno : Hid (¬ okAt zs (j + 1)) := fun h => by unfold okAt at h; rw [hv.out, Nat.add_sub_cancel, hu.out] at h; omega
          clear hcs hbel
          go_wp2
          go_quiet ((go_at_call 64; exact Calls.quiet_of_same (is_yes _ _ _ _ h1' h2')))
          go_wp2
          go_ret
          exact ⟨ret_bool (by rw [rises_no _ hlt hno.out]), below_drewN HB.out _⟩
        · have hyes : Hid (okAt zs (j + 1)) := show okAt zs (j + 1) by unfold okAt; rw [hv.out, Nat.add_sub_cancel, hu.out]; exact ⟨h1', h2', fun _ => by omega⟩
          clear hcs hbel
          go_wp2
          go_quiet ((go_at_call 64; exact Calls.quiet_of_same (is_yes _ _ _ _ h1' h2')))
          go_wp2
          refine ⟨⟨j + 1 + 1, by omega, by go_num, fun i hi => ?_, below_drewN HB.out _⟩, by simp [intOf]; omega⟩
          rcases Nat.lt_succ_iff_lt_or_eq.1 hi with hj' | rfl
          · exact hall.out i hj'
          · exact hyes.out
      · have hyes : Hid (okAt zs k) := show okAt zs k by unfold okAt; rw [hv.out]; exact ⟨h1', h2', fun h => absurd h hk0⟩
        clear hcs hbel
        go_wp2
        go_quiet ((go_at_call 64; exact Calls.quiet_of_same (is_yes _ _ _ _ h1' h2')))
        go_wp2
        refine ⟨⟨k + 1, by omega, by go_num, fun i hi => ?_, below_drewN HB.out _⟩, by simp [intOf]; omega⟩
        rcases Nat.lt_succ_iff_lt_or_eq.1 hi with hj' | rfl
        · exact hall.out i hj'
        · exact hyes.out
    · go_wp2
      go_ret
      exact ⟨ret_bool (by rw [rises_yes (fun j hj => hall.out j (by omega))]), hbel⟩
end Go.Proofs.YtbhblnpehhaiiaaDoor.ValS
