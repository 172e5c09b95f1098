/- What Plus and Minus of the program answer at their faces; new memory alone is written. -/
import Derived.Test.YthplmgjnlhcapaaFixClos
namespace Go.Proofs.Ythplmgjnlhcapaa.FixT
open Go.RowKit
open FixS FixF FixH FixC

theorem faced_any (K : FuncId) (caps : Array Value) (r : Int × Int) (w : World) (hz : ¬ r.2 = 0 → r.1 = 0) (hent : ∀ W, (callFunc K caps).run Try.prog W = .ok (.enter K caps) W)
    (hcall : Calls Try.prog K caps (w.alloc (.cells #[.int .i64 0, .int .i64 0, .int .i64 0] 26)) fun e w' =>
      e = endE r ∧ Below (w.alloc (.cells #[.int .i64 0, .int .i64 0, .int .i64 0] 26)).heap.size (w.alloc (.cells #[.int .i64 0, .int .i64 0, .int .i64 0] 26)) w') :
    Calls Try.prog 45 #[.func (.func K) #[] caps] w fun e w' => e = .returned (numV r.1 r.2) ∧ Below w.heap.size w w' := by
  have hs : (w.alloc (.cells #[.int .i64 0, .int .i64 0, .int .i64 0] 26)).heap.size = w.heap.size + 1 := by simp
  rw [hs] at hcall
  by_cases h : r.2 = 0
  · rw [endE_ok h] at hcall; rw [h]; exact faced_num K caps r.1 w hent hcall
  · rw [endE_no h] at hcall; rw [hz h]; exact faced_ill K caps r.2 w hent hcall

theorem out_zero (n : Int) : ¬ (outR n).2 = 0 → (outR n).1 = 0 := by
  unfold outR; split
  · intro h; exact absurd rfl h
  · intro _; rfl

theorem cells_out' {w w1 : World} {b B : Nat} (hB : Below B w w1) (hb : b < B) (h0 : w.cell? ⟨b, 0, none⟩ = some (.int .i64 0)) (h1 : w.cell? ⟨b, 1, none⟩ = some (.int .i64 0)) (h2 : w.cell? ⟨b, 2, none⟩ = some (.int .i64 0))
    (hf : ∀ o, w.frozen? ⟨b, o, none⟩ = false) :
    w1.cell? ⟨b, 0, none⟩ = some (.int .i64 0) ∧ w1.cell? ⟨b, 1, none⟩ = some (.int .i64 0) ∧ w1.cell? ⟨b, 2, none⟩ = some (.int .i64 0) ∧ (∀ o, w1.frozen? ⟨b, o, none⟩ = false) :=
  ⟨by rw [hB.cell (p := ⟨b, 0, none⟩) hb]; exact h0, by rw [hB.cell (p := ⟨b, 1, none⟩) hb]; exact h1, by rw [hB.cell (p := ⟨b, 2, none⟩) hb]; exact h2,
    fun o => by rw [hB.frozen (p := ⟨b, o, none⟩) hb]; exact hf o⟩

theorem plus_zero (a b : Int) : ¬ (plusR a b).2 = 0 → (plusR a b).1 = 0 := by
  unfold plusR; split
  · exact out_zero _
  · intro _; rfl
theorem minus_zero (a b : Int) : ¬ (minusR a b).2 = 0 → (minusR a b).1 = 0 := by
  unfold minusR; split
  · exact out_zero _
  · intro _; rfl

set_option maxRecDepth 10000 in
set_option maxHeartbeats 1600000 in
theorem plus_face (a b : Int) (w : World) :
    Calls Try.prog 16 #[.int .i64 a, .int .i64 b] w fun e w' => e = .returned (numV (plusR a b).1 (plusR a b).2) ∧ Below w.heap.size w w' := by
  have hmf : ∀ (fn : Fn) (first cap : Array Value) (w : World), (Instr.makeFunc fn first cap).run Try.prog w = .ok (.func fn first cap) w := fun _ _ _ _ => rfl
  obtain ⟨r, hr⟩ : ∃ r, Hid (plusR a b = r) := ⟨_, rfl⟩
  rw [hr.out]
  go_enter Try.func16, Try.ntmps16
  go_wp2_with fail
  refine (faced_any 46 _ r _ ?_ ?_ ?_).mono ?_
  · rw [← hr.out]; exact plus_zero a b
  · intro W; rfl
  · rw [← hr.out]
    refine plus_call a b _ _ _ ?_ ?_ ?_ ?_
    all_goals first | (simp; done) | (go_simp; done) | (simp; omega)
  rintro e w1 ⟨rfl, hB⟩
  obtain ⟨hc0, hc1, hc2, hf⟩ := cells_out' hB (b := w.heap.size + 1 + 1) (by simp) (by first | (go_simp; done) | simp) (by first | (go_simp; done) | simp) (by first | (go_simp; done) | simp) (by intro o; first | (go_simp; done) | simp)
  have HB : Hid (Below w.heap.size w w1) := ((((Below.refl _ _).alloc (Nat.le_refl _) _).alloc (by simp; try omega) _).alloc (by simp; try omega) _).trans (hB.mono (by simp; try omega))
  clear hB hr
  unfold numV
  go_wp2
  refine bodyPost_ret (v := numV r.1 r.2) (by simp [results, Try.results16, go_sem, numV, hc0, hc1, hc2]) rfl ⟨rfl, ?_⟩
  exact (((HB.out).setCell (by simp; try omega) _).setCell (by simp; try omega) _).setCell (by simp; try omega) _

set_option maxRecDepth 10000 in
set_option maxHeartbeats 1600000 in
theorem minus_face (a b : Int) (w : World) :
    Calls Try.prog 17 #[.int .i64 a, .int .i64 b] w fun e w' => e = .returned (numV (minusR a b).1 (minusR a b).2) ∧ Below w.heap.size w w' := by
  have hmf : ∀ (fn : Fn) (first cap : Array Value) (w : World), (Instr.makeFunc fn first cap).run Try.prog w = .ok (.func fn first cap) w := fun _ _ _ _ => rfl
  obtain ⟨r, hr⟩ : ∃ r, Hid (minusR a b = r) := ⟨_, rfl⟩
  rw [hr.out]
  go_enter Try.func17, Try.ntmps17
  go_wp2_with fail
  refine (faced_any 49 _ r _ ?_ ?_ ?_).mono ?_
  · rw [← hr.out]; exact minus_zero a b
  · intro W; rfl
  · rw [← hr.out]
    refine minus_call a b _ _ _ ?_ ?_ ?_ ?_
    all_goals first | (simp; done) | (go_simp; done) | (simp; omega)
  rintro e w1 ⟨rfl, hB⟩
  obtain ⟨hc0, hc1, hc2, hf⟩ := cells_out' hB (b := w.heap.size + 1 + 1) (by simp) (by first | (go_simp; done) | simp) (by first | (go_simp; done) | simp) (by first | (go_simp; done) | simp) (by intro o; first | (go_simp; done) | simp)
  have HB : Hid (Below w.heap.size w w1) := ((((Below.refl _ _).alloc (Nat.le_refl _) _).alloc (by simp; try omega) _).alloc (by simp; try omega) _).trans (hB.mono (by simp; try omega))
  clear hB hr
  unfold numV
  go_wp2
  refine bodyPost_ret (v := numV r.1 r.2) (by simp [results, Try.results17, go_sem, numV, hc0, hc1, hc2]) rfl ⟨rfl, ?_⟩
  exact (((HB.out).setCell (by simp; try omega) _).setCell (by simp; try omega) _).setCell (by simp; try omega) _
end Go.Proofs.Ythplmgjnlhcapaa.FixT
