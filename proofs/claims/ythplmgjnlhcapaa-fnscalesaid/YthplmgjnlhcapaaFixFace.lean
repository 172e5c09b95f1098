/- What the program's face makes of what is reckoned behind it: a number is told with the code 0, a fault is told as its code; new memory alone is written. -/
import Derived.Test.YthplmgjnlhcapaaFixHeld
import Derived.Defers
import Derived.Recover
import Derived.Laws.Pointers
namespace Go.Proofs.Ythplmgjnlhcapaa.FixF
open Go.RowKit

theorem assert_hit (v : Value) (w : World) : (Instr.typeAssert (.iface 58 v) 20 58 true).run Try.prog w = .ok (.tuple #[v, .bool true]) w := by kernel_rfl
theorem assert_nil (w : World) : (Instr.typeAssert .nilIface 20 58 true).run Try.prog w = .ok (.tuple #[.agg #[.int .i64 0], .bool false]) w := by kernel_rfl

set_option maxHeartbeats 1000000 in
theorem catch_panicking (b : Nat) (c x0 x1 x2 : Int) (w : World) (hc0 : w.cell? ⟨b, 0, none⟩ = some (.int .i64 x0)) (hc1 : w.cell? ⟨b, 1, none⟩ = some (.int .i64 x1)) (hc2 : w.cell? ⟨b, 2, none⟩ = some (.int .i64 x2))
    (hz : ∀ o, w.frozen? ⟨b, o, none⟩ = false) (hb : b < w.heap.size) :
    CallsD Try.prog 76 #[.pointer (some ⟨b, 0, none⟩)] (.panicking (FixH.ill c)) w fun e u' w' =>
      e = .returned (.tuple #[]) ∧ u' = .panicking [{ v := .iface 58 (.agg #[.int .i64 c]), recovered := true }] ∧
        w' = (((w.alloc (.cells #[.int .i64 c] 58)).setCell ⟨b, 0, none⟩ (.int .i64 0)).setCell ⟨b, 1, none⟩ (.int .i64 0)).setCell ⟨b, 2, none⟩ (.int .i64 c) := by
  unfold FixH.ill
  have ha := assert_hit
  refine callsD_of_wpS Try.func76 rfl fun c₀ cs hu => ?_
  apply wpS_seq
  apply wpS_region
  simp [wpOpsS, go_sem, recoverD, hu, Try.ntmps76, Exit.thenS, ha]
  apply wpS_seq
  apply wpS_region
  simp [wpOpsS, go_sem, Exit.thenS]
  refine wpS_cond (t := true) (by simp [Act.eval, Array.replicate]) ?_
  simp only [if_true]
  apply wpS_region
  simp [wpOpsS, go_sem, hc0, hc1, hc2, hz, hb, bodyPostS, results, Try.results76]

set_option maxHeartbeats 1000000 in
theorem catch_idle (p : Addr) (w : World) :
    CallsD Try.prog 76 #[.pointer (some p)] .returning w fun e u' w' =>
      e = .returned (.tuple #[]) ∧ u' = .returning ∧ w' = w.alloc (.cells #[.int .i64 0] 58) := by
  have ha := assert_nil
  refine callsD_of_wpS Try.func76 rfl fun c₀ cs hu => ?_
  apply wpS_seq
  apply wpS_region
  simp [wpOpsS, go_sem, recoverD, hu, Try.ntmps76, Exit.thenS, ha]
  apply wpS_seq
  apply wpS_region
  simp [wpOpsS, go_sem, Exit.thenS]
  refine wpS_cond (t := false) (by simp [Act.eval, Array.replicate]) ?_
  simp only [Bool.false_eq_true, if_false]
  refine wpS_of_wp (wp_skip ?_)
  cases c₀
  simp_all [bodyPostS, results, Try.results76]

theorem lt_of_cell {w : World} {b o : Nat} {v : Value} (h : w.cell? ⟨b, o, none⟩ = some v) : b < w.heap.size := by
  rcases Nat.lt_or_ge b w.heap.size with h1 | h1
  · exact h1
  · have : w.heap[b]? = none := by rw [getElem?_neg]; omega
    simp [World.cell?, this] at h

def numV (n c : Int) : Value := .agg #[.int .i64 n, .int .i64 0, .int .i64 c]

set_option maxHeartbeats 1000000 in
theorem faced_num (K : FuncId) (caps : Array Value) (n : Int) (w : World) (hent : ∀ W, (callFunc K caps).run Try.prog W = .ok (.enter K caps) W)
    (hcall : Calls Try.prog K caps (w.alloc (.cells #[.int .i64 0, .int .i64 0, .int .i64 0] 26)) fun e w' =>
      e = .returned (.int .i64 n) ∧ Below (w.heap.size + 1) (w.alloc (.cells #[.int .i64 0, .int .i64 0, .int .i64 0] 26)) w') :
    Calls Try.prog 45 #[.func (.func K) #[] caps] w fun e w' => e = .returned (numV n 0) ∧ Below w.heap.size w w' := by
  have hmf : ∀ (fn : Fn) (first cap : Array Value) (w : World), (Instr.makeFunc fn first cap).run Try.prog w = .ok (.func fn first cap) w := fun _ _ _ _ => rfl
  go_enter_defers Try.func45, Try.ntmps45
  go_wp2_with fail
  refine hcall.mono ?_
  rintro e w1 ⟨rfl, hB⟩
  clear hcall hent
  have hc : ∀ o, o < 3 → w1.cell? ⟨w.heap.size, o, none⟩ = some (.int .i64 0) := fun o ho => by
    rw [hB.cell (p := ⟨w.heap.size, o, none⟩) (by simp)]
    rcases (show o = 0 ∨ o = 1 ∨ o = 2 by omega) with rfl | rfl | rfl <;> simp
  have hc0 := hc 0 (by omega)
  have hc1 := hc 1 (by omega)
  have hc2 := hc 2 (by omega)
  have hf : ∀ o, w1.frozen? ⟨w.heap.size, o, none⟩ = false := fun o => by rw [hB.frozen (p := ⟨w.heap.size, o, none⟩) (by simp)]; simp
  have HB : Hid (Below w.heap.size w w1) := ((Below.refl _ _).alloc (Nat.le_refl _) _).trans (hB.mono (by simp))
  clear hc hB
  go_wp2
  have hsz : w.heap.size < w1.heap.size := by
    have := lt_of_cell hc0
    exact this
  refine leaves_cons (f := 76) (args := #[.pointer (some ⟨w.heap.size, 0, none⟩)]) (by simp) (by simp [go_sem]) ?_
  refine (catch_idle ⟨w.heap.size, 0, none⟩ _).mono ?_
  rintro e u' w'' ⟨rfl, rfl, rfl⟩
  refine ⟨numV n 0, ?_, rfl, ?_⟩
  · simp [results, Try.results45, go_sem, hc0, hc1, hc2, hsz, numV]
  · exact ((((HB.out.setCell (Nat.le_refl _) _).setCell (Nat.le_refl _) _).setCell (Nat.le_refl _) _).alloc (by simp; omega) _)

set_option maxHeartbeats 1000000 in
theorem faced_ill (K : FuncId) (caps : Array Value) (c : Int) (w : World) (hent : ∀ W, (callFunc K caps).run Try.prog W = .ok (.enter K caps) W)
    (hcall : Calls Try.prog K caps (w.alloc (.cells #[.int .i64 0, .int .i64 0, .int .i64 0] 26)) fun e w' =>
      e = .panicked (FixH.ill c) ∧ Below (w.heap.size + 1) (w.alloc (.cells #[.int .i64 0, .int .i64 0, .int .i64 0] 26)) w') :
    Calls Try.prog 45 #[.func (.func K) #[] caps] w fun e w' => e = .returned (numV 0 c) ∧ Below w.heap.size w w' := by
  have hmf : ∀ (fn : Fn) (first cap : Array Value) (w : World), (Instr.makeFunc fn first cap).run Try.prog w = .ok (.func fn first cap) w := fun _ _ _ _ => rfl
  go_enter_defers Try.func45, Try.ntmps45
  go_wp2_with fail
  refine hcall.mono ?_
  rintro e w1 ⟨rfl, hB⟩
  clear hcall hent
  have hc : ∀ o, o < 3 → w1.cell? ⟨w.heap.size, o, none⟩ = some (.int .i64 0) := fun o ho => by
    rw [hB.cell (p := ⟨w.heap.size, o, none⟩) (by simp)]
    rcases (show o = 0 ∨ o = 1 ∨ o = 2 by omega) with rfl | rfl | rfl <;> simp
  have hc0 := hc 0 (by omega)
  have hc1 := hc 1 (by omega)
  have hc2 := hc 2 (by omega)
  have hf : ∀ o, w1.frozen? ⟨w.heap.size, o, none⟩ = false := fun o => by rw [hB.frozen (p := ⟨w.heap.size, o, none⟩) (by simp)]; simp
  have HB : Hid (Below w.heap.size w w1) := ((Below.refl _ _).alloc (Nat.le_refl _) _).trans (hB.mono (by simp))
  have hsz : w.heap.size < w1.heap.size := lt_of_cell hc0
  clear hc hB
  go_wp2
  refine leaves_cons (f := 76) (args := #[.pointer (some ⟨w.heap.size, 0, none⟩)]) (by simp) (by simp [go_sem]) ?_
  refine (catch_panicking w.heap.size c 0 0 0 _ hc0 hc1 hc2 hf hsz).mono ?_
  rintro e u' w'' ⟨rfl, rfl, rfl⟩
  refine ⟨numV 0 c, ?_, rfl, ?_⟩
  · simp [results, Try.results45, go_sem, hc0, hc1, hc2, hsz, numV]
  · exact ((((HB.out.alloc (by omega) _).setCell (Nat.le_refl _) _).setCell (Nat.le_refl _) _).setCell (Nat.le_refl _) _)
end Go.Proofs.Ythplmgjnlhcapaa.FixF
