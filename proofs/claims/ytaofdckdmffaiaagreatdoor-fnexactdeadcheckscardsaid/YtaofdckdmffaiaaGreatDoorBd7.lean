/- Texts of ours, laid together: FixFace, FixSpec. -/
import Derived.Test.YtaofdckdmffaiaaGreatDoorBd3
import Derived.Defers
import Derived.Recover
import Derived.Laws.Pointers
/- What the program's face makes of what is reckoned behind it: a number is told with the code 0, a fault is told as its code; new memory alone is written. -/
namespace Go.Proofs.YtaofdckdmffaiaaGreatDoor.FixF
open Go.RowKit

theorem assert_hit (v : Value) (w : World) : (Instr.typeAssert (.iface 143 v) 20 143 true).run Tryz.prog w = .ok (.tuple #[v, .bool true]) w := by kernel_rfl
theorem assert_nil (w : World) : (Instr.typeAssert .nilIface 20 143 true).run Tryz.prog w = .ok (.tuple #[.agg #[.int .i64 0], .bool false]) w := by kernel_rfl

set_option maxHeartbeats 1000000 in
theorem catch_panicking (b : Nat) (c x0 x1 x2 : Int) (w : World) (hc0 : w.cell? ⟨b, 0, none⟩ = some (.int .i64 x0)) (hc1 : w.cell? ⟨b, 1, none⟩ = some (.int .i64 x1)) (hc2 : w.cell? ⟨b, 2, none⟩ = some (.int .i64 x2))
    (hz : ∀ o, w.frozen? ⟨b, o, none⟩ = false) (hb : b < w.heap.size) :
    CallsD Tryz.prog 130 #[.pointer (some ⟨b, 0, none⟩)] (.panicking (FixH.ill c)) w fun e u' w' =>
      e = .returned (.tuple #[]) ∧ u' = .panicking [{ v := .iface 143 (.agg #[.int .i64 c]), recovered := true }] ∧
        w' = (((w.alloc (.cells #[.int .i64 c] 143)).setCell ⟨b, 0, none⟩ (.int .i64 0)).setCell ⟨b, 1, none⟩ (.int .i64 0)).setCell ⟨b, 2, none⟩ (.int .i64 c) := by
  unfold FixH.ill
  have ha := assert_hit
  refine callsD_of_wpS Tryz.func130 rfl fun c₀ cs hu => ?_
  apply wpS_seq
  apply wpS_region
  simp [wpOpsS, go_sem, recoverD, hu, Tryz.ntmps130, Exit.thenS, ha]
  apply wpS_seq
  apply wpS_region
  simp [wpOpsS, go_sem, Exit.thenS]
  refine wpS_cond (t := true) (by simp [Act.eval, Array.replicate]) ?_
  simp only [if_true]
  apply wpS_region
  simp [wpOpsS, go_sem, hc0, hc1, hc2, hz, hb, bodyPostS, results, Tryz.results130]

set_option maxHeartbeats 1000000 in
theorem catch_idle (p : Addr) (w : World) :
    CallsD Tryz.prog 130 #[.pointer (some p)] .returning w fun e u' w' =>
      e = .returned (.tuple #[]) ∧ u' = .returning ∧ w' = w.alloc (.cells #[.int .i64 0] 143) := by
  have ha := assert_nil
  refine callsD_of_wpS Tryz.func130 rfl fun c₀ cs hu => ?_
  apply wpS_seq
  apply wpS_region
  simp [wpOpsS, go_sem, recoverD, hu, Tryz.ntmps130, Exit.thenS, ha]
  apply wpS_seq
  apply wpS_region
  simp [wpOpsS, go_sem, Exit.thenS]
  refine wpS_cond (t := false) (by simp [Act.eval, Array.replicate]) ?_
  simp only [Bool.false_eq_true, if_false]
  refine wpS_of_wp (wp_skip ?_)
  cases c₀
  simp_all [bodyPostS, results, Tryz.results130]

theorem lt_of_cell {w : World} {b o : Nat} {v : Value} (h : w.cell? ⟨b, o, none⟩ = some v) : b < w.heap.size := by
  rcases Nat.lt_or_ge b w.heap.size with h1 | h1
  · exact h1
  · have : w.heap[b]? = none := by rw [getElem?_neg]; omega
    simp [World.cell?, this] at h

def numV (n c : Int) : Value := .agg #[.int .i64 n, .int .i64 0, .int .i64 c]

set_option maxHeartbeats 1000000 in
theorem faced_num (K : FuncId) (caps : Array Value) (n : Int) (w : World) (hent : ∀ W, (callFunc K caps).run Tryz.prog W = .ok (.enter K caps) W)
    (hcall : Calls Tryz.prog K caps (w.alloc (.cells #[.int .i64 0, .int .i64 0, .int .i64 0] 110)) fun e w' =>
      e = .returned (.int .i64 n) ∧ Below (w.heap.size + 1) (w.alloc (.cells #[.int .i64 0, .int .i64 0, .int .i64 0] 110)) w') :
    Calls Tryz.prog 115 #[.func (.func K) #[] caps] w fun e w' => e = .returned (numV n 0) ∧ Below w.heap.size w w' := by
  have hmf : ∀ (fn : Fn) (first cap : Array Value) (w : World), (Instr.makeFunc fn first cap).run Tryz.prog w = .ok (.func fn first cap) w := fun _ _ _ _ => rfl
  go_enter_defers Tryz.func115, Tryz.ntmps115
  go_wp2_with fail
  refine hcall.mono ?_
  rintro e w1 ⟨rfl, hB⟩
  clear hcall hent
  have hc : ∀ o, o < 3 → w1.cell? ⟨w.heap.size, o, none⟩ = some (.int .i64 0) := fun o ho => by
    rw [hB.cell (p := ⟨w.heap.size, o, none⟩) (by simp)]
    rcases (show o = 0 ∨ o = 1 ∨ o = 2 by omega) with rfl | rfl | rfl <;> simp
  have hc0 := hc 0 (by omega)
  have hc1 := hc 1 (by omega)
  have hc2 := hc 2 (by omega)
  have hf : ∀ o, w1.frozen? ⟨w.heap.size, o, none⟩ = false := fun o => by rw [hB.frozen (p := ⟨w.heap.size, o, none⟩) (by simp)]; simp
  have HB : Hid (Below w.heap.size w w1) := ((Below.refl _ _).alloc (Nat.le_refl _) _).trans (hB.mono (by simp))
  clear hc hB
  go_wp2
  have hsz : w.heap.size < w1.heap.size := by
    have := lt_of_cell hc0
    exact this
  refine leaves_cons (f := 130) (args := #[.pointer (some ⟨w.heap.size, 0, none⟩)]) (by simp) (by simp [go_sem]) ?_
  refine (catch_idle ⟨w.heap.size, 0, none⟩ _).mono ?_
  rintro e u' w'' ⟨rfl, rfl, rfl⟩
  refine ⟨numV n 0, ?_, rfl, ?_⟩
  · simp [results, Tryz.results115, go_sem, hc0, hc1, hc2, hsz, numV]
  · exact ((((HB.out.setCell (Nat.le_refl _) _).setCell (Nat.le_refl _) _).setCell (Nat.le_refl _) _).alloc (by simp; omega) _)

set_option maxHeartbeats 1000000 in
theorem faced_ill (K : FuncId) (caps : Array Value) (c : Int) (w : World) (hent : ∀ W, (callFunc K caps).run Tryz.prog W = .ok (.enter K caps) W)
    (hcall : Calls Tryz.prog K caps (w.alloc (.cells #[.int .i64 0, .int .i64 0, .int .i64 0] 110)) fun e w' =>
      e = .panicked (FixH.ill c) ∧ Below (w.heap.size + 1) (w.alloc (.cells #[.int .i64 0, .int .i64 0, .int .i64 0] 110)) w') :
    Calls Tryz.prog 115 #[.func (.func K) #[] caps] w fun e w' => e = .returned (numV 0 c) ∧ Below w.heap.size w w' := by
  have hmf : ∀ (fn : Fn) (first cap : Array Value) (w : World), (Instr.makeFunc fn first cap).run Tryz.prog w = .ok (.func fn first cap) w := fun _ _ _ _ => rfl
  go_enter_defers Tryz.func115, Tryz.ntmps115
  go_wp2_with fail
  refine hcall.mono ?_
  rintro e w1 ⟨rfl, hB⟩
  clear hcall hent
  have hc : ∀ o, o < 3 → w1.cell? ⟨w.heap.size, o, none⟩ = some (.int .i64 0) := fun o ho => by
    rw [hB.cell (p := ⟨w.heap.size, o, none⟩) (by simp)]
    rcases (show o = 0 ∨ o = 1 ∨ o = 2 by omega) with rfl | rfl | rfl <;> simp
  have hc0 := hc 0 (by omega)
  have hc1 := hc 1 (by omega)
  have hc2 := hc 2 (by omega)
  have hf : ∀ o, w1.frozen? ⟨w.heap.size, o, none⟩ = false := fun o => by rw [hB.frozen (p := ⟨w.heap.size, o, none⟩) (by simp)]; simp
  have HB : Hid (Below w.heap.size w w1) := ((Below.refl _ _).alloc (Nat.le_refl _) _).trans (hB.mono (by simp))
  have hsz : w.heap.size < w1.heap.size := lt_of_cell hc0
  clear hc hB
  go_wp2
  refine leaves_cons (f := 130) (args := #[.pointer (some ⟨w.heap.size, 0, none⟩)]) (by simp) (by simp [go_sem]) ?_
  refine (catch_panicking w.heap.size c 0 0 0 _ hc0 hc1 hc2 hf hsz).mono ?_
  rintro e u' w'' ⟨rfl, rfl, rfl⟩
  refine ⟨numV 0 c, ?_, rfl, ?_⟩
  · simp [results, Tryz.results115, go_sem, hc0, hc1, hc2, hsz, numV]
  · exact ((((HB.out.alloc (by omega) _).setCell (Nat.le_refl _) _).setCell (Nat.le_refl _) _).setCell (Nat.le_refl _) _)
end Go.Proofs.YtaofdckdmffaiaaGreatDoor.FixF
/- What the model's small functions of chapter 3 answer, and Plus and Minus of the model, as plain functions of the numbers; new memory alone is written. -/
namespace Go.Proofs.YtaofdckdmffaiaaGreatDoor.FixS
open Go.RowKit

def inB (n lo hi : Int) : Bool := decide (lo ≤ n ∧ n ≤ hi)
def inM (n : Int) : Bool := inB n (-1000000000000000) 1000000000000000
theorem inB_t {n lo hi : Int} (h : lo ≤ n ∧ n ≤ hi) : inB n lo hi = true := by unfold inB; rw [decide_eq_true_iff]; exact h
theorem inB_f {n lo hi : Int} (h : ¬ (lo ≤ n ∧ n ≤ hi)) : inB n lo hi = false := by unfold inB; rw [decide_eq_false_iff_not]; exact h
theorem inM_iff (n : Int) : inM n = true ↔ (-1000000000000000 ≤ n ∧ n ≤ 1000000000000000) := by unfold inM inB; rw [decide_eq_true_iff]
/-- what is told of a number that is reckoned -/
def outR (n : Int) : Int × Int := if inM n = true then (n, 0) else (0, 12)
def plusR (a b : Int) : Int × Int := if inM a = true ∧ inM b = true then outR (a + b) else (0, 1)
def minusR (a b : Int) : Int × Int := if inM a = true ∧ inM b = true then outR (a - b) else (0, 1)

set_option maxHeartbeats 400000 in
theorem is_any (n lo hi : Int) (w : World) :
    Calls Tryz.prog 88 #[.int .i64 n, .int .i64 lo, .int .i64 hi] w fun e w' => e = .returned (.bool (inB n lo hi)) ∧ w' = w := by
  by_cases h : lo ≤ n
  · by_cases h2 : n ≤ hi
    · rw [inB_t ⟨h, h2⟩]
      go_enter Tryz.func88, Tryz.ntmps88
      go_wp2
      go_ret
      exact ⟨rfl, rfl⟩
    · rw [inB_f (by omega)]
      go_enter Tryz.func88, Tryz.ntmps88
      go_wp2
      go_ret
      exact ⟨rfl, rfl⟩
  · rw [inB_f (by omega)]
    go_enter Tryz.func88, Tryz.ntmps88
    go_wp2
    go_ret
    exact ⟨rfl, rfl⟩

theorem num_any (n : Int) (w : World) :
    Calls Tryz.prog 95 #[.int .i64 n] w fun e w' => e = .returned (.bool (inM n)) ∧ w' = w := by
  go_enter Tryz.func95, Tryz.ntmps95
  go_wp2_with (first | (go_at_call 88; refine (is_any _ _ _ _).mono ?_; rintro e w' ⟨rfl, rfl⟩))
  go_ret
  exact ⟨rfl, rfl⟩

theorem ill_any (c : Int) (w : World) :
    Calls Tryz.prog 96 #[.int .i64 c] w fun e w' => e = .returned (FixF.numV 0 c) ∧ Below w.heap.size w w' := by
  go_enter Tryz.func96, Tryz.ntmps96
  go_wp2
  refine bodyPost_ret (v := FixF.numV 0 c) (by simp [results, Tryz.results96, go_sem, FixF.numV]) rfl ⟨rfl, ?_⟩
  exact (Below.refl _ _).alloc (Nat.le_refl _) _

/-- a NumOut of the callee, stored into the result's cells -/
theorem below_out {w w1 : World} {t : TypeId} {x y z : Value} {B : Nat} (hB : Below B (w.alloc (.cells #[x, y, z] t)) w1) (hb : w.heap.size < B) : Below w.heap.size w w1 :=
  ((Below.refl _ _).alloc (Nat.le_refl _) _).trans (hB.mono (Nat.le_of_lt hb))
theorem cells_out {w w1 : World} {t : TypeId} {B : Nat} (hB : Below B (w.alloc (.cells #[.int .i64 0, .int .i64 0, .int .i64 0] t)) w1) (hb : w.heap.size < B) :
    w1.cell? ⟨w.heap.size, 0, none⟩ = some (.int .i64 0) ∧ w1.cell? ⟨w.heap.size, 1, none⟩ = some (.int .i64 0) ∧ w1.cell? ⟨w.heap.size, 2, none⟩ = some (.int .i64 0) ∧
      (∀ o, w1.frozen? ⟨w.heap.size, o, none⟩ = false) := by
  refine ⟨?_, ?_, ?_, fun o => ?_⟩
  · rw [hB.cell (p := ⟨w.heap.size, 0, none⟩) hb]; simp
  · rw [hB.cell (p := ⟨w.heap.size, 1, none⟩) hb]; simp
  · rw [hB.cell (p := ⟨w.heap.size, 2, none⟩) hb]; simp
  · rw [hB.frozen (p := ⟨w.heap.size, o, none⟩) hb]; simp

set_option maxHeartbeats 400000 in
theorem out_any (n : Int) (w : World) :
    Calls Tryz.prog 98 #[.int .i64 n] w fun e w' => e = .returned (FixF.numV (outR n).1 (outR n).2) ∧ Below w.heap.size w w' := by
  unfold outR
  cases h : inM n
  · go_enter Tryz.func98, Tryz.ntmps98
    go_wp2_with (first | (go_at_call 95; refine (num_any _ _).mono ?_; rintro e w' ⟨rfl, rfl⟩))
    refine (ill_any 12 _).mono ?_
    rintro e w1 ⟨rfl, hB⟩
    obtain ⟨hc0, hc1, hc2, hf⟩ := cells_out hB (by simp)
    have HB : Hid (Below w.heap.size w w1) := below_out hB (by simp)
    clear hB
    unfold FixF.numV
    go_wp2
    refine bodyPost_ret (v := FixF.numV 0 12) (by simp [results, Tryz.results98, go_sem, FixF.numV, hc0, hc1, hc2]) rfl ⟨rfl, ?_⟩
    exact (((HB.out).setCell (Nat.le_refl _) _).setCell (Nat.le_refl _) _).setCell (Nat.le_refl _) _
  · go_enter Tryz.func98, Tryz.ntmps98
    go_wp2_with (first | (go_at_call 95; refine (num_any _ _).mono ?_; rintro e w' ⟨rfl, rfl⟩))
    refine bodyPost_ret (v := FixF.numV n 0) (by simp [results, Tryz.results98, go_sem, FixF.numV]) rfl ⟨rfl, ?_⟩
    exact (Below.refl _ _).alloc (Nat.le_refl _) _

set_option maxRecDepth 10000 in
set_option maxHeartbeats 800000 in
theorem plus_any (a b : Int) (w : World) :
    Calls Tryz.prog 82 #[.int .i64 a, .int .i64 b] w fun e w' => e = .returned (FixF.numV (plusR a b).1 (plusR a b).2) ∧ Below w.heap.size w w' := by
  by_cases hab : inM a = true ∧ inM b = true
  · have hR : Hid (plusR a b = outR (a + b)) := by show plusR a b = _; unfold plusR; rw [if_pos hab]
    obtain ⟨ha, hb⟩ := hab
    have hia := (inM_iff a).1 ha
    have hib := (inM_iff b).1 hb
    rw [hR.out]
    clear hR
    obtain ⟨r, hr⟩ : ∃ r, Hid (outR (a + b) = r) := ⟨_, rfl⟩
    rw [hr.out]
    go_enter Tryz.func82, Tryz.ntmps82
    go_wp2_with (first | (go_at_call 95; refine (num_any _ _).mono ?_; rintro e w' ⟨rfl, rfl⟩))
    refine (out_any _ _).mono ?_
    rintro e w1 ⟨rfl, hB⟩
    obtain ⟨hc0, hc1, hc2, hf⟩ := cells_out hB (by simp)
    have HB : Hid (Below w.heap.size w w1) := below_out hB (by simp)
    clear hB
    rw [hr.out]
    clear hr
    unfold FixF.numV
    go_wp2
    refine bodyPost_ret (v := FixF.numV r.1 r.2) (by simp [results, Tryz.results82, go_sem, FixF.numV, hc0, hc1, hc2]) rfl ⟨rfl, ?_⟩
    exact (((HB.out).setCell (Nat.le_refl _) _).setCell (Nat.le_refl _) _).setCell (Nat.le_refl _) _
  · have hR : Hid (plusR a b = (0, 1)) := by show plusR a b = _; unfold plusR; rw [if_neg hab]
    rw [hR.out]
    clear hR
    by_cases ha : inM a = true
    · have hb : inM b = false := by cases h : inM b with
        | false => rfl
        | true => exact absurd ⟨ha, h⟩ hab
      clear hab
      go_enter Tryz.func82, Tryz.ntmps82
      go_wp2_with (first | (go_at_call 95; refine (num_any _ _).mono ?_; rintro e w' ⟨rfl, rfl⟩))
      refine (ill_any _ _).mono ?_
      rintro e w1 ⟨rfl, hB⟩
      obtain ⟨hc0, hc1, hc2, hf⟩ := cells_out hB (by simp)
      have HB : Hid (Below w.heap.size w w1) := below_out hB (by simp)
      clear hB
      unfold FixF.numV
      go_wp2
      refine bodyPost_ret (v := FixF.numV 0 1) (by simp [results, Tryz.results82, go_sem, FixF.numV, hc0, hc1, hc2]) rfl ⟨rfl, ?_⟩
      exact (((HB.out).setCell (Nat.le_refl _) _).setCell (Nat.le_refl _) _).setCell (Nat.le_refl _) _
    · have ha2 : inM a = false := by simpa using ha
      clear hab ha
      go_enter Tryz.func82, Tryz.ntmps82
      go_wp2_with (first | (go_at_call 95; refine (num_any _ _).mono ?_; rintro e w' ⟨rfl, rfl⟩))
      refine (ill_any _ _).mono ?_
      rintro e w1 ⟨rfl, hB⟩
      obtain ⟨hc0, hc1, hc2, hf⟩ := cells_out hB (by simp)
      have HB : Hid (Below w.heap.size w w1) := below_out hB (by simp)
      clear hB
      unfold FixF.numV
      go_wp2
      refine bodyPost_ret (v := FixF.numV 0 1) (by simp [results, Tryz.results82, go_sem, FixF.numV, hc0, hc1, hc2]) rfl ⟨rfl, ?_⟩
      exact (((HB.out).setCell (Nat.le_refl _) _).setCell (Nat.le_refl _) _).setCell (Nat.le_refl _) _

set_option maxRecDepth 10000 in
set_option maxHeartbeats 800000 in
theorem minus_any (a b : Int) (w : World) :
    Calls Tryz.prog 83 #[.int .i64 a, .int .i64 b] w fun e w' => e = .returned (FixF.numV (minusR a b).1 (minusR a b).2) ∧ Below w.heap.size w w' := by
  by_cases hab : inM a = true ∧ inM b = true
  · have hR : Hid (minusR a b = outR (a - b)) := by show minusR a b = _; unfold minusR; rw [if_pos hab]
    obtain ⟨ha, hb⟩ := hab
    have hia := (inM_iff a).1 ha
    have hib := (inM_iff b).1 hb
    rw [hR.out]
    clear hR
    obtain ⟨r, hr⟩ : ∃ r, Hid (outR (a - b) = r) := ⟨_, rfl⟩
    rw [hr.out]
    go_enter Tryz.func83, Tryz.ntmps83
    go_wp2_with (first | (go_at_call 95; refine (num_any _ _).mono ?_; rintro e w' ⟨rfl, rfl⟩))
    refine (out_any _ _).mono ?_
    rintro e w1 ⟨rfl, hB⟩
    obtain ⟨hc0, hc1, hc2, hf⟩ := cells_out hB (by simp)
    have HB : Hid (Below w.heap.size w w1) := below_out hB (by simp)
    clear hB
    rw [hr.out]
    clear hr
    unfold FixF.numV
    go_wp2
    refine bodyPost_ret (v := FixF.numV r.1 r.2) (by simp [results, Tryz.results83, go_sem, FixF.numV, hc0, hc1, hc2]) rfl ⟨rfl, ?_⟩
    exact (((HB.out).setCell (Nat.le_refl _) _).setCell (Nat.le_refl _) _).setCell (Nat.le_refl _) _
  · have hR : Hid (minusR a b = (0, 1)) := by show minusR a b = _; unfold minusR; rw [if_neg hab]
    rw [hR.out]
    clear hR
    by_cases ha : inM a = true
    · have hb : inM b = false := by cases h : inM b with
        | false => rfl
        | true => exact absurd ⟨ha, h⟩ hab
      clear hab
      go_enter Tryz.func83, Tryz.ntmps83
      go_wp2_with (first | (go_at_call 95; refine (num_any _ _).mono ?_; rintro e w' ⟨rfl, rfl⟩))
      refine (ill_any _ _).mono ?_
      rintro e w1 ⟨rfl, hB⟩
      obtain ⟨hc0, hc1, hc2, hf⟩ := cells_out hB (by simp)
      have HB : Hid (Below w.heap.size w w1) := below_out hB (by simp)
      clear hB
      unfold FixF.numV
      go_wp2
      refine bodyPost_ret (v := FixF.numV 0 1) (by simp [results, Tryz.results83, go_sem, FixF.numV, hc0, hc1, hc2]) rfl ⟨rfl, ?_⟩
      exact (((HB.out).setCell (Nat.le_refl _) _).setCell (Nat.le_refl _) _).setCell (Nat.le_refl _) _
    · have ha2 : inM a = false := by simpa using ha
      clear hab ha
      go_enter Tryz.func83, Tryz.ntmps83
      go_wp2_with (first | (go_at_call 95; refine (num_any _ _).mono ?_; rintro e w' ⟨rfl, rfl⟩))
      refine (ill_any _ _).mono ?_
      rintro e w1 ⟨rfl, hB⟩
      obtain ⟨hc0, hc1, hc2, hf⟩ := cells_out hB (by simp)
      have HB : Hid (Below w.heap.size w w1) := below_out hB (by simp)
      clear hB
      unfold FixF.numV
      go_wp2
      refine bodyPost_ret (v := FixF.numV 0 1) (by simp [results, Tryz.results83, go_sem, FixF.numV, hc0, hc1, hc2]) rfl ⟨rfl, ?_⟩
      exact (((HB.out).setCell (Nat.le_refl _) _).setCell (Nat.le_refl _) _).setCell (Nat.le_refl _) _
end Go.Proofs.YtaofdckdmffaiaaGreatDoor.FixS
