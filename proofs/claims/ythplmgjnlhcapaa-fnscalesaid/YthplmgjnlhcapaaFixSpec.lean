/- What the model's small functions of chapter 3 answer, and Plus and Minus of the model, as plain functions of the numbers; new memory alone is written. -/
import Derived.Test.YthplmgjnlhcapaaFixFace
namespace Go.Proofs.Ythplmgjnlhcapaa.FixS
open Go.RowKit

def inB (n lo hi : Int) : Bool := decide (lo ≤ n ∧ n ≤ hi)
def inM (n : Int) : Bool := inB n (-1000000000000000) 1000000000000000
theorem inB_t {n lo hi : Int} (h : lo ≤ n ∧ n ≤ hi) : inB n lo hi = true := by unfold inB; rw [decide_eq_true_iff]; exact h
theorem inB_f {n lo hi : Int} (h : ¬ (lo ≤ n ∧ n ≤ hi)) : inB n lo hi = false := by unfold inB; rw [decide_eq_false_iff_not]; exact h
theorem inM_iff (n : Int) : inM n = true ↔ (-1000000000000000 ≤ n ∧ n ≤ 1000000000000000) := by unfold inM inB; rw [decide_eq_true_iff]
/-- what is told of a number that is reckoned -/
def outR (n : Int) : Int × Int := if inM n = true then (n, 0) else (0, 12)
def plusR (a b : Int) : Int × Int := if inM a = true ∧ inM b = true then outR (a + b) else (0, 1)
def minusR (a b : Int) : Int × Int := if inM a = true ∧ inM b = true then outR (a - b) else (0, 1)

set_option maxHeartbeats 400000 in
theorem is_any (n lo hi : Int) (w : World) :
    Calls Try.prog 69 #[.int .i64 n, .int .i64 lo, .int .i64 hi] w fun e w' => e = .returned (.bool (inB n lo hi)) ∧ w' = w := by
  by_cases h : lo ≤ n
  · by_cases h2 : n ≤ hi
    · rw [inB_t ⟨h, h2⟩]
      go_enter Try.func69, Try.ntmps69
      go_wp2
      go_ret
      exact ⟨rfl, rfl⟩
    · rw [inB_f (by omega)]
      go_enter Try.func69, Try.ntmps69
      go_wp2
      go_ret
      exact ⟨rfl, rfl⟩
  · rw [inB_f (by omega)]
    go_enter Try.func69, Try.ntmps69
    go_wp2
    go_ret
    exact ⟨rfl, rfl⟩

theorem num_any (n : Int) (w : World) :
    Calls Try.prog 58 #[.int .i64 n] w fun e w' => e = .returned (.bool (inM n)) ∧ w' = w := by
  go_enter Try.func58, Try.ntmps58
  go_wp2_with (first | (go_at_call 69; refine (is_any _ _ _ _).mono ?_; rintro e w' ⟨rfl, rfl⟩))
  go_ret
  exact ⟨rfl, rfl⟩

theorem ill_any (c : Int) (w : World) :
    Calls Try.prog 59 #[.int .i64 c] w fun e w' => e = .returned (FixF.numV 0 c) ∧ Below w.heap.size w w' := by
  go_enter Try.func59, Try.ntmps59
  go_wp2
  refine bodyPost_ret (v := FixF.numV 0 c) (by simp [results, Try.results59, go_sem, FixF.numV]) rfl ⟨rfl, ?_⟩
  exact (Below.refl _ _).alloc (Nat.le_refl _) _

/-- a NumOut of the callee, stored into the result's cells -/
theorem below_out {w w1 : World} {t : TypeId} {x y z : Value} {B : Nat} (hB : Below B (w.alloc (.cells #[x, y, z] t)) w1) (hb : w.heap.size < B) : Below w.heap.size w w1 :=
  ((Below.refl _ _).alloc (Nat.le_refl _) _).trans (hB.mono (Nat.le_of_lt hb))
theorem cells_out {w w1 : World} {t : TypeId} {B : Nat} (hB : Below B (w.alloc (.cells #[.int .i64 0, .int .i64 0, .int .i64 0] t)) w1) (hb : w.heap.size < B) :
    w1.cell? ⟨w.heap.size, 0, none⟩ = some (.int .i64 0) ∧ w1.cell? ⟨w.heap.size, 1, none⟩ = some (.int .i64 0) ∧ w1.cell? ⟨w.heap.size, 2, none⟩ = some (.int .i64 0) ∧
      (∀ o, w1.frozen? ⟨w.heap.size, o, none⟩ = false) := by
  refine ⟨?_, ?_, ?_, fun o => ?_⟩
  · rw [hB.cell (p := ⟨w.heap.size, 0, none⟩) hb]; simp
  · rw [hB.cell (p := ⟨w.heap.size, 1, none⟩) hb]; simp
  · rw [hB.cell (p := ⟨w.heap.size, 2, none⟩) hb]; simp
  · rw [hB.frozen (p := ⟨w.heap.size, o, none⟩) hb]; simp

set_option maxHeartbeats 400000 in
theorem out_any (n : Int) (w : World) :
    Calls Try.prog 60 #[.int .i64 n] w fun e w' => e = .returned (FixF.numV (outR n).1 (outR n).2) ∧ Below w.heap.size w w' := by
  unfold outR
  cases h : inM n
  · go_enter Try.func60, Try.ntmps60
    go_wp2_with (first | (go_at_call 58; refine (num_any _ _).mono ?_; rintro e w' ⟨rfl, rfl⟩))
    refine (ill_any 12 _).mono ?_
    rintro e w1 ⟨rfl, hB⟩
    obtain ⟨hc0, hc1, hc2, hf⟩ := cells_out hB (by simp)
    have HB : Hid (Below w.heap.size w w1) := below_out hB (by simp)
    clear hB
    unfold FixF.numV
    go_wp2
    refine bodyPost_ret (v := FixF.numV 0 12) (by simp [results, Try.results60, go_sem, FixF.numV, hc0, hc1, hc2]) rfl ⟨rfl, ?_⟩
    exact (((HB.out).setCell (Nat.le_refl _) _).setCell (Nat.le_refl _) _).setCell (Nat.le_refl _) _
  · go_enter Try.func60, Try.ntmps60
    go_wp2_with (first | (go_at_call 58; refine (num_any _ _).mono ?_; rintro e w' ⟨rfl, rfl⟩))
    refine bodyPost_ret (v := FixF.numV n 0) (by simp [results, Try.results60, go_sem, FixF.numV]) rfl ⟨rfl, ?_⟩
    exact (Below.refl _ _).alloc (Nat.le_refl _) _

set_option maxHeartbeats 400000 in
theorem eq_same (n c : Int) (w : World) :
    Calls Try.prog 42 #[FixF.numV n c, FixF.numV n c] w fun e w' => e = .returned (.bool true) ∧ Below w.heap.size w w' := by
  unfold FixF.numV
  go_enter Try.func42, Try.ntmps42
  go_wp2
  go_ret
  exact ⟨rfl, ((Below.refl _ _).alloc (Nat.le_refl _) _).alloc (by simp) _⟩

set_option maxRecDepth 10000 in
set_option maxHeartbeats 800000 in
theorem plus_any (a b : Int) (w : World) :
    Calls Try.prog 21 #[.int .i64 a, .int .i64 b] w fun e w' => e = .returned (FixF.numV (plusR a b).1 (plusR a b).2) ∧ Below w.heap.size w w' := by
  by_cases hab : inM a = true ∧ inM b = true
  · have hR : Hid (plusR a b = outR (a + b)) := by show plusR a b = _; unfold plusR; rw [if_pos hab]
    obtain ⟨ha, hb⟩ := hab
    have hia := (inM_iff a).1 ha
    have hib := (inM_iff b).1 hb
    rw [hR.out]
    clear hR
    obtain ⟨r, hr⟩ : ∃ r, Hid (outR (a + b) = r) := ⟨_, rfl⟩
    rw [hr.out]
    go_enter Try.func21, Try.ntmps21
    go_wp2_with (first | (go_at_call 58; refine (num_any _ _).mono ?_; rintro e w' ⟨rfl, rfl⟩))
    refine (out_any _ _).mono ?_
    rintro e w1 ⟨rfl, hB⟩
    obtain ⟨hc0, hc1, hc2, hf⟩ := cells_out hB (by simp)
    have HB : Hid (Below w.heap.size w w1) := below_out hB (by simp)
    clear hB
    rw [hr.out]
    clear hr
    unfold FixF.numV
    go_wp2
    refine bodyPost_ret (v := FixF.numV r.1 r.2) (by simp [results, Try.results21, go_sem, FixF.numV, hc0, hc1, hc2]) rfl ⟨rfl, ?_⟩
    exact (((HB.out).setCell (Nat.le_refl _) _).setCell (Nat.le_refl _) _).setCell (Nat.le_refl _) _
  · have hR : Hid (plusR a b = (0, 1)) := by show plusR a b = _; unfold plusR; rw [if_neg hab]
    rw [hR.out]
    clear hR
    by_cases ha : inM a = true
    · have hb : inM b = false := by cases h : inM b with
        | false => rfl
        | true => exact absurd ⟨ha, h⟩ hab
      clear hab
      go_enter Try.func21, Try.ntmps21
      go_wp2_with (first | (go_at_call 58; refine (num_any _ _).mono ?_; rintro e w' ⟨rfl, rfl⟩))
      refine (ill_any _ _).mono ?_
      rintro e w1 ⟨rfl, hB⟩
      obtain ⟨hc0, hc1, hc2, hf⟩ := cells_out hB (by simp)
      have HB : Hid (Below w.heap.size w w1) := below_out hB (by simp)
      clear hB
      unfold FixF.numV
      go_wp2
      refine bodyPost_ret (v := FixF.numV 0 1) (by simp [results, Try.results21, go_sem, FixF.numV, hc0, hc1, hc2]) rfl ⟨rfl, ?_⟩
      exact (((HB.out).setCell (Nat.le_refl _) _).setCell (Nat.le_refl _) _).setCell (Nat.le_refl _) _
    · have ha2 : inM a = false := by simpa using ha
      clear hab ha
      go_enter Try.func21, Try.ntmps21
      go_wp2_with (first | (go_at_call 58; refine (num_any _ _).mono ?_; rintro e w' ⟨rfl, rfl⟩))
      refine (ill_any _ _).mono ?_
      rintro e w1 ⟨rfl, hB⟩
      obtain ⟨hc0, hc1, hc2, hf⟩ := cells_out hB (by simp)
      have HB : Hid (Below w.heap.size w w1) := below_out hB (by simp)
      clear hB
      unfold FixF.numV
      go_wp2
      refine bodyPost_ret (v := FixF.numV 0 1) (by simp [results, Try.results21, go_sem, FixF.numV, hc0, hc1, hc2]) rfl ⟨rfl, ?_⟩
      exact (((HB.out).setCell (Nat.le_refl _) _).setCell (Nat.le_refl _) _).setCell (Nat.le_refl _) _

set_option maxRecDepth 10000 in
set_option maxHeartbeats 800000 in
theorem minus_any (a b : Int) (w : World) :
    Calls Try.prog 22 #[.int .i64 a, .int .i64 b] w fun e w' => e = .returned (FixF.numV (minusR a b).1 (minusR a b).2) ∧ Below w.heap.size w w' := by
  by_cases hab : inM a = true ∧ inM b = true
  · have hR : Hid (minusR a b = outR (a - b)) := by show minusR a b = _; unfold minusR; rw [if_pos hab]
    obtain ⟨ha, hb⟩ := hab
    have hia := (inM_iff a).1 ha
    have hib := (inM_iff b).1 hb
    rw [hR.out]
    clear hR
    obtain ⟨r, hr⟩ : ∃ r, Hid (outR (a - b) = r) := ⟨_, rfl⟩
    rw [hr.out]
    go_enter Try.func22, Try.ntmps22
    go_wp2_with (first | (go_at_call 58; refine (num_any _ _).mono ?_; rintro e w' ⟨rfl, rfl⟩))
    refine (out_any _ _).mono ?_
    rintro e w1 ⟨rfl, hB⟩
    obtain ⟨hc0, hc1, hc2, hf⟩ := cells_out hB (by simp)
    have HB : Hid (Below w.heap.size w w1) := below_out hB (by simp)
    clear hB
    rw [hr.out]
    clear hr
    unfold FixF.numV
    go_wp2
    refine bodyPost_ret (v := FixF.numV r.1 r.2) (by simp [results, Try.results22, go_sem, FixF.numV, hc0, hc1, hc2]) rfl ⟨rfl, ?_⟩
    exact (((HB.out).setCell (Nat.le_refl _) _).setCell (Nat.le_refl _) _).setCell (Nat.le_refl _) _
  · have hR : Hid (minusR a b = (0, 1)) := by show minusR a b = _; unfold minusR; rw [if_neg hab]
    rw [hR.out]
    clear hR
    by_cases ha : inM a = true
    · have hb : inM b = false := by cases h : inM b with
        | false => rfl
        | true => exact absurd ⟨ha, h⟩ hab
      clear hab
      go_enter Try.func22, Try.ntmps22
      go_wp2_with (first | (go_at_call 58; refine (num_any _ _).mono ?_; rintro e w' ⟨rfl, rfl⟩))
      refine (ill_any _ _).mono ?_
      rintro e w1 ⟨rfl, hB⟩
      obtain ⟨hc0, hc1, hc2, hf⟩ := cells_out hB (by simp)
      have HB : Hid (Below w.heap.size w w1) := below_out hB (by simp)
      clear hB
      unfold FixF.numV
      go_wp2
      refine bodyPost_ret (v := FixF.numV 0 1) (by simp [results, Try.results22, go_sem, FixF.numV, hc0, hc1, hc2]) rfl ⟨rfl, ?_⟩
      exact (((HB.out).setCell (Nat.le_refl _) _).setCell (Nat.le_refl _) _).setCell (Nat.le_refl _) _
    · have ha2 : inM a = false := by simpa using ha
      clear hab ha
      go_enter Try.func22, Try.ntmps22
      go_wp2_with (first | (go_at_call 58; refine (num_any _ _).mono ?_; rintro e w' ⟨rfl, rfl⟩))
      refine (ill_any _ _).mono ?_
      rintro e w1 ⟨rfl, hB⟩
      obtain ⟨hc0, hc1, hc2, hf⟩ := cells_out hB (by simp)
      have HB : Hid (Below w.heap.size w w1) := below_out hB (by simp)
      clear hB
      unfold FixF.numV
      go_wp2
      refine bodyPost_ret (v := FixF.numV 0 1) (by simp [results, Try.results22, go_sem, FixF.numV, hc0, hc1, hc2]) rfl ⟨rfl, ?_⟩
      exact (((HB.out).setCell (Nat.le_refl _) _).setCell (Nat.le_refl _) _).setCell (Nat.le_refl _) _
end Go.Proofs.Ythplmgjnlhcapaa.FixS
