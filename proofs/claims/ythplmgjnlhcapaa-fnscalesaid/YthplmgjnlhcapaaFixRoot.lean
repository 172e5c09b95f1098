/- What Root of the program and of the model reckon: the greatest number whose square is no more than the number. -/
import Derived.Test.YthplmgjnlhcapaaFixTop
namespace Go.Proofs.Ythplmgjnlhcapaa.FixR
open Go.RowKit
open FixS FixF FixH FixC FixT

/-- the greatest number up to k whose square is no more than n -/
def down (n : Nat) : Nat → Nat
  | 0 => 0
  | k + 1 => if (k + 1) * (k + 1) ≤ n then k + 1 else down n k
def rootN (n : Nat) : Nat := down n n
theorem down_le (n : Nat) : ∀ k, down n k * down n k ≤ n
  | 0 => Nat.zero_le _
  | k + 1 => by unfold down; split
                · assumption
                · exact down_le n k
theorem down_max (n : Nat) : ∀ k j, j ≤ k → j * j ≤ n → j ≤ down n k
  | 0, j, h, _ => by omega
  | k + 1, j, h, hj => by
    unfold down; split
    · exact h
    · rename_i hk
      have : j ≠ k + 1 := fun e => by subst e; exact hk hj
      exact down_max n k j (by omega) hj
theorem root_le (n : Nat) : rootN n * rootN n ≤ n := down_le n n
theorem root_lt (n : Nat) : n < (rootN n + 1) * (rootN n + 1) := by
  rcases Nat.lt_or_ge n ((rootN n + 1) * (rootN n + 1)) with h | h
  · exact h
  · have h1 : rootN n + 1 ≤ n := Nat.le_trans (Nat.le_mul_of_pos_right _ (by omega)) h
    have := down_max n n (rootN n + 1) h1 h
    unfold rootN at this h1 ⊢; omega
theorem sq_lt {a b : Nat} (h : a * a < b * b) : a < b := by
  rcases Nat.lt_or_ge a b with h1 | h1
  · exact h1
  · have := Nat.mul_le_mul h1 h1; omega
/-- it is the only one -/
theorem root_is (n r : Nat) (h1 : r * r ≤ n) (h2 : n < (r + 1) * (r + 1)) : r = rootN n := by
  have a := sq_lt (Nat.lt_of_le_of_lt h1 (root_lt n))
  have b := sq_lt (Nat.lt_of_le_of_lt (root_le n) h2)
  omega
theorem root_small (n : Nat) (h : n ≤ 1000000000000000) : rootN n ≤ 31622776 := by
  have : rootN n < 31622777 := sq_lt (Nat.lt_of_le_of_lt (root_le n) (by omega))
  omega
theorem sq_small {a n : Nat} (h : a * a ≤ n) (hn : n ≤ 1000000000000000) : a ≤ 31622776 := by
  have : a < 31622777 := sq_lt (by omega)
  omega

set_option maxRecDepth 10000 in
set_option maxHeartbeats 1600000 in
theorem root_any (n : Nat) (w : World) (hn : n ≤ 1000000000000000) :
    Calls Try.prog 68 #[.int .i64 n] w fun e w' => e = .returned (.int .i64 (rootN n : Int)) ∧ w' = w := by
  go_enter Try.func68, Try.ntmps68
  go_wp2
  go_loop [3, 4, 5] (fun f b _ => ∃ x y : Nat, f = .int .i64 x ∧ b = .int .i64 y ∧ x * x ≤ n ∧ ((y = 0 ∧ n < (x + 1) * (x + 1)) ∨ (∃ k, k ≤ 24 ∧ y = 2 ^ k ∧ n < (x + 2 * y) * (x + 2 * y)))) (fun _ b _ => (intOf b).toNat)
  case atStart => exact ⟨0, 16777216, rfl, rfl, Nat.zero_le _, Or.inr ⟨24, by omega, by decide, by omega⟩⟩
  case round =>
    obtain ⟨x, y, rfl, rfl, hx, hy⟩ := hrel
    have hx1 := sq_small hx hn
    rcases hy with ⟨rfl, hlt⟩ | ⟨k, hk, hy, hlt⟩
    · have hr : Hid (rootN n = x) := (root_is n x hx hlt).symm
      clear hlt
      go_wp2
      go_ret
      exact ⟨by rw [hr.out]; rfl, rfl⟩
    · have hy1 : 1 ≤ y := by rw [hy]; exact Nat.pos_of_neZero _
      have hy2 : y ≤ 16777216 := by rw [hy]; exact Nat.pow_le_pow_right (by omega) hk
      have hnext : Hid ((y / 2 = 0 ∧ y = 1) ∨ (∃ k, k ≤ 24 ∧ y / 2 = 2 ^ k ∧ 2 * (y / 2) = y)) := by
        show _ ∨ _
        cases k with
        | zero => left; omega
        | succ k => right; refine ⟨k, by omega, ?_, ?_⟩ <;> (rw [hy, Nat.pow_succ]; omega)
      have hsq : (x + y) * (x + y) ≤ 10000000000000000 := Nat.le_trans (Nat.mul_le_mul (show x + y ≤ 100000000 by omega) (show x + y ≤ 100000000 by omega)) (by omega)
      have hc : ((x : Int) + (y : Int)) * ((x : Int) + (y : Int)) = (((x + y) * (x + y) : Nat) : Int) := by simp
      have hwm : IntKind.i64.wrap (((x : Int) + (y : Int)) * ((x : Int) + (y : Int))) = (((x + y) * (x + y) : Nat) : Int) := by rw [hc, IntKind.wrap_i64]; omega
      clear hc
      have HL : Hid (n < (x + 2 * y) * (x + 2 * y)) := hlt
      have HX : Hid (x * x ≤ n) := hx
      obtain ⟨h, hh⟩ : ∃ h : Nat, Hid (y / 2 = h) := ⟨_, rfl⟩
      rw [hh.out] at hnext
      have hshift : ((y : Int) / 2) = (h : Int) := by have := hh.out; omega
      clear hlt hy hx
      obtain ⟨z, hz⟩ : ∃ z : Nat, Hid ((x + y) * (x + y) = z) := ⟨_, rfl⟩
      rw [hz.out] at hwm hsq
      have hhy : h < y := by have := hh.out; omega
      by_cases hle : z ≤ n
      · go_wp2
        refine ⟨⟨x + y, h, by simp, rfl, by rw [hz.out]; exact hle, ?_⟩, by simp [intOf]; omega⟩
        rcases hnext.out with ⟨h0, h1⟩ | ⟨j, hj, h0, h1⟩
        · left; refine ⟨h0, ?_⟩; have := HL.out; rw [h1] at this ⊢; exact this
        · right; refine ⟨j, hj, h0, ?_⟩; have := HL.out; rw [h1, Nat.add_assoc, show y + y = 2 * y by omega]; exact this
      · go_wp2
        refine ⟨⟨x, h, rfl, rfl, HX.out, ?_⟩, by simp [intOf]; omega⟩
        rcases hnext.out with ⟨h0, h1⟩ | ⟨j, hj, h0, h1⟩
        · left; refine ⟨h0, ?_⟩; have := hz.out; rw [h1] at this; rw [this]; omega
        · right; refine ⟨j, hj, h0, ?_⟩; rw [h1, hz.out]; omega

def rootR (n : Int) : Int × Int := if 0 ≤ n ∧ n ≤ 1000000000000000 then ((rootN n.toNat : Int), 0) else (0, 1)
theorem root_no (n : Int) (h : ¬ (0 ≤ n ∧ n ≤ 1000000000000000)) : rootR n = (0, 1) := by unfold rootR; rw [if_neg h]
theorem root_yes (n : Int) (h : 0 ≤ n ∧ n ≤ 1000000000000000) : rootR n = ((rootN n.toNat : Int), 0) := by unfold rootR; rw [if_pos h]
theorem root_zero (n : Int) : ¬ (rootR n).2 = 0 → (rootR n).1 = 0 := by
  unfold rootR; split
  · intro h; exact absurd rfl h
  · intro _; rfl

set_option maxRecDepth 10000 in
set_option maxHeartbeats 1600000 in
theorem root_call (n : Int) (p0 : Addr) (w : World) (hp0 : w.cell? p0 = some (.int .i64 n)) (_hb0 : p0.block < w.heap.size) :
    Calls Try.prog 67 #[.pointer (some p0)] w fun e w' => e = endE (rootR n) ∧ Below w.heap.size w w' := by
  by_cases h : 0 ≤ n ∧ n ≤ 1000000000000000
  · rw [root_yes n h, endE_ok rfl]
    obtain ⟨k, rfl⟩ : ∃ k : Nat, n = (k : Int) := ⟨n.toNat, by omega⟩
    rw [Int.toNat_natCast]
    have hk : k ≤ 1000000000000000 := by omega
    go_enter Try.func67, Try.ntmps67
    go_wp2_with (first
      | (go_at_call 66; refine (amount_in _ _ h).mono ?_; rintro e w' ⟨rfl, rfl⟩)
      | (go_at_call 68; refine (root_any _ _ hk).mono ?_; rintro e w' ⟨rfl, rfl⟩))
    go_ret
    exact ⟨rfl, Below.refl _ _⟩
  · rw [root_no n h, endE_no (by decide)]
    go_enter Try.func67, Try.ntmps67
    go_wp2_with (first
      | (go_at_call 66; refine (amount_out _ _ h).mono ?_; rintro e w' ⟨rfl, rfl⟩))
    exact ⟨rfl, rfl, Below.refl _ _⟩

set_option maxRecDepth 10000 in
set_option maxHeartbeats 1600000 in
theorem root_face (n : Int) (w : World) :
    Calls Try.prog 28 #[.int .i64 n] w fun e w' => e = .returned (numV (rootR n).1 (rootR n).2) ∧ Below w.heap.size w w' := by
  have hmf : ∀ (fn : Fn) (first cap : Array Value) (w : World), (Instr.makeFunc fn first cap).run Try.prog w = .ok (.func fn first cap) w := fun _ _ _ _ => rfl
  obtain ⟨r, hr⟩ : ∃ r, Hid (rootR n = r) := ⟨_, rfl⟩
  rw [hr.out]
  go_enter Try.func28, Try.ntmps28
  go_wp2_with fail
  refine (faced_any 67 _ r _ ?_ ?_ ?_).mono ?_
  · rw [← hr.out]; exact root_zero n
  · intro W; rfl
  · rw [← hr.out]
    refine root_call n _ _ ?_ ?_
    all_goals first | (simp; done) | (go_simp; done) | (simp; omega)
  rintro e w1 ⟨rfl, hB⟩
  obtain ⟨hc0, hc1, hc2, hf⟩ := cells_out' hB (b := w.heap.size + 1) (by simp) (by first | (go_simp; done) | simp) (by first | (go_simp; done) | simp) (by first | (go_simp; done) | simp) (by intro o; first | (go_simp; done) | simp)
  have HB : Hid (Below w.heap.size w w1) := (((Below.refl _ _).alloc (Nat.le_refl _) _).alloc (by simp; try omega) _).trans (hB.mono (by simp; try omega))
  clear hB hr
  unfold numV
  go_wp2
  refine bodyPost_ret (v := numV r.1 r.2) (by simp [results, Try.results28, go_sem, numV, hc0, hc1, hc2]) rfl ⟨rfl, ?_⟩
  exact (((HB.out).setCell (by simp; try omega) _).setCell (by simp; try omega) _).setCell (by simp; try omega) _

set_option maxRecDepth 10000 in
set_option maxHeartbeats 1600000 in
theorem root_spec (n : Int) (w : World) :
    Calls Try.prog 31 #[.int .i64 n] w fun e w' => e = .returned (FixF.numV (rootR n).1 (rootR n).2) ∧ Below w.heap.size w w' := by
  by_cases h : 0 ≤ n ∧ n ≤ 1000000000000000
  · rw [root_yes n h]
    have hi : inB n 0 1000000000000000 = true := inB_t h
    obtain ⟨k, rfl⟩ : ∃ k : Nat, n = (k : Int) := ⟨n.toNat, by omega⟩
    rw [Int.toNat_natCast]
    have hk : k ≤ 1000000000000000 := by omega
    clear h
    go_enter Try.func31, Try.ntmps31
    go_wp2_with (first | (go_at_call 69; refine (is_any _ _ _ _).mono ?_; rintro e w' ⟨rfl, rfl⟩; rw [hi]))
    clear hi
    go_loop [3, 4, 5] (fun l h _ => ∃ x y : Nat, l = .int .i64 x ∧ h = .int .i64 y ∧ x ≤ y ∧ y ≤ 40000000 ∧ Hid (x * x ≤ k) ∧ Hid (k < (y + 1) * (y + 1))) (fun l h _ => (intOf h).toNat - (intOf l).toNat)
    case atStart => exact ⟨0, 40000000, rfl, rfl, by omega, by omega, Nat.zero_le _, by show k < _; omega⟩
    case round =>
      obtain ⟨x, y, rfl, rfl, hxy, hy, HX, HY⟩ := hrel
      by_cases hlt : x < y
      · obtain ⟨m, hm⟩ : ∃ m : Nat, Hid ((x + y + 1) / 2 = m) := ⟨_, rfl⟩
        have hmb : x < m ∧ m ≤ y := by have := hm.out; omega
        have hdiv : ((x : Int) + (y : Int) + 1).tdiv 2 = (m : Int) := by
          rw [Int.tdiv_eq_ediv_of_nonneg (by omega)]; have := hm.out; omega
        obtain ⟨z, hz⟩ : ∃ z : Nat, Hid (m * m = z) := ⟨_, rfl⟩
        have hzb : z ≤ 1600000000000000 := by rw [← hz.out]; exact Nat.le_trans (Nat.mul_le_mul (show m ≤ 40000000 by omega) (show m ≤ 40000000 by omega)) (by omega)
        have hwm : IntKind.i64.wrap ((m : Int) * (m : Int)) = (z : Int) := by
          have e1 : (m : Int) * (m : Int) = (z : Int) := by rw [← hz.out]; simp
          rw [e1, IntKind.wrap_i64]; omega
        by_cases hle : z ≤ k
        · go_wp2
          refine ⟨⟨m, y, by first | rfl | go_num, rfl, by omega, hy, by show m * m ≤ k; rw [hz.out]; exact hle, HY⟩, by simp [intOf]; omega⟩
        · go_wp2
          refine ⟨⟨x, m - 1, rfl, by first | rfl | go_num, by omega, by omega, HX, by show k < _; rw [show m - 1 + 1 = m by omega, hz.out]; omega⟩, by simp [intOf]; omega⟩
      · have hxe : x = y := by omega
        subst hxe
        have hr : Hid (rootN k = x) := (root_is k x HX.out HY.out).symm
        go_wp2
        refine bodyPost_ret (v := FixF.numV x 0) (by simp [results, Try.results31, go_sem, FixF.numV]) rfl ⟨by rw [hr.out], ?_⟩
        exact (Below.refl _ _).alloc (Nat.le_refl _) _
  · have hi : inB n 0 1000000000000000 = false := inB_f h
    rw [root_no _ h]
    clear h
    go_enter Try.func31, Try.ntmps31
    go_wp2_with (first | (go_at_call 69; refine (is_any _ _ _ _).mono ?_; rintro e w' ⟨rfl, rfl⟩; rw [hi]))
    refine (ill_any _ _).mono ?_
    rintro e w1 ⟨rfl, hB⟩
    obtain ⟨hc0, hc1, hc2, hf⟩ := cells_out hB (by simp)
    have HB : Hid (Below w.heap.size w w1) := below_out hB (by simp)
    clear hB
    unfold FixF.numV
    go_wp2
    refine bodyPost_ret (v := FixF.numV 0 1) (by simp [results, Try.results31, go_sem, FixF.numV, hc0, hc1, hc2]) rfl ⟨rfl, ?_⟩
    exact (((HB.out).setCell (Nat.le_refl _) _).setCell (Nat.le_refl _) _).setCell (Nat.le_refl _) _
end Go.Proofs.Ythplmgjnlhcapaa.FixR
