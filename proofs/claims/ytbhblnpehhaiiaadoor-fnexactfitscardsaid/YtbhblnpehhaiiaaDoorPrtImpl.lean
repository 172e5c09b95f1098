/- The program's table of ops, what it asks of a part, and where an expression ends. -/
import Derived.Test.YtbhblnpehhaiiaaDoorPrtRight
import Derived.Test.YtbhblnpehhaiiaaDoorBytesMath
namespace Go.Proofs.YtbhblnpehhaiiaaDoor.PrtI
open Go.RowKit
open PrtW PrtM NameW PrtS

def truthF (k : Nat) : Bool := [false, false, false, false, false, false, true, true, true, true, true, true, true, true].getD k false
def innerF (k : Nat) : Nat := [0, 0, 0, 2, 2, 2, 2, 2, 2, 2, 2, 1, 0, 0].getD k 0
def truthsF (k : Nat) : Bool := [false, false, false, false, false, false, false, false, false, true, true, true, false, false].getD k false
def namedF (k : Nat) : Bool := [false, false, true, false, false, false, false, false, false, false, false, false, true, true].getD k false
def lowF (k : Nat) : Int := [0, -1000000, 0, 0, 0, 0, 0, 0, 0, 0, 0, 0, 1, 0].getD k 0
def highF (k : Nat) : Int := [0, 1000000, 0, 0, 0, 0, 0, 0, 0, 0, 0, 0, 20, 0].getD k 0
def signL (k : Nat) : List UInt8 := [[], [], [], [43], [45], [42], [61], [60], [60, 61], [38], [124], [33], [], []].getD k []
def signF (k : Nat) : ByteArray := ⟨(signL k).toArray⟩
/-- the table of ops, as the program's text lays it -/
def EnvS (w : World) : Prop := 4 < w.heap.size ∧ ∀ k, k < 14 →
  w.cell? ⟨4, k * 7, none⟩ = some (.bool (truthF k)) ∧ w.cell? ⟨4, k * 7 + 1, none⟩ = some (.int .i64 (innerF k)) ∧ w.cell? ⟨4, k * 7 + 2, none⟩ = some (.bool (truthsF k)) ∧
  w.cell? ⟨4, k * 7 + 3, none⟩ = some (.bool (namedF k)) ∧ w.cell? ⟨4, k * 7 + 4, none⟩ = some (.int .i64 (lowF k)) ∧ w.cell? ⟨4, k * 7 + 5, none⟩ = some (.int .i64 (highF k)) ∧ w.cell? ⟨4, k * 7 + 6, none⟩ = some (.string (signF k))
theorem EnvS.on {w w' : World} (h : EnvS w) (hB : Below w.heap.size w w') : EnvS w' := by
  refine ⟨Nat.lt_of_lt_of_le h.1 hB.size, fun k hk => ?_⟩
  have hc := (bcell hB).1
  simp only [hc _ _ h.1]
  exact h.2 k hk

set_option maxHeartbeats 400000 in
theorem between_any (n lo hi : Int) (w : World) :
    Calls Tryd.prog 68 #[.int .i64 n, .int .i64 lo, .int .i64 hi] w fun e w' => e = .returned (.bool (inB n lo hi)) ∧ w' = w := by
  by_cases h : lo ≤ n
  · by_cases h2 : n ≤ hi
    · rw [inB_t ⟨h, h2⟩]
      go_enter Tryd.func68, Tryd.ntmps68
      go_wp2
      go_ret
      exact ⟨rfl, rfl⟩
    · rw [inB_f (by omega)]
      go_enter Tryd.func68, Tryd.ntmps68
      go_wp2
      go_ret
      exact ⟨rfl, rfl⟩
  · rw [inB_f (by omega)]
    go_enter Tryd.func68, Tryd.ntmps68
    go_wp2
    go_ret
    exact ⟨rfl, rfl⟩

/-- what the table asks of a part is what its op asks -/
def tabB (k : Nat) (n : Int) (t : ByteArray) : Bool := (if namedF k = true then nameB t else emptyB t) && inB n (lowF k) (highF k)
theorem inB_0 (n : Int) : inB n 0 0 = inB n 0 0 := rfl
theorem tab_part (k : Nat) (n : Int) (t : ByteArray) (h1 : 1 ≤ k) (h2 : k ≤ 13) : partB ((k : Int), n, t) = tabB k n t := by
  rcases (by omega : k = 1 ∨ k = 2 ∨ k = 3 ∨ k = 4 ∨ k = 5 ∨ k = 6 ∨ k = 7 ∨ k = 8 ∨ k = 9 ∨ k = 10 ∨ k = 11 ∨ k = 12 ∨ k = 13) with rfl | rfl | rfl | rfl | rfl | rfl | rfl | rfl | rfl | rfl | rfl | rfl | rfl <;>
    simp [partB, tabB, namedF, lowF, highF, inB, Bool.and_comm]
theorem part_out {x : Int} {n : Int} {t : ByteArray} (h : ¬ (1 ≤ x ∧ x ≤ 13)) : partB (x, n, t) = false := by
  unfold partB
  simp only
  rw [if_neg (by omega), if_neg (by omega), if_neg (by omega), inB_f (by omega)]
  rfl
theorem part_in {x : Int} {n : Int} {t : ByteArray} (h : partB (x, n, t) = true) : 1 ≤ x ∧ x ≤ 13 := by
  by_cases hx : 1 ≤ x ∧ x ≤ 13
  · exact hx
  · rw [part_out hx] at h; cases h

set_option maxRecDepth 10000 in
set_option maxHeartbeats 1600000 in
theorem impl_part (x n : Int) (t : ByteArray) (ht : t.size ≤ maxLen) (w : World) (hE : EnvS w) :
    Calls Tryd.prog 100 #[.agg #[.int .i64 x, .int .i64 n, .string t]] w fun e w' => e = .returned (.bool (partB (x, n, t))) ∧ Below w.heap.size w w' := by
  have HT : Hid (t.size ≤ maxLen) := ht
  have HE := hid hE
  clear ht hE
  by_cases hx : 1 ≤ x ∧ x ≤ 13
  · obtain ⟨k, rfl⟩ : ∃ k : Nat, x = k := ⟨x.toNat, by omega⟩
    rw [tab_part k n t (by omega) (by omega)]
    have hin : Hid (inB (k : Int) 1 13 = true) := inB_t hx
    have hg := HE.out.1
    obtain ⟨e0, e1, e2, e3, e4, e5, e6⟩ := HE.out.2 k (by omega)
    unfold tabB
    generalize truthF k = s0 at *
    generalize innerF k = s1 at *
    generalize truthsF k = s2 at *
    generalize namedF k = s3 at *
    generalize lowF k = s4 at *
    generalize highF k = s5 at *
    generalize signF k = s6 at *
    have hk13 : k < 14 := by omega
    cases s3
    · rw [if_neg (by decide)]
      unfold emptyB
      obtain ⟨r, hr⟩ : ∃ r, t.toList.isEmpty = r := ⟨_, rfl⟩
      rw [hr]
      cases r
      · go_enter Tryd.func100, Tryd.ntmps100
        go_wp2_with fail
        refine (between_any _ _ _ _).mono ?_
        rintro e w1 ⟨rfl, rfl⟩
        rw [hin.out]
        go_wp2_with fail
        go_ret
        exact ⟨rfl, by go_grown⟩
      · rw [Bool.true_and]
        go_enter Tryd.func100, Tryd.ntmps100
        go_wp2_with fail
        refine (between_any _ _ _ _).mono ?_
        rintro e w1 ⟨rfl, rfl⟩
        rw [hin.out]
        go_wp2_with fail
        refine (between_any _ _ _ _).mono ?_
        rintro e w1 ⟨rfl, rfl⟩
        go_wp2_with fail
        go_ret
        exact ⟨rfl, by go_grown⟩
    · rw [if_pos rfl]
      obtain ⟨r, hr⟩ : ∃ r, Hid (nameB t = r) := ⟨_, rfl⟩
      rw [hr.out]
      cases r
      · go_enter Tryd.func100, Tryd.ntmps100
        go_wp2_with fail
        refine (between_any _ _ _ _).mono ?_
        rintro e w1 ⟨rfl, rfl⟩
        rw [hin.out]
        go_wp2_with fail
        refine (impl_name t _ HT.out).mono ?_
        rintro e w1 ⟨rfl, rfl⟩
        rw [hr.out]
        go_wp2_with fail
        go_ret
        exact ⟨rfl, by go_grown⟩
      · rw [Bool.true_and]
        go_enter Tryd.func100, Tryd.ntmps100
        go_wp2_with fail
        refine (between_any _ _ _ _).mono ?_
        rintro e w1 ⟨rfl, rfl⟩
        rw [hin.out]
        go_wp2_with fail
        refine (impl_name t _ HT.out).mono ?_
        rintro e w1 ⟨rfl, rfl⟩
        rw [hr.out]
        go_wp2_with fail
        refine (between_any _ _ _ _).mono ?_
        rintro e w1 ⟨rfl, rfl⟩
        go_wp2_with fail
        go_ret
        exact ⟨rfl, by go_grown⟩
  · rw [part_out hx]
    have hin : Hid (inB x 1 13 = false) := inB_f hx
    go_enter Tryd.func100, Tryd.ntmps100
    go_wp2_with (go_at_call 68; refine (between_any _ _ _ _).mono ?_; rintro e w' ⟨rfl, rfl⟩; rw [hin.out])
    go_ret
    exact ⟨rfl, by go_grown⟩
end Go.Proofs.YtbhblnpehhaiiaaDoor.PrtI
