/- Texts of ours, laid together. -/
import Derived.Deep.RegionHeld
import Derived.WalkKit
namespace Go.Proofs.YtmbhmknfipdadaaGreatDoor
open Go
theorem pA {α : Type _} (l : List α) (i : Nat) (a : α) : l.toArray.setIfInBounds i a = (l.set i a).toArray := List.setIfInBounds_toArray ..
theorem pB {α : Type _} (a b : α) (l : List α) : (a :: l).set 0 b = b :: l := rfl
theorem pC {α : Type _} (a b : α) (l : List α) (n : Nat) : (a :: l).set (n + 1) b = a :: l.set n b := rfl
variable {P : Program} {ops : Array Oper} {Q : Exit → Act → World → Prop} {md : Region.Mode} {S : World → Prop}
theorem tk (i : Nat) (d : Option Tmp) {oi : Oper} {v : Value} {fuel : Nat} {listed : Array Bool} {a : Act} {w : World} (hi : ops[i]? = some oi) (hS : S w)
  (h : wpAnyH P md ops Q S fuel (listed.setIfInBounds i true) (a.put d v) w)
  (hv : ∀ w, S w → (execOp a.eval oi).run P w = .ok (.value v) w := by ((intro w hSw; (try dsimp only at hSw); go_simp) <;> with_reducible rfl))
  (hd : oi.dst = d := by rfl)
  (hw : Region.wanted oi (yielded ops a.tmps) = true := by rfl)
  (hs : Region.noSelect ops = true := by kernel_rfl) (hf : Region.free md ops listed i = true := by kernel_rfl) (hr : (Region.ready md ops listed).contains i = true := by kernel_rfl)
  (hQ : ∀ c a w, Q (.panic c) (a.put oi.dst v) w → Q (.panic c) a w := by exact fun _ _ _ h => h) : wpAnyH P md ops Q S (fuel + 1) listed a w :=
 wpAnyH_take hi hs hf hr hQ (.inl ⟨hw, hv⟩) hS (by rw [hd]; exact h)
theorem tp (i : Nat) (d : Option Tmp) {oi : Oper} {fuel : Nat} {listed : Array Bool} {a : Act} {w : World} (hi : ops[i]? = some oi) (hS : S w)
  (h : wpAnyH P md ops Q S fuel (listed.setIfInBounds i true) (a.put d undef) w)
  (hd : oi.dst = d := by rfl)
  (hw : Region.wanted oi (yielded ops a.tmps) = false := by rfl)
  (hs : Region.noSelect ops = true := by kernel_rfl) (hf : Region.free md ops listed i = true := by kernel_rfl) (hr : (Region.ready md ops listed).contains i = true := by kernel_rfl)
  (hQ : ∀ c a w, Q (.panic c) (a.put oi.dst undef) w → Q (.panic c) a w := by exact fun _ _ _ h => h) : wpAnyH P md ops Q S (fuel + 1) listed a w :=
 wpAnyH_take hi hs hf hr hQ (.inr ⟨hw, rfl⟩) hS (by rw [hd]; exact h)
end Go.Proofs.YtmbhmknfipdadaaGreatDoor
namespace Go.Proofs.YtmbhmknfipdadaaGreatDoor.ValM
set_option linter.unusedSimpArgs false
abbrev okAt (cs : List Int) (i : Nat) : Prop := 1 ≤ cs.getD i 0 ∧ cs.getD i 0 ≤ 20 ∧ (0 < i → cs.getD (i - 1) 0 < cs.getD i 0)
def okB (cs : List Int) (i : Nat) : Bool := decide (okAt cs i)
def chr (t : ByteArray) (i : Nat) : Nat := if h : i < t.size then (t[i]'h).toNat else 32
abbrev plainAt (t : ByteArray) (i : Nat) : Prop := 32 ≤ chr t i ∧ chr t i ≤ 126
def plB (t : ByteArray) (i : Nat) : Bool := decide (plainAt t i)
def risesB (cs : List Int) : Bool := decide (∀ i, i < cs.length → okB cs i = true)
def plainB (t : ByteArray) : Bool := decide (∀ i, i < t.size → plB t i = true)
theorem chr_at {t : ByteArray} {i : Nat} (h : i < t.size) : chr t i = (t[i]'h).toNat := by unfold chr; rw [dif_pos h]
theorem ok_B {cs : List Int} {i : Nat} : okB cs i = true ↔ okAt cs i := by unfold okB; exact decide_eq_true_iff
theorem pl_B {t : ByteArray} {i : Nat} : plB t i = true ↔ plainAt t i := by unfold plB; exact decide_eq_true_iff
theorem rises_yes {cs : List Int} (h : ∀ i, i < cs.length → okAt cs i) : risesB cs = true := by unfold risesB; exact decide_eq_true fun i hi => ok_B.2 (h i hi)
theorem rises_no {cs : List Int} (i : Nat) (hi : i < cs.length) (h : ¬ okAt cs i) : risesB cs = false := by unfold risesB; exact decide_eq_false fun a => h (ok_B.1 (a i hi))
theorem rises_at {cs : List Int} (h : risesB cs = true) (i : Nat) (hi : i < cs.length) : okAt cs i := by unfold risesB at h; exact ok_B.1 (of_decide_eq_true h i hi)
theorem plain_yes {t : ByteArray} (h : ∀ i, i < t.size → plainAt t i) : plainB t = true := by unfold plainB; exact decide_eq_true fun i hi => pl_B.2 (h i hi)
theorem plain_no {t : ByteArray} (i : Nat) (hi : i < t.size) (h : ¬ plainAt t i) : plainB t = false := by unfold plainB; exact decide_eq_false fun a => h (pl_B.1 (a i hi))
def least (cs : List Int) (i : Nat) : Int := if i = 0 then 1 else cs.getD (i - 1) 0 + 1
theorem least_succ (cs : List Int) (i : Nat) : least cs (i + 1) = cs.getD i 0 + 1 := by simp [least]
theorem least_ge {cs : List Int} {i : Nat} (h : ∀ j, j < i → okAt cs j) : 1 ≤ least cs i := by
 unfold least; split
 ·omega
 ·have := (h (i - 1) (by omega)).1; omega
theorem ok_of_least {cs : List Int} {i : Nat} (h : ∀ j, j < i → okAt cs j) (h1 : least cs i ≤ cs.getD i 0) (h2 : cs.getD i 0 ≤ 20) : okAt cs i := by
 have := least_ge h
 refine ⟨by omega, h2, fun hi => ?_⟩
 unfold least at h1; rw [if_neg (by omega)] at h1; omega
theorem not_ok_least {cs : List Int} {i : Nat} (h : cs.getD i 0 < least cs i ∨ 20 < cs.getD i 0) : ¬ okAt cs i := by
 rintro ⟨a, b, c⟩
 rcases h with h | h
 ·unfold least at h; split at h
  ·omega
  ·have := c (by omega); omega
 ·omega
def right (k n : Int) (cs : List Int) (t : ByteArray) : Bool := decide (
 ((k = 0 ∨ k = 5 ∨ k = 6) ∧ n = 0 ∧ cs.length = 0 ∧ t.size = 0) ∨
 (k = 1 ∧ -1000000000 ≤ n ∧ n ≤ 1000000000 ∧ cs.length = 0 ∧ t.size = 0) ∨
 (k = 2 ∧ 1 ≤ n ∧ n ≤ 20 ∧ cs.length = 0 ∧ t.size = 0) ∨
 (k = 3 ∧ n = 0 ∧ risesB cs = true ∧ t.size = 0) ∨
 (k = 4 ∧ n = 0 ∧ cs.length = 0 ∧ plainB t = true ∧ t.size ≤ 40))
theorem right_none (n : Int) (cs : List Int) (t : ByteArray) {k : Int} (h : k = 0 ∨ k = 5 ∨ k = 6) : right k n cs t = (decide (n = 0) && decide (cs.length = 0) && decide (t.size = 0)) := by
 unfold right; rw [Bool.eq_iff_iff]; simp only [Bool.and_eq_true, decide_eq_true_iff]; constructor
 ·rintro (⟨a, b, c, d⟩ | ⟨a, b, c, d, e⟩ | ⟨a, b, c, d, e⟩ | ⟨a, b, c, d⟩ | ⟨a, b, c, d, e⟩) <;> first | (exfalso; omega) | (repeat (first | omega | assumption | refine ⟨?_, ?_⟩))
 ·rintro ⟨⟨a, b⟩, c⟩; exact .inl ⟨by omega, a, b, c⟩
theorem right_int (n : Int) (cs : List Int) (t : ByteArray) : right 1 n cs t = (decide (-1000000000 ≤ n ∧ n ≤ 1000000000) && decide (cs.length = 0) && decide (t.size = 0)) := by
 unfold right; rw [Bool.eq_iff_iff]; simp only [Bool.and_eq_true, decide_eq_true_iff]; constructor
 ·rintro (⟨a, b, c, d⟩ | ⟨a, b, c, d, e⟩ | ⟨a, b, c, d, e⟩ | ⟨a, b, c, d⟩ | ⟨a, b, c, d, e⟩) <;> first | (exfalso; omega) | (repeat (first | omega | assumption | refine ⟨?_, ?_⟩))
 ·rintro ⟨⟨⟨a, d⟩, b⟩, c⟩; exact .inr (.inl ⟨trivial, a, d, b, c⟩)
theorem right_code (n : Int) (cs : List Int) (t : ByteArray) : right 2 n cs t = (decide (1 ≤ n ∧ n ≤ 20) && decide (cs.length = 0) && decide (t.size = 0)) := by
 unfold right; rw [Bool.eq_iff_iff]; simp only [Bool.and_eq_true, decide_eq_true_iff]; constructor
 ·rintro (⟨a, b, c, d⟩ | ⟨a, b, c, d, e⟩ | ⟨a, b, c, d, e⟩ | ⟨a, b, c, d⟩ | ⟨a, b, c, d, e⟩) <;> first | (exfalso; omega) | (repeat (first | omega | assumption | refine ⟨?_, ?_⟩))
 ·rintro ⟨⟨⟨a, d⟩, b⟩, c⟩; exact .inr (.inr (.inl ⟨trivial, a, d, b, c⟩))
theorem right_set (n : Int) (cs : List Int) (t : ByteArray) : right 3 n cs t = (risesB cs && decide (n = 0) && decide (t.size = 0)) := by
 unfold right; rw [Bool.eq_iff_iff]; simp only [Bool.and_eq_true, decide_eq_true_iff]; constructor
 ·rintro (⟨a, b, c, d⟩ | ⟨a, b, c, d, e⟩ | ⟨a, b, c, d, e⟩ | ⟨a, b, c, d⟩ | ⟨a, b, c, d, e⟩) <;> first | (exfalso; omega) | (repeat (first | omega | assumption | refine ⟨?_, ?_⟩))
 ·rintro ⟨⟨a, b⟩, c⟩; exact .inr (.inr (.inr (.inl ⟨trivial, b, a, c⟩)))
theorem right_text (n : Int) (cs : List Int) (t : ByteArray) : right 4 n cs t = (plainB t && decide (t.size ≤ 40) && decide (n = 0) && decide (cs.length = 0)) := by
 unfold right; rw [Bool.eq_iff_iff]; simp only [Bool.and_eq_true, decide_eq_true_iff]; constructor
 ·rintro (⟨a, b, c, d⟩ | ⟨a, b, c, d, e⟩ | ⟨a, b, c, d, e⟩ | ⟨a, b, c, d⟩ | ⟨a, b, c, d, e⟩) <;> first | (exfalso; omega) | (repeat (first | omega | assumption | refine ⟨?_, ?_⟩))
 ·rintro ⟨⟨⟨a, d⟩, b⟩, c⟩; exact .inr (.inr (.inr (.inr ⟨trivial, b, c, a, d⟩)))
theorem right_other (n : Int) (cs : List Int) (t : ByteArray) {k : Int} (h : ¬ (0 ≤ k ∧ k ≤ 6)) : right k n cs t = false := by
 unfold right; rw [decide_eq_false_iff_not]; omega
theorem kinds {k n : Int} {cs : List Int} {t : ByteArray} (h : right k n cs t = true) :
  ((k = 0 ∨ k = 5 ∨ k = 6) ∧ n = 0 ∧ cs.length = 0 ∧ t.size = 0) ∨
  (k = 1 ∧ -1000000000 ≤ n ∧ n ≤ 1000000000 ∧ cs.length = 0 ∧ t.size = 0) ∨
  (k = 2 ∧ 1 ≤ n ∧ n ≤ 20 ∧ cs.length = 0 ∧ t.size = 0) ∨
  (k = 3 ∧ n = 0 ∧ risesB cs = true ∧ t.size = 0) ∨
  (k = 4 ∧ n = 0 ∧ cs.length = 0 ∧ plainB t = true ∧ t.size ≤ 40) := by
 unfold right at h; exact of_decide_eq_true h
theorem rises_ge {cs : List Int} (h : risesB cs = true) : ∀ i, i < cs.length → (i : Int) + 1 ≤ cs.getD i 0
 | 0, hi => (rises_at h 0 hi).1
 | i + 1, hi => by
  have a := rises_ge h i (by omega)
  have b := (rises_at h (i + 1) hi).2.2 (by omega)
  simp only [Nat.add_sub_cancel] at b
  omega
theorem rises_len {cs : List Int} (h : risesB cs = true) : cs.length ≤ 20 := by
 by_cases hz : cs.length = 0
 ·omega
 ·have a := rises_ge h (cs.length - 1) (by omega)
  have b := (rises_at h (cs.length - 1) (by omega)).2.1
  omega
end Go.Proofs.YtmbhmknfipdadaaGreatDoor.ValM
