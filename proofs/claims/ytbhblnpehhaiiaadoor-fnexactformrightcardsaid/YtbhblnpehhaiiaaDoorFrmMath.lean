/- What is right of a form. -/
import Derived.Test.YtbhblnpehhaiiaaDoorItmMath
namespace Go.Proofs.YtbhblnpehhaiiaaDoor.FrmM
open Go.RowKit
open PrtW PrtM NameW ItmW ValM ItmM

/-- an item is a field of that name -/
def isF (s : ByteArray) (q : It) : Bool := ((inm q).toList == s.toList) && ((ik q == 1) || (ik q == 6))
/-- the place of the first field of that name among the first n -/
def fieldN (ls : List It) (n : Nat) (s : ByteArray) : Option Nat := (List.range n).find? fun i => isF s (ls.getD i it0)
theorem field_at {ls : List It} {n i : Nat} {s : ByteArray} : fieldN ls n s = some i ↔ isF s (ls.getD i it0) = true ∧ i < n ∧ ∀ j, j < i → isF s (ls.getD j it0) = false := by
  unfold fieldN
  rw [List.find?_range_eq_some]
  simp
theorem field_no {ls : List It} {n : Nat} {s : ByteArray} : fieldN ls n s = none ↔ ∀ j, j < n → isF s (ls.getD j it0) = false := by
  unfold fieldN
  rw [List.find?_range_eq_none]
  simp
/-- the place as a number, -1 of none -/
def fieldI (ls : List It) (n : Nat) (s : ByteArray) : Int := match fieldN ls n s with | none => -1 | some i => i
theorem fieldI_at {ls : List It} {n i : Nat} {s : ByteArray} (h : fieldN ls n s = some i) : fieldI ls n s = i := by unfold fieldI; rw [h]
theorem fieldI_no {ls : List It} {n : Nat} {s : ByteArray} (h : fieldN ls n s = none) : fieldI ls n s = -1 := by unfold fieldI; rw [h]
/-- a field of this make may stand in a part of that op -/
def servesB (op : Int) (q : It) : Bool := !((op == 2 && (ity q == 3 || ity q == 4)) || (op == 12 && !(ity q == 3)))
def useB (ls : List It) (n : Nat) (p : Pt) : Bool := p.2.2.toList.isEmpty || (match fieldN ls n p.2.2 with | none => false | some i => servesB p.1 (ls.getD i it0))
def usesB (ls : List It) (n : Nat) (ps : List Pt) : Bool := decide (∀ i, i < ps.length → useB ls n (ps.getD i pt0) = true)
theorem uses_yes {ls : List It} {n : Nat} {ps : List Pt} (h : ∀ i, i < ps.length → useB ls n (ps.getD i pt0) = true) : usesB ls n ps = true := decide_eq_true h
theorem uses_no {ls : List It} {n : Nat} {ps : List Pt} {i : Nat} (hi : i < ps.length) (h : useB ls n (ps.getD i pt0) = false) : usesB ls n ps = false := decide_eq_false fun a => by rw [a i hi] at h; cases h
theorem uses_at {ls : List It} {n : Nat} {ps : List Pt} (h : usesB ls n ps = true) : ∀ i, i < ps.length → useB ls n (ps.getD i pt0) = true := of_decide_eq_true h
theorem use_empty {ls : List It} {n : Nat} {p : Pt} (h : p.2.2.toList.isEmpty = true) : useB ls n p = true := by unfold useB; rw [h]; rfl
theorem use_none {ls : List It} {n : Nat} {p : Pt} (h : p.2.2.toList.isEmpty = false) (hf : fieldN ls n p.2.2 = none) : useB ls n p = false := by unfold useB; rw [h, hf]; rfl
theorem use_some {ls : List It} {n i : Nat} {p : Pt} (h : p.2.2.toList.isEmpty = false) (hf : fieldN ls n p.2.2 = some i) : useB ls n p = servesB p.1 (ls.getD i it0) := by unfold useB; rw [h, hf]; rfl
def sameN (x y : ByteArray) : Bool := x.toList == y.toList
/-- no item ahead has this item's name -/
def newB (ls : List It) (i : Nat) : Bool := noText (inm (ls.getD i it0)) || decide (∀ k, k < i → sameN (inm (ls.getD k it0)) (inm (ls.getD i it0)) = false)
theorem new_empty {ls : List It} {i : Nat} (h : (inm (ls.getD i it0)).toList.isEmpty = true) : newB ls i = true := by unfold newB noText; rw [h]; rfl
theorem new_yes {ls : List It} {i : Nat} (h : ∀ k, k < i → sameN (inm (ls.getD k it0)) (inm (ls.getD i it0)) = false) : newB ls i = true := by unfold newB; rw [decide_eq_true h, Bool.or_true]
theorem new_no {ls : List It} {i k : Nat} (h : (inm (ls.getD i it0)).toList.isEmpty = false) (hk : k < i) (hs : sameN (inm (ls.getD k it0)) (inm (ls.getD i it0)) = true) : newB ls i = false := by
  unfold newB noText
  rw [h, Bool.false_or]
  exact decide_eq_false fun a => by rw [a k hk] at hs; cases hs
/-- what an item must be behind those ahead of it -/
def behindB (ls : List It) (i : Nat) : Bool := itemB (ls.getD i it0) && (usesB ls i (iex (ls.getD i it0)) && newB ls i)
/-- what a kind makes of the blocks that are open -/
def stepB (k : Int) (op : List Bool) : Option (List Bool) :=
  if k = 2 then (if 6 ≤ op.length then none else some (op ++ [false]))
  else if k = 3 then (if op.getLast? = some false then some (op.dropLast ++ [true]) else none)
  else if k = 4 then (if op.length = 0 then none else some op.dropLast)
  else some op
def blkF : List It → List Bool → Option (List Bool)
  | [], op => some op
  | p :: r, op => match stepB (ik p) op with | none => none | some op' => blkF r op'
theorem blk_cons (p : It) (r : List It) (op : List Bool) : blkF (p :: r) op = match stepB (ik p) op with | none => none | some op' => blkF r op' := rfl
def blocksB (ls : List It) : Bool := decide (blkF ls [] = some [])
theorem drop_it (ls : List It) (k : Nat) (h : k < ls.length) : ls.drop k = ls.getD k it0 :: ls.drop (k + 1) := by
  rw [List.drop_eq_getElem_cons h, List.getD_eq_getElem?_getD, List.getElem?_eq_getElem h]; rfl
theorem blk_none {ls : List It} {k : Nat} {op : List Bool} (h : blkF ls [] = blkF (ls.drop k) op) (hk : k < ls.length) (hs : stepB (ik (ls.getD k it0)) op = none) : blocksB ls = false := by
  unfold blocksB
  rw [h, drop_it ls k hk, blk_cons, hs]
  exact decide_eq_false (fun e => by cases e)
theorem blk_some {ls : List It} {k : Nat} {op op' : List Bool} (h : blkF ls [] = blkF (ls.drop k) op) (hk : k < ls.length) (hs : stepB (ik (ls.getD k it0)) op = some op') : blkF ls [] = blkF (ls.drop (k + 1)) op' := by
  rw [h, drop_it ls k hk, blk_cons, hs]
theorem blk_end {ls : List It} {op : List Bool} (h : blkF ls [] = blkF (ls.drop ls.length) op) : blocksB ls = decide (op.length = 0) := by
  unfold blocksB
  rw [h, List.drop_length]
  cases op <;> simp [blkF]
theorem step_deep {op : List Bool} (h : 6 ≤ op.length) : stepB 2 op = none := by unfold stepB; rw [if_pos rfl, if_pos h]
theorem step_if {op : List Bool} (h : ¬ 6 ≤ op.length) : stepB 2 op = some (op ++ [false]) := by unfold stepB; rw [if_pos rfl, if_neg h]
theorem step_else {op : List Bool} : stepB 3 (op ++ [false]) = some (op ++ [true]) := by unfold stepB; simp
theorem step_else_two {op : List Bool} : stepB 3 (op ++ [true]) = none := by unfold stepB; simp
theorem step_else_no : stepB 3 [] = none := by unfold stepB; simp
theorem step_end {op : List Bool} {b : Bool} : stepB 4 (op ++ [b]) = some op := by unfold stepB; simp
theorem step_end_no : stepB 4 [] = none := by unfold stepB; simp
theorem step_other {k : Int} {op : List Bool} (h2 : ¬ k = 2) (h3 : ¬ k = 3) (h4 : ¬ k = 4) : stepB k op = some op := by unfold stepB; rw [if_neg h2, if_neg h3, if_neg h4]
theorem step_len {k : Int} {op op' : List Bool} (h : stepB k op = some op') (hl : op.length ≤ 6) : op'.length ≤ 6 := by
  unfold stepB at h
  split at h
  · split at h
    · cases h
    · cases h; simp; omega
  · split at h
    · split at h
      · cases h; simp; omega
      · cases h
    · split at h
      · split at h
        · cases h
        · cases h; simp; omega
      · cases h; exact hl
theorem snoc_of {op : List Bool} (h : 0 < op.length) : ∃ q b, op = q ++ [b] := by
  have hne : op ≠ [] := fun e => by rw [e] at h; exact absurd h (Nat.lt_irrefl _)
  exact ⟨op.dropLast, op.getLast hne, (List.dropLast_concat_getLast hne).symm⟩
/-- what a form must be -/
def formB (ls : List It) : Bool := decide (ls.length ≤ 24) && (decide (∀ i, i < ls.length → behindB ls i = true) && blocksB ls)
theorem form_long {ls : List It} (h : ¬ ls.length ≤ 24) : formB ls = false := by unfold formB; rw [decide_eq_false h]; rfl
theorem form_no {ls : List It} {i : Nat} (hi : i < ls.length) (h : behindB ls i = false) : formB ls = false := by
  unfold formB
  rw [decide_eq_false (p := ∀ i, i < ls.length → behindB ls i = true) (fun a => by rw [a i hi] at h; cases h), Bool.false_and, Bool.and_false]
theorem form_yes {ls : List It} (h : ls.length ≤ 24) (ha : ∀ i, i < ls.length → behindB ls i = true) : formB ls = blocksB ls := by
  unfold formB; rw [decide_eq_true h, decide_eq_true ha]; rfl
theorem form_at {ls : List It} (h : formB ls = true) : ls.length ≤ 24 ∧ (∀ i, i < ls.length → behindB ls i = true) ∧ blocksB ls = true := by
  unfold formB at h
  rw [Bool.and_eq_true, Bool.and_eq_true] at h
  exact ⟨of_decide_eq_true h.1, of_decide_eq_true h.2.1, h.2.2⟩
theorem behind_item {ls : List It} {i : Nat} (h : itemB (ls.getD i it0) = false) : behindB ls i = false := by unfold behindB; rw [h]; rfl
theorem behind_uses {ls : List It} {i : Nat} (h : usesB ls i (iex (ls.getD i it0)) = false) : behindB ls i = false := by unfold behindB; rw [h, Bool.false_and, Bool.and_false]
theorem behind_new {ls : List It} {i : Nat} (h : newB ls i = false) : behindB ls i = false := by unfold behindB; rw [h, Bool.and_false, Bool.and_false]
theorem behind_yes {ls : List It} {i : Nat} (h1 : itemB (ls.getD i it0) = true) (h2 : usesB ls i (iex (ls.getD i it0)) = true) (h3 : newB ls i = true) : behindB ls i = true := by unfold behindB; rw [h1, h2, h3]; rfl
theorem behind_at {ls : List It} {i : Nat} (h : behindB ls i = true) : itemB (ls.getD i it0) = true ∧ usesB ls i (iex (ls.getD i it0)) = true ∧ newB ls i = true := by
  unfold behindB at h; rw [Bool.and_eq_true, Bool.and_eq_true] at h; exact h
end Go.Proofs.YtbhblnpehhaiiaaDoor.FrmM
