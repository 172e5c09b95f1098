/- Expressions as lists of parts: what is right of a part, and where an expression ends. -/
import Derived.Test.YtbhblnpehhaiiaaDoorPrtCore
import Derived.Test.YtbhblnpehhaiiaaDoorNameWalks
namespace Go.Proofs.YtbhblnpehhaiiaaDoor.PrtM
open Go.RowKit
open PrtW NameW

/-- how many expressions an op has in it -/
def many (x : Int) : Nat := if x = 11 then 1 else if 3 ≤ x ∧ x ≤ 10 then 2 else 0
/-- the model's word for it: -1 of what is no op -/
def manyI (x : Int) : Int := if x = 1 ∨ x = 2 ∨ x = 12 ∨ x = 13 then 0 else if x = 11 then 1 else if 3 ≤ x ∧ x ≤ 10 then 2 else -1
def numB (x : Int) : Bool := decide (1 ≤ x ∧ x ≤ 5)
def wantsB (x : Int) : Bool := decide (3 ≤ x ∧ x ≤ 8)
def inB (n lo hi : Int) : Bool := decide (lo ≤ n ∧ n ≤ hi)
def emptyB (t : ByteArray) : Bool := t.toList.isEmpty
/-- what an op asks of its part -/
def partB (p : Pt) : Bool :=
  if p.1 = 1 then inB p.2.1 (-1000000) 1000000 && emptyB p.2.2
  else if p.1 = 2 ∨ p.1 = 13 then inB p.2.1 0 0 && nameB p.2.2
  else if p.1 = 12 then inB p.2.1 1 20 && nameB p.2.2
  else inB p.1 3 11 && (inB p.2.1 0 0 && emptyB p.2.2)

/-- so many expressions, one behind the other, each by f -/
def iter (f : List Pt → Option (List Pt)) : Nat → Option (List Pt) → Option (List Pt)
  | 0, s => s
  | _ + 1, none => none
  | n + 1, some l => iter f n (f l)
/-- what is left behind the expression at the head, no more than so deep -/
def behind : Nat → List Pt → Option (List Pt)
  | 0, _ => none
  | _ + 1, [] => none
  | d + 1, p :: r => if partB p = true then iter (fun l => if numB (l.headD pt0).1 = wantsB p.1 then behind d l else none) (many p.1) (some r) else none
/-- one expression inside of an op -/
def child (d : Nat) (x : Int) (l : List Pt) : Option (List Pt) := if numB (l.headD pt0).1 = wantsB x then behind d l else none
theorem behind_succ (d : Nat) (p : Pt) (r : List Pt) : behind (d + 1) (p :: r) = if partB p = true then iter (child d p.1) (many p.1) (some r) else none := rfl
theorem behind_nil (d : Nat) : behind d [] = none := by cases d <;> rfl

def rightB (ps : List Pt) : Bool := decide (ps.length ≤ 20) && decide (behind 6 ps = some [])
def truthB (ps : List Pt) : Bool := rightB ps && !numB (ps.headD pt0).1

/-- what is left is an end of what there was, and shorter -/
theorem iter_suffix (f : List Pt → Option (List Pt)) (h : ∀ l r, f l = some r → r <:+ l) : ∀ n s r, iter f n s = some r → ∃ l, s = some l ∧ r <:+ l := by
  intro n
  induction n with
  | zero => intro s r h1; exact ⟨r, h1, List.suffix_refl _⟩
  | succ n ih =>
    intro s r h1
    cases s with
    | none => cases h1
    | some l =>
      obtain ⟨l', e, hs⟩ := ih _ _ h1
      exact ⟨l, rfl, hs.trans (h l l' e)⟩
theorem behind_suffix : ∀ d l r, behind d l = some r → r <:+ l ∧ r.length < l.length := by
  intro d
  induction d with
  | zero => intro l r h; cases h
  | succ d ih =>
    intro l r h
    cases l with
    | nil => cases h
    | cons p q =>
      rw [behind_succ] at h
      by_cases hp : partB p = true
      · rw [if_pos hp] at h
        obtain ⟨l', e, hs⟩ := iter_suffix (child d p.1) (fun l r h1 => by
          unfold child at h1
          by_cases hw : numB (l.headD pt0).1 = wantsB p.1
          · rw [if_pos hw] at h1; exact (ih _ _ h1).1
          · rw [if_neg hw] at h1; cases h1) _ _ _ h
        cases e
        have := hs.length_le
        exact ⟨hs.trans (List.suffix_cons _ _), by simp; omega⟩
      · rw [if_neg hp] at h; cases h
theorem child_suffix {d : Nat} {x : Int} {l r : List Pt} (h : child d x l = some r) : r <:+ l ∧ r.length < l.length := by
  unfold child at h
  by_cases hw : numB (l.headD pt0).1 = wantsB x
  · rw [if_pos hw] at h; exact behind_suffix _ _ _ h
  · rw [if_neg hw] at h; cases h
theorem iter_none (f : List Pt → Option (List Pt)) (n : Nat) : iter f n none = none := by cases n <;> rfl
theorem suffix_drop {l r : List Pt} (h : r <:+ l) : l.drop (l.length - r.length) = r := by
  obtain ⟨t, rfl⟩ := h
  simp
end Go.Proofs.YtbhblnpehhaiiaaDoor.PrtM
