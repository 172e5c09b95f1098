/- Texts of ours, laid together: StaMath. -/
import Derived.Test.YtaofdckdmffaiaaGreatDoorBd22
import Derived.Test.YtaofdckdmffaiaaGreatDoorBd34
import Derived.Test.YtaofdckdmffaiaaGreatDoorBd9
import Derived.Test.YtaofdckdmffaiaaGreatDoorBd12
/- What can come of an expression: spans, what can be, and what can be not. -/
namespace Go.Proofs.YtaofdckdmffaiaaGreatDoor.StaM
open Go.RowKit
open PrtW PrtM TexM ItmW ItmM FrmM
open FrmI (fieldQ fieldQ_at fieldQ_no)
open FixS (plusR minusR)
open FixTi (timesR)

/-- a span: low, high, wrong -/
abbrev Sp := Int × Int × Bool
abbrev spv (s : Sp) : Value := .agg #[.int .i64 s.1, .int .i64 s.2.1, .bool s.2.2]
def wrongS : Sp := (-1000000000000000, 1000000000000000, true)
def z0 : Sp := (0, 0, false)
def cx (a : Sp) (i : Nat) : Int := if i % 2 = 1 then a.2.1 else a.1
def cy (b : Sp) (i : Nat) : Int := if i / 2 = 1 then b.2.1 else b.1
def opR (x a b : Int) : Int × Int := if x = 3 then plusR a b else if x = 4 then minusR a b else timesR a b
def cor (f : Int → Int → Int × Int) (a b : Sp) (i : Nat) : Int × Int := f (cx a i) (cy b i)
def minI (a b : Int) : Int := if a < b then a else b
def maxI (a b : Int) : Int := if a > b then a else b
def lowF (f : Nat → Int × Int) : Nat → Int
  | 0 => 1000000000000000
  | n + 1 => minI (lowF f n) (f n).1
def highF (f : Nat → Int × Int) : Nat → Int
  | 0 => -1000000000000000
  | n + 1 => maxI (highF f n) (f n).1
def okF (f : Nat → Int × Int) : Bool := decide ((f 0).2 = 0) && (decide ((f 1).2 = 0) && (decide ((f 2).2 = 0) && decide ((f 3).2 = 0)))
theorem ok_yes {f : Nat → Int × Int} (h : ∀ i, i < 4 → (f i).2 = 0) : okF f = true := by
  unfold okF
  rw [decide_eq_true (h 0 (by omega)), decide_eq_true (h 1 (by omega)), decide_eq_true (h 2 (by omega)), decide_eq_true (h 3 (by omega))]
  rfl
theorem ok_no {f : Nat → Int × Int} {i : Nat} (hi : i < 4) (h : ¬ (f i).2 = 0) : okF f = false := by
  unfold okF
  rcases (by omega : i = 0 ∨ i = 1 ∨ i = 2 ∨ i = 3) with rfl | rfl | rfl | rfl <;> rw [decide_eq_false h] <;> simp
def joinS (f : Nat → Int × Int) : Sp := if okF f = true then (lowF f 4, highF f 4, false) else wrongS
def twoS (f : Int → Int → Int × Int) (a b : Sp) : Sp := if (a.2.2 || b.2.2) = true then wrongS else joinS (cor f a b)
theorem two_wrong {f : Int → Int → Int × Int} {a b : Sp} (h : (a.2.2 || b.2.2) = true) : twoS f a b = wrongS := by unfold twoS; rw [if_pos h]
theorem two_no {f : Int → Int → Int × Int} {a b : Sp} (h : (a.2.2 || b.2.2) = false) : twoS f a b = joinS (cor f a b) := by unfold twoS; rw [h]; rfl
theorem join_no {f : Nat → Int × Int} {i : Nat} (hi : i < 4) (h : ¬ (f i).2 = 0) : joinS f = wrongS := by unfold joinS; rw [ok_no hi h]; rfl
theorem join_yes {f : Nat → Int × Int} (h : ∀ i, i < 4 → (f i).2 = 0) : joinS f = (lowF f 4, highF f 4, false) := by unfold joinS; rw [ok_yes h]; rfl
/-- the ends are asked for in another order by the program -/
theorem low_four (f : Nat → Int × Int) : lowF f 4 = minI (minI (minI (minI 1000000000000000 (f 0).1) (f 2).1) (f 1).1) (f 3).1 := by
  show minI (minI (minI (minI 1000000000000000 (f 0).1) (f 1).1) (f 2).1) (f 3).1 = _
  generalize (f 0).1 = a; generalize (f 1).1 = b; generalize (f 2).1 = c; generalize (f 3).1 = d
  unfold minI
  repeat' split
  all_goals omega
theorem high_four (f : Nat → Int × Int) : highF f 4 = maxI (maxI (maxI (maxI (-1000000000000000) (f 0).1) (f 2).1) (f 1).1) (f 3).1 := by
  show maxI (maxI (maxI (maxI (-1000000000000000) (f 0).1) (f 1).1) (f 2).1) (f 3).1 = _
  generalize (f 0).1 = a; generalize (f 1).1 = b; generalize (f 2).1 = c; generalize (f 3).1 = d
  unfold maxI
  repeat' split
  all_goals omega
theorem low_high (f : Nat → Int × Int) : lowF f 4 ≤ highF f 4 := by
  rw [low_four, high_four]
  generalize (f 0).1 = a; generalize (f 1).1 = b; generalize (f 2).1 = c; generalize (f 3).1 = d
  unfold maxI minI
  repeat' split
  all_goals omega
/-- a span has a number in it -/
def okS (a : Sp) : Prop := a.1 ≤ a.2.1
theorem ok_two (f : Int → Int → Int × Int) (a b : Sp) : okS (twoS f a b) := by
  unfold twoS joinS
  repeat' split
  · unfold okS wrongS; decide
  · exact low_high _
  · unfold okS wrongS; decide

/-- of a comparison: whether it can be, and can be not -/
def cmpR (x : Int) (a b : Sp) : Bool × Bool :=
  if (a.2.2 || b.2.2) = true then (true, true)
  else if x = 6 then (decide (maxI a.1 b.1 ≤ minI a.2.1 b.2.1), !decide (a.1 = a.2.1) || (!decide (b.1 = b.2.1) || !decide (a.1 = b.1)))
  else if x = 7 then (decide (a.1 < b.2.1), decide (a.2.1 ≥ b.1))
  else (decide (a.1 ≤ b.2.1), decide (a.2.1 > b.1))
def sameP (a b : Sp) : Bool × Bool := (decide (a.1 ≤ b.2.1) && decide (b.1 ≤ a.2.1), !decide (a.1 = a.2.1) || !decide (a.1 = b.1 ∧ a.2.1 = b.2.1 ∧ a.2.2 = b.2.2))
theorem same_same {a b : Sp} (ha : okS a) (hb : okS b) (hw : (a.2.2 || b.2.2) = false) : cmpR 6 a b = sameP a b := by
  unfold cmpR sameP
  rw [if_neg (by rw [hw]; decide), if_pos rfl]
  obtain ⟨a0, a1, aw⟩ := a
  obtain ⟨b0, b1, bw⟩ := b
  unfold okS at ha hb
  dsimp only at ha hb hw ⊢
  have hw2 : aw = bw := by cases aw <;> cases bw <;> first | rfl | cases hw
  subst hw2
  congr 1
  · rw [Bool.eq_iff_iff, Bool.and_eq_true, decide_eq_true_iff, decide_eq_true_iff, decide_eq_true_iff]
    unfold maxI minI
    constructor
    · intro h; split at h <;> split at h <;> omega
    · intro h; split <;> split <;> omega
  · rw [Bool.eq_iff_iff]
    by_cases e1 : a0 = a1 <;> by_cases e2 : b0 = b1 <;> by_cases e3 : a0 = b0 <;> by_cases e4 : a1 = b1 <;> simp [e1, e2, e3, e4] <;> omega

/-- what can come: the span of a number; of a truth whether it can be, and can be not -/
abbrev Lk := Sp × Bool × Bool
abbrev lkv (o : Lk) : Value := .agg #[.int .i64 o.1.1, .int .i64 o.1.2.1, .bool o.1.2.2, .bool o.2.1, .bool o.2.2]
def fieldS (q : It) : Sp := if ik q = 6 then (-1000000000, 1000000000, false) else (ilo q, ihi q, false)
def leafO (ls : List It) (p : Pt) : Lk := if p.1 = 1 then ((p.2.1, p.2.1, false), false, false) else if p.1 = 2 then (fieldS (fieldQ ls ls.length p.2.2), false, false) else (z0, true, true)
def joinO (x : Int) (a b : Lk) : Lk :=
  if x = 9 then (z0, a.2.1 && b.2.1, a.2.2 || b.2.2) else if x = 10 then (z0, a.2.1 || b.2.1, a.2.2 && b.2.2)
  else if x = 3 ∨ x = 4 ∨ x = 5 then (twoS (opR x) a.1 b.1, false, false) else (z0, cmpR x a.1 b.1)
def lk (ls : List It) : Nat → List Pt → Lk
  | 0, _ => (z0, false, false)
  | _ + 1, [] => (z0, false, false)
  | d + 1, p :: r => if many p.1 = 0 then leafO ls p else if many p.1 = 1 then (z0, (lk ls d r).2.2, (lk ls d r).2.1) else joinO p.1 (lk ls d r) (lk ls d (rest d r))
theorem lk_succ (ls : List It) (d : Nat) (p : Pt) (r : List Pt) : lk ls (d + 1) (p :: r) = if many p.1 = 0 then leafO ls p else if many p.1 = 1 then (z0, (lk ls d r).2.2, (lk ls d r).2.1) else joinO p.1 (lk ls d r) (lk ls d (rest d r)) := rfl
theorem ok_field {q : It} (h : itemB q = true) (hk : ik q = 1 ∨ ik q = 6) : okS (fieldS q) := by
  unfold fieldS
  by_cases h6 : ik q = 6
  · rw [if_pos h6]; unfold okS; decide
  · rw [if_neg h6]
    have h1 : ik q = 1 := by omega
    unfold itemB at h
    rw [if_pos h1, Bool.and_eq_true, Bool.and_eq_true] at h
    have hr := h.2.1
    unfold rangeB at hr
    show ilo q ≤ ihi q
    split at hr
    · simp only [Bool.and_eq_true, decide_eq_true_iff] at hr; omega
    · split at hr
      · simp only [Bool.and_eq_true, decide_eq_true_iff] at hr; omega
      · split at hr
        · simp only [Bool.and_eq_true, decide_eq_true_iff] at hr; omega
        · cases hr
/-- each part uses its field as it may -/
def Uses (ls : List It) (l : List Pt) : Prop := ∀ p ∈ l, useB ls ls.length p = true
theorem uses_of {ls : List It} {ps : List Pt} (h : usesB ls ls.length ps = true) : Uses ls ps := fun p hp => by
  obtain ⟨i, hi, rfl⟩ := List.mem_iff_getElem.1 hp
  have := uses_at h i hi
  rw [List.getD_eq_getElem?_getD, List.getElem?_eq_getElem hi] at this
  exact this
theorem Uses.tail {ls : List It} {p : Pt} {l : List Pt} (h : Uses ls (p :: l)) : Uses ls l := fun q hq => h q (List.mem_cons_of_mem _ hq)
theorem Uses.head {ls : List It} {p : Pt} {l : List Pt} (h : Uses ls (p :: l)) : useB ls ls.length p = true := h p (List.mem_cons_self ..)
theorem Uses.suffix {ls : List It} {l r : List Pt} (h : Uses ls l) (hs : r <:+ l) : Uses ls r := fun q hq => h q (hs.subset hq)
theorem empty_of_name {s : ByteArray} (h : NameW.nameB s = true) : s.toList.isEmpty = false := by
  cases he : s.toList.isEmpty
  · rfl
  · rw [List.isEmpty_iff, ByteArray.toList_eq] at he
    have h2 := congrArg List.length he
    rw [Array.length_toList] at h2
    have h3 : s.size = 0 := h2
    have h1 := (of_decide_eq_true h).1
    omega
/-- the field that a part names -/
theorem part_field {ls : List It} {x n : Int} {t : ByteArray} (hf : formB ls = true) (hp : partB (x, n, t) = true) (hx : x = 2) (hu : useB ls ls.length (x, n, t) = true) :
    ∃ i, fieldN ls ls.length t = some i ∧ i < ls.length ∧ itemB (ls.getD i it0) = true ∧ (ik (ls.getD i it0) = 1 ∨ ik (ls.getD i it0) = 6) := by
  subst hx
  have hn : NameW.nameB t = true := by
    unfold partB at hp
    rw [if_neg (show ¬ (2 : Int) = 1 by decide), if_pos (.inl rfl), Bool.and_eq_true] at hp
    exact hp.2
  have he := empty_of_name hn
  cases hfn : fieldN ls ls.length t with
  | none => rw [use_none he hfn] at hu; cases hu
  | some i =>
    obtain ⟨h1, h2, h3⟩ := field_at.1 hfn
    have hb := (behind_at ((form_at hf).2.1 i h2)).1
    refine ⟨i, rfl, h2, hb, ?_⟩
    unfold isF at h1
    simp only [Bool.and_eq_true, Bool.or_eq_true, beq_iff_eq] at h1
    exact h1.2
theorem lk_ok {ls : List It} (hf : formB ls = true) : ∀ d l r, behind d l = some r → Uses ls l → okS (lk ls d l).1
  | 0, _, _, h, _ => by cases h
  | _ + 1, [], _, h, _ => by cases h
  | d + 1, (x, n, t) :: l, r, h, hu => by
    obtain ⟨hp, hc⟩ := behind_cases h
    have hz : okS z0 := by unfold okS z0; decide
    rw [lk_succ]
    rcases hc with ⟨h0, _⟩ | ⟨h0, _⟩ | ⟨h0, _⟩
    · rw [if_pos h0]
      unfold leafO
      dsimp only
      by_cases h1 : x = 1
      · rw [if_pos h1]; exact Int.le_refl _
      · rw [if_neg h1]
        by_cases h2 : x = 2
        · rw [if_pos h2]
          obtain ⟨i, hi, _, hb, hk⟩ := part_field hf hp h2 hu.head
          rw [fieldQ_at hi]
          exact ok_field hb hk
        · rw [if_neg h2]; exact hz
    · rw [if_neg (by rw [h0]; decide), if_pos h0]; exact hz
    · rw [if_neg (by rw [h0]; decide), if_neg (by rw [h0]; decide)]
      unfold joinO
      repeat' split
      · exact hz
      · exact hz
      · exact ok_two _ _ _
      · exact hz
/-- which children an op has: numbers, or truths -/
theorem child_kind {d : Nat} {x : Int} {l r : List Pt} (h : child d x l = some r) : numB (l.headD pt0).1 = wantsB x := by
  unfold child at h
  split at h
  · assumption
  · cases h
theorem behind_kids {d : Nat} {p : Pt} {r out : List Pt} (h : behind (d + 1) (p :: r) = some out) :
    partB p = true ∧ ((many p.1 = 0 ∧ out = r) ∨ (many p.1 = 1 ∧ behind d r = some out ∧ numB (r.headD pt0).1 = wantsB p.1) ∨
      (many p.1 = 2 ∧ ∃ r1, behind d r = some r1 ∧ behind d r1 = some out ∧ numB (r.headD pt0).1 = wantsB p.1 ∧ numB (r1.headD pt0).1 = wantsB p.1)) := by
  rw [behind_succ] at h
  by_cases hp : partB p = true
  · rw [if_pos hp] at h
    refine ⟨hp, ?_⟩
    have hm := PrtS.many_le p.1
    rcases (by omega : many p.1 = 0 ∨ many p.1 = 1 ∨ many p.1 = 2) with h0 | h0 | h0
    · rw [h0] at h
      simp only [iter, Option.some.injEq] at h
      exact .inl ⟨h0, h.symm⟩
    · rw [h0] at h
      simp only [iter] at h
      exact .inr (.inl ⟨h0, child_some h, child_kind h⟩)
    · rw [h0] at h
      simp only [iter] at h
      refine .inr (.inr ⟨h0, ?_⟩)
      cases hc : child d p.1 r with
      | none => rw [hc] at h; cases h
      | some r1 => rw [hc] at h; exact ⟨r1, child_some hc, child_some h, child_kind hc, child_kind h⟩
  · rw [if_neg hp] at h; cases h
/-- a form, and an expression that uses its fields -/
def rightFX (ls : List It) (ps : List Pt) : Bool := formB ls && (rightB ps && usesB ls ls.length ps)
def spanR (ls : List It) (ps : List Pt) : Sp := if rightFX ls ps = true ∧ truthB ps = false then (lk ls 6 ps).1 else z0
def canR (ls : List It) (ps : List Pt) : Bool := if rightFX ls ps = true ∧ truthB ps = true then (lk ls 6 ps).2.1 else false
def canNotR (ls : List It) (ps : List Pt) : Bool := if rightFX ls ps = true ∧ truthB ps = true then (lk ls 6 ps).2.2 else false
end Go.Proofs.YtaofdckdmffaiaaGreatDoor.StaM
