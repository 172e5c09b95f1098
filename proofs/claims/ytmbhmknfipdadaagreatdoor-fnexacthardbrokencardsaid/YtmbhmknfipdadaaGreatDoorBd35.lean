/- Texts of ours, laid together. -/
import Derived.Test.YtmbhmknfipdadaaGreatDoorBd27
import Derived.Maps.OwnOps
import Derived.Maps.OwnSet
import Derived.Maps.Views
import Derived.Sort.KeysCollected
import Derived.Test.YtmbhmknfipdadaaGreatDoorBd9
namespace Go.Proofs.YtmbhmknfipdadaaGreatDoor.BookW
open Go.RowKit Go.Maps
open ValW RdS RdI AnsW
theorem less_irrefl : ∀ x : List UInt8, Op.bytesLess x x = false
 | [] => by simp [Op.bytesLess]
 | a :: x => by simp [Op.bytesLess, less_irrefl x, UInt8.lt_irrefl]
theorem less_trans : ∀ x y z : List UInt8, Op.bytesLess x y = true → Op.bytesLess y z = true → Op.bytesLess x z = true
 | _, [], _, h, _ => by rw [less_nil] at h; cases h
 | _, _ :: _, [], _, h => by rw [less_nil] at h; cases h
 | [], _ :: _, _ :: _, _, _ => by simp [Op.bytesLess]
 | a :: x, b :: y, c :: z, h1, h2 => by
  simp only [Op.bytesLess, Bool.or_eq_true, Bool.and_eq_true, decide_eq_true_eq, beq_iff_eq] at h1 h2 ⊢
  rcases h1 with h1 | ⟨rfl, h1⟩
  ·rcases h2 with h2 | ⟨rfl, h2⟩
   ·exact .inl (UInt8.lt_trans h1 h2)
   ·exact .inl h1
  ·rcases h2 with h2 | ⟨rfl, h2⟩
   ·exact .inl h2
   ·exact .inr ⟨rfl, less_trans x y z h1 h2⟩
theorem rise_lt {ls : List An} (h : ∀ i, i < ls.length → okA ls i = true) {i : Nat} : ∀ {j : Nat}, i < j → j < ls.length → lessB (nm (ls.getD i an0)) (nm (ls.getD j an0)) = true
 | 0, hi, _ => absurd hi (Nat.not_lt_zero _)
 | j + 1, hi, hj => by
  have hs := (okA_parts (h (j + 1) hj)).2.1 (Nat.succ_pos _)
  rw [Nat.add_sub_cancel] at hs
  by_cases e : i = j
  ·rw [e]; exact hs
  ·exact less_trans _ _ _ (rise_lt h (i := i) (j := j) (by omega) (by omega)) hs
theorem rise_ne {ls : List An} (h : ∀ i, i < ls.length → okA ls i = true) {i j : Nat} (hij : i < j) (hj : j < ls.length) : (nm (ls.getD i an0)).data.toList ≠ (nm (ls.getD j an0)).data.toList := fun e => by
 have := rise_lt h hij hj
 unfold lessB at this
 rw [ByteArray.toList_eq, ByteArray.toList_eq, e, less_irrefl] at this
 cases this
def heldR (v : Value) : Option (DataW Value × List MemPlace) := some (.held v, [])
theorem key_law : Keyed Tryz.prog 9 := string_keyed Tryz.underlying9
abbrev Mp (w : World) (B n : Nat) (D : DataW Value) : Prop := w.ownsMap Tryz.prog 9 heldR B n D
theorem Mp.on {w w' : World} {B n : Nat} {D : DataW Value} (h : Mp w B n D) (hB : Below w.heap.size w w') : Mp w' B n D := by
 obtain ⟨es, clock, hb, F, hs, hD⟩ := h
 exact ⟨es, clock, by rw [hB.block B (Array.getElem?_eq_some_iff.1 hb).1]; exact hb, F, hs, hD⟩
def Cpy (w : World) (F : Nat) (p : An) (v : Value) : Prop := ∃ a cap, v = av (kd p) (nu p) a (cd p).length cap (tx p) ∧ Codes w a (cd p) ∧ Free w a (cd p) ∧ Fresh a F ∧ (a = none → cap = 0)
theorem Cpy.on {w w' : World} {F : Nat} {p : An} {v : Value} (h : Cpy w F p v) (hB : Below w.heap.size w w') : Cpy w' F p v := by
 obtain ⟨a, cap, h1, h2, h3, h4, h5⟩ := h
 exact ⟨a, cap, h1, h2.on hB, h3.on hB, h4, h5⟩
theorem Cpy.grown {w w' : World} {F B : Nat} {p : An} {v : Value} (h : Cpy w F p v) (hF : B < F) (hg : w.grownBy w' (some B)) : Cpy w' F p v := by
 obtain ⟨a, cap, h1, h2, h3, h4, h5⟩ := h
 refine ⟨a, cap, h1, ⟨h2.1, fun hp => ?_⟩, fun b o ha i hi => ?_, h4, h5⟩
 ·obtain ⟨b, o, ha, hb, hc⟩ := h2.2 hp
  have hne : some b ≠ some B := fun e => by have := h4 b o ha; injection e; omega
  exact ⟨b, o, ha, Nat.lt_of_lt_of_le hb hg.size, fun i hi => by rw [World.cell?_of_block (w := w) (hg.block b hb hne)]; exact hc i hi⟩
 ·obtain ⟨hb, hf⟩ := h3 b o ha i hi
  have hne : some b ≠ some B := fun e => by have := h4 b o ha; injection e; omega
  exact ⟨Nat.lt_of_lt_of_le hb hg.size, by rw [World.frozen?_of_block (w := w) (hg.block b hb hne)]; exact hf⟩
def Holds (w : World) (F : Nat) (D : DataW Value) (ls : List An) (k : Nat) : Prop :=
 (∀ i, i < k → ∃ v, Cpy w F (ls.getD i an0) v ∧ ∀ z, D.atKey (.string (nm (ls.getD i an0)).data.toList) z = .held v) ∧
 ∀ s : List UInt8, (∀ i, i < k → (nm (ls.getD i an0)).data.toList ≠ s) → ∀ z, D.atKey (.string s) z = z
theorem Holds.on {w w' : World} {F : Nat} {D : DataW Value} {ls : List An} {k : Nat} (h : Holds w F D ls k) (hB : Below w.heap.size w w') : Holds w' F D ls k :=
 ⟨fun i hi => by obtain ⟨v, h1, h2⟩ := h.1 i hi; exact ⟨v, h1.on hB, h2⟩, h.2⟩
theorem holds_zero (w : World) (F : Nat) (ls : List An) : Holds w F (.map []) ls 0 := ⟨fun _ h => absurd h (Nat.not_lt_zero _), fun _ _ _ => rfl⟩
theorem Holds.put {w w' : World} {F B : Nat} {D : DataW Value} {ls : List An} {k : Nat} {v : Value} (h : Holds w F D ls k) (hM : IsMap D) (hF : B < F) (hg : w.grownBy w' (some B)) (hok : ∀ i, i < ls.length → okA ls i = true) (hk : k < ls.length) (hv : Cpy w F (ls.getD k an0) v) :
  Holds w' F (D.put (.string (nm (ls.getD k an0)).data.toList) (.held v)) ls (k + 1) := by
 refine ⟨fun i hi => ?_, fun s hs z => ?_⟩
 ·by_cases e : i = k
  ·subst e
   exact ⟨v, hv.grown hF hg, fun z => atKey_put_same hM (show WideAt.IsKeyLit (.string _) from trivial) _ _⟩
  ·obtain ⟨u, h1, h2⟩ := h.1 i (by omega)
   refine ⟨u, h1.grown hF hg, fun z => ?_⟩
   rw [atKey_put_other (fun e => rise_ne hok (i := i) (j := k) (by omega) hk (Lit.string.inj e))]
   exact h2 z
 ·rw [atKey_put_other (fun e => hs k (by omega) (Lit.string.inj e).symm)]
  exact h.2 s (fun i hi => hs i (by omega)) z
def Blk (v : Value) (b : Nat) : Prop := ∃ k n o len cap t, v = av k n (some ⟨b, o, none⟩) len cap t ∧ 0 < len
def Apt (D : DataW Value) : Prop := ∀ (s s' : List UInt8) (v v' : Value) (b : Nat), s ≠ s' → (∀ z, D.atKey (.string s) z = .held v) → (∀ z, D.atKey (.string s') z = .held v') → Blk v b → Blk v' b → False
theorem held_inj {D : DataW Value} {k : Lit} {v u : Value} (h : ∀ z, D.atKey k z = .held v) (h' : ∀ z, D.atKey k z = .held u) : v = u := by
 have := (h (.map [])).symm.trans (h' (.map []))
 injection this
theorem apt_zero : Apt (.map []) := fun _ _ _ _ _ _ h _ _ _ => by
 have := h (.map [])
 cases this
theorem Cpy.blk {w : World} {F : Nat} {p : An} {v : Value} {b : Nat} (h : Cpy w F p v) (hb : Blk v b) : b < w.heap.size := by
 obtain ⟨a, cap, rfl, hc, _⟩ := h
 obtain ⟨k, n, o, len, c, t, hv, hl⟩ := hb
 simp only [av, Value.agg.injEq, Array.mk.injEq, List.cons.injEq, Value.slice.injEq] at hv
 obtain ⟨_, _, ⟨rfl, hl2, _⟩, _⟩ := hv
 obtain ⟨b', o', ha, hlt, _⟩ := hc.2 (by omega)
 cases ha
 exact hlt
theorem Holds.low {w : World} {F : Nat} {D : DataW Value} {ls : List An} {k : Nat} (h : Holds w F D ls k) {s : List UInt8} {v : Value} {b : Nat} (hs : ∀ z, D.atKey (.string s) z = .held v) (hb : Blk v b) : b < w.heap.size := by
 by_cases e : ∃ i, i < k ∧ (nm (ls.getD i an0)).data.toList = s
 ·obtain ⟨i, hi, rfl⟩ := e
  obtain ⟨u, hu, hat⟩ := h.1 i hi
  rw [held_inj hs hat] at hb
  exact hu.blk hb
 ·have := h.2 s (fun i hi e' => e ⟨i, hi, e'⟩) (.map [])
  rw [hs] at this
  cases this
theorem Apt.put {D : DataW Value} (h : Apt D) (hM : IsMap D) {s : List UInt8} {v : Value} (hn : ∀ s' v' b, (∀ z, D.atKey (.string s') z = .held v') → Blk v b → Blk v' b → False) : Apt (D.put (.string s) (.held v)) := by
 intro s1 s2 v1 v2 b hne h1 h2 hb1 hb2
 by_cases e1 : s1 = s
 ·subst e1
  have hs : v1 = v := held_inj h1 (fun z => atKey_put_same hM (show WideAt.IsKeyLit (.string _) from trivial) _ _)
  subst hs
  exact hn s2 v2 b (fun z => by rw [← h2 z, atKey_put_other (fun e => hne (Lit.string.inj e).symm)]) hb1 hb2
 ·by_cases e2 : s2 = s
  ·subst e2
   have hs : v2 = v := held_inj h2 (fun z => atKey_put_same hM (show WideAt.IsKeyLit (.string _) from trivial) _ _)
   subst hs
   exact hn s1 v1 b (fun z => by rw [← h1 z, atKey_put_other (fun e => hne (Lit.string.inj e))]) hb2 hb1
  ·exact h s1 s2 v1 v2 b hne (fun z => by rw [← h1 z, atKey_put_other (fun e => e1 (Lit.string.inj e))]) (fun z => by rw [← h2 z, atKey_put_other (fun e => e2 (Lit.string.inj e))]) hb1 hb2
def BookF (w : World) (F B : Nat) (ls : List An) : Prop := ∃ D, Mp w B ls.length D ∧ Holds w F D ls ls.length ∧ Apt D
theorem BookF.on {w w' : World} {F B : Nat} {ls : List An} (h : BookF w F B ls) (hB : Below w.heap.size w w') : BookF w' F B ls := by
 obtain ⟨D, h1, h2, h3⟩ := h
 exact ⟨D, h1.on hB, h2.on hB, h3⟩
abbrev Book (w : World) (B : Nat) (ls : List An) : Prop := BookF w (B + 1) B ls
theorem Book.on {w w' : World} {B : Nat} {ls : List An} (h : Book w B ls) (hB : Below w.heap.size w w') : Book w' B ls := BookF.on h hB
end Go.Proofs.YtmbhmknfipdadaaGreatDoor.BookW
namespace Go.Proofs.YtmbhmknfipdadaaGreatDoor.AnsW
open Go.RowKit
open ValW NameW
theorem data_ne {s t : ByteArray} : s.data.toList = t.data.toList ↔ s = t := ⟨fun h => by
 have : s.data = t.data := Array.toList_inj.1 h
 exact ByteArray.ext this, fun h => by rw [h]⟩
def Found (ls : List An) (s : ByteArray) (i : Nat) : Prop := i < ls.length ∧ nm (ls.getD i an0) = s
def Lacks (ls : List An) (s : ByteArray) : Prop := ∀ i, i < ls.length → nm (ls.getD i an0) ≠ s
theorem found_one {ls : List An} (h : rightA ls = true) {s : ByteArray} {i j : Nat} (hi : Found ls s i) (hj : Found ls s j) : i = j := by
 have hr := (rightA_at h).2
 rcases Nat.lt_trichotomy i j with hl | hl | hl
 ·exact absurd (by rw [hi.2, hj.2]) (BookW.rise_ne hr hl hj.1)
 ·exact hl
 ·exact absurd (by rw [hi.2, hj.2]) (BookW.rise_ne hr hl hi.1)
theorem found_or (ls : List An) (s : ByteArray) : (∃ i, Found ls s i) ∨ Lacks ls s := by
 by_cases h : ∃ i, Found ls s i
 ·exact .inl h
 ·exact .inr fun i hi e => h ⟨i, hi, e⟩
def told (ls : List An) (s : ByteArray) : An := if rightA ls = true then ((ls.find? fun p => decide (nm p = s)).getD an0) else an0
theorem find_at {ls : List An} {s : ByteArray} {i : Nat} (hi : Found ls s i) (h : rightA ls = true) : (ls.find? fun p => decide (nm p = s)).getD an0 = ls.getD i an0 := by
 cases hf : ls.find? fun p => decide (nm p = s) with
 | none =>
  have := List.find?_eq_none.1 hf (ls.getD i an0) (by
   have e : ls.getD i an0 = ls[i]'hi.1 := by simp [List.getD, List.getElem?_eq_getElem hi.1]
   rw [e]; exact List.getElem_mem _)
  exact absurd (decide_eq_true hi.2) this
 | some p =>
  have hp := List.find?_some hf
  obtain ⟨j, hj, e⟩ := List.mem_iff_getElem.1 (List.mem_of_find?_eq_some hf)
  have e2 : ls.getD j an0 = p := by simp [List.getD, List.getElem?_eq_getElem hj, e]
  have hjf : Found ls s j := ⟨hj, by rw [e2]; simpa using hp⟩
  rw [found_one h hi hjf, e2]
  rfl
theorem find_no {ls : List An} {s : ByteArray} (h : Lacks ls s) : (ls.find? fun p => decide (nm p = s)).getD an0 = an0 := by
 cases hf : ls.find? fun p => decide (nm p = s) with
 | none => rfl
 | some p =>
  have hp := List.find?_some hf
  obtain ⟨j, hj, e⟩ := List.mem_iff_getElem.1 (List.mem_of_find?_eq_some hf)
  have e2 : ls.getD j an0 = p := by simp [List.getD, List.getElem?_eq_getElem hj, e]
  exact absurd (by rw [e2]; simpa using hp) (h j hj)
theorem told_found {ls : List An} {s : ByteArray} {i : Nat} (h : rightA ls = true) (hi : Found ls s i) : told ls s = ls.getD i an0 := by
 unfold told; rw [if_pos h, find_at hi h]
theorem told_lacks {ls : List An} {s : ByteArray} (h : Lacks ls s) : told ls s = an0 := by
 unfold told
 split
 ·exact find_no h
 ·rfl
open Go.RowKit
open ValW ValK NameW
theorem lessB_irrefl (x : ByteArray) : lessB x x = false := BookW.less_irrefl _
theorem lessB_trans {x y z : ByteArray} (h : lessB x y = true) (k : lessB y z = true) : lessB x z = true := BookW.less_trans _ _ _ h k
theorem bytes_eq {x y : ByteArray} (h : x.toList = y.toList) : x = y := by
 rw [ByteArray.toList_eq, ByteArray.toList_eq] at h
 exact data_ne.1 h
theorem lessB_of {x y : ByteArray} (h : lessB x y = false) (k : x ≠ y) : lessB y x = true := by
 have := less_or x.toList y.toList
 unfold lessB at h ⊢
 rw [h, Bool.false_or] at this
 have hne : (x.toList == y.toList) = false := by rw [beq_eq_false_iff_ne]; exact fun e => k (bytes_eq e)
 rw [hne] at this
 cases hb : Op.bytesLess y.toList x.toList
 ·rw [hb] at this; cases this
 ·rfl
def Ris (ls : List An) : Prop := ls.Pairwise fun p q => lessB (nm p) (nm q) = true
def good (p : An) : Bool := nameB (nm p) && answeredB (kd p) (nu p) (cd p) (tx p)
theorem getD_mem {ls : List An} {i : Nat} (h : i < ls.length) : ls.getD i an0 ∈ ls := by
 rw [List.getD_eq_getElem?_getD, List.getElem?_eq_getElem h]
 exact List.getElem_mem h
theorem getD_at {ls : List An} {i : Nat} (h : i < ls.length) : ls.getD i an0 = ls[i]'h := by
 rw [List.getD_eq_getElem?_getD, List.getElem?_eq_getElem h]; rfl
theorem right_ris {ls : List An} (h : rightA ls = true) : ls.length ≤ 30 ∧ Ris ls ∧ ∀ p ∈ ls, good p = true := by
 obtain ⟨h1, h2⟩ := rightA_at h
 refine ⟨h1, ?_, fun p hp => ?_⟩
 ·refine List.pairwise_iff_getElem.2 fun i j hi hj hij => ?_
  have := BookW.rise_lt h2 hij hj
  rw [getD_at hi, getD_at hj] at this
  exact this
 ·obtain ⟨i, hi, rfl⟩ := List.mem_iff_getElem.1 hp
  obtain ⟨a, _, b⟩ := okA_parts (h2 i hi)
  rw [getD_at hi] at a b
  unfold good
  rw [a, b]; rfl
theorem ris_right {ls : List An} (h1 : ls.length ≤ 30) (h2 : Ris ls) (h3 : ∀ p ∈ ls, good p = true) : rightA ls = true := by
 refine rightA_yes h1 fun i hi => ?_
 have hg := h3 _ (getD_mem hi)
 unfold good at hg
 rw [Bool.and_eq_true] at hg
 unfold okA
 rw [hg.1, hg.2]
 by_cases h0 : i = 0
 ·simp [h0]
 ·have := List.pairwise_iff_getElem.1 h2 (i - 1) i (by omega) hi (by omega)
  rw [← getD_at, ← getD_at] at this
  rw [this]; simp
def putA : List An → An → List An
 | [], p => [p]
 | q :: r, p => if lessB (nm q) (nm p) = true then q :: putA r p else if nm q = nm p then p :: r else p :: q :: r
theorem putA_mem {p : An} : ∀ {ls : List An}, Ris ls → ∀ q, q ∈ putA ls p ↔ q = p ∨ (q ∈ ls ∧ nm q ≠ nm p)
 | [], _, q => by simp [putA]
 | x :: r, h, q => by
  obtain ⟨hx, hr⟩ := List.pairwise_cons.1 h
  have ih := putA_mem (p := p) hr q
  unfold putA
  split
  ·rename_i hl
   have hne : nm x ≠ nm p := fun e => by rw [e, lessB_irrefl] at hl; cases hl
   simp only [List.mem_cons, ih]
   constructor
   ·rintro (rfl | h | ⟨h1, h2⟩)
    ·exact .inr ⟨.inl rfl, hne⟩
    ·exact .inl h
    ·exact .inr ⟨.inr h1, h2⟩
   ·rintro (h | ⟨h1 | h1, h2⟩)
    ·exact .inr (.inl h)
    ·exact .inl h1
    ·exact .inr (.inr ⟨h1, h2⟩)
  ·rename_i hl
   have hlf : lessB (nm x) (nm p) = false := by simpa using hl
   split
   ·rename_i he
    simp only [List.mem_cons]
    constructor
    ·rintro (h | h)
     ·exact .inl h
     ·refine .inr ⟨.inr h, fun e => ?_⟩
      have := hx q h
      rw [he, e, lessB_irrefl] at this
      cases this
    ·rintro (h | ⟨h1 | h1, h2⟩)
     ·exact .inl h
     ·rw [h1] at h2; exact absurd he h2
     ·exact .inr h1
   ·rename_i he
    have hpx := lessB_of hlf he
    simp only [List.mem_cons]
    constructor
    ·rintro (h | h | h)
     ·exact .inl h
     ·exact .inr ⟨.inl h, by rw [h]; exact he⟩
     ·refine .inr ⟨.inr h, fun e => ?_⟩
      have := lessB_trans hpx (hx q h)
      rw [e, lessB_irrefl] at this
      cases this
    ·rintro (h | ⟨h1 | h1, h2⟩)
     ·exact .inl h
     ·exact .inr (.inl h1)
     ·exact .inr (.inr h1)
theorem putA_ris {p : An} : ∀ {ls : List An}, Ris ls → Ris (putA ls p)
 | [], _ => List.pairwise_singleton _ _
 | x :: r, h => by
  obtain ⟨hx, hr⟩ := List.pairwise_cons.1 h
  unfold putA
  split
  ·rename_i hl
   refine List.pairwise_cons.2 ⟨fun q hq => ?_, putA_ris hr⟩
   rcases (putA_mem hr q).1 hq with rfl | ⟨h1, _⟩
   ·exact hl
   ·exact hx q h1
  ·rename_i hl
   have hlf : lessB (nm x) (nm p) = false := by simpa using hl
   split
   ·rename_i he
    exact List.pairwise_cons.2 ⟨fun q hq => by have := hx q hq; rw [he] at this; exact this, hr⟩
   ·rename_i he
    have hpx := lessB_of hlf he
    refine List.pairwise_cons.2 ⟨fun q hq => ?_, h⟩
    rcases List.mem_cons.1 hq with rfl | hq
    ·exact hpx
    ·exact lessB_trans hpx (hx q hq)
def hasA (ls : List An) (s : ByteArray) : Bool := ls.any fun q => decide (nm q = s)
theorem putA_len {p : An} : ∀ {ls : List An}, Ris ls → (putA ls p).length = if hasA ls (nm p) = true then ls.length else ls.length + 1
 | [], _ => by simp [putA, hasA]
 | x :: r, h => by
  obtain ⟨hx, hr⟩ := List.pairwise_cons.1 h
  have ih := putA_len (p := p) hr
  unfold putA
  split
  ·rename_i hl
   have hne : nm x ≠ nm p := fun e => by rw [e, lessB_irrefl] at hl; cases hl
   have e : hasA (x :: r) (nm p) = hasA r (nm p) := by unfold hasA; rw [List.any_cons, decide_eq_false hne, Bool.false_or]
   rw [e, List.length_cons, ih]
   split <;> simp
  ·rename_i hl
   have hlf : lessB (nm x) (nm p) = false := by simpa using hl
   split
   ·rename_i he
    have e : hasA (x :: r) (nm p) = true := by unfold hasA; rw [List.any_cons, decide_eq_true he, Bool.true_or]
    rw [e]; simp
   ·rename_i he
    have hpx := lessB_of hlf he
    have e : hasA (x :: r) (nm p) = false := by
     rw [← Bool.not_eq_true]
     intro ht
     unfold hasA at ht
     rw [List.any_cons, decide_eq_false he, Bool.false_or, List.any_eq_true] at ht
     obtain ⟨q, hq, hqe⟩ := ht
     have := lessB_trans hpx (hx q hq)
     rw [of_decide_eq_true hqe, lessB_irrefl] at this
     cases this
    rw [e]; simp
theorem putA_right {ls : List An} {p : An} (h : rightA ls = true) (hp : good p = true) (hl : ls.length < 30 ∨ hasA ls (nm p) = true) : rightA (putA ls p) = true := by
 obtain ⟨h1, h2, h3⟩ := right_ris h
 refine ris_right ?_ (putA_ris h2) fun q hq => ?_
 ·rw [putA_len h2]
  split
  ·exact h1
  ·rename_i hn
   rcases hl with hl | hl
   ·omega
   ·exact absurd hl hn
 ·rcases (putA_mem h2 q).1 hq with rfl | ⟨h, _⟩
  ·exact hp
  ·exact h3 q h
def ahd : List An → ByteArray → Nat
 | [], _ => 0
 | q :: r, s => if lessB (nm q) s = true then ahd r s + 1 else 0
theorem ahd_le (s : ByteArray) : ∀ ls : List An, ahd ls s ≤ ls.length
 | [] => Nat.le_refl _
 | q :: r => by unfold ahd; split <;> simp [ahd_le s r]
theorem ahd_lt (s : ByteArray) : ∀ (ls : List An) (i : Nat), i < ahd ls s → lessB (nm (ls.getD i an0)) s = true
 | [], i, h => absurd h (Nat.not_lt_zero i)
 | q :: r, i, h => by
  unfold ahd at h
  split at h
  ·rename_i hl
   cases i with
   | zero => exact hl
   | succ i => rw [List.getD_cons_succ]; exact ahd_lt s r i (by omega)
  ·exact absurd h (Nat.not_lt_zero i)
theorem ahd_not (s : ByteArray) : ∀ (ls : List An), ahd ls s < ls.length → lessB (nm (ls.getD (ahd ls s) an0)) s = false
 | [], h => absurd h (Nat.not_lt_zero _)
 | q :: r, h => by
  unfold ahd at h ⊢
  split at h
  ·rename_i hl
   rw [if_pos hl, List.getD_cons_succ]
   exact ahd_not s r (by simpa using h)
  ·rename_i hl
   rw [if_neg hl]
   show lessB (nm q) s = false
   simpa using hl
theorem ahd_is {ls : List An} {s : ByteArray} {k : Nat} (hk : k ≤ ls.length) (h1 : ∀ i, i < k → lessB (nm (ls.getD i an0)) s = true) (h2 : k < ls.length → lessB (nm (ls.getD k an0)) s = false) : ahd ls s = k := by
 rcases Nat.lt_trichotomy (ahd ls s) k with h | h | h
 ·have := ahd_not s ls (by omega)
  rw [h1 _ h] at this; cases this
 ·exact h
 ·have := ahd_lt s ls k h
  rw [h2 (by have := ahd_le s ls; omega)] at this; cases this
theorem putA_split {p : An} : ∀ ls : List An, putA ls p = ls.take (ahd ls (nm p)) ++ [p] ++ ls.drop (ahd ls (nm p) + if ahd ls (nm p) < ls.length ∧ nm (ls.getD (ahd ls (nm p)) an0) = nm p then 1 else 0)
 | [] => by simp [putA, ahd]
 | q :: r => by
  have ih := putA_split (p := p) r
  unfold putA ahd
  by_cases hl : lessB (nm q) (nm p) = true
  ·rw [if_pos hl, if_pos hl, List.take_succ_cons, ih]
   simp only [List.length_cons, List.getD_cons_succ, Nat.add_lt_add_iff_right, List.cons_append]
   congr 2
   rw [show ∀ a b : Nat, a + 1 + b = a + b + 1 by omega, List.drop_succ_cons]
  ·rw [if_neg hl, if_neg hl]
   by_cases he : nm q = nm p
   ·rw [if_pos he, if_pos ⟨by simp, he⟩]; simp
   ·rw [if_neg he, if_neg (fun h => he h.2)]; simp
open Go.RowKit
open ValW NameW RdS
set_option maxRecDepth 10000 in
set_option maxHeartbeats 800000 in
theorem spec_at (a : Option Addr) (cap : Nat) (ls : List An) (s : ByteArray) (w : World) (hc : Ans w a ls) :
  Calls Tryz.prog 44 #[.slice a ls.length cap, .string s] w fun e w' => ((∃ i, Found ls s i ∧ e = .returned (.int .i64 (i : Int))) ∨ (Lacks ls s ∧ e = .returned (.int .i64 (-1)))) ∧ Below w.heap.size w w' := by
 have HC : Hid (Ans w a ls) := hc
 have hl := hc.1
 clear hc
 go_enter Tryz.func44, Tryz.ntmps44
 go_wp2
 go_loopw [5] (fun i wr => ∃ k : Nat, k ≤ ls.length ∧ i = .int .i64 k ∧ Hid (∀ j, j < k → nm (ls.getD j an0) ≠ s) ∧ Below w.heap.size w wr) (fun i _ => ls.length - (intOf i).toNat)
 case atStart => exact ⟨0, Nat.zero_le _, rfl, fun _ h => absurd h (Nat.not_lt_zero _), Below.refl _ _⟩
 case round =>
  obtain ⟨k, hk, rfl, hno, hbel⟩ := hrel
  by_cases hlt : k < ls.length
  ·obtain ⟨_, b, o, ai, ci, rfl, hb, ⟨c0, _, _, _, _⟩, _⟩ := HC.out.at hbel hlt
   have hyes : nm (ls.getD k an0) = s → Found ls s k := fun e => ⟨hlt, e⟩
   have hnx : nm (ls.getD k an0) ≠ s → ∀ j, j < k + 1 → nm (ls.getD j an0) ≠ s := fun h j hj => by
    by_cases e : j = k
    ·rw [e]; exact h
    ·exact hno.out j (by omega)
   generalize nm (ls.getD k an0) = u at c0 hyes hnx
   have HY := hid hyes
   have HN := hid hnx
   clear hno hyes hnx
   by_cases he : u = s
   ·have hb1 : (u.toList == s.toList) = true := by rw [he]; exact beq_self_eq_true _
    have HE := hid he
    clear he
    go_wp2
    go_ret
    exact ⟨.inl ⟨k, HY.out HE.out, rfl⟩, hbel⟩
   ·have hb1 : (u.toList == s.toList) = false := by
     rw [beq_eq_false_iff_ne]
     intro h
     rw [ByteArray.toList_eq, ByteArray.toList_eq] at h
     exact he (data_ne.1 h)
    have HE := hid he
    clear he
    go_wp2
    refine ⟨⟨k + 1, by omega, by go_num, HN.out HE.out, hbel⟩, by simp [intOf]; omega⟩
  ·obtain rfl : k = ls.length := by omega
   go_wp2
   go_ret
   exact ⟨.inr ⟨hno.out, rfl⟩, hbel⟩
set_option maxRecDepth 10000 in
set_option maxHeartbeats 1600000 in
theorem spec_l05of (a : Option Addr) (cap : Nat) (ls : List An) (s : ByteArray) (w : World) (hc : Ans w a ls) (hr : rightA ls = true) :
  Calls Tryz.prog 54 #[.slice a ls.length cap, .string s] w fun e w' => (∃ a' cap', e = .returned (av (kd (told ls s)) (nu (told ls s)) a' (cd (told ls s)).length cap' (tx (told ls s))) ∧ Codes w' a' (cd (told ls s)) ∧ (a' = none → cap' = 0)) ∧ Below w.heap.size w w' := by
 have HC : Hid (Ans w a ls) := hc
 have HRt := hid hr
 have hl := hc.1
 clear hc hr
 obtain ⟨q, hq⟩ : ∃ q, Hid (told ls s = q) := ⟨_, rfl⟩
 rw [hq.out]
 go_enter Tryz.func54, Tryz.ntmps54
 go_wp2_with fail
 refine (spec_at a cap ls s _ (HC.out.alloc _)).mono ?_
 rintro e w1 ⟨hcase, hB1⟩
 have HB1 : Hid (Below w.heap.size w w1) := ((Below.refl _ _).alloc (Nat.le_refl _) _).trans (hB1.mono (by simp))
 have hblk : w1.heap[w.heap.size]? = some (.cells #[.int .i64 0, .int .i64 0, .slice none 0 0, .string ⟨#[]⟩] 59 (0, 0)) := by
  rw [hB1.block _ (by simp)]; exact heap_alloc_new w _
 have x0 : w1.cell? ⟨w.heap.size, 0, none⟩ = some (.int .i64 0) := by simp [World.cell?, hblk]
 have x1 : w1.cell? ⟨w.heap.size, 1, none⟩ = some (.int .i64 0) := by simp [World.cell?, hblk]
 have x2 : w1.cell? ⟨w.heap.size, 2, none⟩ = some (.slice none 0 0) := by simp [World.cell?, hblk]
 have x3 : w1.cell? ⟨w.heap.size, 3, none⟩ = some (.string ⟨#[]⟩) := by simp [World.cell?, hblk]
 have xf : ∀ j, w1.frozen? ⟨w.heap.size, j, none⟩ = false := fun j => by simp [World.frozen?, hblk]
 clear hB1 hblk
 rcases hcase with ⟨i, hf, rfl⟩ | ⟨hlk, rfl⟩
 ·have hqe : Hid (q = ls.getD i an0) := by show _ = _; rw [← hq.out]; exact told_found HRt.out hf
  have hil := hf.1
  obtain ⟨_, b, o, ai, ci, rfl, hb, hF0, hcd, hN⟩ := HC.out.atN (Below.refl _ _) hil
  have hF := hF0.on hb HB1.out
  clear hF0
  rw [← hqe.out] at hF hcd
  obtain ⟨s1, k, n, zs, t⟩ := q
  obtain ⟨c0, c1, c2, c3, c4⟩ := hF
  dsimp only [nm, kd, nu, cd, tx] at c0 c1 c2 c3 c4 hcd
  have HCd := hid hcd
  have hne : b < w.heap.size := hb
  have hne' : b ≠ w.heap.size := by omega
  clear hcd hf HC
  dsimp only [kd, nu, cd, tx]
  go_wp2
  refine bodyPost_ret (v := av k n ai zs.length ci t) (by simp [results, Tryz.results54, go_sem, x0, x1, x2, x3]) rfl ⟨⟨ai, ci, rfl, ?_, hN⟩, ?_⟩
  ·refine HCd.out.on ?_
   repeat (refine Below.setCell ?_ (by simp) _)
   exact HB1.out
  ·repeat (refine Below.setCell ?_ (by simp) _)
   exact HB1.out
 ·have hqe : q = an0 := by rw [← hq.out]; exact told_lacks hlk
  subst hqe
  clear HC
  go_wp2
  refine bodyPost_ret (v := av 0 0 none 0 0 ByteArray.empty) (by simp [results, Tryz.results54, go_sem, x0, x1, x2, x3]; rfl) rfl ⟨⟨none, 0, rfl, Codes.nil _ _, fun _ => rfl⟩, ?_⟩
  repeat (refine Below.setCell ?_ (by simp) _)
  exact HB1.out
end Go.Proofs.YtmbhmknfipdadaaGreatDoor.AnsW
namespace Go.Proofs.YtmbhmknfipdadaaGreatDoor.AnsO
open Go.RowKit
open ValW RdS AnsW
open DrawV (TyI)
abbrev Ax := An × (Option Addr × Nat)
def ax0 : Ax := (an0, (none, 0))
def cells5 (q : Ax) : List Value := [.string (nm q.1), .int .i64 (kd q.1), .int .i64 (nu q.1), .slice q.2.1 (cd q.1).length q.2.2, .string (tx q.1)]
def cellsA (qs : List Ax) : List Value := qs.flatMap cells5
theorem cellsA_cons (q : Ax) (r : List Ax) : cellsA (q :: r) = .string (nm q.1) :: .int .i64 (kd q.1) :: .int .i64 (nu q.1) :: .slice q.2.1 (cd q.1).length q.2.2 :: .string (tx q.1) :: cellsA r := rfl
theorem cellsA_len (qs : List Ax) : (cellsA qs).length = qs.length * 5 := by
 induction qs with
 | nil => rfl
 | cons p r ih => rw [cellsA_cons]; simp [ih]; omega
theorem cellsA_append (a b : List Ax) : cellsA (a ++ b) = cellsA a ++ cellsA b := List.flatMap_append
theorem cellsA_at : ∀ (qs : List Ax) (i : Nat), i < qs.length → (cellsA qs)[i * 5]? = some (.string (nm (qs.getD i ax0).1)) ∧ (cellsA qs)[i * 5 + 1]? = some (.int .i64 (kd (qs.getD i ax0).1)) ∧ (cellsA qs)[i * 5 + 2]? = some (.int .i64 (nu (qs.getD i ax0).1)) ∧
  (cellsA qs)[i * 5 + 3]? = some (.slice (qs.getD i ax0).2.1 (cd (qs.getD i ax0).1).length (qs.getD i ax0).2.2) ∧ (cellsA qs)[i * 5 + 4]? = some (.string (tx (qs.getD i ax0).1)) := by
 intro qs
 induction qs with
 | nil => intro i h; simp at h
 | cons p r ih =>
  intro i h
  rw [cellsA_cons]
  cases i with
  | zero => exact ⟨rfl, rfl, rfl, rfl, rfl⟩
  | succ i =>
   rw [show (i + 1) * 5 = i * 5 + 5 by omega, show i * 5 + 5 + 1 = (i * 5 + 1) + 5 by omega, show i * 5 + 5 + 2 = (i * 5 + 2) + 5 by omega, show i * 5 + 5 + 3 = (i * 5 + 3) + 5 by omega, show i * 5 + 5 + 4 = (i * 5 + 4) + 5 by omega]
   simpa using ih i (by simpa using h)
theorem cellsA_one (qs : List Ax) : ∀ u ∈ cellsA qs, u.oneCell' = true := by
 intro u hu
 obtain ⟨p, _, h⟩ := List.mem_flatMap.1 hu
 simp [cells5] at h
 rcases h with rfl | rfl | rfl | rfl | rfl <;> rfl
theorem cellsA_drop (qs : List Ax) (k : Nat) : (cellsA qs).drop (k * 5) = cellsA (qs.drop k) := by
 induction qs generalizing k with
 | nil => simp [cellsA]
 | cons p r ih =>
  cases k with
  | zero => simp
  | succ k => rw [cellsA_cons, show (k + 1) * 5 = k * 5 + 5 by omega]; simpa using ih k
theorem cellsA_take (qs : List Ax) (k : Nat) : (cellsA qs).take (k * 5) = cellsA (qs.take k) := by
 induction qs generalizing k with
 | nil => simp [cellsA]
 | cons p r ih =>
  cases k with
  | zero => simp [cellsA]
  | succ k => rw [cellsA_cons, show (k + 1) * 5 = k * 5 + 5 by omega]; simp [cellsA_cons, ih k]
def CdT (w : World) (q : Ax) : Prop := Codes w q.2.1 (cd q.1) ∧ TyI w q.2.1 ∧ (q.2.1 = none → q.2.2 = 0)
theorem CdT.on {w w' : World} {q : Ax} (h : CdT w q) (hB : Below w.heap.size w w') : CdT w' q := ⟨h.1.on hB, h.2.1.on hB, h.2.2⟩
theorem CdT.grown {w w' : World} {q : Ax} {g : Option Nat} (h : CdT w q) (hg : w.grownBy w' g) (ht : ∀ b, g = some b → ∃ cs T fz, w.heap[b]? = some (.cells cs T fz) ∧ T ≠ 2) : CdT w' q := by
 have hne : ∀ b o, q.2.1 = some ⟨b, o, none⟩ → w'.heap[b]? = w.heap[b]? := fun b o ha => by
  obtain ⟨cs, fz, hc⟩ := h.2.1 b o ha
  refine hg.block b (Array.getElem?_eq_some_iff.1 hc).1 fun e => ?_
  obtain ⟨cs', T, fz', hc', hne⟩ := ht b e.symm
  rw [hc] at hc'
  have hx := Option.some.inj hc'
  injection hx with _ h2
  exact hne h2.symm
 refine ⟨⟨h.1.1, fun hp => ?_⟩, fun b o ha => ?_, h.2.2⟩
 ·obtain ⟨b, o, ha, hb, hc⟩ := h.1.2 hp
  exact ⟨b, o, ha, Nat.lt_of_lt_of_le hb hg.size, fun i hi => by rw [World.cell?_of_block (w := w) (hne b o ha)]; exact hc i hi⟩
 ·obtain ⟨cs, fz, hc⟩ := h.2.1 b o ha
  exact ⟨cs, fz, by rw [hne b o ha]; exact hc⟩
def OwnR (w : World) (base : Nat) (v : Value) (qs : List Ax) : Prop := w.ownsRow base 61 5 v qs.length (cellsA qs) ∧ (∀ q ∈ qs, CdT w q) ∧ ∃ g cap, v = .slice (some ⟨g, 0, none⟩) qs.length cap
theorem OwnR.block {w : World} {base : Nat} {v : Value} {qs : List Ax} (h : OwnR w base v qs) : ∀ b, v.ownBlock = some b → ∃ cs T fz, w.heap[b]? = some (.cells cs T fz) ∧ T ≠ 2 := fun b hb => by
 obtain ⟨⟨_, hv⟩, _, g, cap, rfl⟩ := h
 rcases hv with ⟨h0, _⟩ | ⟨g', c, cur, h0, _, hg, _⟩
 ·cases h0
 ·cases h0
  cases hb
  exact ⟨cur, _, _, hg, by decide⟩
theorem OwnR.on {w w' : World} {base : Nat} {v : Value} {qs : List Ax} (h : OwnR w base v qs) (hB : Below w.heap.size w w') : OwnR w' base v qs := by
 obtain ⟨⟨h0, hv⟩, h2, h3⟩ := h
 refine ⟨⟨h0, ?_⟩, fun q hq => (h2 q hq).on hB, h3⟩
 rcases hv with h1 | ⟨g, c, cur, h1, hb, hg, hr⟩
 ·exact .inl h1
 ·exact .inr ⟨g, c, cur, h1, hb, by rw [hB.block g (Array.getElem?_eq_some_iff.1 hg).1]; exact hg, hr⟩
theorem OwnR.base {w : World} {base b : Nat} {v : Value} {qs : List Ax} (h : OwnR w base v qs) (hb : b ≤ base) : OwnR w b v qs := by
 obtain ⟨⟨h0, hv⟩, h2, h3⟩ := h
 refine ⟨⟨h0, ?_⟩, h2, h3⟩
 rcases hv with h1 | ⟨g, c, cur, h1, hg, hr⟩
 ·exact .inl h1
 ·exact .inr ⟨g, c, cur, h1, by omega, hr⟩
theorem OwnR.push {w w' : World} {base : Nat} {v v' : Value} {qs rs : List Ax} (h : OwnR w base v qs) (hr : ∀ q ∈ rs, CdT w q) {n : Nat} (hn : n = rs.length) (hown : w'.ownsRow base 61 5 v' (qs.length + n) (cellsA qs ++ cellsA rs)) (hg : w.grownBy w' v.ownBlock) (hnil : ¬ v' = .slice none 0 0) : OwnR w' base v' (qs ++ rs) := by
 subst hn
 have hown2 : w'.ownsRow base 61 5 v' (qs ++ rs).length (cellsA (qs ++ rs)) := by rw [List.length_append, cellsA_append]; exact hown
 refine ⟨hown2, fun q hq => ?_, ?_⟩
 ·rcases List.mem_append.1 hq with hq | hq
  ·exact (h.2.1 q hq).grown hg h.block
  ·exact (hr q hq).grown hg h.block
 ·rcases hown2.2 with ⟨h0, _⟩ | ⟨g', c, cur, h0, _⟩
  ·exact absurd h0 hnil
  ·exact ⟨g', c, h0⟩
theorem OwnR.five {w : World} {base g n cap : Nat} {qs : List Ax} (h : OwnR w base (.slice (some ⟨g, 0, none⟩) n cap) qs) {i : Nat} (hi : i < qs.length) : Five w g (i * 5) (qs.getD i ax0).1 (qs.getD i ax0).2.1 (qs.getD i ax0).2.2 := by
 rcases h.1.2 with ⟨h0, _⟩ | ⟨g', c, cur, h0, _, hg, _, _, hs, ht⟩
 ·cases h0
 ·cases h0
  obtain ⟨d0, d1, d2, d3, d4⟩ := cellsA_at qs i hi
  rw [← ht, List.getElem?_take, if_pos (by omega)] at d0 d1 d2 d3 d4
  unfold Five World.cell?
  simp only [hg]
  exact ⟨by simpa using d0, by simpa using d1, by simpa using d2, by simpa using d3, by simpa using d4⟩
theorem OwnR.cells {w : World} {base g n cap : Nat} {qs : List Ax} (h : OwnR w base (.slice (some ⟨g, 0, none⟩) n cap) qs) {j : Nat} {u : Value} (hj : (cellsA qs)[j]? = some u) : w.cell? ⟨g, j, none⟩ = some u := by
 have hlt : j < qs.length * 5 := by have := (List.getElem?_eq_some_iff.1 hj).1; rwa [cellsA_len] at this
 rcases h.1.2 with ⟨h0, _⟩ | ⟨g', c, cur, h0, _, hg, _, _, hs, ht⟩
 ·cases h0
 ·cases h0
  rw [← ht, List.getElem?_take, if_pos (by omega)] at hj
  unfold World.cell?
  simp only [hg]
  simpa using hj
theorem OwnR.ans {w : World} {base g n cap : Nat} {qs : List Ax} (h : OwnR w base (.slice (some ⟨g, 0, none⟩) n cap) qs) (hl : qs.length ≤ 1048576) (hf : ∀ q ∈ qs, Fit q.1) : Ans w (some ⟨g, 0, none⟩) (qs.map Prod.fst) := by
 have hge : ∀ i, i < qs.length → (qs.map Prod.fst).getD i an0 = (qs.getD i ax0).1 := fun i hi => by simp [List.getD, List.getElem?_eq_getElem hi]
 have hgm : ∀ i, i < qs.length → qs.getD i ax0 ∈ qs := fun i hi => by simp [List.getD, List.getElem?_eq_getElem hi]
 refine ⟨by simpa using hl, fun i hi => ?_, fun _ => ⟨g, 0, rfl, ?_, fun i hi => ?_⟩⟩
 ·rw [List.length_map] at hi
  rw [hge i hi]; exact hf _ (hgm i hi)
 ·obtain ⟨cs, _, fz, hc, _⟩ := h.block g rfl
  exact (Array.getElem?_eq_some_iff.1 hc).1
 ·rw [List.length_map] at hi
  rw [hge i hi, Nat.zero_add]
  obtain ⟨k1, _, k3⟩ := h.2.1 _ (hgm i hi)
  exact ⟨_, _, h.five hi, k1, k3⟩
theorem own_made (w : World) : OwnR (w.alloc (.cells #[] 61)) w.heap.size (.slice (some ⟨w.heap.size, 0, none⟩) 0 0) [] :=
 ⟨World.ownsRow_made (base := w.heap.size) (e := 61) (size := 5) w #[] 0 (Nat.le_refl _) (by unfold maxLen; omega) rfl, fun _ h => (nomatch h), _, _, rfl⟩
theorem addr_plain (b o j : Nat) : (⟨b, o, none⟩ : Addr).add j = ⟨b, o + j, none⟩ := by unfold Addr.add; split <;> simp_all
theorem take_cell {qs : List Ax} {k j : Nat} {u : Value} (h : (cellsA (qs.take k))[j]? = some u) : (cellsA qs)[j]? = some u := by
 rw [← cellsA_take, List.getElem?_take] at h
 split at h
 ·exact h
 ·cases h
theorem drop_cell {qs : List Ax} {k j : Nat} {u : Value} (h : (cellsA (qs.drop k))[j]? = some u) : (cellsA qs)[k * 5 + j]? = some u := by
 rw [← cellsA_drop, List.getElem?_drop] at h
 exact h
theorem OwnR.kept {w w' : World} {base : Nat} {v : Value} {qs : List Ax} {r : Option Nat} (h : OwnR w base v qs) (hg : w.grownBy w' r) (ht : ∀ b, r = some b → ∃ cs T fz, w.heap[b]? = some (.cells cs T fz) ∧ T ≠ 2) (hne : ∀ b, v.ownBlock = some b → r ≠ some b) : OwnR w' base v qs := by
 obtain ⟨⟨h0, hv⟩, h2, g, cap, rfl⟩ := h
 refine ⟨⟨h0, ?_⟩, fun q hq => (h2 q hq).grown hg ht, g, cap, rfl⟩
 rcases hv with h1 | ⟨g', c, cur, h1, hb, hgb, hr⟩
 ·exact .inl h1
 ·cases h1
  exact .inr ⟨g, _, cur, rfl, hb, by rw [hg.block g (Array.getElem?_eq_some_iff.1 hgb).1 (fun e => hne g rfl e.symm)]; exact hgb, hr⟩
theorem grown_set (w : World) (b j : Nat) (u : Value) : w.grownBy (w.setCell ⟨b, j, none⟩ u) (some b) := ⟨rfl, rfl, rfl, by simp, fun k _ hn => Below.heap_setCell _ _ _ _ (fun e => hn (by rw [e]))⟩
theorem OwnR.set {w : World} {base b : Nat} {v : Value} {qs : List Ax} (h : OwnR w base v qs) (hb : b < base) (ht : ∃ cs T fz, w.heap[b]? = some (.cells cs T fz) ∧ T ≠ 2) (j : Nat) (u : Value) : OwnR (w.setCell ⟨b, j, none⟩ u) base v qs :=
 h.kept (grown_set w b j u) (fun b' e => by cases e; exact ht) (fun b' hv e => by
  cases e
  have := (h.1.lt b hv).1
  omega)
theorem OwnR.room {w : World} {base g n cap : Nat} {qs : List Ax} (h : OwnR w base (.slice (some ⟨g, 0, none⟩) n cap) qs) : n = qs.length ∧ qs.length ≤ cap ∧ base ≤ g ∧ g < w.heap.size := by
 rcases h.1.2 with ⟨h0, _⟩ | ⟨g', c, cur, h0, hb, hg, hc, _⟩
 ·cases h0
 ·cases h0
  exact ⟨rfl, hc, hb, (Array.getElem?_eq_some_iff.1 hg).1⟩
theorem fst_at {qs : List Ax} {ls : List An} (h : qs.map Prod.fst = ls) {i : Nat} (hi : i < qs.length) : (qs.getD i ax0).1 = ls.getD i an0 := by
 rw [← h]
 simp [List.getD, List.getElem?_eq_getElem hi]
end Go.Proofs.YtmbhmknfipdadaaGreatDoor.AnsO
