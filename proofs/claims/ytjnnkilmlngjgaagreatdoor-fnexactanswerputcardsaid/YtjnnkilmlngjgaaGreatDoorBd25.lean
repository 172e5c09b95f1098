/- Texts of ours, laid together: BookMath, OfMath, PutMath, PutCode, OfAt. -/
import Derived.Test.YtjnnkilmlngjgaaGreatDoorBd22
import Derived.Test.YtjnnkilmlngjgaaGreatDoorBd9
import Derived.Maps.OwnOps
import Derived.Maps.OwnSet
import Derived.Maps.Views
import Derived.Sort.KeysCollected
/- Names that rise are all unlike; a map that holds what it was given, value by value. -/
namespace Go.Proofs.YtjnnkilmlngjgaaGreatDoor.BookW
open Go.RowKit Go.Maps
open ValW RdS RdI AnsW

theorem less_irrefl : ∀ x : List UInt8, Op.bytesLess x x = false
  | [] => by simp [Op.bytesLess]
  | a :: x => by simp [Op.bytesLess, less_irrefl x, UInt8.lt_irrefl]
theorem less_trans : ∀ x y z : List UInt8, Op.bytesLess x y = true → Op.bytesLess y z = true → Op.bytesLess x z = true
  | _, [], _, h, _ => by rw [less_nil] at h; cases h
  | _, _ :: _, [], _, h => by rw [less_nil] at h; cases h
  | [], _ :: _, _ :: _, _, _ => by simp [Op.bytesLess]
  | a :: x, b :: y, c :: z, h1, h2 => by
    simp only [Op.bytesLess, Bool.or_eq_true, Bool.and_eq_true, decide_eq_true_eq, beq_iff_eq] at h1 h2 ⊢
    rcases h1 with h1 | ⟨rfl, h1⟩
    · rcases h2 with h2 | ⟨rfl, h2⟩
      · exact .inl (UInt8.lt_trans h1 h2)
      · exact .inl h1
    · rcases h2 with h2 | ⟨rfl, h2⟩
      · exact .inl h2
      · exact .inr ⟨rfl, less_trans x y z h1 h2⟩
theorem rise_lt {ls : List An} (h : ∀ i, i < ls.length → okA ls i = true) {i : Nat} : ∀ {j : Nat}, i < j → j < ls.length → lessB (nm (ls.getD i an0)) (nm (ls.getD j an0)) = true
  | 0, hi, _ => absurd hi (Nat.not_lt_zero _)
  | j + 1, hi, hj => by
    have hs := (okA_parts (h (j + 1) hj)).2.1 (Nat.succ_pos _)
    rw [Nat.add_sub_cancel] at hs
    by_cases e : i = j
    · rw [e]; exact hs
    · exact less_trans _ _ _ (rise_lt h (i := i) (j := j) (by omega) (by omega)) hs
theorem rise_ne {ls : List An} (h : ∀ i, i < ls.length → okA ls i = true) {i j : Nat} (hij : i < j) (hj : j < ls.length) : (nm (ls.getD i an0)).data.toList ≠ (nm (ls.getD j an0)).data.toList := fun e => by
  have := rise_lt h hij hj
  unfold lessB at this
  rw [ByteArray.toList_eq, ByteArray.toList_eq, e, less_irrefl] at this
  cases this

/-- an element reads as itself -/
def heldR (v : Value) : Option (DataW Value × List MemPlace) := some (.held v, [])
theorem key_law : Keyed Tryz.prog 9 := string_keyed Tryz.underlying9
/-- block B is a map that reads as D -/
abbrev Mp (w : World) (B n : Nat) (D : DataW Value) : Prop := w.ownsMap Tryz.prog 9 heldR B n D
theorem Mp.on {w w' : World} {B n : Nat} {D : DataW Value} (h : Mp w B n D) (hB : Below w.heap.size w w') : Mp w' B n D := by
  obtain ⟨es, clock, hb, F, hs, hD⟩ := h
  exact ⟨es, clock, by rw [hB.block B (Array.getElem?_eq_some_iff.1 hb).1]; exact hb, F, hs, hD⟩
/-- a value is a copy of the answer p, in memory from block F on that may be written over -/
def Cpy (w : World) (F : Nat) (p : An) (v : Value) : Prop := ∃ a cap, v = av (kd p) (nu p) a (cd p).length cap (tx p) ∧ Codes w a (cd p) ∧ Free w a (cd p) ∧ Fresh a F ∧ (a = none → cap = 0)
theorem Cpy.on {w w' : World} {F : Nat} {p : An} {v : Value} (h : Cpy w F p v) (hB : Below w.heap.size w w') : Cpy w' F p v := by
  obtain ⟨a, cap, h1, h2, h3, h4, h5⟩ := h
  exact ⟨a, cap, h1, h2.on hB, h3.on hB, h4, h5⟩
theorem Cpy.grown {w w' : World} {F B : Nat} {p : An} {v : Value} (h : Cpy w F p v) (hF : B < F) (hg : w.grownBy w' (some B)) : Cpy w' F p v := by
  obtain ⟨a, cap, h1, h2, h3, h4, h5⟩ := h
  refine ⟨a, cap, h1, ⟨h2.1, fun hp => ?_⟩, fun b o ha i hi => ?_, h4, h5⟩
  · obtain ⟨b, o, ha, hb, hc⟩ := h2.2 hp
    have hne : some b ≠ some B := fun e => by have := h4 b o ha; injection e; omega
    exact ⟨b, o, ha, Nat.lt_of_lt_of_le hb hg.size, fun i hi => by rw [World.cell?_of_block (w := w) (hg.block b hb hne)]; exact hc i hi⟩
  · obtain ⟨hb, hf⟩ := h3 b o ha i hi
    have hne : some b ≠ some B := fun e => by have := h4 b o ha; injection e; omega
    exact ⟨Nat.lt_of_lt_of_le hb hg.size, by rw [World.frozen?_of_block (w := w) (hg.block b hb hne)]; exact hf⟩
/-- the map D holds copies of the first k answers, by their names, and nothing else -/
def Holds (w : World) (F : Nat) (D : DataW Value) (ls : List An) (k : Nat) : Prop :=
  (∀ i, i < k → ∃ v, Cpy w F (ls.getD i an0) v ∧ ∀ z, D.atKey (.string (nm (ls.getD i an0)).data.toList) z = .held v) ∧
  ∀ s : List UInt8, (∀ i, i < k → (nm (ls.getD i an0)).data.toList ≠ s) → ∀ z, D.atKey (.string s) z = z
theorem Holds.on {w w' : World} {F : Nat} {D : DataW Value} {ls : List An} {k : Nat} (h : Holds w F D ls k) (hB : Below w.heap.size w w') : Holds w' F D ls k :=
  ⟨fun i hi => by obtain ⟨v, h1, h2⟩ := h.1 i hi; exact ⟨v, h1.on hB, h2⟩, h.2⟩
theorem holds_zero (w : World) (F : Nat) (ls : List An) : Holds w F (.map []) ls 0 := ⟨fun _ h => absurd h (Nat.not_lt_zero _), fun _ _ _ => rfl⟩
theorem Holds.put {w w' : World} {F B : Nat} {D : DataW Value} {ls : List An} {k : Nat} {v : Value} (h : Holds w F D ls k) (hM : IsMap D) (hF : B < F) (hg : w.grownBy w' (some B)) (hok : ∀ i, i < ls.length → okA ls i = true) (hk : k < ls.length) (hv : Cpy w F (ls.getD k an0) v) :
    Holds w' F (D.put (.string (nm (ls.getD k an0)).data.toList) (.held v)) ls (k + 1) := by
  refine ⟨fun i hi => ?_, fun s hs z => ?_⟩
  · by_cases e : i = k
    · subst e
      exact ⟨v, hv.grown hF hg, fun z => atKey_put_same hM (show WideAt.IsKeyLit (.string _) from trivial) _ _⟩
    · obtain ⟨u, h1, h2⟩ := h.1 i (by omega)
      refine ⟨u, h1.grown hF hg, fun z => ?_⟩
      rw [atKey_put_other (fun e => rise_ne hok (i := i) (j := k) (by omega) hk (Lit.string.inj e))]
      exact h2 z
  · rw [atKey_put_other (fun e => hs k (by omega) (Lit.string.inj e).symm)]
    exact h.2 s (fun i hi => hs i (by omega)) z
/-- the codes of a value lie in block b -/
def Blk (v : Value) (b : Nat) : Prop := ∃ k n o len cap t, v = av k n (some ⟨b, o, none⟩) len cap t ∧ 0 < len
/-- no two values have their codes in one block -/
def Apt (D : DataW Value) : Prop := ∀ (s s' : List UInt8) (v v' : Value) (b : Nat), s ≠ s' → (∀ z, D.atKey (.string s) z = .held v) → (∀ z, D.atKey (.string s') z = .held v') → Blk v b → Blk v' b → False
theorem held_inj {D : DataW Value} {k : Lit} {v u : Value} (h : ∀ z, D.atKey k z = .held v) (h' : ∀ z, D.atKey k z = .held u) : v = u := by
  have := (h (.map [])).symm.trans (h' (.map []))
  injection this
theorem apt_zero : Apt (.map []) := fun _ _ _ _ _ _ h _ _ _ => by
  have := h (.map [])
  cases this
theorem Cpy.blk {w : World} {F : Nat} {p : An} {v : Value} {b : Nat} (h : Cpy w F p v) (hb : Blk v b) : b < w.heap.size := by
  obtain ⟨a, cap, rfl, hc, _⟩ := h
  obtain ⟨k, n, o, len, c, t, hv, hl⟩ := hb
  simp only [av, Value.agg.injEq, Array.mk.injEq, List.cons.injEq, Value.slice.injEq] at hv
  obtain ⟨_, _, ⟨rfl, hl2, _⟩, _⟩ := hv
  obtain ⟨b', o', ha, hlt, _⟩ := hc.2 (by omega)
  cases ha
  exact hlt
theorem Holds.low {w : World} {F : Nat} {D : DataW Value} {ls : List An} {k : Nat} (h : Holds w F D ls k) {s : List UInt8} {v : Value} {b : Nat} (hs : ∀ z, D.atKey (.string s) z = .held v) (hb : Blk v b) : b < w.heap.size := by
  by_cases e : ∃ i, i < k ∧ (nm (ls.getD i an0)).data.toList = s
  · obtain ⟨i, hi, rfl⟩ := e
    obtain ⟨u, hu, hat⟩ := h.1 i hi
    rw [held_inj hs hat] at hb
    exact hu.blk hb
  · have := h.2 s (fun i hi e' => e ⟨i, hi, e'⟩) (.map [])
    rw [hs] at this
    cases this
theorem Apt.put {D : DataW Value} (h : Apt D) (hM : IsMap D) {s : List UInt8} {v : Value} (hn : ∀ s' v' b, (∀ z, D.atKey (.string s') z = .held v') → Blk v b → Blk v' b → False) : Apt (D.put (.string s) (.held v)) := by
  intro s1 s2 v1 v2 b hne h1 h2 hb1 hb2
  by_cases e1 : s1 = s
  · subst e1
    have hs : v1 = v := held_inj h1 (fun z => atKey_put_same hM (show WideAt.IsKeyLit (.string _) from trivial) _ _)
    subst hs
    exact hn s2 v2 b (fun z => by rw [← h2 z, atKey_put_other (fun e => hne (Lit.string.inj e).symm)]) hb1 hb2
  · by_cases e2 : s2 = s
    · subst e2
      have hs : v2 = v := held_inj h2 (fun z => atKey_put_same hM (show WideAt.IsKeyLit (.string _) from trivial) _ _)
      subst hs
      exact hn s1 v1 b (fun z => by rw [← h1 z, atKey_put_other (fun e => hne (Lit.string.inj e))]) hb2 hb1
    · exact h s1 s2 v1 v2 b hne (fun z => by rw [← h1 z, atKey_put_other (fun e => e1 (Lit.string.inj e))]) (fun z => by rw [← h2 z, atKey_put_other (fun e => e2 (Lit.string.inj e))]) hb1 hb2
/-- a book of the answers: a map at block B, what it holds from block B + 1 on -/
def Book (w : World) (B : Nat) (ls : List An) : Prop := ∃ D, Mp w B ls.length D ∧ Holds w (B + 1) D ls ls.length ∧ Apt D
theorem Book.on {w w' : World} {B : Nat} {ls : List An} (h : Book w B ls) (hB : Below w.heap.size w w') : Book w' B ls := by
  obtain ⟨D, h1, h2, h3⟩ := h
  exact ⟨D, h1.on hB, h2.on hB, h3⟩
end Go.Proofs.YtjnnkilmlngjgaaGreatDoor.BookW
/- The answer of a name. -/
namespace Go.Proofs.YtjnnkilmlngjgaaGreatDoor.AnsW
open Go.RowKit
open ValW NameW

theorem data_ne {s t : ByteArray} : s.data.toList = t.data.toList ↔ s = t := ⟨fun h => by
  have : s.data = t.data := Array.toList_inj.1 h
  exact ByteArray.ext this, fun h => by rw [h]⟩
/-- at i stands the first answer of that name -/
def Found (ls : List An) (s : ByteArray) (i : Nat) : Prop := i < ls.length ∧ nm (ls.getD i an0) = s
/-- no answer has that name -/
def Lacks (ls : List An) (s : ByteArray) : Prop := ∀ i, i < ls.length → nm (ls.getD i an0) ≠ s
theorem found_one {ls : List An} (h : rightA ls = true) {s : ByteArray} {i j : Nat} (hi : Found ls s i) (hj : Found ls s j) : i = j := by
  have hr := (rightA_at h).2
  rcases Nat.lt_trichotomy i j with hl | hl | hl
  · exact absurd (by rw [hi.2, hj.2]) (BookW.rise_ne hr hl hj.1)
  · exact hl
  · exact absurd (by rw [hi.2, hj.2]) (BookW.rise_ne hr hl hi.1)
theorem lacks_name {ls : List An} (h : rightA ls = true) {s : ByteArray} (hs : nameB s = false) : Lacks ls s := fun i hi e => by
  have := (okA_parts ((rightA_at h).2 i hi)).1
  rw [e, hs] at this
  cases this
theorem found_or (ls : List An) (s : ByteArray) : (∃ i, Found ls s i) ∨ Lacks ls s := by
  by_cases h : ∃ i, Found ls s i
  · exact .inl h
  · exact .inr fun i hi e => h ⟨i, hi, e⟩
/-- one answer is told -/
def told (ls : List An) (s : ByteArray) : An := if rightA ls = true then ((ls.find? fun p => decide (nm p = s)).getD an0) else an0
theorem find_at {ls : List An} {s : ByteArray} {i : Nat} (hi : Found ls s i) (h : rightA ls = true) : (ls.find? fun p => decide (nm p = s)).getD an0 = ls.getD i an0 := by
  cases hf : ls.find? fun p => decide (nm p = s) with
  | none =>
    have := List.find?_eq_none.1 hf (ls.getD i an0) (by
      have e : ls.getD i an0 = ls[i]'hi.1 := by simp [List.getD, List.getElem?_eq_getElem hi.1]
      rw [e]; exact List.getElem_mem _)
    exact absurd (decide_eq_true hi.2) this
  | some p =>
    have hp := List.find?_some hf
    obtain ⟨j, hj, e⟩ := List.mem_iff_getElem.1 (List.mem_of_find?_eq_some hf)
    have e2 : ls.getD j an0 = p := by simp [List.getD, List.getElem?_eq_getElem hj, e]
    have hjf : Found ls s j := ⟨hj, by rw [e2]; simpa using hp⟩
    rw [found_one h hi hjf, e2]
    rfl
theorem find_no {ls : List An} {s : ByteArray} (h : Lacks ls s) : (ls.find? fun p => decide (nm p = s)).getD an0 = an0 := by
  cases hf : ls.find? fun p => decide (nm p = s) with
  | none => rfl
  | some p =>
    have hp := List.find?_some hf
    obtain ⟨j, hj, e⟩ := List.mem_iff_getElem.1 (List.mem_of_find?_eq_some hf)
    have e2 : ls.getD j an0 = p := by simp [List.getD, List.getElem?_eq_getElem hj, e]
    exact absurd (by rw [e2]; simpa using hp) (h j hj)
theorem told_found {ls : List An} {s : ByteArray} {i : Nat} (h : rightA ls = true) (hi : Found ls s i) : told ls s = ls.getD i an0 := by
  unfold told; rw [if_pos h, find_at hi h]
theorem told_lacks {ls : List An} {s : ByteArray} (h : Lacks ls s) : told ls s = an0 := by
  unfold told
  split
  · exact find_no h
  · rfl
theorem told_wrong {ls : List An} {s : ByteArray} (h : rightA ls = false) : told ls s = an0 := by
  unfold told; rw [h]; rfl
end Go.Proofs.YtjnnkilmlngjgaaGreatDoor.AnsW
/- An answer put among others that rise by their names. -/
namespace Go.Proofs.YtjnnkilmlngjgaaGreatDoor.AnsW
open Go.RowKit
open ValW ValK NameW

theorem lessB_irrefl (x : ByteArray) : lessB x x = false := BookW.less_irrefl _
theorem lessB_trans {x y z : ByteArray} (h : lessB x y = true) (k : lessB y z = true) : lessB x z = true := BookW.less_trans _ _ _ h k
theorem bytes_eq {x y : ByteArray} (h : x.toList = y.toList) : x = y := by
  rw [ByteArray.toList_eq, ByteArray.toList_eq] at h
  exact data_ne.1 h
theorem lessB_of {x y : ByteArray} (h : lessB x y = false) (k : x ≠ y) : lessB y x = true := by
  have := less_or x.toList y.toList
  unfold lessB at h ⊢
  rw [h, Bool.false_or] at this
  have hne : (x.toList == y.toList) = false := by rw [beq_eq_false_iff_ne]; exact fun e => k (bytes_eq e)
  rw [hne] at this
  cases hb : Op.bytesLess y.toList x.toList
  · rw [hb] at this; cases this
  · rfl
/-- the answers rise by their names -/
def Ris (ls : List An) : Prop := ls.Pairwise fun p q => lessB (nm p) (nm q) = true
/-- name and value are right -/
def good (p : An) : Bool := nameB (nm p) && answeredB (kd p) (nu p) (cd p) (tx p)
theorem getD_mem {ls : List An} {i : Nat} (h : i < ls.length) : ls.getD i an0 ∈ ls := by
  rw [List.getD_eq_getElem?_getD, List.getElem?_eq_getElem h]
  exact List.getElem_mem h
theorem getD_at {ls : List An} {i : Nat} (h : i < ls.length) : ls.getD i an0 = ls[i]'h := by
  rw [List.getD_eq_getElem?_getD, List.getElem?_eq_getElem h]; rfl
theorem right_ris {ls : List An} (h : rightA ls = true) : ls.length ≤ 30 ∧ Ris ls ∧ ∀ p ∈ ls, good p = true := by
  obtain ⟨h1, h2⟩ := rightA_at h
  refine ⟨h1, ?_, fun p hp => ?_⟩
  · refine List.pairwise_iff_getElem.2 fun i j hi hj hij => ?_
    have := BookW.rise_lt h2 hij hj
    rw [getD_at hi, getD_at hj] at this
    exact this
  · obtain ⟨i, hi, rfl⟩ := List.mem_iff_getElem.1 hp
    obtain ⟨a, _, b⟩ := okA_parts (h2 i hi)
    rw [getD_at hi] at a b
    unfold good
    rw [a, b]; rfl
theorem ris_right {ls : List An} (h1 : ls.length ≤ 30) (h2 : Ris ls) (h3 : ∀ p ∈ ls, good p = true) : rightA ls = true := by
  refine rightA_yes h1 fun i hi => ?_
  have hg := h3 _ (getD_mem hi)
  unfold good at hg
  rw [Bool.and_eq_true] at hg
  unfold okA
  rw [hg.1, hg.2]
  by_cases h0 : i = 0
  · simp [h0]
  · have := List.pairwise_iff_getElem.1 h2 (i - 1) i (by omega) hi (by omega)
    rw [← getD_at, ← getD_at] at this
    rw [this]; simp
def putA : List An → An → List An
  | [], p => [p]
  | q :: r, p => if lessB (nm q) (nm p) = true then q :: putA r p else if nm q = nm p then p :: r else p :: q :: r
theorem putA_mem {p : An} : ∀ {ls : List An}, Ris ls → ∀ q, q ∈ putA ls p ↔ q = p ∨ (q ∈ ls ∧ nm q ≠ nm p)
  | [], _, q => by simp [putA]
  | x :: r, h, q => by
    obtain ⟨hx, hr⟩ := List.pairwise_cons.1 h
    have ih := putA_mem (p := p) hr q
    unfold putA
    split
    · rename_i hl
      have hne : nm x ≠ nm p := fun e => by rw [e, lessB_irrefl] at hl; cases hl
      simp only [List.mem_cons, ih]
      constructor
      · rintro (rfl | h | ⟨h1, h2⟩)
        · exact .inr ⟨.inl rfl, hne⟩
        · exact .inl h
        · exact .inr ⟨.inr h1, h2⟩
      · rintro (h | ⟨h1 | h1, h2⟩)
        · exact .inr (.inl h)
        · exact .inl h1
        · exact .inr (.inr ⟨h1, h2⟩)
    · rename_i hl
      have hlf : lessB (nm x) (nm p) = false := by simpa using hl
      split
      · rename_i he
        simp only [List.mem_cons]
        constructor
        · rintro (h | h)
          · exact .inl h
          · refine .inr ⟨.inr h, fun e => ?_⟩
            have := hx q h
            rw [he, e, lessB_irrefl] at this
            cases this
        · rintro (h | ⟨h1 | h1, h2⟩)
          · exact .inl h
          · rw [h1] at h2; exact absurd he h2
          · exact .inr h1
      · rename_i he
        have hpx := lessB_of hlf he
        simp only [List.mem_cons]
        constructor
        · rintro (h | h | h)
          · exact .inl h
          · exact .inr ⟨.inl h, by rw [h]; exact he⟩
          · refine .inr ⟨.inr h, fun e => ?_⟩
            have := lessB_trans hpx (hx q h)
            rw [e, lessB_irrefl] at this
            cases this
        · rintro (h | ⟨h1 | h1, h2⟩)
          · exact .inl h
          · exact .inr (.inl h1)
          · exact .inr (.inr h1)
theorem putA_ris {p : An} : ∀ {ls : List An}, Ris ls → Ris (putA ls p)
  | [], _ => List.pairwise_singleton _ _
  | x :: r, h => by
    obtain ⟨hx, hr⟩ := List.pairwise_cons.1 h
    unfold putA
    split
    · rename_i hl
      refine List.pairwise_cons.2 ⟨fun q hq => ?_, putA_ris hr⟩
      rcases (putA_mem hr q).1 hq with rfl | ⟨h1, _⟩
      · exact hl
      · exact hx q h1
    · rename_i hl
      have hlf : lessB (nm x) (nm p) = false := by simpa using hl
      split
      · rename_i he
        exact List.pairwise_cons.2 ⟨fun q hq => by have := hx q hq; rw [he] at this; exact this, hr⟩
      · rename_i he
        have hpx := lessB_of hlf he
        refine List.pairwise_cons.2 ⟨fun q hq => ?_, h⟩
        rcases List.mem_cons.1 hq with rfl | hq
        · exact hpx
        · exact lessB_trans hpx (hx q hq)
/-- some answer has that name -/
def hasA (ls : List An) (s : ByteArray) : Bool := ls.any fun q => decide (nm q = s)
theorem hasA_iff {ls : List An} {s : ByteArray} : hasA ls s = true ↔ ∃ i, Found ls s i := by
  unfold hasA
  rw [List.any_eq_true]
  constructor
  · rintro ⟨q, hq, he⟩
    obtain ⟨i, hi, rfl⟩ := List.mem_iff_getElem.1 hq
    exact ⟨i, hi, by rw [getD_at hi]; exact of_decide_eq_true he⟩
  · rintro ⟨i, hi, he⟩
    exact ⟨_, getD_mem hi, decide_eq_true he⟩
theorem hasA_no {ls : List An} {s : ByteArray} : hasA ls s = false ↔ Lacks ls s := by
  rw [← Bool.not_eq_true, hasA_iff]
  exact ⟨fun h i hi e => h ⟨i, hi, e⟩, fun h ⟨i, hi, e⟩ => h i hi e⟩
theorem putA_len {p : An} : ∀ {ls : List An}, Ris ls → (putA ls p).length = if hasA ls (nm p) = true then ls.length else ls.length + 1
  | [], _ => by simp [putA, hasA]
  | x :: r, h => by
    obtain ⟨hx, hr⟩ := List.pairwise_cons.1 h
    have ih := putA_len (p := p) hr
    unfold putA
    split
    · rename_i hl
      have hne : nm x ≠ nm p := fun e => by rw [e, lessB_irrefl] at hl; cases hl
      have e : hasA (x :: r) (nm p) = hasA r (nm p) := by unfold hasA; rw [List.any_cons, decide_eq_false hne, Bool.false_or]
      rw [e, List.length_cons, ih]
      split <;> simp
    · rename_i hl
      have hlf : lessB (nm x) (nm p) = false := by simpa using hl
      split
      · rename_i he
        have e : hasA (x :: r) (nm p) = true := by unfold hasA; rw [List.any_cons, decide_eq_true he, Bool.true_or]
        rw [e]; simp
      · rename_i he
        have hpx := lessB_of hlf he
        have e : hasA (x :: r) (nm p) = false := by
          rw [← Bool.not_eq_true]
          intro ht
          unfold hasA at ht
          rw [List.any_cons, decide_eq_false he, Bool.false_or, List.any_eq_true] at ht
          obtain ⟨q, hq, hqe⟩ := ht
          have := lessB_trans hpx (hx q hq)
          rw [of_decide_eq_true hqe, lessB_irrefl] at this
          cases this
        rw [e]; simp
theorem putA_right {ls : List An} {p : An} (h : rightA ls = true) (hp : good p = true) (hl : ls.length < 30 ∨ hasA ls (nm p) = true) : rightA (putA ls p) = true := by
  obtain ⟨h1, h2, h3⟩ := right_ris h
  refine ris_right ?_ (putA_ris h2) fun q hq => ?_
  · rw [putA_len h2]
    split
    · exact h1
    · rename_i hn
      rcases hl with hl | hl
      · omega
      · exact absurd hl hn
  · rcases (putA_mem h2 q).1 hq with rfl | ⟨h, _⟩
    · exact hp
    · exact h3 q h
/-- what is told of a name behind it -/
theorem told_mem {ls : List An} {q : An} (h : rightA ls = true) (hq : q ∈ ls) : told ls (nm q) = q := by
  obtain ⟨i, hi, rfl⟩ := List.mem_iff_getElem.1 hq
  have hf : Found ls (nm ls[i]) i := ⟨hi, by rw [getD_at hi]⟩
  rw [told_found h hf, getD_at hi]
theorem told_put {ls : List An} {p : An} {s : ByteArray} (h : rightA ls = true) (h' : rightA (putA ls p) = true) (hs : s ≠ nm p) : told (putA ls p) s = told ls s := by
  have hR := (right_ris h).2.1
  rcases found_or ls s with ⟨i, hi⟩ | hl
  · rw [told_found h hi]
    have hm : ls.getD i an0 ∈ putA ls p := (putA_mem hR _).2 (.inr ⟨getD_mem hi.1, by rw [hi.2]; exact hs⟩)
    have := told_mem h' hm
    rw [hi.2] at this
    exact this
  · rw [told_lacks hl]
    refine told_lacks fun i hi e => ?_
    rcases (putA_mem hR _).1 (getD_mem hi) with e2 | ⟨e2, _⟩
    · rw [e2] at e; exact hs e.symm
    · obtain ⟨j, hj, e3⟩ := List.mem_iff_getElem.1 e2
      exact hl j hj (by rw [getD_at hj, e3]; exact e)
/-- how many answers lie ahead of a name -/
def ahd : List An → ByteArray → Nat
  | [], _ => 0
  | q :: r, s => if lessB (nm q) s = true then ahd r s + 1 else 0
theorem ahd_le (s : ByteArray) : ∀ ls : List An, ahd ls s ≤ ls.length
  | [] => Nat.le_refl _
  | q :: r => by unfold ahd; split <;> simp [ahd_le s r]
theorem ahd_lt (s : ByteArray) : ∀ (ls : List An) (i : Nat), i < ahd ls s → lessB (nm (ls.getD i an0)) s = true
  | [], i, h => absurd h (Nat.not_lt_zero i)
  | q :: r, i, h => by
    unfold ahd at h
    split at h
    · rename_i hl
      cases i with
      | zero => exact hl
      | succ i => rw [List.getD_cons_succ]; exact ahd_lt s r i (by omega)
    · exact absurd h (Nat.not_lt_zero i)
theorem ahd_not (s : ByteArray) : ∀ (ls : List An), ahd ls s < ls.length → lessB (nm (ls.getD (ahd ls s) an0)) s = false
  | [], h => absurd h (Nat.not_lt_zero _)
  | q :: r, h => by
    unfold ahd at h ⊢
    split at h
    · rename_i hl
      rw [if_pos hl, List.getD_cons_succ]
      exact ahd_not s r (by simpa using h)
    · rename_i hl
      rw [if_neg hl]
      show lessB (nm q) s = false
      simpa using hl
/-- the place is the first from which no name is less -/
theorem ahd_is {ls : List An} {s : ByteArray} {k : Nat} (hk : k ≤ ls.length) (h1 : ∀ i, i < k → lessB (nm (ls.getD i an0)) s = true) (h2 : k < ls.length → lessB (nm (ls.getD k an0)) s = false) : ahd ls s = k := by
  rcases Nat.lt_trichotomy (ahd ls s) k with h | h | h
  · have := ahd_not s ls (by omega)
    rw [h1 _ h] at this; cases this
  · exact h
  · have := ahd_lt s ls k h
    rw [h2 (by have := ahd_le s ls; omega)] at this; cases this
theorem putA_split {p : An} : ∀ ls : List An, putA ls p = ls.take (ahd ls (nm p)) ++ [p] ++ ls.drop (ahd ls (nm p) + if ahd ls (nm p) < ls.length ∧ nm (ls.getD (ahd ls (nm p)) an0) = nm p then 1 else 0)
  | [] => by simp [putA, ahd]
  | q :: r => by
    have ih := putA_split (p := p) r
    unfold putA ahd
    by_cases hl : lessB (nm q) (nm p) = true
    · rw [if_pos hl, if_pos hl, List.take_succ_cons, ih]
      simp only [List.length_cons, List.getD_cons_succ, Nat.add_lt_add_iff_right, List.cons_append]
      congr 2
      rw [show ∀ a b : Nat, a + 1 + b = a + b + 1 by omega, List.drop_succ_cons]
    · rw [if_neg hl, if_neg hl]
      by_cases he : nm q = nm p
      · rw [if_pos he, if_pos ⟨by simp, he⟩]; simp
      · rw [if_neg he, if_neg (fun h => he h.2)]; simp
end Go.Proofs.YtjnnkilmlngjgaaGreatDoor.AnsW
/- What AnswerPut says, as a plain function; the two blocks that a call of it lays. -/
namespace Go.Proofs.YtjnnkilmlngjgaaGreatDoor.AnsW
open Go.RowKit
open ValW ValK NameW

/-- the code of AnswerPut -/
def putCode (ls : List An) (p : An) : Int :=
  if 400 < ls.length ∨ 8000 < (nm p).size then 2 else if rightA ls = true ∧ good p = true then (if ls.length < 30 ∨ hasA ls (nm p) = true then 0 else 9) else 1
theorem code_size {ls : List An} {p : An} (h : 400 < ls.length ∨ 8000 < (nm p).size) : putCode ls p = 2 := if_pos h
theorem code_form {ls : List An} {p : An} (h : ¬ (400 < ls.length ∨ 8000 < (nm p).size)) (hr : ¬ (rightA ls = true ∧ good p = true)) : putCode ls p = 1 := by unfold putCode; rw [if_neg h, if_neg hr]
theorem good_name {p : An} (h : good p = true) : nameB (nm p) = true ∧ answeredB (kd p) (nu p) (cd p) (tx p) = true := by unfold good at h; rwa [Bool.and_eq_true] at h
theorem code_ok {ls : List An} {p : An} (hr : rightA ls = true) (hg : good p = true) (hl : ls.length < 30 ∨ hasA ls (nm p) = true) : putCode ls p = 0 := by
  have h1 := (right_ris hr).1
  have h2 : (nm p).size ≤ 20 := (of_decide_eq_true (good_name hg).1).2.1
  unfold putCode
  rw [if_neg (by omega), if_pos ⟨hr, hg⟩, if_pos hl]
theorem code_full {ls : List An} {p : An} (hr : rightA ls = true) (hg : good p = true) (hl : ¬ (ls.length < 30 ∨ hasA ls (nm p) = true)) : putCode ls p = 9 := by
  have h1 := (right_ris hr).1
  have h2 : (nm p).size ≤ 20 := (of_decide_eq_true (good_name hg).1).2.1
  unfold putCode
  rw [if_neg (by omega), if_pos ⟨hr, hg⟩, if_neg hl]
theorem code_zero {ls : List An} {p : An} (h : putCode ls p = 0) : rightA ls = true ∧ good p = true ∧ (ls.length < 30 ∨ hasA ls (nm p) = true) := by
  unfold putCode at h
  split at h
  · cases h
  · split at h
    · rename_i h2
      split at h
      · rename_i h3; exact ⟨h2.1, h2.2, h3⟩
      · cases h
    · cases h
/-- a value of its own, and the result, in the two blocks behind w -/
def Fr (w w1 : World) (x n : Int) (ai : Option Addr) (len ci : Nat) (t : ByteArray) : Prop :=
  w1.heap[w.heap.size]? = some (.cells #[.int .i64 x, .int .i64 n, .slice ai len ci, .string t] 33 (0, 0)) ∧ w1.heap[w.heap.size + 1]? = some (.cells #[.slice none 0 0, .int .i64 0] 30 (0, 0))
theorem Fr.laid (w : World) (x n : Int) (ai : Option Addr) (len ci : Nat) (t : ByteArray) : Fr w ((w.alloc (.cells #[.int .i64 x, .int .i64 n, .slice ai len ci, .string t] 33)).alloc (.cells #[.slice none 0 0, .int .i64 0] 30)) x n ai len ci t := by
  constructor
  · rw [Below.heap_alloc _ _ _ (by simp)]; exact heap_alloc_new w _
  · have := heap_alloc_new (w.alloc (.cells #[.int .i64 x, .int .i64 n, .slice ai len ci, .string t] 33)) (.cells #[.slice none 0 0, .int .i64 0] 30)
    simpa using this
theorem Fr.on {w w1 w2 : World} {x n : Int} {ai : Option Addr} {len ci : Nat} {t : ByteArray} (h : Fr w w1 x n ai len ci t) (hB : Below w1.heap.size w1 w2) : Fr w w2 x n ai len ci t :=
  ⟨by rw [hB.block _ (Array.getElem?_eq_some_iff.1 h.1).1]; exact h.1, by rw [hB.block _ (Array.getElem?_eq_some_iff.1 h.2).1]; exact h.2⟩
theorem Fr.cells {w w1 : World} {x n : Int} {ai : Option Addr} {len ci : Nat} {t : ByteArray} (h : Fr w w1 x n ai len ci t) : w1.cell? ⟨w.heap.size, 0, none⟩ = some (.int .i64 x) ∧ w1.cell? ⟨w.heap.size, 1, none⟩ = some (.int .i64 n) ∧ w1.cell? ⟨w.heap.size, 2, none⟩ = some (.slice ai len ci) ∧ w1.cell? ⟨w.heap.size, 3, none⟩ = some (.string t) ∧
    w1.cell? ⟨w.heap.size + 1, 0, none⟩ = some (.slice none 0 0) ∧ w1.cell? ⟨w.heap.size + 1, 1, none⟩ = some (.int .i64 0) ∧ (∀ j, w1.frozen? ⟨w.heap.size + 1, j, none⟩ = false) ∧ w.heap.size + 1 < w1.heap.size := by
  refine ⟨?_, ?_, ?_, ?_, ?_, ?_, fun j => ?_, (Array.getElem?_eq_some_iff.1 h.2).1⟩
  · simp [World.cell?, h.1]
  · simp [World.cell?, h.1]
  · simp [World.cell?, h.1]
  · simp [World.cell?, h.1]
  · simp [World.cell?, h.2]
  · simp [World.cell?, h.2]
  · simp [World.frozen?, h.2]
theorem fr_below (w : World) (x n : Int) (ai : Option Addr) (len ci : Nat) (t : ByteArray) : Below w.heap.size w ((w.alloc (.cells #[.int .i64 x, .int .i64 n, .slice ai len ci, .string t] 33)).alloc (.cells #[.slice none 0 0, .int .i64 0] 30)) := ((Below.refl _ _).alloc (Nat.le_refl _) _).alloc (by simp) _
theorem Fr.ty {w w1 : World} {x n : Int} {ai : Option Addr} {len ci : Nat} {t : ByteArray} (h : Fr w w1 x n ai len ci t) : ∃ cs T fz, w1.heap[w.heap.size + 1]? = some (.cells cs T fz) ∧ T ≠ 2 := ⟨_, _, _, h.2, by decide⟩
end Go.Proofs.YtjnnkilmlngjgaaGreatDoor.AnsW
/- The answer of a name, as the model looks for it. -/
namespace Go.Proofs.YtjnnkilmlngjgaaGreatDoor.AnsW
open Go.RowKit
open ValW NameW RdS

set_option maxRecDepth 10000 in
set_option maxHeartbeats 800000 in
theorem spec_at (a : Option Addr) (cap : Nat) (ls : List An) (s : ByteArray) (w : World) (hc : Ans w a ls) :
    Calls Tryz.prog 22 #[.slice a ls.length cap, .string s] w fun e w' => ((∃ i, Found ls s i ∧ e = .returned (.int .i64 (i : Int))) ∨ (Lacks ls s ∧ e = .returned (.int .i64 (-1)))) ∧ Below w.heap.size w w' := by
  have HC : Hid (Ans w a ls) := hc
  have hl := hc.1
  clear hc
  go_enter Tryz.func22, Tryz.ntmps22
  go_wp2
  go_loopw [5] (fun i wr => ∃ k : Nat, k ≤ ls.length ∧ i = .int .i64 k ∧ Hid (∀ j, j < k → nm (ls.getD j an0) ≠ s) ∧ Below w.heap.size w wr) (fun i _ => ls.length - (intOf i).toNat)
  case atStart => exact ⟨0, Nat.zero_le _, rfl, fun _ h => absurd h (Nat.not_lt_zero _), Below.refl _ _⟩
  case round =>
    obtain ⟨k, hk, rfl, hno, hbel⟩ := hrel
    by_cases hlt : k < ls.length
    · obtain ⟨_, b, o, ai, ci, rfl, hb, ⟨c0, _, _, _, _⟩, _⟩ := HC.out.at hbel hlt
      have hyes : nm (ls.getD k an0) = s → Found ls s k := fun e => ⟨hlt, e⟩
      have hnx : nm (ls.getD k an0) ≠ s → ∀ j, j < k + 1 → nm (ls.getD j an0) ≠ s := fun h j hj => by
        by_cases e : j = k
        · rw [e]; exact h
        · exact hno.out j (by omega)
      generalize nm (ls.getD k an0) = u at c0 hyes hnx
      have HY := hid hyes
      have HN := hid hnx
      clear hno hyes hnx
      by_cases he : u = s
      · have hb1 : (u.toList == s.toList) = true := by rw [he]; exact beq_self_eq_true _
        have HE := hid he
        clear he
        go_wp2
        go_ret
        exact ⟨.inl ⟨k, HY.out HE.out, rfl⟩, hbel⟩
      · have hb1 : (u.toList == s.toList) = false := by
          rw [beq_eq_false_iff_ne]
          intro h
          rw [ByteArray.toList_eq, ByteArray.toList_eq] at h
          exact he (data_ne.1 h)
        have HE := hid he
        clear he
        go_wp2
        refine ⟨⟨k + 1, by omega, by go_num, HN.out HE.out, hbel⟩, by simp [intOf]; omega⟩
    · obtain rfl : k = ls.length := by omega
      go_wp2
      go_ret
      exact ⟨.inr ⟨hno.out, rfl⟩, hbel⟩

end Go.Proofs.YtjnnkilmlngjgaaGreatDoor.AnsW
