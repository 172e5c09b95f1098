/- Names that rise are all unlike; a map that holds what it was given, value by value. -/
import Derived.Test.YtfnimiimplphkaaAnsMath
import Derived.Test.YtfnimiimplphkaaRdFree
import Derived.Maps.OwnOps
import Derived.Maps.OwnSet
import Derived.Maps.Views
namespace Go.Proofs.Ytfnimiimplphkaa.BookW
open Go.RowKit Go.Maps
open ValW RdS RdI AnsW

theorem less_irrefl : ∀ x : List UInt8, Op.bytesLess x x = false
  | [] => by simp [Op.bytesLess]
  | a :: x => by simp [Op.bytesLess, less_irrefl x, UInt8.lt_irrefl]
theorem less_trans : ∀ x y z : List UInt8, Op.bytesLess x y = true → Op.bytesLess y z = true → Op.bytesLess x z = true
  | _, [], _, h, _ => by rw [less_nil] at h; cases h
  | _, _ :: _, [], _, h => by rw [less_nil] at h; cases h
  | [], _ :: _, _ :: _, _, _ => by simp [Op.bytesLess]
  | a :: x, b :: y, c :: z, h1, h2 => by
    simp only [Op.bytesLess, Bool.or_eq_true, Bool.and_eq_true, decide_eq_true_eq, beq_iff_eq] at h1 h2 ⊢
    rcases h1 with h1 | ⟨rfl, h1⟩
    · rcases h2 with h2 | ⟨rfl, h2⟩
      · exact .inl (UInt8.lt_trans h1 h2)
      · exact .inl h1
    · rcases h2 with h2 | ⟨rfl, h2⟩
      · exact .inl h2
      · exact .inr ⟨rfl, less_trans x y z h1 h2⟩
theorem rise_lt {ls : List An} (h : ∀ i, i < ls.length → okA ls i = true) {i : Nat} : ∀ {j : Nat}, i < j → j < ls.length → lessB (nm (ls.getD i an0)) (nm (ls.getD j an0)) = true
  | 0, hi, _ => absurd hi (Nat.not_lt_zero _)
  | j + 1, hi, hj => by
    have hs := (okA_parts (h (j + 1) hj)).2.1 (Nat.succ_pos _)
    rw [Nat.add_sub_cancel] at hs
    by_cases e : i = j
    · rw [e]; exact hs
    · exact less_trans _ _ _ (rise_lt h (i := i) (j := j) (by omega) (by omega)) hs
theorem rise_ne {ls : List An} (h : ∀ i, i < ls.length → okA ls i = true) {i j : Nat} (hij : i < j) (hj : j < ls.length) : (nm (ls.getD i an0)).data.toList ≠ (nm (ls.getD j an0)).data.toList := fun e => by
  have := rise_lt h hij hj
  unfold lessB at this
  rw [ByteArray.toList_eq, ByteArray.toList_eq, e, less_irrefl] at this
  cases this

/-- an element reads as itself -/
def heldR (v : Value) : Option (DataW Value × List MemPlace) := some (.held v, [])
theorem key_law : Keyed Try.prog 9 := string_keyed Try.underlying9
/-- block B is a map that reads as D -/
abbrev Mp (w : World) (B n : Nat) (D : DataW Value) : Prop := w.ownsMap Try.prog 9 heldR B n D
theorem Mp.on {w w' : World} {B n : Nat} {D : DataW Value} (h : Mp w B n D) (hB : Below w.heap.size w w') : Mp w' B n D := by
  obtain ⟨es, clock, hb, F, hs, hD⟩ := h
  exact ⟨es, clock, by rw [hB.block B (Array.getElem?_eq_some_iff.1 hb).1]; exact hb, F, hs, hD⟩
/-- a value is a copy of the answer p, in memory from block F on that may be written over -/
def Cpy (w : World) (F : Nat) (p : An) (v : Value) : Prop := ∃ a cap, v = av (kd p) (nu p) a (cd p).length cap (tx p) ∧ Codes w a (cd p) ∧ Free w a (cd p) ∧ Fresh a F
theorem Cpy.on {w w' : World} {F : Nat} {p : An} {v : Value} (h : Cpy w F p v) (hB : Below w.heap.size w w') : Cpy w' F p v := by
  obtain ⟨a, cap, h1, h2, h3, h4⟩ := h
  exact ⟨a, cap, h1, h2.on hB, h3.on hB, h4⟩
theorem Cpy.grown {w w' : World} {F B : Nat} {p : An} {v : Value} (h : Cpy w F p v) (hF : B < F) (hg : w.grownBy w' (some B)) : Cpy w' F p v := by
  obtain ⟨a, cap, h1, h2, h3, h4⟩ := h
  refine ⟨a, cap, h1, ⟨h2.1, fun hp => ?_⟩, fun b o ha i hi => ?_, h4⟩
  · obtain ⟨b, o, ha, hb, hc⟩ := h2.2 hp
    have hne : some b ≠ some B := fun e => by have := h4 b o ha; injection e; omega
    exact ⟨b, o, ha, Nat.lt_of_lt_of_le hb hg.size, fun i hi => by rw [World.cell?_of_block (w := w) (hg.block b hb hne)]; exact hc i hi⟩
  · obtain ⟨hb, hf⟩ := h3 b o ha i hi
    have hne : some b ≠ some B := fun e => by have := h4 b o ha; injection e; omega
    exact ⟨Nat.lt_of_lt_of_le hb hg.size, by rw [World.frozen?_of_block (w := w) (hg.block b hb hne)]; exact hf⟩
/-- the map D holds copies of the first k answers, by their names, and nothing else -/
def Holds (w : World) (F : Nat) (D : DataW Value) (ls : List An) (k : Nat) : Prop :=
  (∀ i, i < k → ∃ v, Cpy w F (ls.getD i an0) v ∧ ∀ z, D.atKey (.string (nm (ls.getD i an0)).data.toList) z = .held v) ∧
  ∀ s : List UInt8, (∀ i, i < k → (nm (ls.getD i an0)).data.toList ≠ s) → ∀ z, D.atKey (.string s) z = z
theorem Holds.on {w w' : World} {F : Nat} {D : DataW Value} {ls : List An} {k : Nat} (h : Holds w F D ls k) (hB : Below w.heap.size w w') : Holds w' F D ls k :=
  ⟨fun i hi => by obtain ⟨v, h1, h2⟩ := h.1 i hi; exact ⟨v, h1.on hB, h2⟩, h.2⟩
theorem holds_zero (w : World) (F : Nat) (ls : List An) : Holds w F (.map []) ls 0 := ⟨fun _ h => absurd h (Nat.not_lt_zero _), fun _ _ _ => rfl⟩
theorem Holds.put {w w' : World} {F B : Nat} {D : DataW Value} {ls : List An} {k : Nat} {v : Value} (h : Holds w F D ls k) (hM : IsMap D) (hF : B < F) (hg : w.grownBy w' (some B)) (hok : ∀ i, i < ls.length → okA ls i = true) (hk : k < ls.length) (hv : Cpy w F (ls.getD k an0) v) :
    Holds w' F (D.put (.string (nm (ls.getD k an0)).data.toList) (.held v)) ls (k + 1) := by
  refine ⟨fun i hi => ?_, fun s hs z => ?_⟩
  · by_cases e : i = k
    · subst e
      exact ⟨v, hv.grown hF hg, fun z => atKey_put_same hM (show WideAt.IsKeyLit (.string _) from trivial) _ _⟩
    · obtain ⟨u, h1, h2⟩ := h.1 i (by omega)
      refine ⟨u, h1.grown hF hg, fun z => ?_⟩
      rw [atKey_put_other (fun e => rise_ne hok (i := i) (j := k) (by omega) hk (Lit.string.inj e))]
      exact h2 z
  · rw [atKey_put_other (fun e => hs k (by omega) (Lit.string.inj e).symm)]
    exact h.2 s (fun i hi => hs i (by omega)) z
/-- a book of the answers: a map at block B, what it holds from block B + 1 on -/
def Book (w : World) (B : Nat) (ls : List An) : Prop := ∃ D, Mp w B ls.length D ∧ Holds w (B + 1) D ls ls.length
theorem Book.on {w w' : World} {B : Nat} {ls : List An} (h : Book w B ls) (hB : Below w.heap.size w w') : Book w' B ls := by
  obtain ⟨D, h1, h2⟩ := h
  exact ⟨D, h1.on hB, h2.on hB⟩
end Go.Proofs.Ytfnimiimplphkaa.BookW
