/- Codes that may be written over. -/
import Derived.Test.YtfnimiimplphkaaRdFresh
namespace Go.Proofs.Ytfnimiimplphkaa.RdI
open Go.RowKit
open ValW

/-- codes that may be written over -/
def Free (w : World) (a : Option Addr) (zs : List Int) : Prop := ∀ b o, a = some ⟨b, o, none⟩ → ∀ i, i < zs.length → b < w.heap.size ∧ w.frozen? ⟨b, o + i, none⟩ = false
theorem Free.on {w w' : World} {a : Option Addr} {zs : List Int} (h : Free w a zs) (hB : Below w.heap.size w w') : Free w' a zs := fun b o ha i hi => by
  have := h b o ha i hi
  exact ⟨Nat.lt_of_lt_of_le this.1 hB.size, by rw [hB.frozen (p := ⟨b, o + i, none⟩) this.1]; exact this.2⟩
theorem free_nil (w : World) (a : Option Addr) : Free w a [] := fun _ _ _ i hi => absurd hi (Nat.not_lt_zero i)
theorem free_set {w : World} {a : Option Addr} {zs : List Int} (h : Free w a zs) (p : Addr) (v : Value) : Free (w.setCell p v) a zs := fun b o ha i hi => by
  have := h b o ha i hi
  exact ⟨by simpa using this.1, by simpa using this.2⟩
theorem own_free {w : World} {base n : Nat} {a : Option Addr} {cap : Nat} {zs : List Int} (h : w.ownsRow base 2 1 (.slice a zs.length cap) n (cellsI zs)) : Free w a zs := by
  rcases h.2 with ⟨h0, _⟩ | ⟨g, cap', cur, h0, _, hg, _⟩
  · have e : a = none := by injection h0
    subst e; intro b o ha; cases ha
  · have e : a = some ⟨g, 0, none⟩ := by injection h0
    subst e
    intro b o ha i _
    cases ha
    exact ⟨(Array.getElem?_eq_some_iff.1 hg).1, by simp [World.frozen?, hg]⟩
end Go.Proofs.Ytfnimiimplphkaa.RdI
