/- Four cells that lie in a block, as an answer does behind its pointer. -/
import Derived.Test.YtbhblnpehhaiiaaDoorValCore
namespace Go.Proofs.YtbhblnpehhaiiaaDoor.ValI
open Go.RowKit

/-- four cells that lie in a block -/
def At4 (w : World) (b : Nat) (v0 v1 v2 v3 : Value) : Prop := w.cell? ⟨b, 0, none⟩ = some v0 ∧ w.cell? ⟨b, 1, none⟩ = some v1 ∧ w.cell? ⟨b, 2, none⟩ = some v2 ∧ w.cell? ⟨b, 3, none⟩ = some v3 ∧ b < w.heap.size
theorem At4.on {w w' : World} {b : Nat} {v0 v1 v2 v3 : Value} (h : At4 w b v0 v1 v2 v3) (hB : Below w.heap.size w w') : At4 w' b v0 v1 v2 v3 := by
  obtain ⟨h0, h1, h2, h3, hb⟩ := h
  exact ⟨by rw [hB.cell (p := ⟨b, 0, none⟩) hb]; exact h0, by rw [hB.cell (p := ⟨b, 1, none⟩) hb]; exact h1, by rw [hB.cell (p := ⟨b, 2, none⟩) hb]; exact h2, by rw [hB.cell (p := ⟨b, 3, none⟩) hb]; exact h3, Nat.lt_of_lt_of_le hb hB.size⟩
theorem At4.laid (w : World) (T : TypeId) (v0 v1 v2 v3 : Value) : At4 (w.alloc (.cells #[v0, v1, v2, v3] T)) w.heap.size v0 v1 v2 v3 := ⟨by simp, by simp, by simp, by simp, by simp⟩
end Go.Proofs.YtbhblnpehhaiiaaDoor.ValI
