/- Texts of ours, laid together: FlsSp. -/
import Derived.Test.YtaofdckdmffaiaaGreatDoorBd17
import Derived.Test.YtaofdckdmffaiaaGreatDoorBd25
import Derived.Maps.AppendAt
/- FieldsOf of the model. -/
namespace Go.Proofs.YtaofdckdmffaiaaGreatDoor.FlsS
open Go.RowKit
open PrtW PrtM NameW ItmW ItmM FrmM FlsM
open StrW hiding hid
open FrmS (spec_form)

theorem own_below {w w' : World} {base : Nat} {v : Value} {n : Nat} {xs : List Value} (h : w.ownsRow base 9 1 v n xs) (hB : Below w.heap.size w w') : w'.ownsRow base 9 1 v n xs := by
  obtain ⟨h1, h2⟩ := h
  refine ⟨h1, ?_⟩
  rcases h2 with h2 | ⟨g, cap, cur, hv, hb, hg, r⟩
  · exact .inl h2
  · exact .inr ⟨g, cap, cur, hv, hb, by rw [hB.block g (Array.getElem?_eq_some_iff.1 hg).1]; exact hg, r⟩
theorem own_made (w : World) : (w.alloc (.cells #[] 9)).ownsRow w.heap.size 9 1 (.slice (some ⟨w.heap.size, 0, none⟩) 0 0) 0 [] :=
  World.ownsRow_made (base := w.heap.size) (e := 9) (size := 1) w #[] 0 (Nat.le_refl _) (by unfold maxLen; omega) rfl
/-- a row of texts of one's own -/
def OwnS (w : World) (base : Nat) (v : Value) (ss : List Nm) : Prop := w.ownsRow base 9 1 v ss.length (strs ss)
theorem OwnS.on {w w' : World} {base : Nat} {v : Value} {ss : List Nm} (h : OwnS w base v ss) (hB : Below w.heap.size w w') : OwnS w' base v ss := own_below h hB
theorem OwnS.len {w : World} {base : Nat} {v : Value} {ss : List Nm} (h : OwnS w base v ss) : ∃ a c, v = .slice a ss.length c := by
  obtain ⟨_, h2⟩ := h
  rcases h2 with ⟨rfl, h0⟩ | ⟨g, cap, cur, rfl, _⟩
  · rw [h0]; exact ⟨_, _, rfl⟩
  · exact ⟨_, _, rfl⟩

end Go.Proofs.YtaofdckdmffaiaaGreatDoor.FlsS
