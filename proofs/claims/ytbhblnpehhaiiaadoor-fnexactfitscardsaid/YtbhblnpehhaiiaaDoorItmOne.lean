/- What is told of one item that came in. -/
import Derived.Test.YtbhblnpehhaiiaaDoorItmOpen
import Derived.Lib.SmallJoins
namespace Go.Proofs.YtbhblnpehhaiiaaDoor.ItmO
open Go.ChangeShapes Go.WideShapes Go.ChangeAt Go.RowKit Go.Lib Go.Deep Go.Joins
open PrtW ItmW

set_option maxRecDepth 100000 in
theorem item_open {H : Type} {enc : TypeId × Value → H} {W : World} {b0 : Nat} {r : Reach} {v : Value} {d : DataW H} {p : List MemPlace} (hv : Value.okWide Tryd.prog W r b0 43 v)
    (h : DataW.Trod enc Tryd.prog W 0 (fun _ => true) true 43 v d p) :
    ∃ (k : Int) (s : ByteArray) (ty lo hi : Int) (t : ByteArray) (a : Option Addr) (cap : Nat) (ps : List Pt) (hd : Bool), v = .agg #[.int .i64 k, .string s, .int .i64 ty, .int .i64 lo, .int .i64 hi, .string t, .slice a ps.length cap, .bool hd] ∧ Raw W a ps ∧ s.size ≤ maxLen ∧ t.size ≤ maxLen := by
  obtain ⟨cs, rfl, _⟩ := okWide_struct Tryd.underlying43 hv
  obtain ⟨fuel, hf⟩ := h
  obtain ⟨⟨k, s, ty, lo, hi, t, ps, hd⟩, ad, cap, e, hr, _, _, h1, h2⟩ := item_cells (cs := cs.toList) (by simpa [Value.cells] using hf)
  have hcs : cs = #[.int .i64 k, .string s, .int .i64 ty, .int .i64 lo, .int .i64 hi, .string t, .slice ad ps.length cap, .bool hd] := by
    apply Array.toList_inj.1
    rw [e]
  exact ⟨k, s, ty, lo, hi, t, ad, cap, ps, hd, by rw [hcs], hr, h1, h2⟩
end Go.Proofs.YtbhblnpehhaiiaaDoor.ItmO
