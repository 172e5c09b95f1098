/- The program's table of ops, off what the row lists of it. -/
import Derived.Test.YtbhblnpehhaiiaaDoorPrtImpl
import Derived.ProofKit
import Derived.OpenShut
import Derived.ChangeOld
import Derived.Below
import Derived.Deep.Slices
import Derived.Lib.LaidU8
namespace Go.Proofs.YtbhblnpehhaiiaaDoor.PrtO
open Go.ChangeShapes Go.WideShapes Go.ChangeAt Go.RowKit Go.Lib Go.Deep
open PrtW PrtM PrtS PrtI

theorem c2 : Tryd.prog.cellsOf 2 = 1 := by kernel_rfl
theorem c3 : Tryd.prog.cellsOf 3 = 1 := by kernel_rfl
theorem c4 : Tryd.prog.cellsOf 4 = 1 := by kernel_rfl
theorem c9 : Tryd.prog.cellsOf 9 = 1 := by kernel_rfl
theorem cS : Tryd.prog.cellsOf 104 = 7 := by kernel_rfl
theorem list7 {α : Type} {l : List α} (h : l.length = 7) : ∃ a b c d e f g, l = [a, b, c, d, e, f, g] := by
  match l, h with
  | [a, b, c, d, e, f, g], _ => exact ⟨a, b, c, d, e, f, g, rfl⟩

section
variable {H : Type} {enc : TypeId × Value → H} {w : World} {base : Nat} {sp : Nat → Bool} {held : Bool}
theorem shape_cells {fuel : Nat} {cs : List Value} {b0 b2 b3 : Bool} {i1 i4 i5 : Int} {s6 : List UInt8} {p : List MemPlace}
    (h : DataW.trod enc Tryd.prog w base sp held fuel 104 cs = some (.agg [.lit (.bool b0), .lit (.int .i64 i1), .lit (.bool b2), .lit (.bool b3), .lit (.int .i64 i4), .lit (.int .i64 i5), .lit (.string s6)], p)) :
    cs = [.bool b0, .int .i64 i1, .bool b2, .bool b3, .int .i64 i4, .int .i64 i5, .string ⟨s6.toArray⟩] := by
  obtain ⟨xs, n, rfl, hx, hl, hxl, hall⟩ := DataW.trod_struct Tryd.underlying104 h
  obtain ⟨v0, v1, v2, v3, v4, v5, v6, rfl⟩ := list7 (hl.trans cS)
  obtain ⟨x0, x1, x2, x3, x4, x5, x6, rfl⟩ := list7 hxl
  have h0 : DataW.trod enc Tryd.prog w base sp held n 4 (([v0, v1, v2, v3, v4, v5, v6].drop 0).take (Tryd.prog.cellsOf 4)) = some x0 := hall 0 _ rfl
  have h1 : DataW.trod enc Tryd.prog w base sp held n 3 (([v0, v1, v2, v3, v4, v5, v6].drop 1).take (Tryd.prog.cellsOf 3)) = some x1 := hall 1 _ rfl
  have h2 : DataW.trod enc Tryd.prog w base sp held n 4 (([v0, v1, v2, v3, v4, v5, v6].drop 2).take (Tryd.prog.cellsOf 4)) = some x2 := hall 2 _ rfl
  have h3 : DataW.trod enc Tryd.prog w base sp held n 4 (([v0, v1, v2, v3, v4, v5, v6].drop 3).take (Tryd.prog.cellsOf 4)) = some x3 := hall 3 _ rfl
  have h4 : DataW.trod enc Tryd.prog w base sp held n 2 (([v0, v1, v2, v3, v4, v5, v6].drop 4).take (Tryd.prog.cellsOf 2)) = some x4 := hall 4 _ rfl
  have h5 : DataW.trod enc Tryd.prog w base sp held n 2 (([v0, v1, v2, v3, v4, v5, v6].drop 5).take (Tryd.prog.cellsOf 2)) = some x5 := hall 5 _ rfl
  have h6 : DataW.trod enc Tryd.prog w base sp held n 9 (([v0, v1, v2, v3, v4, v5, v6].drop 6).take (Tryd.prog.cellsOf 9)) = some x6 := hall 6 _ rfl
  rw [c4] at h0 h2 h3
  rw [c3] at h1
  rw [c2] at h4 h5
  rw [c9] at h6
  obtain ⟨z0, e0, d0⟩ := DataW.trod_bool Tryd.underlying4 h0
  obtain ⟨z1, e1, d1, _⟩ := DataW.trod_int Tryd.underlying3 h1
  obtain ⟨z2, e2, d2⟩ := DataW.trod_bool Tryd.underlying4 h2
  obtain ⟨z3, e3, d3⟩ := DataW.trod_bool Tryd.underlying4 h3
  obtain ⟨z4, e4, d4, _⟩ := DataW.trod_int Tryd.underlying2 h4
  obtain ⟨z5, e5, d5, _⟩ := DataW.trod_int Tryd.underlying2 h5
  obtain ⟨z6, e6, d6, _⟩ := DataW.trod_string Tryd.underlying9 h6
  simp at e0 e1 e2 e3 e4 e5 e6
  subst e0 e1 e2 e3 e4 e5 e6 d0 d1 d2 d3 d4 d5 d6
  simp at hx
  obtain ⟨⟨rfl, rfl, rfl, rfl, rfl, rfl, rfl⟩, _⟩ := hx
  cases z6
  simp
end

/-- the table of ops as the row lists it -/
def shapeData (k : Nat) : DataW Unit := .agg [.lit (.bool (truthF k)), .lit (.int .i64 (innerF k)), .lit (.bool (truthsF k)), .lit (.bool (namedF k)), .lit (.int .i64 (lowF k)), .lit (.int .i64 (highF k)), .lit (.string (signL k))]
theorem env_of_reads {w : World} (h : VarReads Tryd.prog w "loop.example/g00561/impl.shapes" (.agg ((List.range 14).map shapeData))) : EnvS w := by
  obtain ⟨g, t, cs, fuel, p, hg, hty, hvar, hd⟩ := h
  obtain rfl := Option.some.inj ((show Tryd.prog.globalNamed "loop.example/g00561/impl.shapes" = some 4 by kernel_rfl).symm.trans hg)
  obtain rfl := Option.some.inj ((show (Tryd.prog.globals[4]?).map (·.type) = some 105 by kernel_rfl).symm.trans hty)
  have hcell : ∀ k, k < 14 → ∀ j (hj : j < 7), w.cell? ⟨4, k * 7 + j, none⟩ = ([Value.bool (truthF k), .int .i64 (innerF k), .bool (truthsF k), .bool (namedF k), .int .i64 (lowF k), .int .i64 (highF k), .string (signF k)])[j]? := fun k hk j hj => by
    obtain ⟨fuel', d, q, hdi, he⟩ := array_elem Tryd.underlying105 hd k hk
    simp only [List.getElem?_map, List.getElem?_range hk, Option.map_some, Option.some.injEq] at hdi
    subst hdi
    rw [cS] at he
    have hcs := shape_cells he
    have ej := congrArg (·[j]?) hcs
    simp only [List.getElem?_take, List.getElem?_drop, if_pos hj] at ej
    rw [World.var?_cell hg hvar (k * 7 + j), ← Array.getElem?_toList]
    exact ej
  refine ⟨?_, fun k hk => ⟨hcell k hk 0 (by omega), hcell k hk 1 (by omega), hcell k hk 2 (by omega), hcell k hk 3 (by omega), hcell k hk 4 (by omega), hcell k hk 5 (by omega), hcell k hk 6 (by omega)⟩⟩
  exact World.block_lt_of_cell? w _ (hcell 0 (by omega) 0 (by omega))
end Go.Proofs.YtbhblnpehhaiiaaDoor.PrtO
