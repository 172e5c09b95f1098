/- Texts of ours, laid together. -/
import Derived.Test.YtmbhmknfipdadaaGreatDoorBd24
import Derived.Test.YtmbhmknfipdadaaGreatDoorBd19
namespace Go.Proofs.YtmbhmknfipdadaaGreatDoor.FrmO
open Go.ChangeShapes Go.WideShapes Go.ChangeAt Go.RowKit Go.Lib Go.Deep
open PrtW ItmW
open PrtO (c2 c4)
open ItmI
theorem cO : Tryz.prog.cellsOf 179 = 5 := by kernel_rfl
theorem list5 {α : Type} {l : List α} (h : l.length = 5) : ∃ a b c d e, l = [a, b, c, d, e] := by
 match l, h with
 | [a, b, c, d, e], _ => exact ⟨a, b, c, d, e, rfl⟩
section
variable {H : Type} {enc : TypeId × Value → H} {w : World} {base : Nat} {sp : Nat → Bool} {held : Bool}
theorem out_cells {fuel : Nat} {cs : List Value} {b0 b1 b2 b3 : Bool} {i4 : Int} {p : List MemPlace}
  (h : DataW.trod enc Tryz.prog w base sp held fuel 179 cs = some (.agg [.lit (.bool b0), .lit (.bool b1), .lit (.bool b2), .lit (.bool b3), .lit (.int .i64 i4)], p)) :
  cs = [.bool b0, .bool b1, .bool b2, .bool b3, .int .i64 i4] := by
 obtain ⟨xs, n, rfl, hx, hl, hxl, hall⟩ := DataW.trod_struct Tryz.underlying179 h
 obtain ⟨v0, v1, v2, v3, v4, rfl⟩ := list5 (hl.trans cO)
 obtain ⟨x0, x1, x2, x3, x4, rfl⟩ := list5 hxl
 have h0 : DataW.trod enc Tryz.prog w base sp held n 4 (([v0, v1, v2, v3, v4].drop 0).take (Tryz.prog.cellsOf 4)) = some x0 := hall 0 _ rfl
 have h1 : DataW.trod enc Tryz.prog w base sp held n 4 (([v0, v1, v2, v3, v4].drop 1).take (Tryz.prog.cellsOf 4)) = some x1 := hall 1 _ rfl
 have h2 : DataW.trod enc Tryz.prog w base sp held n 4 (([v0, v1, v2, v3, v4].drop 2).take (Tryz.prog.cellsOf 4)) = some x2 := hall 2 _ rfl
 have h3 : DataW.trod enc Tryz.prog w base sp held n 4 (([v0, v1, v2, v3, v4].drop 3).take (Tryz.prog.cellsOf 4)) = some x3 := hall 3 _ rfl
 have h4 : DataW.trod enc Tryz.prog w base sp held n 2 (([v0, v1, v2, v3, v4].drop 4).take (Tryz.prog.cellsOf 2)) = some x4 := hall 4 _ rfl
 rw [c4] at h0 h1 h2 h3
 rw [c2] at h4
 obtain ⟨z0, e0, d0⟩ := DataW.trod_bool Tryz.underlying4 h0
 obtain ⟨z1, e1, d1⟩ := DataW.trod_bool Tryz.underlying4 h1
 obtain ⟨z2, e2, d2⟩ := DataW.trod_bool Tryz.underlying4 h2
 obtain ⟨z3, e3, d3⟩ := DataW.trod_bool Tryz.underlying4 h3
 obtain ⟨z4, e4, d4, _⟩ := DataW.trod_int Tryz.underlying2 h4
 simp at e0 e1 e2 e3 e4
 subst e0 e1 e2 e3 e4 d0 d1 d2 d3 d4
 simp at hx
 obtain ⟨⟨rfl, rfl, rfl, rfl, rfl⟩, _⟩ := hx
 rfl
end
def outData (k : Nat) : DataW Unit := .agg [.lit (.bool (namedO k)), .lit (.bool (typedO k)), .lit (.bool (saidO k)), .lit (.bool (hardO k)), .lit (.int .i64 (tellsO k))]
theorem env_of_reads {w : World} (h : VarReads Tryz.prog w "loop.example/g00561/impl.outlines" (.agg ((List.range 7).map outData))) : EnvO w := by
 obtain ⟨g, t, cs, fuel, p, hg, hty, hvar, hd⟩ := h
 obtain rfl := Option.some.inj ((show Tryz.prog.globalNamed "loop.example/g00561/impl.outlines" = some 3 by kernel_rfl).symm.trans hg)
 obtain rfl := Option.some.inj ((show (Tryz.prog.globals[3]?).map (·.type) = some 180 by kernel_rfl).symm.trans hty)
 have hcell : ∀ k, k < 7 → ∀ j (hj : j < 5), w.cell? ⟨3, k * 5 + j, none⟩ = ([Value.bool (namedO k), .bool (typedO k), .bool (saidO k), .bool (hardO k), .int .i64 (tellsO k)])[j]? := fun k hk j hj => by
  obtain ⟨fuel', d, q, hdi, he⟩ := array_elem Tryz.underlying180 hd k hk
  simp only [List.getElem?_map, List.getElem?_range hk, Option.map_some, Option.some.injEq] at hdi
  subst hdi
  rw [cO] at he
  have hcs := out_cells he
  have ej := congrArg (·[j]?) hcs
  simp only [List.getElem?_take, List.getElem?_drop, if_pos hj] at ej
  rw [World.var?_cell hg hvar (k * 5 + j), ← Array.getElem?_toList]
  exact ej
 refine ⟨?_, fun k hk => ⟨hcell k hk 0 (by omega), hcell k hk 1 (by omega), hcell k hk 2 (by omega), hcell k hk 3 (by omega), hcell k hk 4 (by omega)⟩⟩
 exact World.block_lt_of_cell? w _ (hcell 0 (by omega) 0 (by omega))
end Go.Proofs.YtmbhmknfipdadaaGreatDoor.FrmO
