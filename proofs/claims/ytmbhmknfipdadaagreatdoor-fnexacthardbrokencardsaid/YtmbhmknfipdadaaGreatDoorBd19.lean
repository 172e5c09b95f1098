/- Texts of ours, laid together. -/
import Derived.Test.YtmbhmknfipdadaaGreatDoorBd7
import Derived.ProofKit
import Derived.ChangeOld
import Derived.Deep.Slices
import Derived.Lib.LaidU8
namespace Go.Proofs.YtmbhmknfipdadaaGreatDoor.PrtO
open Go.ChangeShapes Go.WideShapes Go.ChangeAt Go.RowKit Go.Lib Go.Deep
open PrtW PrtM PrtS PrtI
theorem c2 : Tryz.prog.cellsOf 2 = 1 := by kernel_rfl
theorem c3 : Tryz.prog.cellsOf 3 = 1 := by kernel_rfl
theorem c4 : Tryz.prog.cellsOf 4 = 1 := by kernel_rfl
theorem c9 : Tryz.prog.cellsOf 9 = 1 := by kernel_rfl
theorem cS : Tryz.prog.cellsOf 152 = 7 := by kernel_rfl
theorem list7 {α : Type} {l : List α} (h : l.length = 7) : ∃ a b c d e f g, l = [a, b, c, d, e, f, g] := by
 match l, h with
 | [a, b, c, d, e, f, g], _ => exact ⟨a, b, c, d, e, f, g, rfl⟩
section
variable {H : Type} {enc : TypeId × Value → H} {w : World} {base : Nat} {sp : Nat → Bool} {held : Bool}
theorem shape_cells {fuel : Nat} {cs : List Value} {b0 b2 b3 : Bool} {i1 i4 i5 : Int} {s6 : List UInt8} {p : List MemPlace}
  (h : DataW.trod enc Tryz.prog w base sp held fuel 152 cs = some (.agg [.lit (.bool b0), .lit (.int .i64 i1), .lit (.bool b2), .lit (.bool b3), .lit (.int .i64 i4), .lit (.int .i64 i5), .lit (.string s6)], p)) :
  cs = [.bool b0, .int .i64 i1, .bool b2, .bool b3, .int .i64 i4, .int .i64 i5, .string ⟨s6.toArray⟩] := by
 obtain ⟨xs, n, rfl, hx, hl, hxl, hall⟩ := DataW.trod_struct Tryz.underlying152 h
 obtain ⟨v0, v1, v2, v3, v4, v5, v6, rfl⟩ := list7 (hl.trans cS)
 obtain ⟨x0, x1, x2, x3, x4, x5, x6, rfl⟩ := list7 hxl
 have h0 : DataW.trod enc Tryz.prog w base sp held n 4 (([v0, v1, v2, v3, v4, v5, v6].drop 0).take (Tryz.prog.cellsOf 4)) = some x0 := hall 0 _ rfl
 have h1 : DataW.trod enc Tryz.prog w base sp held n 3 (([v0, v1, v2, v3, v4, v5, v6].drop 1).take (Tryz.prog.cellsOf 3)) = some x1 := hall 1 _ rfl
 have h2 : DataW.trod enc Tryz.prog w base sp held n 4 (([v0, v1, v2, v3, v4, v5, v6].drop 2).take (Tryz.prog.cellsOf 4)) = some x2 := hall 2 _ rfl
 have h3 : DataW.trod enc Tryz.prog w base sp held n 4 (([v0, v1, v2, v3, v4, v5, v6].drop 3).take (Tryz.prog.cellsOf 4)) = some x3 := hall 3 _ rfl
 have h4 : DataW.trod enc Tryz.prog w base sp held n 2 (([v0, v1, v2, v3, v4, v5, v6].drop 4).take (Tryz.prog.cellsOf 2)) = some x4 := hall 4 _ rfl
 have h5 : DataW.trod enc Tryz.prog w base sp held n 2 (([v0, v1, v2, v3, v4, v5, v6].drop 5).take (Tryz.prog.cellsOf 2)) = some x5 := hall 5 _ rfl
 have h6 : DataW.trod enc Tryz.prog w base sp held n 9 (([v0, v1, v2, v3, v4, v5, v6].drop 6).take (Tryz.prog.cellsOf 9)) = some x6 := hall 6 _ rfl
 rw [c4] at h0 h2 h3
 rw [c3] at h1
 rw [c2] at h4 h5
 rw [c9] at h6
 obtain ⟨z0, e0, d0⟩ := DataW.trod_bool Tryz.underlying4 h0
 obtain ⟨z1, e1, d1, _⟩ := DataW.trod_int Tryz.underlying3 h1
 obtain ⟨z2, e2, d2⟩ := DataW.trod_bool Tryz.underlying4 h2
 obtain ⟨z3, e3, d3⟩ := DataW.trod_bool Tryz.underlying4 h3
 obtain ⟨z4, e4, d4, _⟩ := DataW.trod_int Tryz.underlying2 h4
 obtain ⟨z5, e5, d5, _⟩ := DataW.trod_int Tryz.underlying2 h5
 obtain ⟨z6, e6, d6, _⟩ := DataW.trod_string Tryz.underlying9 h6
 simp at e0 e1 e2 e3 e4 e5 e6
 subst e0 e1 e2 e3 e4 e5 e6 d0 d1 d2 d3 d4 d5 d6
 simp at hx
 obtain ⟨⟨rfl, rfl, rfl, rfl, rfl, rfl, rfl⟩, _⟩ := hx
 cases z6
 simp
end
def shapeData (k : Nat) : DataW Unit := .agg [.lit (.bool (truthF k)), .lit (.int .i64 (innerF k)), .lit (.bool (truthsF k)), .lit (.bool (namedF k)), .lit (.int .i64 (lowF k)), .lit (.int .i64 (highF k)), .lit (.string (signL k))]
theorem env_of_reads {w : World} (h : VarReads Tryz.prog w "loop.example/g00561/impl.shapes" (.agg ((List.range 14).map shapeData))) : EnvS w := by
 obtain ⟨g, t, cs, fuel, p, hg, hty, hvar, hd⟩ := h
 obtain rfl := Option.some.inj ((show Tryz.prog.globalNamed "loop.example/g00561/impl.shapes" = some 2 by kernel_rfl).symm.trans hg)
 obtain rfl := Option.some.inj ((show (Tryz.prog.globals[2]?).map (·.type) = some 153 by kernel_rfl).symm.trans hty)
 have hcell : ∀ k, k < 14 → ∀ j (hj : j < 7), w.cell? ⟨2, k * 7 + j, none⟩ = ([Value.bool (truthF k), .int .i64 (innerF k), .bool (truthsF k), .bool (namedF k), .int .i64 (lowF k), .int .i64 (highF k), .string (signF k)])[j]? := fun k hk j hj => by
  obtain ⟨fuel', d, q, hdi, he⟩ := array_elem Tryz.underlying153 hd k hk
  simp only [List.getElem?_map, List.getElem?_range hk, Option.map_some, Option.some.injEq] at hdi
  subst hdi
  rw [cS] at he
  have hcs := shape_cells he
  have ej := congrArg (·[j]?) hcs
  simp only [List.getElem?_take, List.getElem?_drop, if_pos hj] at ej
  rw [World.var?_cell hg hvar (k * 7 + j), ← Array.getElem?_toList]
  exact ej
 refine ⟨?_, fun k hk => ⟨hcell k hk 0 (by omega), hcell k hk 1 (by omega), hcell k hk 2 (by omega), hcell k hk 3 (by omega), hcell k hk 4 (by omega), hcell k hk 5 (by omega), hcell k hk 6 (by omega)⟩⟩
 exact World.block_lt_of_cell? w _ (hcell 0 (by omega) 0 (by omega))
open Go.ChangeShapes Go.WideShapes Go.ChangeAt Go.RowKit Go.Lib Go.Deep
open PrtW PrtM PrtS PrtI
theorem cP : Tryz.prog.cellsOf 116 = 3 := by kernel_rfl
theorem list3 {α : Type} {l : List α} (h : l.length = 3) : ∃ a b c, l = [a, b, c] := by
 match l, h with
 | [a, b, c], _ => exact ⟨a, b, c, rfl⟩
section
variable {H : Type} {enc : TypeId × Value → H} {w : World} {base : Nat} {sp : Nat → Bool} {held : Bool}
theorem part_cells {fuel : Nat} {cs : List Value} {x : DataW H × List MemPlace} (h : DataW.trod enc Tryz.prog w base sp held fuel 116 cs = some x) :
  ∃ (k n : Int) (t : ByteArray), cs = [.int .i64 k, .int .i64 n, .string t] ∧ (Lit.int .i64 k).wf = true ∧ (Lit.int .i64 n).wf = true ∧ t.size ≤ maxLen := by
 obtain ⟨xs, n, rfl, _, hl, hxl, hall⟩ := DataW.trod_struct Tryz.underlying116 h
 obtain ⟨a, b, c, rfl⟩ := list3 (hl.trans cP)
 obtain ⟨x0, x1, x2, rfl⟩ := list3 hxl
 have h0 : DataW.trod enc Tryz.prog w base sp held n 2 (([a, b, c].drop 0).take (Tryz.prog.cellsOf 2)) = some x0 := hall 0 _ rfl
 have h1 : DataW.trod enc Tryz.prog w base sp held n 2 (([a, b, c].drop 1).take (Tryz.prog.cellsOf 2)) = some x1 := hall 1 _ rfl
 have h2 : DataW.trod enc Tryz.prog w base sp held n 9 (([a, b, c].drop 2).take (Tryz.prog.cellsOf 9)) = some x2 := hall 2 _ rfl
 rw [c2] at h0 h1
 rw [c9] at h2
 obtain ⟨z0, e0, _, w0⟩ := DataW.trod_int Tryz.underlying2 h0
 obtain ⟨z1, e1, _, w1⟩ := DataW.trod_int Tryz.underlying2 h1
 obtain ⟨z2, e2, _, w2⟩ := DataW.trod_string Tryz.underlying9 h2
 simp at e0 e1 e2
 subst e0 e1 e2
 exact ⟨z0, z1, z2, rfl, w0, w1, w2⟩
end
theorem wf_in {k : Int} (h : (Lit.int .i64 k).wf = true) : -9223372036854775808 ≤ k ∧ k ≤ 9223372036854775807 := by
 simpa [Lit.wf, IntKind.min, IntKind.max, IntKind.signed, IntKind.bits] using h
theorem parts_open {H : Type} {enc : TypeId × Value → H} {W : World} {a0 : Option Addr} {len cap fuel : Nat} {x : DataW H × List MemPlace}
  (hf : DataW.trod enc Tryz.prog W 0 (fun _ => true) true fuel 46 [.slice a0 len cap] = some x) : ∃ ps : List Pt, ps.length = len ∧ Raw W a0 ps ∧ len ≤ cap := by
 rcases open_slice Tryz.underlying46 hf with ⟨hcs, _⟩ | ⟨a, l, c, m, n, D, Pl, hcs, _, hl, hm, hmm, _, hel⟩
 ·simp at hcs
  obtain ⟨rfl, rfl, rfl⟩ := hcs
  exact ⟨[], rfl, ⟨Nat.zero_le _, fun i h => absurd h (Nat.not_lt_zero _), fun h => absurd h (Nat.lt_irrefl _)⟩, Nat.le_refl _⟩
 ·simp at hcs
  obtain ⟨rfl, rfl, rfl⟩ := hcs
  simp at hmm
  subst hmm
  have hch : ∀ i, i < len → ∃ q : Pt, (W.cell? ((a.add (i * 3)).add 0) = some (.int .i64 q.1) ∧ W.cell? ((a.add (i * 3)).add 1) = some (.int .i64 q.2.1) ∧ W.cell? ((a.add (i * 3)).add 2) = some (.string q.2.2)) ∧
    (-9223372036854775808 ≤ q.1 ∧ q.1 ≤ 9223372036854775807) ∧ (-9223372036854775808 ≤ q.2.1 ∧ q.2.1 ≤ 9223372036854775807) ∧ q.2.2.size ≤ maxLen := fun i hi => by
   obtain ⟨cs', hc, ht⟩ := hel i (by omega)
   rw [cP] at hc
   obtain ⟨k, n, t, rfl, w0, w1, w2⟩ := part_cells ht
   obtain ⟨_, _, hcc⟩ := World.cells?_some hc
   have e0 := hcc 0 (by omega)
   have e1 := hcc 1 (by omega)
   have e2 := hcc 2 (by omega)
   exact ⟨(k, n, t), ⟨by simpa using e0, by simpa using e1, by simpa using e2⟩, wf_in w0, wf_in w1, w2⟩
  obtain ⟨f, hff⟩ := choose_lt hch
  refine ⟨(List.range len).map f, by simp, ?_, hl⟩
  have hget : ∀ i, i < len → ((List.range len).map f).getD i pt0 = f i := fun i hi => by simp [List.getD, hi]
  refine ⟨by simp; omega, fun i hi => ?_, fun hp => ?_⟩
  ·have hi' : i < len := by simpa using hi
   rw [hget i hi']
   exact (hff i hi').2
  ·obtain ⟨b, off, spot⟩ := a
   have hp' : 0 < len := by simpa using hp
   have hz := (hff 0 hp').1.1
   rw [add_add] at hz
   have hspot : spot = none := by simpa [Addr.add] using World.cell?_spot hz
   subst hspot
   have hplain : ∀ i, (⟨b, off, none⟩ : Addr).add i = ⟨b, off + i, none⟩ := fun i => by unfold Addr.add; split <;> simp_all
   have hbl : b < W.heap.size := by
    have := World.block_lt_of_cell? W _ hz
    rw [hplain] at this
    exact this
   refine ⟨b, off, rfl, hbl, fun i hi => ?_⟩
   have hi' : i < len := by simpa using hi
   rw [hget i hi']
   obtain ⟨⟨e0, e1, e2⟩, _⟩ := hff i hi'
   rw [add_add, hplain] at e0 e1 e2
   exact ⟨e0, e1, e2⟩
end Go.Proofs.YtmbhmknfipdadaaGreatDoor.PrtO
namespace Go.Proofs.YtmbhmknfipdadaaGreatDoor.ItmO
open Go.ChangeShapes Go.WideShapes Go.ChangeAt Go.RowKit Go.Lib Go.Deep
open PrtW ItmW
open PrtO (c2 c4 c9 parts_open)
theorem cI : Tryz.prog.cellsOf 48 = 8 := by kernel_rfl
theorem cQ : Tryz.prog.cellsOf 46 = 1 := by kernel_rfl
theorem list8 {α : Type} {l : List α} (h : l.length = 8) : ∃ a b c d e f g i, l = [a, b, c, d, e, f, g, i] := by
 match l, h with
 | [a, b, c, d, e, f, g, i], _ => exact ⟨a, b, c, d, e, f, g, i, rfl⟩
section
variable {H : Type} {enc : TypeId × Value → H} {w : World}
theorem slice_form {fuel : Nat} {cs : List Value} {x : DataW H × List MemPlace} (h : DataW.trod enc Tryz.prog w 0 (fun _ => true) true fuel 46 cs = some x) : ∃ a l c, cs = [.slice a l c] ∧ (a = none → c = 0) := by
 rcases open_slice Tryz.underlying46 h with ⟨hcs, _⟩ | ⟨a, l, c, m, n, D, Pl, hcs, _⟩
 ·exact ⟨none, 0, 0, hcs, fun _ => rfl⟩
 ·exact ⟨some a, l, c, hcs, fun h => by cases h⟩
theorem item_cells {fuel : Nat} {cs : List Value} {x : DataW H × List MemPlace} (h : DataW.trod enc Tryz.prog w 0 (fun _ => true) true fuel 48 cs = some x) :
  ∃ (q : It) (ad : Option Addr) (cap : Nat), cs = [.int .i64 (ik q), .string (inm q), .int .i64 (ity q), .int .i64 (ilo q), .int .i64 (ihi q), .string (itx q), .slice ad (iex q).length cap, .bool (ihd q)] ∧ Raw w ad (iex q) ∧ (iex q).length ≤ cap ∧ (ad = none → cap = 0) ∧ (inm q).size ≤ maxLen ∧ (itx q).size ≤ maxLen := by
 obtain ⟨xs, m, rfl, _, hl, hxl, hall⟩ := DataW.trod_struct Tryz.underlying48 h
 obtain ⟨v0, v1, v2, v3, v4, v5, v6, v7, rfl⟩ := list8 (hl.trans cI)
 obtain ⟨x0, x1, x2, x3, x4, x5, x6, x7, rfl⟩ := list8 hxl
 have h0 : DataW.trod enc Tryz.prog w 0 (fun _ => true) true m 2 (([v0, v1, v2, v3, v4, v5, v6, v7].drop 0).take (Tryz.prog.cellsOf 2)) = some x0 := hall 0 _ rfl
 have h1 : DataW.trod enc Tryz.prog w 0 (fun _ => true) true m 9 (([v0, v1, v2, v3, v4, v5, v6, v7].drop 1).take (Tryz.prog.cellsOf 9)) = some x1 := hall 1 _ rfl
 have h2 : DataW.trod enc Tryz.prog w 0 (fun _ => true) true m 2 (([v0, v1, v2, v3, v4, v5, v6, v7].drop 2).take (Tryz.prog.cellsOf 2)) = some x2 := hall 2 _ rfl
 have h3 : DataW.trod enc Tryz.prog w 0 (fun _ => true) true m 2 (([v0, v1, v2, v3, v4, v5, v6, v7].drop 3).take (Tryz.prog.cellsOf 2)) = some x3 := hall 3 _ rfl
 have h4 : DataW.trod enc Tryz.prog w 0 (fun _ => true) true m 2 (([v0, v1, v2, v3, v4, v5, v6, v7].drop 4).take (Tryz.prog.cellsOf 2)) = some x4 := hall 4 _ rfl
 have h5 : DataW.trod enc Tryz.prog w 0 (fun _ => true) true m 9 (([v0, v1, v2, v3, v4, v5, v6, v7].drop 5).take (Tryz.prog.cellsOf 9)) = some x5 := hall 5 _ rfl
 have h6 : DataW.trod enc Tryz.prog w 0 (fun _ => true) true m 46 (([v0, v1, v2, v3, v4, v5, v6, v7].drop 6).take (Tryz.prog.cellsOf 46)) = some x6 := hall 6 _ rfl
 have h7 : DataW.trod enc Tryz.prog w 0 (fun _ => true) true m 4 (([v0, v1, v2, v3, v4, v5, v6, v7].drop 7).take (Tryz.prog.cellsOf 4)) = some x7 := hall 7 _ rfl
 rw [c2] at h0 h2 h3 h4
 rw [c9] at h1 h5
 rw [cQ] at h6
 rw [c4] at h7
 obtain ⟨z0, e0, _, _⟩ := DataW.trod_int Tryz.underlying2 h0
 obtain ⟨z1, e1, _, w1⟩ := DataW.trod_string Tryz.underlying9 h1
 obtain ⟨z2, e2, _, _⟩ := DataW.trod_int Tryz.underlying2 h2
 obtain ⟨z3, e3, _, _⟩ := DataW.trod_int Tryz.underlying2 h3
 obtain ⟨z4, e4, _, _⟩ := DataW.trod_int Tryz.underlying2 h4
 obtain ⟨z5, e5, _, w5⟩ := DataW.trod_string Tryz.underlying9 h5
 obtain ⟨z7, e7, _⟩ := DataW.trod_bool Tryz.underlying4 h7
 obtain ⟨ad, len, cap, e6, hn⟩ := slice_form h6
 rw [e6] at h6
 obtain ⟨ps, rfl, hraw, hcap⟩ := parts_open h6
 simp at e0 e1 e2 e3 e4 e5 e6 e7
 subst e0 e1 e2 e3 e4 e5 e6 e7
 exact ⟨(z0, z1, z2, z3, z4, z5, ps, z7), ad, cap, rfl, hraw, hcap, hn, w1, w5⟩
end
theorem items_open {H : Type} {enc : TypeId × Value → H} {W : World} {a0 : Option Addr} {len cap fuel : Nat} {x : DataW H × List MemPlace}
  (hf : DataW.trod enc Tryz.prog W 0 (fun _ => true) true fuel 22 [.slice a0 len cap] = some x) : ∃ ls : List It, ls.length = len ∧ RawI W a0 ls ∧ len ≤ cap := by
 rcases open_slice Tryz.underlying22 hf with ⟨hcs, _⟩ | ⟨a, l, c, m, n, D, Pl, hcs, _, hl, hm, hmm, _, hel⟩
 ·simp at hcs
  obtain ⟨rfl, rfl, rfl⟩ := hcs
  exact ⟨[], rfl, ⟨Nat.zero_le _, fun i h => absurd h (Nat.not_lt_zero _), fun h => absurd h (Nat.lt_irrefl _)⟩, Nat.le_refl _⟩
 ·simp at hcs
  obtain ⟨rfl, rfl, rfl⟩ := hcs
  simp at hmm
  subst hmm
  have hch : ∀ i, i < len → ∃ q : It × Option Addr × Nat, (W.cell? ((a.add (i * 8)).add 0) = some (.int .i64 (ik q.1)) ∧ W.cell? ((a.add (i * 8)).add 1) = some (.string (inm q.1)) ∧ W.cell? ((a.add (i * 8)).add 2) = some (.int .i64 (ity q.1)) ∧ W.cell? ((a.add (i * 8)).add 3) = some (.int .i64 (ilo q.1)) ∧ W.cell? ((a.add (i * 8)).add 4) = some (.int .i64 (ihi q.1)) ∧ W.cell? ((a.add (i * 8)).add 5) = some (.string (itx q.1)) ∧ W.cell? ((a.add (i * 8)).add 6) = some (.slice q.2.1 (iex q.1).length q.2.2) ∧ W.cell? ((a.add (i * 8)).add 7) = some (.bool (ihd q.1))) ∧
    Raw W q.2.1 (iex q.1) ∧ (iex q.1).length ≤ q.2.2 ∧ (q.2.1 = none → q.2.2 = 0) ∧ (inm q.1).size ≤ maxLen ∧ (itx q.1).size ≤ maxLen := fun i hi => by
   obtain ⟨cs', hc, ht⟩ := hel i (by omega)
   rw [cI] at hc
   obtain ⟨p, ad, cap, rfl, w0, wc, wn, w1, w2⟩ := item_cells ht
   obtain ⟨_, _, hcc⟩ := World.cells?_some hc
   have e0 := hcc 0 (by omega)
   have e1 := hcc 1 (by omega)
   have e2 := hcc 2 (by omega)
   have e3 := hcc 3 (by omega)
   have e4 := hcc 4 (by omega)
   have e5 := hcc 5 (by omega)
   have e6 := hcc 6 (by omega)
   have e7 := hcc 7 (by omega)
   exact ⟨(p, ad, cap), ⟨by simpa using e0, by simpa using e1, by simpa using e2, by simpa using e3, by simpa using e4, by simpa using e5, by simpa using e6, by simpa using e7⟩, w0, wc, wn, w1, w2⟩
  obtain ⟨f, hff⟩ := choose_lt hch
  refine ⟨(List.range len).map fun i => (f i).1, by simp, ?_, hl⟩
  have hget : ∀ i, i < len → ((List.range len).map fun i => (f i).1).getD i it0 = (f i).1 := fun i hi => by simp [List.getD, hi]
  refine ⟨by simp; omega, fun i hi => ?_, fun hp => ?_⟩
  ·have hi' : i < len := by simpa using hi
   rw [hget i hi']
   exact (hff i hi').2.2.2.2
  ·obtain ⟨b, off, spot⟩ := a
   have hp' : 0 < len := by simpa using hp
   have hz := (hff 0 hp').1.1
   rw [add_add] at hz
   have hspot : spot = none := by simpa [Addr.add] using World.cell?_spot hz
   subst hspot
   have hplain : ∀ i, (⟨b, off, none⟩ : Addr).add i = ⟨b, off + i, none⟩ := fun i => by unfold Addr.add; split <;> simp_all
   have hbl : b < W.heap.size := by
    have := World.block_lt_of_cell? W _ hz
    rw [hplain] at this
    exact this
   refine ⟨b, off, rfl, hbl, fun i hi => ?_⟩
   have hi' : i < len := by simpa using hi
   rw [hget i hi']
   obtain ⟨⟨e0, e1, e2, e3, e4, e5, e6, e7⟩, hcr, hcp, hnn, _⟩ := hff i hi'
   rw [add_add, hplain] at e0 e1 e2 e3 e4 e5 e6 e7
   exact ⟨(f i).2.1, (f i).2.2, ⟨e0, e1, e2, e3, e4, e5, e6, e7⟩, hcr, hcp, hnn⟩
end Go.Proofs.YtmbhmknfipdadaaGreatDoor.ItmO
