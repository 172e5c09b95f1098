/- Texts of ours, laid together. -/
import Derived.Test.YtmbhmknfipdadaaGreatDoorBd7
import Derived.Test.YtmbhmknfipdadaaGreatDoorBd16
import Derived.Deep.Slices
import Derived.Lib.LaidU8
namespace Go.Proofs.YtmbhmknfipdadaaGreatDoor.AnsO
open Go.ChangeShapes Go.WideShapes Go.ChangeAt Go.RowKit Go.Lib Go.Deep Go.Joins
open AnsW ValW ValO
theorem cA : Tryz.prog.cellsOf 54 = 5 := by kernel_rfl
theorem cV : Tryz.prog.cellsOf 52 = 4 := by kernel_rfl
theorem cI : Tryz.prog.cellsOf 2 = 1 := by kernel_rfl
theorem cS : Tryz.prog.cellsOf 9 = 1 := by kernel_rfl
theorem cL : Tryz.prog.cellsOf 50 = 1 := by kernel_rfl
theorem list2 {α : Type} {l : List α} (h : l.length = 2) : ∃ a b, l = [a, b] := by
 match l, h with
 | [a, b], _ => exact ⟨a, b, rfl⟩
theorem list4 {α : Type} {l : List α} (h : l.length = 4) : ∃ a b c d, l = [a, b, c, d] := by
 match l, h with
 | [a, b, c, d], _ => exact ⟨a, b, c, d, rfl⟩
theorem list5 {α : Type} {l : List α} (h : l.length = 5) : ∃ a b c d e, l = [a, b, c, d, e] := by
 match l, h with
 | [a, b, c, d, e], _ => exact ⟨a, b, c, d, e, rfl⟩
section
variable {H : Type} {enc : TypeId × Value → H} {w : World}
theorem val_cells {fuel : Nat} {cs : List Value} {x : DataW H × List MemPlace} (h : DataW.trod enc Tryz.prog w 0 (fun _ => true) true fuel 52 cs = some x) :
  ∃ (k n : Int) (a : Option Addr) (cap : Nat) (zs : List Int) (t : ByteArray), cs = [.int .i64 k, .int .i64 n, .slice a zs.length cap, .string t] ∧ CodesR w a zs ∧ t.size ≤ maxLen ∧ (a = none → cap = 0) := by
 obtain ⟨xs, m, rfl, _, hl, hxl, hall⟩ := DataW.trod_struct Tryz.underlying52 h
 obtain ⟨a, b, c, d, rfl⟩ := list4 (hl.trans cV)
 obtain ⟨x0, x1, x2, x3, rfl⟩ := list4 hxl
 have h0 : DataW.trod enc Tryz.prog w 0 (fun _ => true) true m 2 (([a, b, c, d].drop 0).take (Tryz.prog.cellsOf 2)) = some x0 := hall 0 _ rfl
 have h1 : DataW.trod enc Tryz.prog w 0 (fun _ => true) true m 2 (([a, b, c, d].drop 1).take (Tryz.prog.cellsOf 2)) = some x1 := hall 1 _ rfl
 have h2 : DataW.trod enc Tryz.prog w 0 (fun _ => true) true m 50 (([a, b, c, d].drop 2).take (Tryz.prog.cellsOf 50)) = some x2 := hall 2 _ rfl
 have h3 : DataW.trod enc Tryz.prog w 0 (fun _ => true) true m 9 (([a, b, c, d].drop 3).take (Tryz.prog.cellsOf 9)) = some x3 := hall 3 _ rfl
 rw [cI] at h0 h1
 rw [cL] at h2
 rw [cS] at h3
 obtain ⟨z0, e0, _, _⟩ := DataW.trod_int Tryz.underlying2 h0
 obtain ⟨z1, e1, _, _⟩ := DataW.trod_int Tryz.underlying2 h1
 obtain ⟨z3, e3, _, w3⟩ := DataW.trod_string Tryz.underlying9 h3
 simp at e0 e1 e3
 subst e0 e1 e3
 rcases open_ints Tryz.underlying50 Tryz.underlying2 (by kernel_rfl) h2 with ⟨hcs, _⟩ | ⟨x, l, cc, zs, hcs, _, hlx, hm, hz, _, hcell, _⟩
 ·simp at hcs
  subst hcs
  exact ⟨z0, z1, none, 0, [], z3, rfl, ⟨Nat.zero_le _, fun h => absurd h (Nat.lt_irrefl _)⟩, w3, fun _ => rfl⟩
 ·simp at hcs
  subst hcs
  obtain ⟨q1, q2⟩ := row_open hlx hm (by simpa using hz) hcell
  exact ⟨z0, z1, some x, cc, zs.take l, z3, by rw [q2], ⟨q1.1, q1.2⟩, w3, fun h => by cases h⟩
theorem ans_cells {fuel : Nat} {cs : List Value} {x : DataW H × List MemPlace} (h : DataW.trod enc Tryz.prog w 0 (fun _ => true) true fuel 54 cs = some x) :
  ∃ (p : An) (a : Option Addr) (cap : Nat), cs = [.string (nm p), .int .i64 (kd p), .int .i64 (nu p), .slice a (cd p).length cap, .string (tx p)] ∧ CodesR w a (cd p) ∧ (a = none → cap = 0) ∧ (nm p).size ≤ maxLen ∧ (tx p).size ≤ maxLen := by
 obtain ⟨xs, m, rfl, _, hl, hxl, hall⟩ := DataW.trod_struct Tryz.underlying54 h
 obtain ⟨a, b, c, d, e, rfl⟩ := list5 (hl.trans cA)
 obtain ⟨x0, x1, rfl⟩ := list2 hxl
 have h0 : DataW.trod enc Tryz.prog w 0 (fun _ => true) true m 9 (([a, b, c, d, e].drop 0).take (Tryz.prog.cellsOf 9)) = some x0 := hall 0 _ rfl
 have h1 : DataW.trod enc Tryz.prog w 0 (fun _ => true) true m 52 (([a, b, c, d, e].drop 1).take (Tryz.prog.cellsOf 52)) = some x1 := hall 1 _ rfl
 rw [cS] at h0
 rw [cV] at h1
 obtain ⟨s, e0, _, w0⟩ := DataW.trod_string Tryz.underlying9 h0
 obtain ⟨k, n, ad, cap, zs, t, e1, hc, ht, hn⟩ := val_cells h1
 simp at e0 e1
 obtain ⟨rfl, rfl, rfl, rfl⟩ := e1
 subst e0
 exact ⟨(s, k, n, zs, t), ad, cap, rfl, hc, hn, w0, ht⟩
end
theorem ans_open {H : Type} {enc : TypeId × Value → H} {W : World} {a0 : Option Addr} {len cap fuel : Nat} {x : DataW H × List MemPlace}
  (hf : DataW.trod enc Tryz.prog W 0 (fun _ => true) true fuel 23 [.slice a0 len cap] = some x) : ∃ ls : List An, ls.length = len ∧ Raw W a0 ls ∧ len ≤ cap := by
 rcases open_slice Tryz.underlying23 hf with ⟨hcs, _⟩ | ⟨a, l, c, m, n, D, Pl, hcs, _, hl, hm, hmm, _, hel⟩
 ·simp at hcs
  obtain ⟨rfl, rfl, rfl⟩ := hcs
  exact ⟨[], rfl, ⟨Nat.zero_le _, fun i h => absurd h (Nat.not_lt_zero _), fun h => absurd h (Nat.lt_irrefl _)⟩, Nat.le_refl _⟩
 ·simp at hcs
  obtain ⟨rfl, rfl, rfl⟩ := hcs
  simp at hmm
  subst hmm
  have hch : ∀ i, i < len → ∃ q : An × Option Addr × Nat, (W.cell? ((a.add (i * 5)).add 0) = some (.string (nm q.1)) ∧ W.cell? ((a.add (i * 5)).add 1) = some (.int .i64 (kd q.1)) ∧ W.cell? ((a.add (i * 5)).add 2) = some (.int .i64 (nu q.1)) ∧ W.cell? ((a.add (i * 5)).add 3) = some (.slice q.2.1 (cd q.1).length q.2.2) ∧ W.cell? ((a.add (i * 5)).add 4) = some (.string (tx q.1))) ∧
    CodesR W q.2.1 (cd q.1) ∧ (q.2.1 = none → q.2.2 = 0) ∧ (nm q.1).size ≤ maxLen ∧ (tx q.1).size ≤ maxLen := fun i hi => by
   obtain ⟨cs', hc, ht⟩ := hel i (by omega)
   rw [cA] at hc
   obtain ⟨p, ad, cap, rfl, w0, wn, w1, w2⟩ := ans_cells ht
   obtain ⟨_, _, hcc⟩ := World.cells?_some hc
   have e0 := hcc 0 (by omega)
   have e1 := hcc 1 (by omega)
   have e2 := hcc 2 (by omega)
   have e3 := hcc 3 (by omega)
   have e4 := hcc 4 (by omega)
   exact ⟨(p, ad, cap), ⟨by simpa using e0, by simpa using e1, by simpa using e2, by simpa using e3, by simpa using e4⟩, w0, wn, w1, w2⟩
  obtain ⟨f, hff⟩ := choose_lt hch
  refine ⟨(List.range len).map fun i => (f i).1, by simp, ?_, hl⟩
  have hget : ∀ i, i < len → ((List.range len).map fun i => (f i).1).getD i an0 = (f i).1 := fun i hi => by simp [List.getD, hi]
  refine ⟨by simp; omega, fun i hi => ?_, fun hp => ?_⟩
  ·have hi' : i < len := by simpa using hi
   rw [hget i hi']
   exact (hff i hi').2.2.2
  ·obtain ⟨b, off, spot⟩ := a
   have hp' : 0 < len := by simpa using hp
   have hz := (hff 0 hp').1.1
   rw [add_add] at hz
   have hspot : spot = none := by simpa [Addr.add] using World.cell?_spot hz
   subst hspot
   have hplain : ∀ i, (⟨b, off, none⟩ : Addr).add i = ⟨b, off + i, none⟩ := fun i => by unfold Addr.add; split <;> simp_all
   have hbl : b < W.heap.size := by
    have := World.block_lt_of_cell? W _ hz
    rw [hplain] at this
    exact this
   refine ⟨b, off, rfl, hbl, fun i hi => ?_⟩
   have hi' : i < len := by simpa using hi
   rw [hget i hi']
   obtain ⟨⟨e0, e1, e2, e3, e4⟩, hcr, hnn, _⟩ := hff i hi'
   rw [add_add, hplain] at e0 e1 e2 e3 e4
   exact ⟨(f i).2.1, (f i).2.2, ⟨e0, e1, e2, e3, e4⟩, hcr, hnn⟩
end Go.Proofs.YtmbhmknfipdadaaGreatDoor.AnsO
