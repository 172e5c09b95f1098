/- What is told of parts that came in. -/
import Derived.Test.YtbhblnpehhaiiaaDoorShpOpen
import Derived.ProofKit
import Derived.OpenShut
import Derived.ChangeOld
import Derived.Below
import Derived.Deep.Slices
import Derived.Lib.LaidU8
namespace Go.Proofs.YtbhblnpehhaiiaaDoor.PrtO
open Go.ChangeShapes Go.WideShapes Go.ChangeAt Go.RowKit Go.Lib Go.Deep
open PrtW PrtM PrtS PrtI

theorem cP : Tryd.prog.cellsOf 82 = 3 := by kernel_rfl
theorem list3 {α : Type} {l : List α} (h : l.length = 3) : ∃ a b c, l = [a, b, c] := by
  match l, h with
  | [a, b, c], _ => exact ⟨a, b, c, rfl⟩
section
variable {H : Type} {enc : TypeId × Value → H} {w : World} {base : Nat} {sp : Nat → Bool} {held : Bool}
theorem part_cells {fuel : Nat} {cs : List Value} {x : DataW H × List MemPlace} (h : DataW.trod enc Tryd.prog w base sp held fuel 82 cs = some x) :
    ∃ (k n : Int) (t : ByteArray), cs = [.int .i64 k, .int .i64 n, .string t] ∧ (Lit.int .i64 k).wf = true ∧ (Lit.int .i64 n).wf = true ∧ t.size ≤ maxLen := by
  obtain ⟨xs, n, rfl, _, hl, hxl, hall⟩ := DataW.trod_struct Tryd.underlying82 h
  obtain ⟨a, b, c, rfl⟩ := list3 (hl.trans cP)
  obtain ⟨x0, x1, x2, rfl⟩ := list3 hxl
  have h0 : DataW.trod enc Tryd.prog w base sp held n 2 (([a, b, c].drop 0).take (Tryd.prog.cellsOf 2)) = some x0 := hall 0 _ rfl
  have h1 : DataW.trod enc Tryd.prog w base sp held n 2 (([a, b, c].drop 1).take (Tryd.prog.cellsOf 2)) = some x1 := hall 1 _ rfl
  have h2 : DataW.trod enc Tryd.prog w base sp held n 9 (([a, b, c].drop 2).take (Tryd.prog.cellsOf 9)) = some x2 := hall 2 _ rfl
  rw [c2] at h0 h1
  rw [c9] at h2
  obtain ⟨z0, e0, _, w0⟩ := DataW.trod_int Tryd.underlying2 h0
  obtain ⟨z1, e1, _, w1⟩ := DataW.trod_int Tryd.underlying2 h1
  obtain ⟨z2, e2, _, w2⟩ := DataW.trod_string Tryd.underlying9 h2
  simp at e0 e1 e2
  subst e0 e1 e2
  exact ⟨z0, z1, z2, rfl, w0, w1, w2⟩
end

theorem wf_in {k : Int} (h : (Lit.int .i64 k).wf = true) : -9223372036854775808 ≤ k ∧ k ≤ 9223372036854775807 := by
  simpa [Lit.wf, IntKind.min, IntKind.max, IntKind.signed, IntKind.bits] using h

theorem parts_open {H : Type} {enc : TypeId × Value → H} {W : World} {a0 : Option Addr} {len cap fuel : Nat} {x : DataW H × List MemPlace}
    (hf : DataW.trod enc Tryd.prog W 0 (fun _ => true) true fuel 41 [.slice a0 len cap] = some x) : ∃ ps : List Pt, ps.length = len ∧ Raw W a0 ps ∧ len ≤ cap := by
  rcases open_slice Tryd.underlying41 hf with ⟨hcs, _⟩ | ⟨a, l, c, m, n, D, Pl, hcs, _, hl, hm, hmm, _, hel⟩
  · simp at hcs
    obtain ⟨rfl, rfl, rfl⟩ := hcs
    exact ⟨[], rfl, ⟨Nat.zero_le _, fun i h => absurd h (Nat.not_lt_zero _), fun h => absurd h (Nat.lt_irrefl _)⟩, Nat.le_refl _⟩
  · simp at hcs
    obtain ⟨rfl, rfl, rfl⟩ := hcs
    simp at hmm
    subst hmm
    have hch : ∀ i, i < len → ∃ q : Pt, (W.cell? ((a.add (i * 3)).add 0) = some (.int .i64 q.1) ∧ W.cell? ((a.add (i * 3)).add 1) = some (.int .i64 q.2.1) ∧ W.cell? ((a.add (i * 3)).add 2) = some (.string q.2.2)) ∧
        (-9223372036854775808 ≤ q.1 ∧ q.1 ≤ 9223372036854775807) ∧ (-9223372036854775808 ≤ q.2.1 ∧ q.2.1 ≤ 9223372036854775807) ∧ q.2.2.size ≤ maxLen := fun i hi => by
      obtain ⟨cs', hc, ht⟩ := hel i (by omega)
      rw [cP] at hc
      obtain ⟨k, n, t, rfl, w0, w1, w2⟩ := part_cells ht
      obtain ⟨_, _, hcc⟩ := World.cells?_some hc
      have e0 := hcc 0 (by omega)
      have e1 := hcc 1 (by omega)
      have e2 := hcc 2 (by omega)
      exact ⟨(k, n, t), ⟨by simpa using e0, by simpa using e1, by simpa using e2⟩, wf_in w0, wf_in w1, w2⟩
    obtain ⟨f, hff⟩ := choose_lt hch
    refine ⟨(List.range len).map f, by simp, ?_, hl⟩
    have hget : ∀ i, i < len → ((List.range len).map f).getD i pt0 = f i := fun i hi => by simp [List.getD, hi]
    refine ⟨by simp; omega, fun i hi => ?_, fun hp => ?_⟩
    · have hi' : i < len := by simpa using hi
      rw [hget i hi']
      exact (hff i hi').2
    · obtain ⟨b, off, spot⟩ := a
      have hp' : 0 < len := by simpa using hp
      have hz := (hff 0 hp').1.1
      rw [add_add] at hz
      have hspot : spot = none := by simpa [Addr.add] using World.cell?_spot hz
      subst hspot
      have hplain : ∀ i, (⟨b, off, none⟩ : Addr).add i = ⟨b, off + i, none⟩ := fun i => by unfold Addr.add; split <;> simp_all
      have hbl : b < W.heap.size := by
        have := World.block_lt_of_cell? W _ hz
        rw [hplain] at this
        exact this
      refine ⟨b, off, rfl, hbl, fun i hi => ?_⟩
      have hi' : i < len := by simpa using hi
      rw [hget i hi']
      obtain ⟨⟨e0, e1, e2⟩, _⟩ := hff i hi'
      rw [add_add, hplain] at e0 e1 e2
      exact ⟨e0, e1, e2⟩
end Go.Proofs.YtbhblnpehhaiiaaDoor.PrtO
