/- How the parts of an expression lie in memory. -/
import Derived.Test.YtbhblnpehhaiiaaDoorProg
import Derived.WalkKit
import Derived.WalkSpells
import Derived.WalkLawsBesides
import Derived.RegionTactic
import Derived.BigRegion
import Derived.OpenShut
import Derived.Laws.MakeOwn
import Derived.Handy
import Derived.Deep.RegionHeld3
namespace Go.Proofs.YtbhblnpehhaiiaaDoor.PrtW
open Go.RowKit

theorem hid {p : Prop} (h : p) : Hid p := h
/-- a part: its op, its number, its name -/
abbrev Pt := Int × Int × ByteArray
def pt0 : Pt := (0, 0, ByteArray.empty)
/-- the parts' numbers are int64s, their names no longer than a text may be -/
def Fit (p : Pt) : Prop := (-9223372036854775808 ≤ p.1 ∧ p.1 ≤ 9223372036854775807) ∧ (-9223372036854775808 ≤ p.2.1 ∧ p.2.1 ≤ 9223372036854775807) ∧ p.2.2.size ≤ 1048576
/-- the parts ps lie in memory as a slice at a -/
def Parts (w : World) (a : Option Addr) (ps : List Pt) : Prop :=
  ps.length ≤ 1048576 ∧ (∀ i, i < ps.length → Fit (ps.getD i pt0)) ∧ (0 < ps.length → ∃ b o, a = some ⟨b, o, none⟩ ∧ b < w.heap.size ∧ ∀ i, i < ps.length →
    w.cell? ⟨b, o + i * 3, none⟩ = some (.int .i64 (ps.getD i pt0).1) ∧ w.cell? ⟨b, o + i * 3 + 1, none⟩ = some (.int .i64 (ps.getD i pt0).2.1) ∧ w.cell? ⟨b, o + i * 3 + 2, none⟩ = some (.string (ps.getD i pt0).2.2))
theorem Parts.on {w w' : World} {a : Option Addr} {ps : List Pt} (h : Parts w a ps) (hB : Below w.heap.size w w') : Parts w' a ps := by
  refine ⟨h.1, h.2.1, fun hp => ?_⟩
  obtain ⟨b, o, ha, hb, hc⟩ := h.2.2 hp
  refine ⟨b, o, ha, Nat.lt_of_lt_of_le hb hB.size, fun i hi => ?_⟩
  obtain ⟨c0, c1, c2⟩ := hc i hi
  exact ⟨by rw [hB.cell (p := ⟨b, _, none⟩) hb]; exact c0, by rw [hB.cell (p := ⟨b, _, none⟩) hb]; exact c1, by rw [hB.cell (p := ⟨b, _, none⟩) hb]; exact c2⟩
theorem Parts.alloc {w : World} {a : Option Addr} {ps : List Pt} (h : Parts w a ps) (o : Obj) : Parts (w.alloc o) a ps := h.on ((Below.refl _ _).alloc (Nat.le_refl _) o)
theorem Parts.nil (w : World) (a : Option Addr) : Parts w a [] := ⟨Nat.zero_le _, fun _ h => absurd h (Nat.not_lt_zero _), fun h => absurd h (Nat.lt_irrefl _)⟩

theorem bcell {W w1 : World} (hb : Below W.heap.size W w1) : (∀ b o, b < W.heap.size → w1.cell? ⟨b, o, none⟩ = W.cell? ⟨b, o, none⟩) ∧ (∀ b o, b < W.heap.size → w1.frozen? ⟨b, o, none⟩ = W.frozen? ⟨b, o, none⟩) :=
  ⟨fun b o h => hb.cell (p := ⟨b, o, none⟩) h, fun b o h => hb.frozen (p := ⟨b, o, none⟩) h⟩
/-- a part, as a value -/
abbrev pv (p : Pt) : Value := .agg #[.int .i64 p.1, .int .i64 p.2.1, .string p.2.2]

set_option maxHeartbeats 400000 in
/-- two parts that are alike -/
theorem eqPart (k n : Int) (t : ByteArray) (w : World) :
    Calls Tryd.prog 62 #[.agg #[.int .i64 k, .int .i64 n, .string t], .agg #[.int .i64 k, .int .i64 n, .string t]] w fun e w' => e = .returned (.bool true) ∧ Below w.heap.size w w' := by
  go_enter Tryd.func62, Tryd.ntmps62
  go_wp2
  go_ret
  exact ⟨rfl, by go_grown⟩

theorem held6 {wr w' : World} {b b' o0 o1 o2 p0 p1 p2 : Nat} {x0 x1 x2 y0 y1 y2 : Value} (hb : b < wr.heap.size) (hb' : b' < wr.heap.size) (c0 : wr.cell? ⟨b, o0, none⟩ = some x0) (c1 : wr.cell? ⟨b, o1, none⟩ = some x1) (c2 : wr.cell? ⟨b, o2, none⟩ = some x2)
    (d0 : wr.cell? ⟨b', p0, none⟩ = some y0) (d1 : wr.cell? ⟨b', p1, none⟩ = some y1) (d2 : wr.cell? ⟨b', p2, none⟩ = some y2) (hB : Below wr.heap.size wr w') :
    Below wr.heap.size wr w' ∧ w'.cell? ⟨b, o0, none⟩ = some x0 ∧ w'.cell? ⟨b, o1, none⟩ = some x1 ∧ w'.cell? ⟨b, o2, none⟩ = some x2 ∧ w'.cell? ⟨b', p0, none⟩ = some y0 ∧ w'.cell? ⟨b', p1, none⟩ = some y1 ∧ w'.cell? ⟨b', p2, none⟩ = some y2 := by
  obtain ⟨h, _⟩ := bcell hB
  exact ⟨hB, by rw [h _ _ hb]; exact c0, by rw [h _ _ hb]; exact c1, by rw [h _ _ hb]; exact c2, by rw [h _ _ hb']; exact d0, by rw [h _ _ hb']; exact d1, by rw [h _ _ hb']; exact d2⟩

set_option maxRecDepth 10000 in
set_option maxHeartbeats 400000 in
/-- the same parts twice -/
theorem eqParts (a a' : Option Addr) (cap cap' : Nat) (ps : List Pt) (w : World) (hc : Parts w a ps) (hc' : Parts w a' ps) :
    Calls Tryd.prog 38 #[.slice a ps.length cap, .slice a' ps.length cap'] w fun e w' => e = .returned (.bool true) ∧ Below w.heap.size w w' := by
  have HC : Hid (Parts w a ps) := hc
  have HC' : Hid (Parts w a' ps) := hc'
  have hl := hc.1
  clear hc hc'
  go_enter Tryd.func38, Tryd.ntmps38
  go_wp2
  go_loopw [5] (fun i wr => ∃ k : Nat, k ≤ ps.length ∧ i = .int .i64 k ∧ Below w.heap.size w wr) (fun i _ => ps.length - (intOf i).toNat)
  case atStart => exact ⟨0, Nat.zero_le _, rfl, Below.refl _ _⟩
  case round =>
    obtain ⟨k, hk, rfl, hbel⟩ := hrel
    by_cases hlt : k < ps.length
    · obtain ⟨_, _, h1⟩ := HC.out
      obtain ⟨_, _, h2⟩ := HC'.out
      obtain ⟨b, o, rfl, hb, hcs⟩ := h1 (by omega)
      obtain ⟨b', o', rfl, hb', hcs'⟩ := h2 (by omega)
      obtain ⟨c0, c1, c2⟩ := hcs k hlt
      obtain ⟨d0, d1, d2⟩ := hcs' k hlt
      rw [← hbel.cell (p := ⟨b, _, none⟩) hb] at c0 c1 c2
      rw [← hbel.cell (p := ⟨b', _, none⟩) hb'] at d0 d1 d2
      generalize ps.getD k pt0 = p at c0 c1 c2 d0 d1 d2
      obtain ⟨x, n, t⟩ := p
      have HB : Hid (Below w.heap.size w wr) := hbel
      clear hcs hcs' h1 h2 HC HC' hbel
      go_wp2_with fail
      have hbr : b < wr.heap.size := Nat.lt_of_lt_of_le hb HB.out.size
      have hbr' : b' < wr.heap.size := Nat.lt_of_lt_of_le hb' HB.out.size
      have hB0 : Below wr.heap.size wr wr.drew := (Below.refl _ _).drew
      go_region_held3 (fun w' => Below wr.heap.size wr w' ∧ w'.cell? ⟨b, o + k * 3, none⟩ = some (.int .i64 x) ∧ w'.cell? ⟨b, o + k * 3 + 1, none⟩ = some (.int .i64 n) ∧ w'.cell? ⟨b, o + k * 3 + 2, none⟩ = some (.string t) ∧ w'.cell? ⟨b', o' + k * 3, none⟩ = some (.int .i64 x) ∧ w'.cell? ⟨b', o' + k * 3 + 1, none⟩ = some (.int .i64 n) ∧ w'.cell? ⟨b', o' + k * 3 + 2, none⟩ = some (.string t))
        (first | exact held6 hbr hbr' c0 c1 c2 d0 d1 d2 (by assumption))
        (first | (go_at_call 62
                  have hp := ‹Below wr.heap.size wr _ ∧ _›.1
                  refine (eqPart x n t _).mono ?_
                  rintro e w' ⟨rfl, hB⟩
                  have hBn := hp.trans (hB.mono hp.size)))
      go_wp2
      refine ⟨⟨k + 1, by omega, by go_num, HB.out.trans (hBn.mono HB.out.size)⟩, by simp [intOf]; omega⟩
    · go_wp2
      go_ret
      exact ⟨rfl, hbel⟩

/-- block g has room for n parts; the first k of ps lie in it -/
def Rows3 (w : World) (g n k : Nat) (ps : List Pt) : Prop :=
  ∃ cs : Array Value, w.heap[g]? = some (.cells cs 75 (0, 0)) ∧ cs.size = n * 3 ∧ ∀ i, i < k → cs[i * 3]? = some (.int .i64 (ps.getD i pt0).1) ∧ cs[i * 3 + 1]? = some (.int .i64 (ps.getD i pt0).2.1) ∧ cs[i * 3 + 2]? = some (.string (ps.getD i pt0).2.2)
theorem Rows3.lt {w : World} {g n k : Nat} {ps : List Pt} (h : Rows3 w g n k ps) : g < w.heap.size := by
  obtain ⟨cs, hg, _⟩ := h
  exact (Array.getElem?_eq_some_iff.1 hg).1
theorem Rows3.room {w : World} {g n k : Nat} {ps : List Pt} (h : Rows3 w g n k ps) {j : Nat} (hj : j < n * 3) : (∃ v, w.cell? ⟨g, j, none⟩ = some v) ∧ w.frozen? ⟨g, j, none⟩ = false := by
  obtain ⟨cs, hg, hs, _⟩ := h
  refine ⟨⟨cs[j]'(by omega), ?_⟩, by simp [World.frozen?, hg]⟩
  simp [World.cell?, hg, show j < cs.size by omega]
theorem Rows3.on {w w' : World} {g n k : Nat} {ps : List Pt} (h : Rows3 w g n k ps) (hB : Below w.heap.size w w') : Rows3 w' g n k ps := by
  have hl := h.lt
  obtain ⟨cs, hg, hs, hc⟩ := h
  exact ⟨cs, by rw [hB.block g hl]; exact hg, hs, hc⟩
theorem blk_set (w : World) (g o : Nat) (v : Value) (cs : Array Value) (T : TypeId) (h : w.heap[g]? = some (.cells cs T (0, 0))) : (w.setCell ⟨g, o, none⟩ v).heap[g]? = some (.cells (cs.setIfInBounds o v) T (0, 0)) := by
  simp [World.setCell, Array.getElem?_modify, h]
theorem Rows3.put {w : World} {g n k : Nat} {ps : List Pt} (h : Rows3 w g n k ps) (hk : k < n) :
    Rows3 (((w.setCell ⟨g, k * 3, none⟩ (.int .i64 (ps.getD k pt0).1)).setCell ⟨g, k * 3 + 1, none⟩ (.int .i64 (ps.getD k pt0).2.1)).setCell ⟨g, k * 3 + 2, none⟩ (.string (ps.getD k pt0).2.2)) g n (k + 1) ps := by
  obtain ⟨cs, hg, hs, hc⟩ := h
  refine ⟨_, blk_set _ _ _ _ _ _ (blk_set _ _ _ _ _ _ (blk_set _ _ _ _ _ _ hg)), by simpa using hs, fun i hi => ?_⟩
  simp only [Array.getElem?_setIfInBounds, Array.size_setIfInBounds]
  by_cases he : i = k
  · subst he
    refine ⟨?_, ?_, ?_⟩
    · rw [if_neg (by omega), if_neg (by omega), if_pos rfl, if_pos (by omega)]
    · rw [if_neg (by omega), if_pos rfl, if_pos (by omega)]
    · rw [if_pos rfl, if_pos (by omega)]
  · obtain ⟨c0, c1, c2⟩ := hc i (by omega)
    refine ⟨?_, ?_, ?_⟩
    · rw [if_neg (by omega), if_neg (by omega), if_neg (by omega)]; exact c0
    · rw [if_neg (by omega), if_neg (by omega), if_neg (by omega)]; exact c1
    · rw [if_neg (by omega), if_neg (by omega), if_neg (by omega)]; exact c2
theorem Rows3.parts {w : World} {g : Nat} {ps : List Pt} (h : Rows3 w g ps.length ps.length ps) (hl : ps.length ≤ 1048576) (hf : ∀ i, i < ps.length → Fit (ps.getD i pt0)) : Parts w (some ⟨g, 0, none⟩) ps := by
  refine ⟨hl, hf, fun _ => ⟨g, 0, rfl, h.lt, fun i hi => ?_⟩⟩
  obtain ⟨cs, hg, hs, hc⟩ := h
  obtain ⟨c0, c1, c2⟩ := hc i hi
  simp only [World.cell?, hg, Nat.zero_add]
  simp [c0, c1, c2]
theorem Tryd.infoP : (Tryd.prog.info? 75).map (fun i => (i.zero, i.size, i.bytes)) = some (some (.agg #[.int .i64 0, .int .i64 0, .string ByteArray.empty]), 3, 32) := by kernel_rfl

/-- all names together -/
def bulk : List Pt → Nat
  | [] => 0
  | p :: r => p.2.2.size + bulk r
theorem bulk_take (ps : List Pt) (k : Nat) (h : k < ps.length) : bulk (ps.take (k + 1)) = bulk (ps.take k) + (ps.getD k pt0).2.2.size := by
  induction ps generalizing k with
  | nil => simp at h
  | cons p r ih =>
    cases k with
    | zero => simp [bulk]
    | succ k => simp only [List.take_succ_cons, bulk, List.getD_cons_succ, ih k (by simpa using h)]; omega
theorem bulk_le (ps : List Pt) (k : Nat) : bulk (ps.take k) ≤ bulk ps := by
  induction ps generalizing k with
  | nil => simp [bulk]
  | cons p r ih => cases k with
    | zero => simp [bulk]
    | succ k => simp only [List.take_succ_cons, bulk]; have := ih k; omega

/-- as the parts come in: no bound but the machine's -/
def Raw (w : World) (a : Option Addr) (ps : List Pt) : Prop :=
  ps.length ≤ maxLen ∧ (∀ i, i < ps.length → (-9223372036854775808 ≤ (ps.getD i pt0).1 ∧ (ps.getD i pt0).1 ≤ 9223372036854775807) ∧ (-9223372036854775808 ≤ (ps.getD i pt0).2.1 ∧ (ps.getD i pt0).2.1 ≤ 9223372036854775807) ∧ (ps.getD i pt0).2.2.size ≤ maxLen) ∧ (0 < ps.length → ∃ b o, a = some ⟨b, o, none⟩ ∧ b < w.heap.size ∧ ∀ i, i < ps.length →
    w.cell? ⟨b, o + i * 3, none⟩ = some (.int .i64 (ps.getD i pt0).1) ∧ w.cell? ⟨b, o + i * 3 + 1, none⟩ = some (.int .i64 (ps.getD i pt0).2.1) ∧ w.cell? ⟨b, o + i * 3 + 2, none⟩ = some (.string (ps.getD i pt0).2.2))
theorem bulk_one (ps : List Pt) (k : Nat) (h : k < ps.length) : (ps.getD k pt0).2.2.size ≤ bulk ps := by
  have h1 := bulk_take ps k h
  have h2 := bulk_le ps (k + 1)
  omega
theorem Raw.parts {w : World} {a : Option Addr} {ps : List Pt} (h : Raw w a ps) (hl : ps.length + bulk ps ≤ 1048576) : Parts w a ps :=
  ⟨by omega, fun i hi => ⟨(h.2.1 i hi).1, (h.2.1 i hi).2.1, by have := bulk_one ps i hi; omega⟩, h.2.2⟩
end Go.Proofs.YtbhblnpehhaiiaaDoor.PrtW
