/- How a list of items lies in memory. -/
import Derived.Test.YtbhblnpehhaiiaaDoorPrtTo
namespace Go.Proofs.YtbhblnpehhaiiaaDoor.ItmW
open Go.RowKit
open PrtW

theorem blk_other {w : World} {g : Nat} {x : Obj} (h : w.heap[g]? = some x) {p : Addr} (hp : p.block ≠ g) (v : Value) : (w.setCell p v).heap[g]? = some x := by
  rw [Below.heap_setCell _ _ _ _ (fun e => hp e.symm)]; exact h
theorem blk_lt {w : World} {g : Nat} {x : Obj} (h : w.heap[g]? = some x) : g < w.heap.size := (Array.getElem?_eq_some_iff.1 h).1
/-- an item: kind, name, type, low, high, text, expression, hard -/
abbrev It := Int × ByteArray × Int × Int × Int × ByteArray × List Pt × Bool
abbrev ik (p : It) : Int := p.1
abbrev inm (p : It) : ByteArray := p.2.1
abbrev ity (p : It) : Int := p.2.2.1
abbrev ilo (p : It) : Int := p.2.2.2.1
abbrev ihi (p : It) : Int := p.2.2.2.2.1
abbrev itx (p : It) : ByteArray := p.2.2.2.2.2.1
abbrev iex (p : It) : List Pt := p.2.2.2.2.2.2.1
abbrev ihd (p : It) : Bool := p.2.2.2.2.2.2.2
def it0 : It := (0, ByteArray.empty, 0, 0, 0, ByteArray.empty, [], false)
def FitI (p : It) : Prop := (inm p).size ≤ 1048576 ∧ (itx p).size ≤ 1048576
/-- an item, as a value -/
abbrev itv (p : It) (a : Option Addr) (cap : Nat) : Value := .agg #[.int .i64 (ik p), .string (inm p), .int .i64 (ity p), .int .i64 (ilo p), .int .i64 (ihi p), .string (itx p), .slice a (iex p).length cap, .bool (ihd p)]
/-- the eight cells of an item -/
def Eight (w : World) (b o : Nat) (p : It) (a : Option Addr) (cap : Nat) : Prop :=
  w.cell? ⟨b, o, none⟩ = some (.int .i64 (ik p)) ∧ w.cell? ⟨b, o + 1, none⟩ = some (.string (inm p)) ∧ w.cell? ⟨b, o + 2, none⟩ = some (.int .i64 (ity p)) ∧ w.cell? ⟨b, o + 3, none⟩ = some (.int .i64 (ilo p)) ∧ w.cell? ⟨b, o + 4, none⟩ = some (.int .i64 (ihi p)) ∧ w.cell? ⟨b, o + 5, none⟩ = some (.string (itx p)) ∧ w.cell? ⟨b, o + 6, none⟩ = some (.slice a (iex p).length cap) ∧ w.cell? ⟨b, o + 7, none⟩ = some (.bool (ihd p))
theorem Eight.on {w w' : World} {b o B : Nat} {p : It} {a : Option Addr} {cap : Nat} (h : Eight w b o p a cap) (hb : b < B) (hB : Below B w w') : Eight w' b o p a cap := by
  obtain ⟨h0, h1, h2, h3, h4, h5, h6, h7⟩ := h
  exact ⟨by rw [hB.cell (p := ⟨b, _, none⟩) hb]; exact h0, by rw [hB.cell (p := ⟨b, _, none⟩) hb]; exact h1, by rw [hB.cell (p := ⟨b, _, none⟩) hb]; exact h2, by rw [hB.cell (p := ⟨b, _, none⟩) hb]; exact h3, by rw [hB.cell (p := ⟨b, _, none⟩) hb]; exact h4, by rw [hB.cell (p := ⟨b, _, none⟩) hb]; exact h5, by rw [hB.cell (p := ⟨b, _, none⟩) hb]; exact h6, by rw [hB.cell (p := ⟨b, _, none⟩) hb]; exact h7⟩
/-- the items ls lie in memory as a slice at a -/
def Its (w : World) (a : Option Addr) (ls : List It) : Prop :=
  ls.length ≤ 1048576 ∧ (∀ i, i < ls.length → FitI (ls.getD i it0)) ∧ (0 < ls.length → ∃ b o, a = some ⟨b, o, none⟩ ∧ b < w.heap.size ∧ ∀ i, i < ls.length → ∃ ai cap, Eight w b (o + i * 8) (ls.getD i it0) ai cap ∧ Parts w ai (iex (ls.getD i it0)) ∧ (iex (ls.getD i it0)).length ≤ cap ∧ (ai = none → cap = 0))
theorem Its.on {w w' : World} {a : Option Addr} {ls : List It} (h : Its w a ls) (hB : Below w.heap.size w w') : Its w' a ls := by
  refine ⟨h.1, h.2.1, fun hp => ?_⟩
  obtain ⟨b, o, ha, hb, hc⟩ := h.2.2 hp
  refine ⟨b, o, ha, Nat.lt_of_lt_of_le hb hB.size, fun i hi => ?_⟩
  obtain ⟨ai, cap, h1, h2, h3⟩ := hc i hi
  exact ⟨ai, cap, h1.on hb hB, h2.on hB, h3⟩
theorem Its.alloc {w : World} {a : Option Addr} {ls : List It} (h : Its w a ls) (o : Obj) : Its (w.alloc o) a ls := h.on ((Below.refl _ _).alloc (Nat.le_refl _) o)
theorem Its.nil (w : World) (a : Option Addr) : Its w a [] := ⟨Nat.zero_le _, fun _ h => absurd h (Nat.not_lt_zero _), fun h => absurd h (Nat.lt_irrefl _)⟩
theorem Its.at {w wr : World} {a : Option Addr} {ls : List It} (h : Its w a ls) (hB : Below w.heap.size w wr) {k : Nat} (hk : k < ls.length) :
    FitI (ls.getD k it0) ∧ ∃ b o ai cap, a = some ⟨b, o, none⟩ ∧ b < w.heap.size ∧ Eight wr b (o + k * 8) (ls.getD k it0) ai cap ∧ Parts wr ai (iex (ls.getD k it0)) ∧ (iex (ls.getD k it0)).length ≤ cap ∧ (ai = none → cap = 0) := by
  obtain ⟨b, o, ha, hb, hc⟩ := h.2.2 (by omega)
  obtain ⟨ai, cap, h1, h2, h3, h4⟩ := hc k hk
  exact ⟨h.2.1 k hk, b, o, ai, cap, ha, hb, h1.on hb hB, h2.on hB, h3, h4⟩

/-- how much an item counts for -/
def wtI (p : It) : Nat := (inm p).size + (itx p).size + ((iex p).length + bulk (iex p))
/-- all together -/
def bulkI : List It → Nat
  | [] => 0
  | p :: r => wtI p + bulkI r
theorem bulkI_take (ls : List It) (k : Nat) (h : k < ls.length) : bulkI (ls.take (k + 1)) = bulkI (ls.take k) + wtI (ls.getD k it0) := by
  induction ls generalizing k with
  | nil => simp at h
  | cons p r ih =>
    cases k with
    | zero => simp [bulkI]
    | succ k => simp only [List.take_succ_cons, bulkI, List.getD_cons_succ, ih k (by simpa using h)]; omega
theorem bulkI_le (ls : List It) (k : Nat) : bulkI (ls.take k) ≤ bulkI ls := by
  induction ls generalizing k with
  | nil => simp [bulkI]
  | cons p r ih => cases k with
    | zero => simp [bulkI]
    | succ k => simp only [List.take_succ_cons, bulkI]; have := ih k; omega
theorem bulkI_one (ls : List It) (k : Nat) (h : k < ls.length) : wtI (ls.getD k it0) ≤ bulkI ls := by
  have h1 := bulkI_take ls k h
  have h2 := bulkI_le ls (k + 1)
  omega
/-- as the items come in: no bound but the machine's -/
def RawI (w : World) (a : Option Addr) (ls : List It) : Prop :=
  ls.length ≤ maxLen ∧ (∀ i, i < ls.length → (inm (ls.getD i it0)).size ≤ maxLen ∧ (itx (ls.getD i it0)).size ≤ maxLen) ∧ (0 < ls.length → ∃ b o, a = some ⟨b, o, none⟩ ∧ b < w.heap.size ∧ ∀ i, i < ls.length → ∃ ai cap, Eight w b (o + i * 8) (ls.getD i it0) ai cap ∧ Raw w ai (iex (ls.getD i it0)) ∧ (iex (ls.getD i it0)).length ≤ cap ∧ (ai = none → cap = 0))
theorem RawI.its {w : World} {a : Option Addr} {ls : List It} (h : RawI w a ls) (hl : ls.length + bulkI ls ≤ 1048576) : Its w a ls := by
  refine ⟨by omega, fun i hi => ?_, fun hp => ?_⟩
  · have := bulkI_one ls i hi
    unfold wtI at this
    exact ⟨by omega, by omega⟩
  · obtain ⟨b, o, ha, hb, hc⟩ := h.2.2 hp
    refine ⟨b, o, ha, hb, fun i hi => ?_⟩
    obtain ⟨ai, cap, h1, h2, h3⟩ := hc i hi
    have := bulkI_one ls i hi
    unfold wtI at this
    exact ⟨ai, cap, h1, h2.parts (by omega), h3⟩
theorem raw_on {w w' : World} {a : Option Addr} {ps : List Pt} (h : Raw w a ps) (hB : Below w.heap.size w w') : Raw w' a ps := by
  refine ⟨h.1, h.2.1, fun hp => ?_⟩
  obtain ⟨b, o, ha, hb, hc⟩ := h.2.2 hp
  refine ⟨b, o, ha, Nat.lt_of_lt_of_le hb hB.size, fun i hi => ?_⟩
  obtain ⟨c0, c1, c2⟩ := hc i hi
  exact ⟨by rw [hB.cell (p := ⟨b, _, none⟩) hb]; exact c0, by rw [hB.cell (p := ⟨b, _, none⟩) hb]; exact c1, by rw [hB.cell (p := ⟨b, _, none⟩) hb]; exact c2⟩
theorem Tryd.infoI : (Tryd.prog.info? 31).map (fun i => (i.zero, i.size, i.bytes)) = some (some (.agg #[.int .i64 0, .string ByteArray.empty, .int .i64 0, .int .i64 0, .int .i64 0, .string ByteArray.empty, .slice none 0 0, .bool false]), 8, 96) := by kernel_rfl

/-- block g has room for n items; the first k of ls lie in it, their parts in blocks of their own behind it -/
def RowsI (w : World) (g n k : Nat) (ls : List It) : Prop :=
  ∃ cs : Array Value, w.heap[g]? = some (.cells cs 31 (0, 0)) ∧ cs.size = n * 8 ∧ ∀ i, i < k → ∃ g', g < g' ∧ Rows3 w g' (iex (ls.getD i it0)).length (iex (ls.getD i it0)).length (iex (ls.getD i it0)) ∧
    cs[i * 8]? = some (.int .i64 (ik (ls.getD i it0))) ∧ cs[i * 8 + 1]? = some (.string (inm (ls.getD i it0))) ∧ cs[i * 8 + 2]? = some (.int .i64 (ity (ls.getD i it0))) ∧ cs[i * 8 + 3]? = some (.int .i64 (ilo (ls.getD i it0))) ∧ cs[i * 8 + 4]? = some (.int .i64 (ihi (ls.getD i it0))) ∧ cs[i * 8 + 5]? = some (.string (itx (ls.getD i it0))) ∧ cs[i * 8 + 6]? = some (.slice (some ⟨g', 0, none⟩) (iex (ls.getD i it0)).length (iex (ls.getD i it0)).length) ∧ cs[i * 8 + 7]? = some (.bool (ihd (ls.getD i it0)))
theorem RowsI.lt {w : World} {g n k : Nat} {ls : List It} (h : RowsI w g n k ls) : g < w.heap.size := by
  obtain ⟨cs, hg, _⟩ := h
  exact blk_lt hg
theorem RowsI.room {w : World} {g n k : Nat} {ls : List It} (h : RowsI w g n k ls) {j : Nat} (hj : j < n * 8) : (∃ v, w.cell? ⟨g, j, none⟩ = some v) ∧ w.frozen? ⟨g, j, none⟩ = false := by
  obtain ⟨cs, hg, hs, _⟩ := h
  refine ⟨⟨cs[j]'(by omega), ?_⟩, by simp [World.frozen?, hg]⟩
  simp [World.cell?, hg, show j < cs.size by omega]
theorem RowsI.on {w w' : World} {g n k : Nat} {ls : List It} (h : RowsI w g n k ls) (hB : Below w.heap.size w w') : RowsI w' g n k ls := by
  have hl := h.lt
  obtain ⟨cs, hg, hs, hc⟩ := h
  refine ⟨cs, by rw [hB.block g hl]; exact hg, hs, fun i hi => ?_⟩
  obtain ⟨g', h1, h2, h3⟩ := hc i hi
  exact ⟨g', h1, h2.on hB, h3⟩
theorem rows3_other {w : World} {g n k : Nat} {ps : List Pt} (h : Rows3 w g n k ps) {p : Addr} (hp : p.block ≠ g) (v : Value) : Rows3 (w.setCell p v) g n k ps := by
  obtain ⟨cs, hg, hs⟩ := h
  exact ⟨cs, blk_other hg hp v, hs⟩
/-- an item put into the row at k -/
def put8 (W : World) (g o : Nat) (v0 v1 v2 v3 v4 v5 v6 v7 : Value) : World := (((((((W.setCell ⟨g, o, none⟩ v0).setCell ⟨g, o + 1, none⟩ v1).setCell ⟨g, o + 2, none⟩ v2).setCell ⟨g, o + 3, none⟩ v3).setCell ⟨g, o + 4, none⟩ v4).setCell ⟨g, o + 5, none⟩ v5).setCell ⟨g, o + 6, none⟩ v6).setCell ⟨g, o + 7, none⟩ v7
theorem RowsI.put {w : World} {g n k g1 : Nat} {ls : List It} (h : RowsI w g n k ls) (hk : k < n) (hg1 : g < g1) (hr : Rows3 w g1 (iex (ls.getD k it0)).length (iex (ls.getD k it0)).length (iex (ls.getD k it0))) :
    RowsI (put8 w g (k * 8) (.int .i64 (ik (ls.getD k it0))) (.string (inm (ls.getD k it0))) (.int .i64 (ity (ls.getD k it0))) (.int .i64 (ilo (ls.getD k it0))) (.int .i64 (ihi (ls.getD k it0))) (.string (itx (ls.getD k it0))) (.slice (some ⟨g1, 0, none⟩) (iex (ls.getD k it0)).length (iex (ls.getD k it0)).length) (.bool (ihd (ls.getD k it0)))) g n (k + 1) ls := by
  obtain ⟨cs, hg, hs, hc⟩ := h
  unfold put8
  refine ⟨_, blk_set _ _ _ _ _ _ (blk_set _ _ _ _ _ _ (blk_set _ _ _ _ _ _ (blk_set _ _ _ _ _ _ (blk_set _ _ _ _ _ _ (blk_set _ _ _ _ _ _ (blk_set _ _ _ _ _ _ (blk_set _ _ _ _ _ _ hg))))))), by simpa using hs, fun i hi => ?_⟩
  simp only [Array.getElem?_setIfInBounds, Array.size_setIfInBounds]
  by_cases he : i = k
  · subst he
    refine ⟨g1, hg1, ?_, ?_, ?_, ?_, ?_, ?_, ?_, ?_, ?_⟩
    · repeat (refine rows3_other ?_ (by simp only; omega) _)
      exact hr
    · rw [if_neg (by omega), if_neg (by omega), if_neg (by omega), if_neg (by omega), if_neg (by omega), if_neg (by omega), if_neg (by omega), if_pos rfl, if_pos (by omega)]
    · rw [if_neg (by omega), if_neg (by omega), if_neg (by omega), if_neg (by omega), if_neg (by omega), if_neg (by omega), if_pos rfl, if_pos (by omega)]
    · rw [if_neg (by omega), if_neg (by omega), if_neg (by omega), if_neg (by omega), if_neg (by omega), if_pos rfl, if_pos (by omega)]
    · rw [if_neg (by omega), if_neg (by omega), if_neg (by omega), if_neg (by omega), if_pos rfl, if_pos (by omega)]
    · rw [if_neg (by omega), if_neg (by omega), if_neg (by omega), if_pos rfl, if_pos (by omega)]
    · rw [if_neg (by omega), if_neg (by omega), if_pos rfl, if_pos (by omega)]
    · rw [if_neg (by omega), if_pos rfl, if_pos (by omega)]
    · rw [if_pos rfl, if_pos (by omega)]
  · obtain ⟨g', h1, h2, c0, c1, c2, c3, c4, c5, c6, c7⟩ := hc i (by omega)
    refine ⟨g', h1, ?_, ?_, ?_, ?_, ?_, ?_, ?_, ?_, ?_⟩
    · repeat (refine rows3_other ?_ (by simp only; omega) _)
      exact h2
    all_goals
      rw [if_neg (by omega), if_neg (by omega), if_neg (by omega), if_neg (by omega), if_neg (by omega), if_neg (by omega), if_neg (by omega), if_neg (by omega)]
      assumption
theorem RowsI.its {w : World} {g : Nat} {ls : List It} (h : RowsI w g ls.length ls.length ls) (hl : ls.length ≤ 1048576) (hf : ∀ i, i < ls.length → FitI (ls.getD i it0)) (hz : ∀ i, i < ls.length → (iex (ls.getD i it0)).length ≤ 1048576 ∧ ∀ j, j < (iex (ls.getD i it0)).length → Fit ((iex (ls.getD i it0)).getD j pt0)) : Its w (some ⟨g, 0, none⟩) ls := by
  refine ⟨hl, hf, fun _ => ⟨g, 0, rfl, h.lt, fun i hi => ?_⟩⟩
  obtain ⟨cs, hg, hs, hc⟩ := h
  obtain ⟨g', h1, h2, c0, c1, c2, c3, c4, c5, c6, c7⟩ := hc i hi
  refine ⟨some ⟨g', 0, none⟩, (iex (ls.getD i it0)).length, ?_, h2.parts (hz i hi).1 (hz i hi).2, Nat.le_refl _, fun h => by cases h⟩
  unfold Eight
  simp only [World.cell?, hg, Nat.zero_add]
  simp [c0, c1, c2, c3, c4, c5, c6, c7]
theorem Its.len {w : World} {a : Option Addr} {ls : List It} (h : Its w a ls) : ∀ i, i < ls.length → (iex (ls.getD i it0)).length ≤ 1048576 ∧ ∀ j, j < (iex (ls.getD i it0)).length → Fit ((iex (ls.getD i it0)).getD j pt0) := fun i hi => by
  obtain ⟨b, o, ha, hb, hc⟩ := h.2.2 (by omega)
  obtain ⟨ai, cap, _, h2, _⟩ := hc i hi
  exact ⟨h2.1, h2.2.1⟩
end Go.Proofs.YtbhblnpehhaiiaaDoor.ItmW
