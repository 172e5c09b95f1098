/- Texts of ours, laid together: AnsOwn. -/
import Derived.Test.YtjnnkilmlngjgaaGreatDoorBd22
import Derived.Test.YtjnnkilmlngjgaaGreatDoorBd25
import Derived.Test.YtjnnkilmlngjgaaGreatDoorBd10
import Derived.Laws.AppendOwn
import Derived.Laws.OwnMore
import Derived.Laws.AppendOwnNone
/- Rows of answers that a call has made itself, cell by cell. -/
namespace Go.Proofs.YtjnnkilmlngjgaaGreatDoor.AnsO
open Go.RowKit
open ValW RdS AnsW
open DrawV (TyI)

/-- an answer, and where its codes lie -/
abbrev Ax := An × (Option Addr × Nat)
def ax0 : Ax := (an0, (none, 0))
def cells5 (q : Ax) : List Value := [.string (nm q.1), .int .i64 (kd q.1), .int .i64 (nu q.1), .slice q.2.1 (cd q.1).length q.2.2, .string (tx q.1)]
def cellsA (qs : List Ax) : List Value := qs.flatMap cells5
theorem cellsA_cons (q : Ax) (r : List Ax) : cellsA (q :: r) = .string (nm q.1) :: .int .i64 (kd q.1) :: .int .i64 (nu q.1) :: .slice q.2.1 (cd q.1).length q.2.2 :: .string (tx q.1) :: cellsA r := rfl
theorem cellsA_len (qs : List Ax) : (cellsA qs).length = qs.length * 5 := by
  induction qs with
  | nil => rfl
  | cons p r ih => rw [cellsA_cons]; simp [ih]; omega
theorem cellsA_append (a b : List Ax) : cellsA (a ++ b) = cellsA a ++ cellsA b := List.flatMap_append
theorem cellsA_at : ∀ (qs : List Ax) (i : Nat), i < qs.length → (cellsA qs)[i * 5]? = some (.string (nm (qs.getD i ax0).1)) ∧ (cellsA qs)[i * 5 + 1]? = some (.int .i64 (kd (qs.getD i ax0).1)) ∧ (cellsA qs)[i * 5 + 2]? = some (.int .i64 (nu (qs.getD i ax0).1)) ∧
    (cellsA qs)[i * 5 + 3]? = some (.slice (qs.getD i ax0).2.1 (cd (qs.getD i ax0).1).length (qs.getD i ax0).2.2) ∧ (cellsA qs)[i * 5 + 4]? = some (.string (tx (qs.getD i ax0).1)) := by
  intro qs
  induction qs with
  | nil => intro i h; simp at h
  | cons p r ih =>
    intro i h
    rw [cellsA_cons]
    cases i with
    | zero => exact ⟨rfl, rfl, rfl, rfl, rfl⟩
    | succ i =>
      rw [show (i + 1) * 5 = i * 5 + 5 by omega, show i * 5 + 5 + 1 = (i * 5 + 1) + 5 by omega, show i * 5 + 5 + 2 = (i * 5 + 2) + 5 by omega, show i * 5 + 5 + 3 = (i * 5 + 3) + 5 by omega, show i * 5 + 5 + 4 = (i * 5 + 4) + 5 by omega]
      simpa using ih i (by simpa using h)
theorem cellsA_one (qs : List Ax) : ∀ u ∈ cellsA qs, u.oneCell' = true := by
  intro u hu
  obtain ⟨p, _, h⟩ := List.mem_flatMap.1 hu
  simp [cells5] at h
  rcases h with rfl | rfl | rfl | rfl | rfl <;> rfl
theorem cellsA_drop (qs : List Ax) (k : Nat) : (cellsA qs).drop (k * 5) = cellsA (qs.drop k) := by
  induction qs generalizing k with
  | nil => simp [cellsA]
  | cons p r ih =>
    cases k with
    | zero => simp
    | succ k => rw [cellsA_cons, show (k + 1) * 5 = k * 5 + 5 by omega]; simpa using ih k
theorem cellsA_take (qs : List Ax) (k : Nat) : (cellsA qs).take (k * 5) = cellsA (qs.take k) := by
  induction qs generalizing k with
  | nil => simp [cellsA]
  | cons p r ih =>
    cases k with
    | zero => simp [cellsA]
    | succ k => rw [cellsA_cons, show (k + 1) * 5 = k * 5 + 5 by omega]; simp [cellsA_cons, ih k]
/-- codes of one's own, in a block of numbers -/
def CdT (w : World) (q : Ax) : Prop := Codes w q.2.1 (cd q.1) ∧ TyI w q.2.1 ∧ (q.2.1 = none → q.2.2 = 0)
theorem CdT.on {w w' : World} {q : Ax} (h : CdT w q) (hB : Below w.heap.size w w') : CdT w' q := ⟨h.1.on hB, h.2.1.on hB, h.2.2⟩
theorem CdT.grown {w w' : World} {q : Ax} {g : Option Nat} (h : CdT w q) (hg : w.grownBy w' g) (ht : ∀ b, g = some b → ∃ cs T fz, w.heap[b]? = some (.cells cs T fz) ∧ T ≠ 2) : CdT w' q := by
  have hne : ∀ b o, q.2.1 = some ⟨b, o, none⟩ → w'.heap[b]? = w.heap[b]? := fun b o ha => by
    obtain ⟨cs, fz, hc⟩ := h.2.1 b o ha
    refine hg.block b (Array.getElem?_eq_some_iff.1 hc).1 fun e => ?_
    obtain ⟨cs', T, fz', hc', hne⟩ := ht b e.symm
    rw [hc] at hc'
    have hx := Option.some.inj hc'
    injection hx with _ h2
    exact hne h2.symm
  refine ⟨⟨h.1.1, fun hp => ?_⟩, fun b o ha => ?_, h.2.2⟩
  · obtain ⟨b, o, ha, hb, hc⟩ := h.1.2 hp
    exact ⟨b, o, ha, Nat.lt_of_lt_of_le hb hg.size, fun i hi => by rw [World.cell?_of_block (w := w) (hne b o ha)]; exact hc i hi⟩
  · obtain ⟨cs, fz, hc⟩ := h.2.1 b o ha
    exact ⟨cs, fz, by rw [hne b o ha]; exact hc⟩
/-- a row of answers of one's own -/
def OwnR (w : World) (base : Nat) (v : Value) (qs : List Ax) : Prop := w.ownsRow base 52 5 v qs.length (cellsA qs) ∧ (∀ q ∈ qs, CdT w q) ∧ ∃ g cap, v = .slice (some ⟨g, 0, none⟩) qs.length cap
theorem OwnR.block {w : World} {base : Nat} {v : Value} {qs : List Ax} (h : OwnR w base v qs) : ∀ b, v.ownBlock = some b → ∃ cs T fz, w.heap[b]? = some (.cells cs T fz) ∧ T ≠ 2 := fun b hb => by
  obtain ⟨⟨_, hv⟩, _, g, cap, rfl⟩ := h
  rcases hv with ⟨h0, _⟩ | ⟨g', c, cur, h0, _, hg, _⟩
  · cases h0
  · cases h0
    cases hb
    exact ⟨cur, _, _, hg, by decide⟩
theorem OwnR.on {w w' : World} {base : Nat} {v : Value} {qs : List Ax} (h : OwnR w base v qs) (hB : Below w.heap.size w w') : OwnR w' base v qs := by
  obtain ⟨⟨h0, hv⟩, h2, h3⟩ := h
  refine ⟨⟨h0, ?_⟩, fun q hq => (h2 q hq).on hB, h3⟩
  rcases hv with h1 | ⟨g, c, cur, h1, hb, hg, hr⟩
  · exact .inl h1
  · exact .inr ⟨g, c, cur, h1, hb, by rw [hB.block g (Array.getElem?_eq_some_iff.1 hg).1]; exact hg, hr⟩
theorem OwnR.base {w : World} {base b : Nat} {v : Value} {qs : List Ax} (h : OwnR w base v qs) (hb : b ≤ base) : OwnR w b v qs := by
  obtain ⟨⟨h0, hv⟩, h2, h3⟩ := h
  refine ⟨⟨h0, ?_⟩, h2, h3⟩
  rcases hv with h1 | ⟨g, c, cur, h1, hg, hr⟩
  · exact .inl h1
  · exact .inr ⟨g, c, cur, h1, by omega, hr⟩
theorem OwnR.push {w w' : World} {base : Nat} {v v' : Value} {qs rs : List Ax} (h : OwnR w base v qs) (hr : ∀ q ∈ rs, CdT w q) {n : Nat} (hn : n = rs.length) (hown : w'.ownsRow base 52 5 v' (qs.length + n) (cellsA qs ++ cellsA rs)) (hg : w.grownBy w' v.ownBlock) (hnil : ¬ v' = .slice none 0 0) : OwnR w' base v' (qs ++ rs) := by
  subst hn
  have hown2 : w'.ownsRow base 52 5 v' (qs ++ rs).length (cellsA (qs ++ rs)) := by rw [List.length_append, cellsA_append]; exact hown
  refine ⟨hown2, fun q hq => ?_, ?_⟩
  · rcases List.mem_append.1 hq with hq | hq
    · exact (h.2.1 q hq).grown hg h.block
    · exact (hr q hq).grown hg h.block
  · rcases hown2.2 with ⟨h0, _⟩ | ⟨g', c, cur, h0, _⟩
    · exact absurd h0 hnil
    · exact ⟨g', c, h0⟩
theorem OwnR.five {w : World} {base g n cap : Nat} {qs : List Ax} (h : OwnR w base (.slice (some ⟨g, 0, none⟩) n cap) qs) {i : Nat} (hi : i < qs.length) : Five w g (i * 5) (qs.getD i ax0).1 (qs.getD i ax0).2.1 (qs.getD i ax0).2.2 := by
  rcases h.1.2 with ⟨h0, _⟩ | ⟨g', c, cur, h0, _, hg, _, _, hs, ht⟩
  · cases h0
  · cases h0
    obtain ⟨d0, d1, d2, d3, d4⟩ := cellsA_at qs i hi
    rw [← ht, List.getElem?_take, if_pos (by omega)] at d0 d1 d2 d3 d4
    unfold Five World.cell?
    simp only [hg]
    exact ⟨by simpa using d0, by simpa using d1, by simpa using d2, by simpa using d3, by simpa using d4⟩
theorem OwnR.cells {w : World} {base g n cap : Nat} {qs : List Ax} (h : OwnR w base (.slice (some ⟨g, 0, none⟩) n cap) qs) {j : Nat} {u : Value} (hj : (cellsA qs)[j]? = some u) : w.cell? ⟨g, j, none⟩ = some u := by
  have hlt : j < qs.length * 5 := by have := (List.getElem?_eq_some_iff.1 hj).1; rwa [cellsA_len] at this
  rcases h.1.2 with ⟨h0, _⟩ | ⟨g', c, cur, h0, _, hg, _, _, hs, ht⟩
  · cases h0
  · cases h0
    rw [← ht, List.getElem?_take, if_pos (by omega)] at hj
    unfold World.cell?
    simp only [hg]
    simpa using hj
theorem OwnR.ans {w : World} {base g n cap : Nat} {qs : List Ax} (h : OwnR w base (.slice (some ⟨g, 0, none⟩) n cap) qs) (hl : qs.length ≤ 1048576) (hf : ∀ q ∈ qs, Fit q.1) : Ans w (some ⟨g, 0, none⟩) (qs.map Prod.fst) := by
  have hge : ∀ i, i < qs.length → (qs.map Prod.fst).getD i an0 = (qs.getD i ax0).1 := fun i hi => by simp [List.getD, List.getElem?_eq_getElem hi]
  have hgm : ∀ i, i < qs.length → qs.getD i ax0 ∈ qs := fun i hi => by simp [List.getD, List.getElem?_eq_getElem hi]
  refine ⟨by simpa using hl, fun i hi => ?_, fun _ => ⟨g, 0, rfl, ?_, fun i hi => ?_⟩⟩
  · rw [List.length_map] at hi
    rw [hge i hi]; exact hf _ (hgm i hi)
  · obtain ⟨cs, _, fz, hc, _⟩ := h.block g rfl
    exact (Array.getElem?_eq_some_iff.1 hc).1
  · rw [List.length_map] at hi
    rw [hge i hi, Nat.zero_add]
    obtain ⟨k1, _, k3⟩ := h.2.1 _ (hgm i hi)
    exact ⟨_, _, h.five hi, k1, k3⟩
theorem own_made (w : World) : OwnR (w.alloc (.cells #[] 52)) w.heap.size (.slice (some ⟨w.heap.size, 0, none⟩) 0 0) [] :=
  ⟨World.ownsRow_made (base := w.heap.size) (e := 52) (size := 5) w #[] 0 (Nat.le_refl _) (by unfold maxLen; omega) rfl, fun _ h => (nomatch h), _, _, rfl⟩
theorem addr_plain (b o j : Nat) : (⟨b, o, none⟩ : Addr).add j = ⟨b, o + j, none⟩ := by unfold Addr.add; split <;> simp_all
theorem take_cell {qs : List Ax} {k j : Nat} {u : Value} (h : (cellsA (qs.take k))[j]? = some u) : (cellsA qs)[j]? = some u := by
  rw [← cellsA_take, List.getElem?_take] at h
  split at h
  · exact h
  · cases h
theorem drop_cell {qs : List Ax} {k j : Nat} {u : Value} (h : (cellsA (qs.drop k))[j]? = some u) : (cellsA qs)[k * 5 + j]? = some u := by
  rw [← cellsA_drop, List.getElem?_drop] at h
  exact h
theorem OwnR.kept {w w' : World} {base : Nat} {v : Value} {qs : List Ax} {r : Option Nat} (h : OwnR w base v qs) (hg : w.grownBy w' r) (ht : ∀ b, r = some b → ∃ cs T fz, w.heap[b]? = some (.cells cs T fz) ∧ T ≠ 2) (hne : ∀ b, v.ownBlock = some b → r ≠ some b) : OwnR w' base v qs := by
  obtain ⟨⟨h0, hv⟩, h2, g, cap, rfl⟩ := h
  refine ⟨⟨h0, ?_⟩, fun q hq => (h2 q hq).grown hg ht, g, cap, rfl⟩
  rcases hv with h1 | ⟨g', c, cur, h1, hb, hgb, hr⟩
  · exact .inl h1
  · cases h1
    exact .inr ⟨g, _, cur, rfl, hb, by rw [hg.block g (Array.getElem?_eq_some_iff.1 hgb).1 (fun e => hne g rfl e.symm)]; exact hgb, hr⟩
theorem grown_set (w : World) (b j : Nat) (u : Value) : w.grownBy (w.setCell ⟨b, j, none⟩ u) (some b) := ⟨rfl, rfl, rfl, by simp, fun k _ hn => Below.heap_setCell _ _ _ _ (fun e => hn (by rw [e]))⟩
theorem OwnR.set {w : World} {base b : Nat} {v : Value} {qs : List Ax} (h : OwnR w base v qs) (hb : b < base) (ht : ∃ cs T fz, w.heap[b]? = some (.cells cs T fz) ∧ T ≠ 2) (j : Nat) (u : Value) : OwnR (w.setCell ⟨b, j, none⟩ u) base v qs :=
  h.kept (grown_set w b j u) (fun b' e => by cases e; exact ht) (fun b' hv e => by
    cases e
    have := (h.1.lt b hv).1
    omega)
theorem ty_set {w : World} {b : Nat} {T0 : TypeId} (h : ∃ cs T fz, w.heap[b]? = some (.cells cs T fz) ∧ T ≠ T0) (j : Nat) (u : Value) : ∃ cs T fz, (w.setCell ⟨b, j, none⟩ u).heap[b]? = some (.cells cs T fz) ∧ T ≠ T0 := by
  obtain ⟨cs, T, fz, hc, hn⟩ := h
  exact ⟨cs.setIfInBounds j u, T, fz, by simp [World.setCell, Array.getElem?_modify, hc], hn⟩
theorem OwnR.room {w : World} {base g n cap : Nat} {qs : List Ax} (h : OwnR w base (.slice (some ⟨g, 0, none⟩) n cap) qs) : n = qs.length ∧ qs.length ≤ cap ∧ base ≤ g ∧ g < w.heap.size := by
  rcases h.1.2 with ⟨h0, _⟩ | ⟨g', c, cur, h0, hb, hg, hc, _⟩
  · cases h0
  · cases h0
    exact ⟨rfl, hc, hb, (Array.getElem?_eq_some_iff.1 hg).1⟩
theorem fst_at {qs : List Ax} {ls : List An} (h : qs.map Prod.fst = ls) {i : Nat} (hi : i < qs.length) : (qs.getD i ax0).1 = ls.getD i an0 := by
  rw [← h]
  simp [List.getD, List.getElem?_eq_getElem hi]
end Go.Proofs.YtjnnkilmlngjgaaGreatDoor.AnsO
