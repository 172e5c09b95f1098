/- Texts of ours, laid together: PrtOwn. -/
import Derived.Test.YtllknohingfacaaDoorBd8
import Derived.Laws.AppendOwn
import Derived.Laws.OwnMore
import Derived.Laws.AppendOwnNone
/- Rows of parts that a call has made itself. -/
namespace Go.Proofs.YtllknohingfacaaDoor.PrtW
open Go.RowKit

def cellsP (ps : List Pt) : List Value := ps.flatMap fun p => [.int .i64 p.1, .int .i64 p.2.1, .string p.2.2]
theorem cellsP_cons (p : Pt) (r : List Pt) : cellsP (p :: r) = .int .i64 p.1 :: .int .i64 p.2.1 :: .string p.2.2 :: cellsP r := rfl
theorem cellsP_len (ps : List Pt) : (cellsP ps).length = ps.length * 3 := by
  induction ps with
  | nil => rfl
  | cons p r ih => rw [cellsP_cons]; simp [ih]; omega
theorem cellsP_append (a b : List Pt) : cellsP (a ++ b) = cellsP a ++ cellsP b := List.flatMap_append
theorem cellsP_at : ∀ (ps : List Pt) (i : Nat), i < ps.length → (cellsP ps)[i * 3]? = some (.int .i64 (ps.getD i pt0).1) ∧ (cellsP ps)[i * 3 + 1]? = some (.int .i64 (ps.getD i pt0).2.1) ∧ (cellsP ps)[i * 3 + 2]? = some (.string (ps.getD i pt0).2.2) := by
  intro ps
  induction ps with
  | nil => intro i h; simp at h
  | cons p r ih =>
    intro i h
    rw [cellsP_cons]
    cases i with
    | zero => exact ⟨rfl, rfl, rfl⟩
    | succ i =>
      rw [show (i + 1) * 3 = i * 3 + 3 by omega, show i * 3 + 3 + 1 = (i * 3 + 1) + 3 by omega, show i * 3 + 3 + 2 = (i * 3 + 2) + 3 by omega]
      simpa using ih i (by simpa using h)
theorem cellsP_one (ps : List Pt) : ∀ u ∈ cellsP ps, u.oneCell' = true := by
  intro u hu
  obtain ⟨p, _, h⟩ := List.mem_flatMap.1 hu
  simp at h
  rcases h with rfl | rfl | rfl <;> rfl
/-- the cells of parts that lie in memory -/
theorem parts_cells {w : World} {b o : Nat} {ps : List Pt} (h : Parts w (some ⟨b, o, none⟩) ps) {j : Nat} {u : Value} (hj : (cellsP ps)[j]? = some u) : w.cell? ⟨b, o + j, none⟩ = some u := by
  have hlt : j < ps.length * 3 := by have := (List.getElem?_eq_some_iff.1 hj).1; rwa [cellsP_len] at this
  obtain ⟨b1, o1, hbo, hb, hc⟩ := h.2.2 (by omega)
  cases hbo
  have hi : j / 3 < ps.length := by omega
  obtain ⟨c0, c1, c2⟩ := hc (j / 3) hi
  obtain ⟨d0, d1, d2⟩ := cellsP_at ps (j / 3) hi
  rcases (by omega : j = j / 3 * 3 ∨ j = j / 3 * 3 + 1 ∨ j = j / 3 * 3 + 2) with e | e | e
  · rw [e] at hj ⊢; rw [d0] at hj; rw [← hj, ← c0, ← e]
  · rw [e] at hj ⊢; rw [d1] at hj; rw [← hj, ← c1]; rfl
  · rw [e] at hj ⊢; rw [d2] at hj; rw [← hj, ← c2]; rfl
theorem parts_take {w : World} {b o k : Nat} {ps : List Pt} (h : Parts w (some ⟨b, o, none⟩) ps) : Parts w (some ⟨b, o, none⟩) (ps.take k) := by
  have hg : ∀ i, i < (ps.take k).length → (ps.take k).getD i pt0 = ps.getD i pt0 := fun i hi => by
    rw [List.length_take] at hi
    simp [List.getD, show i < k by omega]
  refine ⟨by have := h.1; rw [List.length_take]; omega, fun i hi => ?_, fun hp => ?_⟩
  · rw [hg i hi]; exact h.2.1 i (by rw [List.length_take] at hi; omega)
  · obtain ⟨b1, o1, hbo, hb, hc⟩ := h.2.2 (by rw [List.length_take] at hp; omega)
    cases hbo
    exact ⟨b, o, rfl, hb, fun i hi => by rw [hg i hi]; exact hc i (by rw [List.length_take] at hi; omega)⟩
theorem parts_drop {w : World} {b o k : Nat} {ps : List Pt} (h : Parts w (some ⟨b, o, none⟩) ps) : Parts w (some ⟨b, o + k * 3, none⟩) (ps.drop k) := by
  have hg : ∀ i, i < (ps.drop k).length → (ps.drop k).getD i pt0 = ps.getD (k + i) pt0 := fun i hi => by simp [List.getD, List.getElem?_drop]
  refine ⟨by have := h.1; rw [List.length_drop]; omega, fun i hi => ?_, fun hp => ?_⟩
  · rw [hg i hi]; exact h.2.1 _ (by rw [List.length_drop] at hi; omega)
  · obtain ⟨b1, o1, hbo, hb, hc⟩ := h.2.2 (by rw [List.length_drop] at hp; omega)
    cases hbo
    refine ⟨b, o + k * 3, rfl, hb, fun i hi => ?_⟩
    rw [hg i hi]
    have := hc (k + i) (by rw [List.length_drop] at hi; omega)
    rw [show o + (k + i) * 3 = o + k * 3 + i * 3 by omega] at this
    exact this
/-- what is owned lies in memory -/
theorem parts_own {w : World} {base : Nat} {v : Value} {ps : List Pt} (h : w.ownsRow base 61 3 v ps.length (cellsP ps)) (hl : ps.length ≤ 1048576) (hf : ∀ i, i < ps.length → Fit (ps.getD i pt0)) :
    ∃ a cap, v = .slice a ps.length cap ∧ Parts w a ps ∧ ps.length ≤ cap ∧ (a = none ∧ ps.length = 0 ∨ ∃ g, a = some ⟨g, 0, none⟩ ∧ base ≤ g) := by
  obtain ⟨_, hv⟩ := h
  rcases hv with ⟨rfl, h0⟩ | ⟨g, cap, cur, rfl, hb, hg, hc, _, hs, ht⟩
  · obtain rfl := List.length_eq_zero_iff.1 h0
    exact ⟨none, 0, rfl, Parts.nil _ _, Nat.le_refl _, .inl ⟨rfl, rfl⟩⟩
  · refine ⟨_, cap, rfl, ⟨hl, hf, fun _ => ⟨g, 0, rfl, (Array.getElem?_eq_some_iff.1 hg).1, fun i hi => ?_⟩⟩, hc, .inr ⟨g, rfl, hb⟩⟩
    obtain ⟨d0, d1, d2⟩ := cellsP_at ps i hi
    rw [← ht, List.getElem?_take, if_pos (by omega)] at d0 d1 d2
    unfold World.cell?
    simp only [hg, Nat.zero_add]
    exact ⟨by simpa using d0, by simpa using d1, by simpa using d2⟩
theorem addr_plain (b o j : Nat) : (⟨b, o, none⟩ : Addr).add j = ⟨b, o + j, none⟩ := by unfold Addr.add; split <;> simp_all
end Go.Proofs.YtllknohingfacaaDoor.PrtW
