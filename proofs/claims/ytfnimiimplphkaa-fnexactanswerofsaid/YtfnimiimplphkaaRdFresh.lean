/- Codes that a row owns; codes that were made anew. -/
import Derived.Test.YtfnimiimplphkaaValWalks
import Derived.Deep.AppendLies
namespace Go.Proofs.Ytfnimiimplphkaa.RdS
open Go.RowKit
open ValW

/-! one code more -/
theorem cellsI_snoc (l : List Int) (x : Int) : cellsI (l ++ [x]) = cellsI l ++ [.int .i64 x] := by unfold cellsI; simp
/-- the codes that a row owns -/
theorem own_codes {w : World} {base : Nat} {v : Value} {zs : List Int} (h : w.ownsRow base 2 1 v zs.length (cellsI zs)) (hl : zs.length ≤ 1048576) : ∃ a cap, v = .slice a zs.length cap ∧ Codes w a zs ∧ (a = none ∨ ∃ g, a = some ⟨g, 0, none⟩ ∧ base ≤ g) := by
  rcases h.2 with ⟨rfl, h0⟩ | ⟨g, cap, cur, rfl, hb, hg, hn, hm, hs, ht⟩
  · rw [h0]
    have : zs = [] := List.length_eq_zero_iff.1 h0
    subst this
    exact ⟨none, 0, rfl, Codes.nil _ _, .inl rfl⟩
  · refine ⟨_, cap, rfl, ⟨hl, fun hp => ⟨g, 0, rfl, (Array.getElem?_eq_some_iff.1 hg).1, fun i hi => ?_⟩⟩, .inr ⟨g, rfl, hb⟩⟩
    have e : (cellsI zs)[i]? = some (.int .i64 (zs.getD i 0)) := by unfold cellsI; simp [List.getD, List.getElem?_eq_getElem hi]
    rw [← ht, List.getElem?_take, if_pos (by omega)] at e
    simp only [World.cell?, hg, Nat.zero_add]
    simpa using e
theorem codes_set {w : World} {a : Option Addr} {zs : List Int} {p : Addr} (h : Codes w a zs) (hne : ∀ b o, a = some ⟨b, o, none⟩ → p.block ≠ b) (v : Value) : Codes (w.setCell p v) a zs := by
  refine ⟨h.1, fun hp => ?_⟩
  obtain ⟨b, o, ha, hb, hc⟩ := h.2 hp
  exact ⟨b, o, ha, by simpa using hb, fun i hi => by rw [World.cell?_setCell_other w p ⟨b, o + i, none⟩ _ (by intro e; exact hne b o ha (by rw [e]))]; exact hc i hi⟩
/-- codes that were made from block B on -/
def Fresh (a : Option Addr) (B : Nat) : Prop := ∀ b o, a = some ⟨b, o, none⟩ → B ≤ b
theorem fresh_none (B : Nat) : Fresh none B := fun _ _ h => by cases h
end Go.Proofs.Ytfnimiimplphkaa.RdS
