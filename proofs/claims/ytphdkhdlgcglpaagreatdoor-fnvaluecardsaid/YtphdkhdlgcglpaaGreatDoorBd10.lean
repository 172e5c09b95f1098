/- Texts of ours, laid together: RdFresh, RdFree. -/
import Derived.Test.YtphdkhdlgcglpaaGreatDoorBd8
import Derived.Deep.AppendLies
/- Codes that a row owns; codes that were made anew. -/
namespace Go.Proofs.YtphdkhdlgcglpaaGreatDoor.RdS
open Go.RowKit
open ValW

/-! one code more -/
theorem cellsI_snoc (l : List Int) (x : Int) : cellsI (l ++ [x]) = cellsI l ++ [.int .i64 x] := by unfold cellsI; simp
/-- the codes that a row owns -/
theorem own_codes {w : World} {base : Nat} {v : Value} {zs : List Int} (h : w.ownsRow base 2 1 v zs.length (cellsI zs)) (hl : zs.length ≤ 1048576) : ∃ a cap, v = .slice a zs.length cap ∧ Codes w a zs ∧ (a = none ∨ ∃ g, a = some ⟨g, 0, none⟩ ∧ base ≤ g) := by
  rcases h.2 with ⟨rfl, h0⟩ | ⟨g, cap, cur, rfl, hb, hg, hn, hm, hs, ht⟩
  · rw [h0]
    have : zs = [] := List.length_eq_zero_iff.1 h0
    subst this
    exact ⟨none, 0, rfl, Codes.nil _ _, .inl rfl⟩
  · refine ⟨_, cap, rfl, ⟨hl, fun hp => ⟨g, 0, rfl, (Array.getElem?_eq_some_iff.1 hg).1, fun i hi => ?_⟩⟩, .inr ⟨g, rfl, hb⟩⟩
    have e : (cellsI zs)[i]? = some (.int .i64 (zs.getD i 0)) := by unfold cellsI; simp [List.getD, List.getElem?_eq_getElem hi]
    rw [← ht, List.getElem?_take, if_pos (by omega)] at e
    simp only [World.cell?, hg, Nat.zero_add]
    simpa using e
theorem codes_set {w : World} {a : Option Addr} {zs : List Int} {p : Addr} (h : Codes w a zs) (hne : ∀ b o, a = some ⟨b, o, none⟩ → p.block ≠ b) (v : Value) : Codes (w.setCell p v) a zs := by
  refine ⟨h.1, fun hp => ?_⟩
  obtain ⟨b, o, ha, hb, hc⟩ := h.2 hp
  exact ⟨b, o, ha, by simpa using hb, fun i hi => by rw [World.cell?_setCell_other w p ⟨b, o + i, none⟩ _ (by intro e; exact hne b o ha (by rw [e]))]; exact hc i hi⟩
/-- codes that were made from block B on -/
def Fresh (a : Option Addr) (B : Nat) : Prop := ∀ b o, a = some ⟨b, o, none⟩ → B ≤ b
theorem fresh_none (B : Nat) : Fresh none B := fun _ _ h => by cases h
end Go.Proofs.YtphdkhdlgcglpaaGreatDoor.RdS
/- Codes that may be written over. -/
namespace Go.Proofs.YtphdkhdlgcglpaaGreatDoor.RdI
open Go.RowKit
open ValW

/-- codes that may be written over -/
def Free (w : World) (a : Option Addr) (zs : List Int) : Prop := ∀ b o, a = some ⟨b, o, none⟩ → ∀ i, i < zs.length → b < w.heap.size ∧ w.frozen? ⟨b, o + i, none⟩ = false
theorem Free.on {w w' : World} {a : Option Addr} {zs : List Int} (h : Free w a zs) (hB : Below w.heap.size w w') : Free w' a zs := fun b o ha i hi => by
  have := h b o ha i hi
  exact ⟨Nat.lt_of_lt_of_le this.1 hB.size, by rw [hB.frozen (p := ⟨b, o + i, none⟩) this.1]; exact this.2⟩
theorem free_nil (w : World) (a : Option Addr) : Free w a [] := fun _ _ _ i hi => absurd hi (Nat.not_lt_zero i)
theorem free_set {w : World} {a : Option Addr} {zs : List Int} (h : Free w a zs) (p : Addr) (v : Value) : Free (w.setCell p v) a zs := fun b o ha i hi => by
  have := h b o ha i hi
  exact ⟨by simpa using this.1, by simpa using this.2⟩
theorem own_free {w : World} {base n : Nat} {a : Option Addr} {cap : Nat} {zs : List Int} (h : w.ownsRow base 2 1 (.slice a zs.length cap) n (cellsI zs)) : Free w a zs := by
  rcases h.2 with ⟨h0, _⟩ | ⟨g, cap', cur, h0, _, hg, _⟩
  · have e : a = none := by injection h0
    subst e; intro b o ha; cases ha
  · have e : a = some ⟨g, 0, none⟩ := by injection h0
    subst e
    intro b o ha i _
    cases ha
    exact ⟨(Array.getElem?_eq_some_iff.1 hg).1, by simp [World.frozen?, hg]⟩
end Go.Proofs.YtphdkhdlgcglpaaGreatDoor.RdI
