/- Texts of ours, laid together: StrCore. -/
import Derived.Test.YtaofdckdmffaiaaGreatDoorProg
import Derived.WalkKit
import Derived.WalkSpells
import Derived.WalkLawsBesides
import Derived.RegionTactic
import Derived.BigRegion
import Derived.OpenShut
import Derived.Handy
import Derived.Laws.AppendOwn
import Derived.Laws.OwnMore
/- Rows of texts in memory. -/
namespace Go.Proofs.YtaofdckdmffaiaaGreatDoor.StrW
open Go.RowKit

abbrev Nm := List UInt8
def encS (l : Nm) : Value := .string ⟨l.toArray⟩
def strs (ss : List Nm) : List Value := ss.map encS
theorem mk_data (s : ByteArray) : (⟨s.data.toList.toArray⟩ : ByteArray) = s := by cases s; simp
theorem enc_data (s : ByteArray) : encS s.data.toList = .string s := by unfold encS; rw [mk_data]
/-- the texts ss lie in memory as a slice at a -/
def Strs (w : World) (a : Option Addr) (ss : List Nm) : Prop :=
  ss.length ≤ 1048576 ∧ (0 < ss.length → ∃ b o, a = some ⟨b, o, none⟩ ∧ b < w.heap.size ∧ ∀ i, i < ss.length → w.cell? ⟨b, o + i, none⟩ = some (encS (ss.getD i [])))
theorem Strs.on {w w' : World} {a : Option Addr} {ss : List Nm} (h : Strs w a ss) (hB : Below w.heap.size w w') : Strs w' a ss := by
  refine ⟨h.1, fun hp => ?_⟩
  obtain ⟨b, o, ha, hb, hc⟩ := h.2 hp
  exact ⟨b, o, ha, Nat.lt_of_lt_of_le hb hB.size, fun i hi => by rw [hB.cell (p := ⟨b, o + i, none⟩) hb]; exact hc i hi⟩
theorem Strs.nil (w : World) (a : Option Addr) : Strs w a [] := ⟨Nat.zero_le _, fun h => absurd h (Nat.lt_irrefl _)⟩
theorem Strs.at {w : World} {a : Option Addr} {ss : List Nm} (h : Strs w a ss) {i : Nat} (hi : i < ss.length) : ∃ b o, a = some ⟨b, o, none⟩ ∧ b < w.heap.size ∧ w.cell? ⟨b, o + i, none⟩ = some (encS (ss.getD i [])) := by
  obtain ⟨b, o, ha, hb, hc⟩ := h.2 (by omega)
  exact ⟨b, o, ha, hb, hc i hi⟩
theorem hid {p : Prop} (h : p) : Hid p := h
theorem below_one (w : World) (o : Obj) : Below w.heap.size w (w.alloc o) := (Below.refl _ _).alloc (Nat.le_refl _) o
theorem Tryz.infoS : (Tryz.prog.info? 9).map (fun i => (i.zero, i.size, i.bytes)) = some (some (.string ByteArray.empty), 1, 16) := by kernel_rfl
/-- what is owned lies in memory -/
theorem strs_own {w : World} {base : Nat} {v : Value} {ss : List Nm} (h : w.ownsRow base 9 1 v ss.length (strs ss)) (hl : ss.length ≤ 1048576) :
    ∃ a cap, v = .slice a ss.length cap ∧ Strs w a ss ∧ ss.length ≤ cap ∧ (a = none ∨ ∃ g, a = some ⟨g, 0, none⟩ ∧ base ≤ g) := by
  obtain ⟨_, hv⟩ := h
  rcases hv with ⟨rfl, h0⟩ | ⟨g, cap, cur, rfl, hb, hg, hc, _, hs, ht⟩
  · obtain rfl := List.length_eq_zero_iff.1 h0
    exact ⟨none, 0, rfl, Strs.nil _ _, Nat.le_refl _, .inl rfl⟩
  · refine ⟨_, cap, rfl, ⟨hl, fun _ => ⟨g, 0, rfl, (Array.getElem?_eq_some_iff.1 hg).1, fun i hi => ?_⟩⟩, hc, .inr ⟨g, rfl, hb⟩⟩
    have e : (strs ss)[i]? = some (encS (ss.getD i [])) := by unfold strs; simp [hi]
    rw [← ht, List.getElem?_take] at e
    split at e
    · unfold World.cell?
      simp only [hg, Nat.zero_add]
      simpa using e
    · cases e
theorem strs_one (ss : List Nm) : ∀ u ∈ strs ss, u.oneCell' = true := by
  intro u hu; unfold strs at hu; obtain ⟨z, _, rfl⟩ := List.mem_map.1 hu; rfl
theorem strs_append (a b : List Nm) : strs (a ++ b) = strs a ++ strs b := List.map_append
theorem strs_len (a : List Nm) : (strs a).length = a.length := List.length_map ..
end Go.Proofs.YtaofdckdmffaiaaGreatDoor.StrW
