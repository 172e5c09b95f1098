/- The answer of a name. -/
import Derived.Test.YtfnimiimplphkaaBookMath
namespace Go.Proofs.Ytfnimiimplphkaa.AnsW
open Go.RowKit
open ValW NameW

theorem data_ne {s t : ByteArray} : s.data.toList = t.data.toList ↔ s = t := ⟨fun h => by
  have : s.data = t.data := Array.toList_inj.1 h
  exact ByteArray.ext this, fun h => by rw [h]⟩
/-- at i stands the first answer of that name -/
def Found (ls : List An) (s : ByteArray) (i : Nat) : Prop := i < ls.length ∧ nm (ls.getD i an0) = s
/-- no answer has that name -/
def Lacks (ls : List An) (s : ByteArray) : Prop := ∀ i, i < ls.length → nm (ls.getD i an0) ≠ s
theorem found_one {ls : List An} (h : rightA ls = true) {s : ByteArray} {i j : Nat} (hi : Found ls s i) (hj : Found ls s j) : i = j := by
  have hr := (rightA_at h).2
  rcases Nat.lt_trichotomy i j with hl | hl | hl
  · exact absurd (by rw [hi.2, hj.2]) (BookW.rise_ne hr hl hj.1)
  · exact hl
  · exact absurd (by rw [hi.2, hj.2]) (BookW.rise_ne hr hl hi.1)
theorem lacks_name {ls : List An} (h : rightA ls = true) {s : ByteArray} (hs : nameB s = false) : Lacks ls s := fun i hi e => by
  have := (okA_parts ((rightA_at h).2 i hi)).1
  rw [e, hs] at this
  cases this
theorem found_or (ls : List An) (s : ByteArray) : (∃ i, Found ls s i) ∨ Lacks ls s := by
  by_cases h : ∃ i, Found ls s i
  · exact .inl h
  · exact .inr fun i hi e => h ⟨i, hi, e⟩
/-- one answer is told -/
def told (ls : List An) (s : ByteArray) : An := if rightA ls = true then ((ls.find? fun p => decide (nm p = s)).getD an0) else an0
theorem find_at {ls : List An} {s : ByteArray} {i : Nat} (hi : Found ls s i) (h : rightA ls = true) : (ls.find? fun p => decide (nm p = s)).getD an0 = ls.getD i an0 := by
  cases hf : ls.find? fun p => decide (nm p = s) with
  | none =>
    have := List.find?_eq_none.1 hf (ls.getD i an0) (by
      have e : ls.getD i an0 = ls[i]'hi.1 := by simp [List.getD, List.getElem?_eq_getElem hi.1]
      rw [e]; exact List.getElem_mem _)
    exact absurd (decide_eq_true hi.2) this
  | some p =>
    have hp := List.find?_some hf
    obtain ⟨j, hj, e⟩ := List.mem_iff_getElem.1 (List.mem_of_find?_eq_some hf)
    have e2 : ls.getD j an0 = p := by simp [List.getD, List.getElem?_eq_getElem hj, e]
    have hjf : Found ls s j := ⟨hj, by rw [e2]; simpa using hp⟩
    rw [found_one h hi hjf, e2]
    rfl
theorem find_no {ls : List An} {s : ByteArray} (h : Lacks ls s) : (ls.find? fun p => decide (nm p = s)).getD an0 = an0 := by
  cases hf : ls.find? fun p => decide (nm p = s) with
  | none => rfl
  | some p =>
    have hp := List.find?_some hf
    obtain ⟨j, hj, e⟩ := List.mem_iff_getElem.1 (List.mem_of_find?_eq_some hf)
    have e2 : ls.getD j an0 = p := by simp [List.getD, List.getElem?_eq_getElem hj, e]
    exact absurd (by rw [e2]; simpa using hp) (h j hj)
theorem told_found {ls : List An} {s : ByteArray} {i : Nat} (h : rightA ls = true) (hi : Found ls s i) : told ls s = ls.getD i an0 := by
  unfold told; rw [if_pos h, find_at hi h]
theorem told_lacks {ls : List An} {s : ByteArray} (h : Lacks ls s) : told ls s = an0 := by
  unfold told
  split
  · exact find_no h
  · rfl
theorem told_wrong {ls : List An} {s : ByteArray} (h : rightA ls = false) : told ls s = an0 := by
  unfold told; rw [h]; rfl
end Go.Proofs.Ytfnimiimplphkaa.AnsW
