/- Which fields serve in which parts, by the program; what is told of it is what the model tells. -/
import Derived.Test.YtbhblnpehhaiiaaDoorFrmImA
import Derived.Test.YtbhblnpehhaiiaaDoorPrtBehind
namespace Go.Proofs.YtbhblnpehhaiiaaDoor.FrmI
open Go.RowKit
open PrtW PrtM NameW ItmW ValM ItmM FrmM

def servesI (op : Int) (q : It) : Bool := if op = 2 then ((ik q == 6) || ((ity q == 1) || (ity q == 2))) else if op = 12 then (ity q == 3) else (ik q != 0)
set_option maxRecDepth 10000 in
set_option maxHeartbeats 1600000 in
theorem impl_serves (k : Int) (s : ByteArray) (ty lo hi : Int) (t : ByteArray) (a : Option Addr) (len cap : Nat) (hd : Bool) (ps : List Pt) (x n : Int) (m : ByteArray) (w : World) :
    Calls Tryd.prog 78 #[.agg #[.int .i64 k, .string s, .int .i64 ty, .int .i64 lo, .int .i64 hi, .string t, .slice a len cap, .bool hd], .agg #[.int .i64 x, .int .i64 n, .string m]] w fun e w' => e = .returned (.bool (servesI x (k, s, ty, lo, hi, t, ps, hd))) ∧ Below w.heap.size w w' := by
  by_cases h2 : x = 2
  · subst h2
    have e : servesI 2 (k, s, ty, lo, hi, t, ps, hd) = ((k == 6) || ((ty == 1) || (ty == 2))) := rfl
    rw [e]
    clear e
    cases e6 : (k == 6)
    all_goals cases e1 : (ty == 1)
    all_goals
      go_enter Tryd.func78, Tryd.ntmps78
      go_wp2
      go_ret
      exact ⟨rfl, by go_grown⟩
  have e2 : (x == 2) = false := by simp [h2]
  by_cases h3 : x = 12
  · subst h3
    have e : servesI 12 (k, s, ty, lo, hi, t, ps, hd) = (ty == 3) := rfl
    rw [e]
    go_enter Tryd.func78, Tryd.ntmps78
    go_wp2
    go_ret
    exact ⟨rfl, by go_grown⟩
  have e3 : (x == 12) = false := by simp [h3]
  have e : servesI x (k, s, ty, lo, hi, t, ps, hd) = (k != 0) := by unfold servesI; rw [if_neg h2, if_neg h3]
  rw [e]
  clear e h2 h3
  go_enter Tryd.func78, Tryd.ntmps78
  go_wp2
  go_ret
  exact ⟨rfl, by go_grown⟩

/-- of a right field both say the same -/
theorem item_type {q : It} (h : itemB q = true) (hk : ik q = 1 ∨ ik q = 6) : (ik q = 1 ∧ (ity q = 1 ∨ ity q = 2 ∨ ity q = 3 ∨ ity q = 4)) ∨ (ik q = 6 ∧ ity q = 0) := by
  obtain ⟨k, s, ty, lo, hi, t, ps, hd⟩ := q
  dsimp only [ik, ity] at hk ⊢
  rcases hk with rfl | rfl
  · refine .inl ⟨rfl, ?_⟩
    have h1 : (nameB s && (rangeB ty lo hi && (labelB t && (noParts ps && !hd)))) = true := h
    simp only [Bool.and_eq_true] at h1
    have h2 := h1.2.1
    unfold rangeB at h2
    by_cases a1 : ty = 1
    · exact .inl a1
    · rw [if_neg a1] at h2
      by_cases a2 : ty = 2 ∨ ty = 3
      · omega
      · rw [if_neg a2] at h2
        by_cases a4 : ty = 4
        · omega
        · rw [if_neg a4] at h2; cases h2
  · refine .inr ⟨rfl, ?_⟩
    have h1 : (nameB s && (bareB ty lo hi && (noText t && (rightB ps && (!truthB ps && !hd))))) = true := h
    simp only [Bool.and_eq_true] at h1
    have h2 := h1.2.1
    unfold bareB at h2
    simp at h2
    exact h2.1
theorem serves_same {op : Int} {q : It} (h : itemB q = true) (hk : ik q = 1 ∨ ik q = 6) : servesI op q = servesB op q := by
  unfold servesI servesB
  rcases item_type h hk with ⟨h1, h2 | h2 | h2 | h2⟩ | ⟨h1, h2⟩
  all_goals
    rw [h1, h2]
    by_cases a : op = 2
    · subst a; rfl
    · rw [if_neg a]
      by_cases b : op = 12
      · subst b; rfl
      · rw [if_neg b, show (op == 2) = false by simp [a], show (op == 12) = false by simp [b]]; rfl
theorem serves_zero {op : Int} : servesI op it0 = false := by
  unfold servesI
  split
  · rfl
  · split <;> rfl
theorem isF_kind {s : ByteArray} {q : It} (h : isF s q = true) : ik q = 1 ∨ ik q = 6 := by
  unfold isF at h
  simp at h
  exact h.2
/-- a part of an expression that is right: its op stands in the table, and it has a name just if its op is one of those that have -/
theorem part_named {p : Pt} (h : partB p = true) : ∃ k : Nat, p.1 = (k : Int) ∧ 1 ≤ k ∧ k ≤ 13 ∧ p.2.2.toList.isEmpty = !PrtI.namedF k := by
  obtain ⟨x, n, t⟩ := p
  have hx := PrtI.part_in h
  obtain ⟨k, rfl⟩ : ∃ k : Nat, x = k := ⟨x.toNat, by omega⟩
  refine ⟨k, rfl, by omega, by omega, ?_⟩
  rw [PrtI.tab_part k n t (by omega) (by omega)] at h
  unfold PrtI.tabB at h
  rw [Bool.and_eq_true] at h
  cases hn : PrtI.namedF k
  · rw [hn, if_neg (by decide)] at h
    exact h.1
  · rw [hn, if_pos rfl] at h
    have h1 := (of_decide_eq_true h.1).1
    show t.toList.isEmpty = false
    cases he : t.toList.isEmpty
    · rfl
    · rw [List.isEmpty_iff, ByteArray.toList_eq] at he
      have h2 := congrArg List.length he
      rw [Array.length_toList] at h2
      have h3 : t.size = 0 := h2
      omega
theorem use_impl {ls : List It} {n : Nat} {p : Pt} (hn : p.2.2.toList.isEmpty = false) (hr : ∀ i, i < n → itemB (ls.getD i it0) = true) : useB ls n p = servesI p.1 (fieldQ ls n p.2.2) := by
  cases hf : fieldN ls n p.2.2 with
  | none => rw [use_none hn hf, fieldQ_no hf, serves_zero]
  | some i =>
    obtain ⟨h1, h2, _⟩ := field_at.1 hf
    rw [use_some hn hf, fieldQ_at hf, serves_same (hr i h2) (isF_kind h1)]
theorem iter_parts (f : List Pt → Option (List Pt)) (hf : ∀ l r, f l = some r → ∃ q, l = q ++ r ∧ ∀ p ∈ q, partB p = true) : ∀ n s r, iter f n s = some r → ∃ l, s = some l ∧ ∃ q, l = q ++ r ∧ ∀ p ∈ q, partB p = true := by
  intro n
  induction n with
  | zero => intro s r h1; exact ⟨r, h1, [], rfl, fun _ h => (nomatch h)⟩
  | succ n ih =>
    intro s r h1
    cases s with
    | none => cases h1
    | some l =>
      obtain ⟨l', e, q, rfl, hq⟩ := ih _ _ h1
      obtain ⟨q1, rfl, hq1⟩ := hf _ _ e
      refine ⟨_, rfl, q1 ++ q, by simp, fun p hp => ?_⟩
      rcases List.mem_append.1 hp with h | h
      · exact hq1 p h
      · exact hq p h
theorem all_parts : ∀ d (l r : List Pt), behind d l = some r → ∃ q, l = q ++ r ∧ ∀ p ∈ q, partB p = true := by
  intro d
  induction d with
  | zero => intro l r h; cases h
  | succ d ih =>
    intro l r h
    cases l with
    | nil => cases h
    | cons p q =>
      rw [behind_succ] at h
      by_cases hp : partB p = true
      · rw [if_pos hp] at h
        obtain ⟨l', e, q1, hq1, hq2⟩ := iter_parts (child d p.1) (fun l r h1 => by
          unfold child at h1
          by_cases hw : numB (l.headD pt0).1 = wantsB p.1
          · rw [if_pos hw] at h1; exact ih _ _ h1
          · rw [if_neg hw] at h1; cases h1) _ _ _ h
        cases e
        refine ⟨p :: q1, by rw [hq1]; rfl, fun x hx => ?_⟩
        rcases List.mem_cons.1 hx with rfl | h
        · exact hp
        · exact hq2 x h
      · rw [if_neg hp] at h; cases h
theorem right_all {ps : List Pt} (h : rightB ps = true) : ∀ k, k < ps.length → partB (ps.getD k pt0) = true := by
  intro k hk
  unfold rightB at h
  rw [Bool.and_eq_true, decide_eq_true_iff, decide_eq_true_iff] at h
  obtain ⟨q, e, hq⟩ := all_parts _ _ _ h.2
  rw [List.append_nil] at e
  subst e
  apply hq
  rw [List.getD_eq_getElem?_getD, List.getElem?_eq_getElem hk]
  exact List.getElem_mem hk
/-- the parts of an item that is right are right -/
theorem item_parts {q : It} (h : itemB q = true) : ∀ k, k < (iex q).length → partB ((iex q).getD k pt0) = true := by
  obtain ⟨k, s, ty, lo, hi, t, ps, hd⟩ := q
  have none_in : noParts ps = true → ∀ k, k < ps.length → partB (ps.getD k pt0) = true := fun h k hk => by
    unfold noParts at h
    simp at h
    subst h
    simp at hk
  have truth_in : truthB ps = true → ∀ k, k < ps.length → partB (ps.getD k pt0) = true := fun h => by
    unfold truthB at h
    rw [Bool.and_eq_true] at h
    exact right_all h.1
  by_cases hk : 1 ≤ k ∧ k ≤ 6
  · rcases (by omega : k = 1 ∨ k = 2 ∨ k = 3 ∨ k = 4 ∨ k = 5 ∨ k = 6) with rfl | rfl | rfl | rfl | rfl | rfl
    · have h1 : (nameB s && (rangeB ty lo hi && (labelB t && (noParts ps && !hd)))) = true := h
      simp only [Bool.and_eq_true] at h1
      exact none_in h1.2.2.2.1
    · have h1 : (noText s && (bareB ty lo hi && (noText t && (truthB ps && !hd)))) = true := h
      simp only [Bool.and_eq_true] at h1
      exact truth_in h1.2.2.2.1
    · have h1 : (noText s && (bareB ty lo hi && (noText t && (noParts ps && !hd)))) = true := h
      simp only [Bool.and_eq_true] at h1
      exact none_in h1.2.2.2.1
    · have h1 : (noText s && (bareB ty lo hi && (noText t && (noParts ps && !hd)))) = true := h
      simp only [Bool.and_eq_true] at h1
      exact none_in h1.2.2.2.1
    · have h1 : (nameB s && (bareB ty lo hi && (labelB t && truthB ps))) = true := h
      simp only [Bool.and_eq_true] at h1
      exact truth_in h1.2.2.2
    · have h1 : (nameB s && (bareB ty lo hi && (noText t && (rightB ps && (!truthB ps && !hd))))) = true := h
      simp only [Bool.and_eq_true] at h1
      exact right_all h1.2.2.2.1
  · rw [ItmI.item_out hk] at h; cases h
theorem its_take {w : World} {a : Option Addr} {ls : List It} (h : Its w a ls) (n : Nat) : Its w a (ls.take n) := by
  have hg : ∀ i, i < (ls.take n).length → (ls.take n).getD i it0 = ls.getD i it0 := fun i hi => by
    rw [List.length_take] at hi
    rw [List.getD_eq_getElem?_getD, List.getD_eq_getElem?_getD, List.getElem?_take, if_pos (by omega)]
  have hl : (ls.take n).length ≤ ls.length := by rw [List.length_take]; omega
  refine ⟨by have := h.1; omega, fun i hi => by rw [hg i hi]; exact h.2.1 i (by omega), fun hp => ?_⟩
  obtain ⟨b, o, ha, hb, hc⟩ := h.2.2 (by omega)
  exact ⟨b, o, ha, hb, fun i hi => by rw [hg i hi]; exact hc i (by omega)⟩
theorem take_getD {ls : List It} {n i : Nat} (hi : i < n) : (ls.take n).getD i it0 = ls.getD i it0 := by
  rw [List.getD_eq_getElem?_getD, List.getD_eq_getElem?_getD, List.getElem?_take, if_pos hi]
theorem field_take {ls : List It} {n : Nat} {s : ByteArray} : fieldN (ls.take n) n s = fieldN ls n s := by
  unfold fieldN
  cases h : List.find? (fun i => isF s (ls.getD i it0)) (List.range n) with
  | none =>
    rw [List.find?_range_eq_none] at h ⊢
    intro i hi
    rw [take_getD hi]
    exact h i hi
  | some j =>
    rw [List.find?_range_eq_some] at h ⊢
    obtain ⟨h1, h2, h3⟩ := h
    have hj := List.mem_range.1 h2
    exact ⟨by rw [take_getD hj]; exact h1, h2, fun i hi => by rw [take_getD (by omega)]; exact h3 i hi⟩
theorem fieldQ_take {ls : List It} {n : Nat} {s : ByteArray} : fieldQ (ls.take n) n s = fieldQ ls n s := by
  unfold fieldQ
  rw [field_take]
  cases h : fieldN ls n s with
  | none => rfl
  | some i => exact take_getD (field_at.1 h).2.1
end Go.Proofs.YtbhblnpehhaiiaaDoor.FrmI
