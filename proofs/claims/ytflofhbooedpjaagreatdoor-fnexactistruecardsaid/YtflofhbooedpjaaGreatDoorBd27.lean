/- Texts of ours, laid together: BookMath, OfMath, OfAt. -/
import Derived.Test.YtflofhbooedpjaaGreatDoorBd25
import Derived.Test.YtflofhbooedpjaaGreatDoorBd11
import Derived.Maps.OwnOps
import Derived.Maps.OwnSet
import Derived.Maps.Views
/- Names that rise are all unlike; a map that holds what it was given, value by value. -/
namespace Go.Proofs.YtflofhbooedpjaaGreatDoor.BookW
open Go.RowKit Go.Maps
open ValW RdS RdI AnsW

theorem less_irrefl : ∀ x : List UInt8, Op.bytesLess x x = false
  | [] => by simp [Op.bytesLess]
  | a :: x => by simp [Op.bytesLess, less_irrefl x, UInt8.lt_irrefl]
theorem less_trans : ∀ x y z : List UInt8, Op.bytesLess x y = true → Op.bytesLess y z = true → Op.bytesLess x z = true
  | _, [], _, h, _ => by rw [less_nil] at h; cases h
  | _, _ :: _, [], _, h => by rw [less_nil] at h; cases h
  | [], _ :: _, _ :: _, _, _ => by simp [Op.bytesLess]
  | a :: x, b :: y, c :: z, h1, h2 => by
    simp only [Op.bytesLess, Bool.or_eq_true, Bool.and_eq_true, decide_eq_true_eq, beq_iff_eq] at h1 h2 ⊢
    rcases h1 with h1 | ⟨rfl, h1⟩
    · rcases h2 with h2 | ⟨rfl, h2⟩
      · exact .inl (UInt8.lt_trans h1 h2)
      · exact .inl h1
    · rcases h2 with h2 | ⟨rfl, h2⟩
      · exact .inl h2
      · exact .inr ⟨rfl, less_trans x y z h1 h2⟩
theorem rise_lt {ls : List An} (h : ∀ i, i < ls.length → okA ls i = true) {i : Nat} : ∀ {j : Nat}, i < j → j < ls.length → lessB (nm (ls.getD i an0)) (nm (ls.getD j an0)) = true
  | 0, hi, _ => absurd hi (Nat.not_lt_zero _)
  | j + 1, hi, hj => by
    have hs := (okA_parts (h (j + 1) hj)).2.1 (Nat.succ_pos _)
    rw [Nat.add_sub_cancel] at hs
    by_cases e : i = j
    · rw [e]; exact hs
    · exact less_trans _ _ _ (rise_lt h (i := i) (j := j) (by omega) (by omega)) hs
theorem rise_ne {ls : List An} (h : ∀ i, i < ls.length → okA ls i = true) {i j : Nat} (hij : i < j) (hj : j < ls.length) : (nm (ls.getD i an0)).data.toList ≠ (nm (ls.getD j an0)).data.toList := fun e => by
  have := rise_lt h hij hj
  unfold lessB at this
  rw [ByteArray.toList_eq, ByteArray.toList_eq, e, less_irrefl] at this
  cases this

/-- an element reads as itself -/
def heldR (v : Value) : Option (DataW Value × List MemPlace) := some (.held v, [])
theorem key_law : Keyed Tryz.prog 9 := string_keyed Tryz.underlying9
/-- block B is a map that reads as D -/
abbrev Mp (w : World) (B n : Nat) (D : DataW Value) : Prop := w.ownsMap Tryz.prog 9 heldR B n D
theorem Mp.on {w w' : World} {B n : Nat} {D : DataW Value} (h : Mp w B n D) (hB : Below w.heap.size w w') : Mp w' B n D := by
  obtain ⟨es, clock, hb, F, hs, hD⟩ := h
  exact ⟨es, clock, by rw [hB.block B (Array.getElem?_eq_some_iff.1 hb).1]; exact hb, F, hs, hD⟩
/-- a value is a copy of the answer p, in memory from block F on that may be written over -/
def Cpy (w : World) (F : Nat) (p : An) (v : Value) : Prop := ∃ a cap, v = av (kd p) (nu p) a (cd p).length cap (tx p) ∧ Codes w a (cd p) ∧ Free w a (cd p) ∧ Fresh a F
theorem Cpy.on {w w' : World} {F : Nat} {p : An} {v : Value} (h : Cpy w F p v) (hB : Below w.heap.size w w') : Cpy w' F p v := by
  obtain ⟨a, cap, h1, h2, h3, h4⟩ := h
  exact ⟨a, cap, h1, h2.on hB, h3.on hB, h4⟩
theorem Cpy.grown {w w' : World} {F B : Nat} {p : An} {v : Value} (h : Cpy w F p v) (hF : B < F) (hg : w.grownBy w' (some B)) : Cpy w' F p v := by
  obtain ⟨a, cap, h1, h2, h3, h4⟩ := h
  refine ⟨a, cap, h1, ⟨h2.1, fun hp => ?_⟩, fun b o ha i hi => ?_, h4⟩
  · obtain ⟨b, o, ha, hb, hc⟩ := h2.2 hp
    have hne : some b ≠ some B := fun e => by have := h4 b o ha; injection e; omega
    exact ⟨b, o, ha, Nat.lt_of_lt_of_le hb hg.size, fun i hi => by rw [World.cell?_of_block (w := w) (hg.block b hb hne)]; exact hc i hi⟩
  · obtain ⟨hb, hf⟩ := h3 b o ha i hi
    have hne : some b ≠ some B := fun e => by have := h4 b o ha; injection e; omega
    exact ⟨Nat.lt_of_lt_of_le hb hg.size, by rw [World.frozen?_of_block (w := w) (hg.block b hb hne)]; exact hf⟩
/-- the map D holds copies of the first k answers, by their names, and nothing else -/
def Holds (w : World) (F : Nat) (D : DataW Value) (ls : List An) (k : Nat) : Prop :=
  (∀ i, i < k → ∃ v, Cpy w F (ls.getD i an0) v ∧ ∀ z, D.atKey (.string (nm (ls.getD i an0)).data.toList) z = .held v) ∧
  ∀ s : List UInt8, (∀ i, i < k → (nm (ls.getD i an0)).data.toList ≠ s) → ∀ z, D.atKey (.string s) z = z
theorem Holds.on {w w' : World} {F : Nat} {D : DataW Value} {ls : List An} {k : Nat} (h : Holds w F D ls k) (hB : Below w.heap.size w w') : Holds w' F D ls k :=
  ⟨fun i hi => by obtain ⟨v, h1, h2⟩ := h.1 i hi; exact ⟨v, h1.on hB, h2⟩, h.2⟩
theorem holds_zero (w : World) (F : Nat) (ls : List An) : Holds w F (.map []) ls 0 := ⟨fun _ h => absurd h (Nat.not_lt_zero _), fun _ _ _ => rfl⟩
theorem Holds.put {w w' : World} {F B : Nat} {D : DataW Value} {ls : List An} {k : Nat} {v : Value} (h : Holds w F D ls k) (hM : IsMap D) (hF : B < F) (hg : w.grownBy w' (some B)) (hok : ∀ i, i < ls.length → okA ls i = true) (hk : k < ls.length) (hv : Cpy w F (ls.getD k an0) v) :
    Holds w' F (D.put (.string (nm (ls.getD k an0)).data.toList) (.held v)) ls (k + 1) := by
  refine ⟨fun i hi => ?_, fun s hs z => ?_⟩
  · by_cases e : i = k
    · subst e
      exact ⟨v, hv.grown hF hg, fun z => atKey_put_same hM (show WideAt.IsKeyLit (.string _) from trivial) _ _⟩
    · obtain ⟨u, h1, h2⟩ := h.1 i (by omega)
      refine ⟨u, h1.grown hF hg, fun z => ?_⟩
      rw [atKey_put_other (fun e => rise_ne hok (i := i) (j := k) (by omega) hk (Lit.string.inj e))]
      exact h2 z
  · rw [atKey_put_other (fun e => hs k (by omega) (Lit.string.inj e).symm)]
    exact h.2 s (fun i hi => hs i (by omega)) z
/-- a book of the answers: a map at block B, what it holds from block B + 1 on -/
def Book (w : World) (B : Nat) (ls : List An) : Prop := ∃ D, Mp w B ls.length D ∧ Holds w (B + 1) D ls ls.length
theorem Book.on {w w' : World} {B : Nat} {ls : List An} (h : Book w B ls) (hB : Below w.heap.size w w') : Book w' B ls := by
  obtain ⟨D, h1, h2⟩ := h
  exact ⟨D, h1.on hB, h2.on hB⟩
end Go.Proofs.YtflofhbooedpjaaGreatDoor.BookW
/- The answer of a name. -/
namespace Go.Proofs.YtflofhbooedpjaaGreatDoor.AnsW
open Go.RowKit
open ValW NameW

theorem data_ne {s t : ByteArray} : s.data.toList = t.data.toList ↔ s = t := ⟨fun h => by
  have : s.data = t.data := Array.toList_inj.1 h
  exact ByteArray.ext this, fun h => by rw [h]⟩
/-- at i stands the first answer of that name -/
def Found (ls : List An) (s : ByteArray) (i : Nat) : Prop := i < ls.length ∧ nm (ls.getD i an0) = s
/-- no answer has that name -/
def Lacks (ls : List An) (s : ByteArray) : Prop := ∀ i, i < ls.length → nm (ls.getD i an0) ≠ s
theorem found_one {ls : List An} (h : rightA ls = true) {s : ByteArray} {i j : Nat} (hi : Found ls s i) (hj : Found ls s j) : i = j := by
  have hr := (rightA_at h).2
  rcases Nat.lt_trichotomy i j with hl | hl | hl
  · exact absurd (by rw [hi.2, hj.2]) (BookW.rise_ne hr hl hj.1)
  · exact hl
  · exact absurd (by rw [hi.2, hj.2]) (BookW.rise_ne hr hl hi.1)
theorem lacks_name {ls : List An} (h : rightA ls = true) {s : ByteArray} (hs : nameB s = false) : Lacks ls s := fun i hi e => by
  have := (okA_parts ((rightA_at h).2 i hi)).1
  rw [e, hs] at this
  cases this
theorem found_or (ls : List An) (s : ByteArray) : (∃ i, Found ls s i) ∨ Lacks ls s := by
  by_cases h : ∃ i, Found ls s i
  · exact .inl h
  · exact .inr fun i hi e => h ⟨i, hi, e⟩
/-- one answer is told -/
def told (ls : List An) (s : ByteArray) : An := if rightA ls = true then ((ls.find? fun p => decide (nm p = s)).getD an0) else an0
theorem find_at {ls : List An} {s : ByteArray} {i : Nat} (hi : Found ls s i) (h : rightA ls = true) : (ls.find? fun p => decide (nm p = s)).getD an0 = ls.getD i an0 := by
  cases hf : ls.find? fun p => decide (nm p = s) with
  | none =>
    have := List.find?_eq_none.1 hf (ls.getD i an0) (by
      have e : ls.getD i an0 = ls[i]'hi.1 := by simp [List.getD, List.getElem?_eq_getElem hi.1]
      rw [e]; exact List.getElem_mem _)
    exact absurd (decide_eq_true hi.2) this
  | some p =>
    have hp := List.find?_some hf
    obtain ⟨j, hj, e⟩ := List.mem_iff_getElem.1 (List.mem_of_find?_eq_some hf)
    have e2 : ls.getD j an0 = p := by simp [List.getD, List.getElem?_eq_getElem hj, e]
    have hjf : Found ls s j := ⟨hj, by rw [e2]; simpa using hp⟩
    rw [found_one h hi hjf, e2]
    rfl
theorem find_no {ls : List An} {s : ByteArray} (h : Lacks ls s) : (ls.find? fun p => decide (nm p = s)).getD an0 = an0 := by
  cases hf : ls.find? fun p => decide (nm p = s) with
  | none => rfl
  | some p =>
    have hp := List.find?_some hf
    obtain ⟨j, hj, e⟩ := List.mem_iff_getElem.1 (List.mem_of_find?_eq_some hf)
    have e2 : ls.getD j an0 = p := by simp [List.getD, List.getElem?_eq_getElem hj, e]
    exact absurd (by rw [e2]; simpa using hp) (h j hj)
theorem told_found {ls : List An} {s : ByteArray} {i : Nat} (h : rightA ls = true) (hi : Found ls s i) : told ls s = ls.getD i an0 := by
  unfold told; rw [if_pos h, find_at hi h]
theorem told_lacks {ls : List An} {s : ByteArray} (h : Lacks ls s) : told ls s = an0 := by
  unfold told
  split
  · exact find_no h
  · rfl
theorem told_wrong {ls : List An} {s : ByteArray} (h : rightA ls = false) : told ls s = an0 := by
  unfold told; rw [h]; rfl
end Go.Proofs.YtflofhbooedpjaaGreatDoor.AnsW
/- The answer of a name, as the model looks for it. -/
namespace Go.Proofs.YtflofhbooedpjaaGreatDoor.AnsW
open Go.RowKit
open ValW NameW RdS

set_option maxRecDepth 10000 in
set_option maxHeartbeats 800000 in
theorem spec_at (a : Option Addr) (cap : Nat) (ls : List An) (s : ByteArray) (w : World) (hc : Ans w a ls) :
    Calls Tryz.prog 79 #[.slice a ls.length cap, .string s] w fun e w' => ((∃ i, Found ls s i ∧ e = .returned (.int .i64 (i : Int))) ∨ (Lacks ls s ∧ e = .returned (.int .i64 (-1)))) ∧ Below w.heap.size w w' := by
  have HC : Hid (Ans w a ls) := hc
  have hl := hc.1
  clear hc
  go_enter Tryz.func79, Tryz.ntmps79
  go_wp2
  go_loopw [5] (fun i wr => ∃ k : Nat, k ≤ ls.length ∧ i = .int .i64 k ∧ Hid (∀ j, j < k → nm (ls.getD j an0) ≠ s) ∧ Below w.heap.size w wr) (fun i _ => ls.length - (intOf i).toNat)
  case atStart => exact ⟨0, Nat.zero_le _, rfl, fun _ h => absurd h (Nat.not_lt_zero _), Below.refl _ _⟩
  case round =>
    obtain ⟨k, hk, rfl, hno, hbel⟩ := hrel
    by_cases hlt : k < ls.length
    · obtain ⟨_, b, o, ai, ci, rfl, hb, ⟨c0, _, _, _, _⟩, _⟩ := HC.out.at hbel hlt
      have hyes : nm (ls.getD k an0) = s → Found ls s k := fun e => ⟨hlt, e⟩
      have hnx : nm (ls.getD k an0) ≠ s → ∀ j, j < k + 1 → nm (ls.getD j an0) ≠ s := fun h j hj => by
        by_cases e : j = k
        · rw [e]; exact h
        · exact hno.out j (by omega)
      generalize nm (ls.getD k an0) = u at c0 hyes hnx
      have HY := hid hyes
      have HN := hid hnx
      clear hno hyes hnx
      by_cases he : u = s
      · have hb1 : (u.toList == s.toList) = true := by rw [he]; exact beq_self_eq_true _
        have HE := hid he
        clear he
        go_wp2
        go_ret
        exact ⟨.inl ⟨k, HY.out HE.out, rfl⟩, hbel⟩
      · have hb1 : (u.toList == s.toList) = false := by
          rw [beq_eq_false_iff_ne]
          intro h
          rw [ByteArray.toList_eq, ByteArray.toList_eq] at h
          exact he (data_ne.1 h)
        have HE := hid he
        clear he
        go_wp2
        refine ⟨⟨k + 1, by omega, by go_num, HN.out HE.out, hbel⟩, by simp [intOf]; omega⟩
    · obtain rfl : k = ls.length := by omega
      go_wp2
      go_ret
      exact ⟨.inr ⟨hno.out, rfl⟩, hbel⟩

set_option maxRecDepth 10000 in
set_option maxHeartbeats 1600000 in
theorem spec_l05of (a : Option Addr) (cap : Nat) (ls : List An) (s : ByteArray) (w : World) (hc : Ans w a ls) (hr : rightA ls = true) :
    Calls Tryz.prog 53 #[.slice a ls.length cap, .string s] w fun e w' => (∃ a' cap', e = .returned (av (kd (told ls s)) (nu (told ls s)) a' (cd (told ls s)).length cap' (tx (told ls s))) ∧ Codes w' a' (cd (told ls s)) ∧ (a' = none → cap' = 0)) ∧ Below w.heap.size w w' := by
  have HC : Hid (Ans w a ls) := hc
  have HRt := hid hr
  have hl := hc.1
  clear hc hr
  obtain ⟨q, hq⟩ : ∃ q, Hid (told ls s = q) := ⟨_, rfl⟩
  rw [hq.out]
  go_enter Tryz.func53, Tryz.ntmps53
  go_wp2_with fail
  refine (spec_at a cap ls s _ (HC.out.alloc _)).mono ?_
  rintro e w1 ⟨hcase, hB1⟩
  have HB1 : Hid (Below w.heap.size w w1) := ((Below.refl _ _).alloc (Nat.le_refl _) _).trans (hB1.mono (by simp))
  have hblk : w1.heap[w.heap.size]? = some (.cells #[.int .i64 0, .int .i64 0, .slice none 0 0, .string ⟨#[]⟩] 51 (0, 0)) := by
    rw [hB1.block _ (by simp)]; exact heap_alloc_new w _
  have x0 : w1.cell? ⟨w.heap.size, 0, none⟩ = some (.int .i64 0) := by simp [World.cell?, hblk]
  have x1 : w1.cell? ⟨w.heap.size, 1, none⟩ = some (.int .i64 0) := by simp [World.cell?, hblk]
  have x2 : w1.cell? ⟨w.heap.size, 2, none⟩ = some (.slice none 0 0) := by simp [World.cell?, hblk]
  have x3 : w1.cell? ⟨w.heap.size, 3, none⟩ = some (.string ⟨#[]⟩) := by simp [World.cell?, hblk]
  have xf : ∀ j, w1.frozen? ⟨w.heap.size, j, none⟩ = false := fun j => by simp [World.frozen?, hblk]
  clear hB1 hblk
  rcases hcase with ⟨i, hf, rfl⟩ | ⟨hlk, rfl⟩
  · have hqe : Hid (q = ls.getD i an0) := by show _ = _; rw [← hq.out]; exact told_found HRt.out hf
    have hil := hf.1
    obtain ⟨_, b, o, ai, ci, rfl, hb, hF0, hcd, hN⟩ := HC.out.atN (Below.refl _ _) hil
    have hF := hF0.on hb HB1.out
    clear hF0
    rw [← hqe.out] at hF hcd
    obtain ⟨s1, k, n, zs, t⟩ := q
    obtain ⟨c0, c1, c2, c3, c4⟩ := hF
    dsimp only [nm, kd, nu, cd, tx] at c0 c1 c2 c3 c4 hcd
    have HCd := hid hcd
    have hne : b < w.heap.size := hb
    have hne' : b ≠ w.heap.size := by omega
    clear hcd hf HC
    dsimp only [kd, nu, cd, tx]
    go_wp2
    refine bodyPost_ret (v := av k n ai zs.length ci t) (by simp [results, Tryz.results53, go_sem, x0, x1, x2, x3]) rfl ⟨⟨ai, ci, rfl, ?_, hN⟩, ?_⟩
    · refine HCd.out.on ?_
      repeat (refine Below.setCell ?_ (by simp) _)
      exact HB1.out
    · repeat (refine Below.setCell ?_ (by simp) _)
      exact HB1.out
  · have hqe : q = an0 := by rw [← hq.out]; exact told_lacks hlk
    subst hqe
    clear HC
    go_wp2
    refine bodyPost_ret (v := av 0 0 none 0 0 ByteArray.empty) (by simp [results, Tryz.results53, go_sem, x0, x1, x2, x3]; rfl) rfl ⟨⟨none, 0, rfl, Codes.nil _ _, fun _ => rfl⟩, ?_⟩
    repeat (refine Below.setCell ?_ (by simp) _)
    exact HB1.out
end Go.Proofs.YtflofhbooedpjaaGreatDoor.AnsW
