/- Texts of ours, laid together: StbMath, StaSpA, StaSpB, StaImA, StaSpC, StaImB, StaSpD, StaSpE, StaSpF. -/
import Derived.Test.YtaofdckdmffaiaaGreatDoorBd38
import Derived.Test.YtaofdckdmffaiaaGreatDoorBd17
import Derived.Test.YtaofdckdmffaiaaGreatDoorBd25
import Derived.Deep.QuietTactic
import Derived.BigQuiet
import Derived.Deep.Cut
import Derived.Deep.CutRange
import Derived.BigRegion
import Derived.Test.YtaofdckdmffaiaaGreatDoorBd9
import Derived.Test.YtaofdckdmffaiaaGreatDoorBd12
import Derived.Test.YtaofdckdmffaiaaGreatDoorBd11
/- What can never be reached of a form, and which checks are dead. -/
namespace Go.Proofs.YtaofdckdmffaiaaGreatDoor.StbM
open Go.RowKit
open PrtW PrtM TexM NameW ItmW ItmM FrmM StaM FlsM
open StrW hiding hid

/-- a field found among the first items is the one found among all -/
theorem field_more {ls : List It} {n i : Nat} {s : ByteArray} (h : fieldN ls n s = some i) (hn : n ≤ ls.length) : fieldN ls ls.length s = some i := by
  obtain ⟨h1, h2, h3⟩ := field_at.1 h
  exact field_at.2 ⟨h1, by omega, h3⟩
theorem use_more {ls : List It} {n : Nat} {p : Pt} (h : useB ls n p = true) (hn : n ≤ ls.length) : useB ls ls.length p = true := by
  cases he : p.2.2.toList.isEmpty
  · cases hf : fieldN ls n p.2.2 with
    | none => rw [use_none he hf] at h; cases h
    | some i => rw [use_some he hf] at h; rw [use_some he (field_more hf hn)]; exact h
  · exact use_empty he
theorem uses_more {ls : List It} {n : Nat} {ps : List Pt} (h : usesB ls n ps = true) (hn : n ≤ ls.length) : usesB ls ls.length ps = true :=
  uses_yes fun i hi => use_more (uses_at h i hi) hn
/-- what an expression in a right form is -/
theorem expr_in {ls : List It} (hf : formB ls = true) {k : Nat} (hk : k < ls.length) (hx : ik (ls.getD k it0) = 2 ∨ ik (ls.getD k it0) = 5) :
    truthB (iex (ls.getD k it0)) = true ∧ rightFX ls (iex (ls.getD k it0)) = true := by
  obtain ⟨h1, h2, _⟩ := behind_at ((form_at hf).2.1 k hk)
  have hu := uses_more h2 (Nat.le_of_lt hk)
  generalize ls.getD k it0 = p at h1 h2 hu hx
  have ht : truthB (iex p) = true := by
    unfold itemB at h1
    rcases hx with e | e
    · rw [if_neg (by omega), if_pos e] at h1
      simp only [Bool.and_eq_true] at h1
      exact h1.2.2.2.1
    · rw [if_neg (by omega), if_neg (by omega), if_neg (by omega), if_pos e] at h1
      simp only [Bool.and_eq_true] at h1
      exact h1.2.2.2
  have hr : rightB (iex p) = true := by unfold truthB at ht; rw [Bool.and_eq_true] at ht; exact ht.1
  exact ⟨ht, by unfold rightFX; rw [hf, hr, hu]; rfl⟩
theorem can_in {ls : List It} (hf : formB ls = true) {k : Nat} (hk : k < ls.length) (hx : ik (ls.getD k it0) = 2 ∨ ik (ls.getD k it0) = 5) :
    canR ls (iex (ls.getD k it0)) = (lk ls 6 (iex (ls.getD k it0))).2.1 ∧ canNotR ls (iex (ls.getD k it0)) = (lk ls 6 (iex (ls.getD k it0))).2.2 := by
  obtain ⟨h1, h2⟩ := expr_in hf hk hx
  unfold canR canNotR
  rw [if_pos ⟨h2, h1⟩, if_pos ⟨h2, h1⟩]
  exact ⟨rfl, rfl⟩

/-- a check that is dead -/
def deadB (ls : List It) (q : It) : Bool := (ik q == 5) && !(lk ls 6 (iex q)).2.2
def deadN (ls l : List It) : List Nm := (l.filter (deadB ls)).map nmL
def deadI (ls : List It) : List Nm := if formB ls = true then deadN ls ls else []
theorem deadN_snoc (ls l : List It) (p : It) : deadN ls (l ++ [p]) = if deadB ls p = true then deadN ls l ++ [nmL p] else deadN ls l := by
  unfold deadN
  rw [List.filter_append, List.map_append]
  cases h : deadB ls p <;> simp [h]
theorem deadN_len (ls l : List It) : (deadN ls l).length ≤ l.length := by
  unfold deadN
  rw [List.length_map]
  exact List.length_filter_le _ _
theorem deadI_len (l : List It) : (deadI l).length ≤ 24 := by
  unfold deadI
  split
  · next h => exact Nat.le_trans (deadN_len l l) (form_at h).1
  · simp

/-- an item that has a name -/
def hasNm (q : It) : Bool := !((ik q == 2) || ((ik q == 3) || (ik q == 4)))
/-- what an item makes of the blocks that are open: of each whether no way comes into it -/
def stU (ls : List It) (op : List Bool) (p : It) : List Bool :=
  if ik p = 2 then op ++ [!(lk ls 6 (iex p)).2.1] else if ik p = 3 then op.dropLast ++ [false] else if ik p = 4 then op.dropLast else op
def goU (ls : List It) (s : List Bool × List Nm) (p : It) : List Bool × List Nm := (stU ls s.1 p, if (hasNm p && s.1.any id) = true then s.2 ++ [nmL p] else s.2)
def walkU (ls l : List It) : List Bool × List Nm := l.foldl (goU ls) ([], [])
def unrI (ls : List It) : List Nm := if formB ls = true then (walkU ls ls).2 else []
theorem walkU_snoc (ls l : List It) (p : It) : walkU ls (l ++ [p]) = goU ls (walkU ls l) p := by
  unfold walkU; rw [List.foldl_append]; rfl
theorem goU_len (ls : List It) (s : List Bool × List Nm) (p : It) : (goU ls s p).2.length ≤ s.2.length + 1 := by
  unfold goU
  dsimp only
  split <;> simp
theorem foldU_len (ls : List It) : ∀ (l : List It) (s : List Bool × List Nm), (l.foldl (goU ls) s).2.length ≤ s.2.length + l.length
  | [], s => by simp
  | p :: l, s => by
    rw [List.foldl_cons]
    have h1 := foldU_len ls l (goU ls s p)
    have h2 := goU_len ls s p
    simp only [List.length_cons]
    omega
theorem walkU_len (ls l : List It) : (walkU ls l).2.length ≤ l.length := by
  have := foldU_len ls l ([], [])
  simpa [walkU] using this
theorem unrI_len (l : List It) : (unrI l).length ≤ 24 := by
  unfold unrI
  split
  · next h => exact Nat.le_trans (walkU_len l l) (form_at h).1
  · simp
/-- how many blocks are open behind the first items: as many as the look at the form says -/
def Bl (ls : List It) (k : Nat) (op : List Bool) : Prop := ∃ bl, blkF ls [] = blkF (ls.drop k) bl ∧ bl.length = op.length ∧ bl.length ≤ 6
theorem Bl.zero (ls : List It) : Bl ls 0 [] := ⟨[], rfl, rfl, Nat.zero_le _⟩
theorem step_len2 {k : Int} {bl bl' : List Bool} (h : stepB k bl = some bl') : bl'.length = (if k = 2 then bl.length + 1 else if k = 4 then bl.length - 1 else bl.length) ∧ ((k = 3 ∨ k = 4) → 0 < bl.length) := by
  unfold stepB at h
  by_cases h2 : k = 2
  · rw [if_pos h2] at h ⊢
    split at h
    · cases h
    · cases h; exact ⟨by simp, by omega⟩
  · rw [if_neg h2] at h ⊢
    by_cases h3 : k = 3
    · rw [if_pos h3] at h
      split at h
      · next hl =>
        cases h
        have : 0 < bl.length := by cases bl with | nil => cases hl | cons _ _ => simp
        exact ⟨by rw [if_neg (by omega)]; simp; omega, fun _ => this⟩
      · cases h
    · rw [if_neg h3] at h
      by_cases h4 : k = 4
      · rw [if_pos h4] at h ⊢
        split at h
        · cases h
        · cases h; exact ⟨by simp, fun _ => by omega⟩
      · rw [if_neg h4] at h ⊢
        cases h; exact ⟨rfl, by omega⟩
theorem stU_len (ls : List It) (op : List Bool) (p : It) (h : (ik p = 3 ∨ ik p = 4) → 0 < op.length) : (stU ls op p).length = (if ik p = 2 then op.length + 1 else if ik p = 4 then op.length - 1 else op.length) := by
  unfold stU
  by_cases h2 : ik p = 2
  · rw [if_pos h2, if_pos h2]; simp
  · rw [if_neg h2, if_neg h2]
    by_cases h3 : ik p = 3
    · have := h (.inl h3)
      rw [if_pos h3, if_neg (by omega)]; simp; omega
    · rw [if_neg h3]
      by_cases h4 : ik p = 4
      · rw [if_pos h4, if_pos h4]; simp
      · rw [if_neg h4, if_neg h4]
/-- one item further: where a block ends, or has its other way, one is open -/
theorem Bl.next {ls : List It} {k : Nat} {op : List Bool} (h : Bl ls k op) (hb : blocksB ls = true) (hk : k < ls.length) :
    ((ik (ls.getD k it0) = 3 ∨ ik (ls.getD k it0) = 4) → 0 < op.length) ∧ Bl ls (k + 1) (stU ls op (ls.getD k it0)) ∧ op.length ≤ 6 := by
  obtain ⟨bl, he, hl, h6⟩ := h
  cases hs : stepB (ik (ls.getD k it0)) bl with
  | none => rw [blk_none he hk hs] at hb; cases hb
  | some bl' =>
    obtain ⟨h1, h2⟩ := step_len2 hs
    have h3 : (ik (ls.getD k it0) = 3 ∨ ik (ls.getD k it0) = 4) → 0 < op.length := fun e => by have := h2 e; omega
    exact ⟨h3, ⟨bl', blk_some he hk hs, by rw [h1, stU_len ls op _ h3, hl], step_len hs h6⟩, by omega⟩
theorem any_snoc (op : List Bool) (b : Bool) : (op ++ [b]).any id = (op.any id || b) := by simp
end Go.Proofs.YtaofdckdmffaiaaGreatDoor.StbM
/- Spans, by the model: what an op makes of two, what a comparison tells. -/
namespace Go.Proofs.YtaofdckdmffaiaaGreatDoor.StaS
open Go.RowKit
open PrtW PrtM ItmW ItmM FrmM StaM FixF FixS FixTi
open ItmS (below_one)

/-- a span lies in block g -/
def R3 (w : World) (g : Nat) (r : Sp) : Prop := w.heap[g]? = some (.cells #[.int .i64 r.1, .int .i64 r.2.1, .bool r.2.2] 27 (0, 0))
theorem R3.lt {w : World} {g : Nat} {r : Sp} (h : R3 w g r) : g < w.heap.size := (Array.getElem?_eq_some_iff.1 h).1
theorem R3.on {w w' : World} {g : Nat} {r : Sp} (h : R3 w g r) (hB : Below w.heap.size w w') : R3 w' g r := by unfold R3; rw [hB.block g h.lt]; exact h
theorem R3.alloc {w : World} {g : Nat} {r : Sp} (h : R3 w g r) (o : Obj) : R3 (w.alloc o) g r := h.on (below_one w o)
theorem R3.new (w : World) (r : Sp) : R3 (w.alloc (.cells #[.int .i64 r.1, .int .i64 r.2.1, .bool r.2.2] 27)) w.heap.size r := heap_alloc_new w _
theorem R3.cells {w : World} {g : Nat} {r : Sp} (h : R3 w g r) : w.cell? ⟨g, 0, none⟩ = some (.int .i64 r.1) ∧ w.cell? ⟨g, 1, none⟩ = some (.int .i64 r.2.1) ∧ w.cell? ⟨g, 2, none⟩ = some (.bool r.2.2) ∧ (∀ j, w.frozen? ⟨g, j, none⟩ = false) := by
  unfold R3 at h
  exact ⟨by simp [World.cell?, h], by simp [World.cell?, h], by simp [World.cell?, h], fun j => by simp [World.frozen?, h]⟩
theorem R3.put {w : World} {g : Nat} {r : Sp} (h : R3 w g r) (s : Sp) : R3 (((w.setCell ⟨g, 0, none⟩ (.int .i64 s.1)).setCell ⟨g, 1, none⟩ (.int .i64 s.2.1)).setCell ⟨g, 2, none⟩ (.bool s.2.2)) g s := by
  unfold R3 at h ⊢
  rw [blk_set _ _ _ _ _ _ (blk_set _ _ _ _ _ _ (blk_set _ _ _ _ _ _ h))]
  simp only [List.setIfInBounds_toArray, List.set_cons_zero, List.set_cons_succ]
theorem R3.low {w : World} {g : Nat} {r : Sp} (h : R3 w g r) (n : Int) : R3 (w.setCell ⟨g, 0, none⟩ (.int .i64 n)) g (n, r.2.1, r.2.2) := by
  unfold R3 at h ⊢
  rw [blk_set _ _ _ _ _ _ h]
  simp only [List.setIfInBounds_toArray, List.set_cons_zero]
theorem R3.high {w : World} {g : Nat} {r : Sp} (h : R3 w g r) (n : Int) : R3 (w.setCell ⟨g, 1, none⟩ (.int .i64 n)) g (r.1, n, r.2.2) := by
  unfold R3 at h ⊢
  rw [blk_set _ _ _ _ _ _ h]
  simp only [List.setIfInBounds_toArray, List.set_cons_zero, List.set_cons_succ]
theorem R3.set {w : World} {g : Nat} {r : Sp} (h : R3 w g r) {p : Addr} (hp : p.block ≠ g) (v : Value) : R3 (w.setCell p v) g r := by unfold R3; exact blk_other h hp v
/-- a number that was reckoned lies in block g -/
def N3 (w : World) (g : Nat) (n c : Int) : Prop := w.heap[g]? = some (.cells #[.int .i64 n, .int .i64 0, .int .i64 c] 110 (0, 0))
theorem N3.lt {w : World} {g : Nat} {n c : Int} (h : N3 w g n c) : g < w.heap.size := (Array.getElem?_eq_some_iff.1 h).1
theorem N3.on {w w' : World} {g : Nat} {n c : Int} (h : N3 w g n c) (hB : Below w.heap.size w w') : N3 w' g n c := by unfold N3; rw [hB.block g h.lt]; exact h
theorem N3.new (w : World) (n c : Int) : N3 (w.alloc (.cells #[.int .i64 n, .int .i64 0, .int .i64 c] 110)) w.heap.size n c := heap_alloc_new w _
theorem N3.cells {w : World} {g : Nat} {n c : Int} (h : N3 w g n c) : w.cell? ⟨g, 0, none⟩ = some (.int .i64 n) ∧ w.cell? ⟨g, 1, none⟩ = some (.int .i64 0) ∧ w.cell? ⟨g, 2, none⟩ = some (.int .i64 c) ∧ (∀ j, w.frozen? ⟨g, j, none⟩ = false) := by
  unfold N3 at h
  exact ⟨by simp [World.cell?, h], by simp [World.cell?, h], by simp [World.cell?, h], fun j => by simp [World.frozen?, h]⟩

theorem spec_min (a b : Int) (w : World) : Calls Tryz.prog 64 #[.int .i64 a, .int .i64 b] w fun e w' => e = .returned (.int .i64 (minI a b)) ∧ w' = w := by
  by_cases h : a < b
  · rw [show minI a b = a by unfold minI; rw [if_pos h]]
    go_enter Tryz.func64, Tryz.ntmps64
    go_wp2
    go_ret
    exact ⟨rfl, rfl⟩
  · rw [show minI a b = b by unfold minI; rw [if_neg h]]
    go_enter Tryz.func64, Tryz.ntmps64
    go_wp2
    go_ret
    exact ⟨rfl, rfl⟩
theorem spec_max (a b : Int) (w : World) : Calls Tryz.prog 65 #[.int .i64 a, .int .i64 b] w fun e w' => e = .returned (.int .i64 (maxI a b)) ∧ w' = w := by
  by_cases h : a > b
  · rw [show maxI a b = a by unfold maxI; rw [if_pos h]]
    go_enter Tryz.func65, Tryz.ntmps65
    go_wp2
    go_ret
    exact ⟨rfl, rfl⟩
  · rw [show maxI a b = b by unfold maxI; rw [if_neg h]]
    go_enter Tryz.func65, Tryz.ntmps65
    go_wp2
    go_ret
    exact ⟨rfl, rfl⟩
theorem spec_wrong (w : World) : Calls Tryz.prog 62 #[] w fun e w' => e = .returned (spv wrongS) ∧ Below w.heap.size w w' := by
  go_enter Tryz.func62, Tryz.ntmps62
  go_wp2
  refine bodyPost_ret (v := spv wrongS) (by simp [results, Tryz.results62, go_sem, wrongS]) rfl ⟨rfl, by go_grown⟩
set_option maxHeartbeats 800000 in
theorem spec_field_span (q : It) (a : Option Addr) (c : Nat) (w : World) : Calls Tryz.prog 51 #[itv q a c] w fun e w' => e = .returned (spv (fieldS q)) ∧ Below w.heap.size w w' := by
  obtain ⟨k, s, ty, lo, hi, t, ps, hd⟩ := q
  unfold itv
  dsimp only [ik, inm, ity, ilo, ihi, itx, iex, ihd]
  by_cases h6 : k = 6
  · subst h6
    rw [show fieldS (6, s, ty, lo, hi, t, ps, hd) = (-1000000000, 1000000000, false) from rfl]
    go_enter Tryz.func51, Tryz.ntmps51
    go_wp2
    refine bodyPost_ret (v := spv (-1000000000, 1000000000, false)) (by simp [results, Tryz.results51, go_sem]) rfl ⟨rfl, by go_grown⟩
  · rw [show fieldS (k, s, ty, lo, hi, t, ps, hd) = (lo, hi, false) by unfold fieldS; exact if_neg h6]
    have e6 : (k == 6) = false := by simp [h6]
    go_enter Tryz.func51, Tryz.ntmps51
    go_wp2
    refine bodyPost_ret (v := spv (lo, hi, false)) (by simp [results, Tryz.results51, go_sem]) rfl ⟨rfl, by go_grown⟩

set_option maxHeartbeats 1600000 in
theorem spec_op (x a b : Int) (w : World) : Calls Tryz.prog 63 #[.int .i64 x, .int .i64 a, .int .i64 b] w fun e w' => e = .returned (.tuple #[.int .i64 (opR x a b).1, .bool (decide ((opR x a b).2 = 0))]) ∧ Below w.heap.size w w' := by
  obtain ⟨q, hq⟩ : ∃ q, Hid (timesR a b = q) := ⟨_, rfl⟩
  obtain ⟨r, hr⟩ : ∃ r, Hid (opR x a b = r) := ⟨_, rfl⟩
  rw [hr.out]
  obtain ⟨q0, q1⟩ := q
  obtain ⟨r0, r1⟩ := r
  have hbd : ∀ (z : Int), (z == 0) = decide (z = 0) := fun z => rfl
  go_enter Tryz.func63, Tryz.ntmps63
  go_wp2_with fail
  refine (times_any a b _).mono ?_
  rintro e w1 ⟨rfl, hB1⟩
  rw [hq.out]
  unfold numV
  dsimp only
  have HB1 := hid hB1
  clear hB1
  by_cases h3 : x = 3
  · subst h3
    have hp : Hid (plusR a b = (r0, r1)) := by show _ = _; rw [← hr.out]; rfl
    clear hq hr
    go_wp2_with fail
    refine (plus_any a b _).mono ?_
    rintro e w2 ⟨rfl, hB2⟩
    rw [hp.out]
    unfold numV
    dsimp only
    have hN := (N3.new w1 q0 q1).on hB2
    have hs1 := HB1.out.size
    have HB2 : Hid (Below w.heap.size w w2) := HB1.out.trans (((below_one w1 _).trans (hB2.mono (by simp))).mono HB1.out.size)
    clear hB2 HB1
    obtain ⟨x0, x1, x2, xf⟩ := hN.cells
    have hl := hN.lt
    clear hN
    go_wp2_with fail
    go_quiet (fail)
    go_wp2_with fail
    refine bodyPost_ret (v := .tuple #[.int .i64 r0, .bool (decide (r1 = 0))]) (by simp [results, Tryz.results63, go_sem]) rfl ⟨rfl, ?_⟩
    repeat (first | refine below_drewN ?_ _ | refine Below.setCell ?_ (by simp only; omega) _)
    exact HB2.out
  · by_cases h4 : x = 4
    · subst h4
      have hp : Hid (minusR a b = (r0, r1)) := by show _ = _; rw [← hr.out]; rfl
      clear hq hr
      go_wp2_with fail
      refine (minus_any a b _).mono ?_
      rintro e w2 ⟨rfl, hB2⟩
      rw [hp.out]
      unfold numV
      dsimp only
      have hN := (N3.new w1 q0 q1).on hB2
      have hs1 := HB1.out.size
      have HB2 : Hid (Below w.heap.size w w2) := HB1.out.trans (((below_one w1 _).trans (hB2.mono (by simp))).mono HB1.out.size)
      clear hB2 HB1
      obtain ⟨x0, x1, x2, xf⟩ := hN.cells
      have hl := hN.lt
      clear hN
      go_wp2_with fail
      go_quiet (fail)
      go_wp2_with fail
      refine bodyPost_ret (v := .tuple #[.int .i64 r0, .bool (decide (r1 = 0))]) (by simp [results, Tryz.results63, go_sem]) rfl ⟨rfl, ?_⟩
      repeat (first | refine below_drewN ?_ _ | refine Below.setCell ?_ (by simp only; omega) _)
      exact HB2.out
    · have hp : (q0, q1) = (r0, r1) := by rw [← hq.out, ← hr.out]; unfold opR; rw [if_neg h3, if_neg h4]
      injection hp with e0 e1
      subst e0 e1
      have n3 : (x == 3) = false := by simp [h3]
      have n4 : (x == 4) = false := by simp [h4]
      clear hq hr
      go_wp2_with fail
      go_quiet (fail)
      go_wp2_with fail
      refine bodyPost_ret (v := .tuple #[.int .i64 q0, .bool (decide (q1 = 0))]) (by simp [results, Tryz.results63, go_sem]) rfl ⟨rfl, ?_⟩
      repeat (first | refine below_drewN ?_ _ | refine Below.alloc ?_ (by have := HB1.out.size; simp; omega) _)
      exact HB1.out
end Go.Proofs.YtaofdckdmffaiaaGreatDoor.StaS
/- Two spans by an op, and a comparison of two, by the model. -/
namespace Go.Proofs.YtaofdckdmffaiaaGreatDoor.StaS
open Go.RowKit
open PrtW PrtM ItmW ItmM FrmM StaM FixF FixS FixTi
open ItmS (below_one)

abbrev spo (r : Sp) : Obj := .cells #[.int .i64 r.1, .int .i64 r.2.1, .bool r.2.2] 27
/-- two spans that came in, and a third one -/
theorem three (w : World) (a b z : Sp) : R3 (((w.alloc (spo a)).alloc (spo b)).alloc (spo z)) w.heap.size a ∧ R3 (((w.alloc (spo a)).alloc (spo b)).alloc (spo z)) (w.heap.size + 1) b ∧ R3 (((w.alloc (spo a)).alloc (spo b)).alloc (spo z)) (w.heap.size + 1 + 1) z ∧
    Below w.heap.size w (((w.alloc (spo a)).alloc (spo b)).alloc (spo z)) := by
  have hA := ((R3.new w a).alloc (spo b)).alloc (spo z)
  have hB := (R3.new (w.alloc (spo a)) b).alloc (spo z)
  have hZ := R3.new ((w.alloc (spo a)).alloc (spo b)) z
  simp only [World.size_alloc] at hB hZ
  refine ⟨hA, hB, hZ, ?_⟩
  go_grown

set_option maxRecDepth 10000 in
set_option maxHeartbeats 6400000 in
theorem spec_two_span (x : Int) (a b : Sp) (w : World) : Calls Tryz.prog 53 #[.int .i64 x, spv a, spv b] w fun e w' => e = .returned (spv (twoS (opR x) a b)) ∧ Below w.heap.size w w' := by
  obtain ⟨r, hr⟩ : ∃ r, Hid (twoS (opR x) a b = r) := ⟨_, rfl⟩
  rw [hr.out]
  obtain ⟨r0, r1, r2⟩ := r
  obtain ⟨a0, a1, aw⟩ := a
  obtain ⟨b0, b1, bw⟩ := b
  obtain ⟨hA, hB, hZ, hW⟩ := three w (a0, a1, aw) (b0, b1, bw) z0
  unfold spo z0 at hA hB hZ hW
  dsimp only at hA hB hZ hW
  have HA := hid hA
  have HB := hid hB
  have HZ := hid hZ
  have HW := hid hW
  clear hA hB hZ hW
  by_cases hw : (aw || bw) = true
  · have hr2 : wrongS = (r0, r1, r2) := by rw [← hr.out]; exact (two_wrong hw).symm
    unfold wrongS at hr2
    injection hr2 with e0 e1
    injection e1 with e1 e2
    subst e0 e1 e2
    clear hr
    cases aw
    · cases bw
      · cases hw
      · go_enter Tryz.func53, Tryz.ntmps53
        go_wp2_with fail
        refine (spec_wrong _).mono ?_
        rintro e w1 ⟨rfl, hB1⟩
        unfold wrongS
        dsimp only
        have HW1 : Hid (Below w.heap.size w w1) := HW.out.trans (hB1.mono HW.out.size)
        obtain ⟨x0, x1, x2, xf⟩ := (HZ.out.on hB1).cells
        have hl := (HZ.out.on hB1).lt
        clear hB1
        go_wp2_with fail
        refine bodyPost_ret (v := spv (-1000000000000000, 1000000000000000, true)) (by simp [results, Tryz.results53, go_sem, x0, x1, x2]) rfl ⟨rfl, ?_⟩
        repeat (refine Below.setCell ?_ (by simp only; omega) _)
        exact HW1.out
    · go_enter Tryz.func53, Tryz.ntmps53
      go_wp2_with fail
      refine (spec_wrong _).mono ?_
      rintro e w1 ⟨rfl, hB1⟩
      unfold wrongS
      dsimp only
      have HW1 : Hid (Below w.heap.size w w1) := HW.out.trans (hB1.mono HW.out.size)
      obtain ⟨x0, x1, x2, xf⟩ := (HZ.out.on hB1).cells
      have hl := (HZ.out.on hB1).lt
      clear hB1
      go_wp2_with fail
      refine bodyPost_ret (v := spv (-1000000000000000, 1000000000000000, true)) (by simp [results, Tryz.results53, go_sem, x0, x1, x2]) rfl ⟨rfl, ?_⟩
      repeat (refine Below.setCell ?_ (by simp only; omega) _)
      exact HW1.out
  · obtain ⟨rfl, rfl⟩ : aw = false ∧ bw = false := by cases aw <;> cases bw <;> simp at hw ⊢
    obtain ⟨F, hF⟩ : ∃ F, cor (opR x) (a0, a1, false) (b0, b1, false) = F := ⟨_, rfl⟩
    have HJ : Hid (joinS F = (r0, r1, r2)) := by show _ = _; rw [← hr.out, ← hF]; exact (two_no rfl).symm
    have hf0 : opR x a0 b0 = F 0 := by rw [← hF]; rfl
    have hf1 : opR x a1 b0 = F 1 := by rw [← hF]; rfl
    have hf2 : opR x a0 b1 = F 2 := by rw [← hF]; rfl
    have hf3 : opR x a1 b1 = F 3 := by rw [← hF]; rfl
    have HF0 := hid hf0
    have HF1 := hid hf1
    have HF2 := hid hf2
    have HF3 := hid hf3
    have hO := R3.new (((w.alloc (.cells #[.int .i64 a0, .int .i64 a1, .bool false] 27)).alloc (.cells #[.int .i64 b0, .int .i64 b1, .bool false] 27)).alloc (.cells #[.int .i64 0, .int .i64 0, .bool false] 27)) (1000000000000000, -1000000000000000, false)
    simp only [World.size_alloc] at hO
    have HO := hid hO
    clear hr hF hw hf0 hf1 hf2 hf3 hO
    go_enter Tryz.func53, Tryz.ntmps53
    go_wp2_with fail
    go_loopw [8, 9, 10, 11, 12] (fun i _ _ _ _ wr => ∃ k : Nat, k ≤ 4 ∧ i = .int .i64 k ∧ Hid (∀ j, j < k → (F j).2 = 0) ∧ Hid (R3 wr w.heap.size (a0, a1, false)) ∧ Hid (R3 wr (w.heap.size + 1) (b0, b1, false)) ∧ Hid (R3 wr (w.heap.size + 1 + 1) (0, 0, false)) ∧ Hid (R3 wr (w.heap.size + 1 + 1 + 1) (lowF F k, highF F k, false)) ∧ Hid (Below w.heap.size w wr)) (fun i _ _ _ _ _ => 4 - (intOf i).toNat)
    case atStart =>
      exact ⟨0, Nat.zero_le _, rfl, fun j hj => absurd hj (Nat.not_lt_zero _), HA.out.alloc _, HB.out.alloc _, HZ.out.alloc _, HO.out, HW.out.alloc HW.out.size _⟩
    case round =>
      obtain ⟨k, hk, rfl, Hall, HAr, HBr, HZr, HOr, HWr⟩ := hrel
      obtain ⟨p0, p1, p2, pf⟩ := HAr.out.cells
      obtain ⟨q0, q1, q2, qf⟩ := HBr.out.cells
      obtain ⟨y0, y1, y2, yf⟩ := HZr.out.cells
      obtain ⟨o0, o1, o2, of⟩ := HOr.out.cells
      have hol := HOr.out.lt
      have hzl := HZr.out.lt
      have hql := HBr.out.lt
      have hpl := HAr.out.lt
      dsimp only at p0 p1 p2 q0 q1 q2 y0 y1 y2 o0 o1 o2
      by_cases hlt : k < 4
      · have HLn : Hid (lowF F (k + 1) = minI (lowF F k) (F k).1) := rfl
        have HHn : Hid (highF F (k + 1) = maxI (highF F k) (F k).1) := rfl
        have HNo : Hid (¬ (F k).2 = 0 → (r0, r1, r2) = wrongS) := fun h => by rw [← HJ.out]; exact join_no hlt h
        have HNext : Hid ((F k).2 = 0 → ∀ j, j < k + 1 → (F j).2 = 0) := fun h j hj => by
          rcases Nat.lt_succ_iff_lt_or_eq.1 hj with hj' | rfl
          · exact Hall.out j hj'
          · exact h
        generalize lowF F k = L at o0 HLn HOr
        generalize highF F k = H at o1 HHn HOr
        have hop : ∃ X Y, Hid (opR x X Y = F k) ∧ Hid (X = if k % 2 = 1 then a1 else a0) ∧ Hid (Y = if k / 2 = 1 then b1 else b0) := by
          rcases (by omega : k = 0 ∨ k = 1 ∨ k = 2 ∨ k = 3) with rfl | rfl | rfl | rfl
          · exact ⟨_, _, HF0, rfl, rfl⟩
          · exact ⟨_, _, HF1, rfl, rfl⟩
          · exact ⟨_, _, HF2, rfl, rfl⟩
          · exact ⟨_, _, HF3, rfl, rfl⟩
        obtain ⟨X, Y, HXY, HX, HY⟩ := hop
        clear HF0 HF1 HF2 HF3
        rcases (by omega : k = 0 ∨ k = 1 ∨ k = 2 ∨ k = 3) with rfl | rfl | rfl | rfl
        all_goals (
          have hX := HX.out
          have hY := HY.out
          simp only [Nat.reduceMod, Nat.reduceDiv, Nat.reduceEqDiff, if_true, if_false] at hX hY
          (try rw [if_neg (by decide)] at hX)
          (try rw [if_pos rfl] at hX)
          (try rw [if_neg (by decide)] at hY)
          (try rw [if_pos rfl] at hY)
          subst hX hY
          clear HX HY
          go_wp2_with fail
          refine (spec_op x _ _ _).mono ?_
          rintro e w1 ⟨rfl, hB1⟩
          rw [HXY.out]
          generalize F _ = f at HLn HHn HNo HNext
          obtain ⟨fn, fc⟩ := f
          dsimp only at HLn HHn HNo HNext ⊢
          have HW1 : Hid (Below w.heap.size w w1) := HWr.out.trans (hB1.mono HWr.out.size)
          have HA1 := hid (HAr.out.on hB1)
          have HB1 := hid (HBr.out.on hB1)
          have HZ1 := hid (HZr.out.on hB1)
          have HO1 := hid (HOr.out.on hB1)
          clear hB1 p0 p1 p2 pf q0 q1 q2 qf y0 y1 y2 yf o0 o1 o2 of HXY
          by_cases hc : fc = 0
          · subst hc
            have HX := hid (HNext.out rfl)
            obtain ⟨o0, o1, o2, of⟩ := HO1.out.cells
            have hol1 := HO1.out.lt
            dsimp only at o0 o1 o2
            rw [show decide ((0 : Int) = 0) = true from rfl]
            go_wp2_with fail
            refine (spec_min L fn _).mono ?_
            rintro e w2 ⟨rfl, rfl⟩
            rw [← HLn.out]
            go_wp2_with fail
            refine (spec_max H fn _).mono ?_
            rintro e w3 ⟨rfl, rfl⟩
            rw [← HHn.out]
            go_wp2_with fail
            refine ⟨⟨_, by omega, by go_num, HX.out, ?_, ?_, ?_, ?_, ?_⟩, by simp [intOf]⟩
            · refine R3.set (R3.set ?_ (by simp only; omega) _) (by simp only; omega) _
              exact HA1.out
            · refine R3.set (R3.set ?_ (by simp only; omega) _) (by simp only; omega) _
              exact HB1.out
            · refine R3.set (R3.set ?_ (by simp only; omega) _) (by simp only; omega) _
              exact HZ1.out
            · exact (HO1.out.low _).high _
            · refine Below.setCell (Below.setCell HW1.out (by simp only; omega) _) (by simp only; omega) _
          · have hrr := HNo.out hc
            unfold wrongS at hrr
            injection hrr with e0 e1
            injection e1 with e1 e2
            subst e0 e1 e2
            rw [show decide (fc = 0) = false from decide_eq_false hc]
            go_wp2_with fail
            refine (spec_wrong _).mono ?_
            rintro e w2 ⟨rfl, hB2⟩
            unfold wrongS
            dsimp only
            have HW2 : Hid (Below w.heap.size w w2) := HW1.out.trans (hB2.mono HW1.out.size)
            obtain ⟨x0, x1, x2, xf⟩ := (HZ1.out.on hB2).cells
            have hl := (HZ1.out.on hB2).lt
            clear hB2
            go_wp2_with fail
            (try rw [Exit.noGoto_ret])
            refine bodyPost_ret (v := spv (-1000000000000000, 1000000000000000, true)) (by simp [results, Tryz.results53, go_sem, x0, x1, x2]) rfl ⟨rfl, ?_⟩
            repeat (refine Below.setCell ?_ (by simp only; omega) _)
            exact HW2.out)
      · obtain rfl : k = 4 := by omega
        have hj := HJ.out
        rw [join_yes (fun i hi => Hall.out i hi)] at hj
        injection hj with e0 e1
        injection e1 with e1 e2
        subst e2
        rw [e0] at o0
        rw [e1] at o1
        clear HJ HOr
        go_wp2_with fail
        (try rw [Exit.noGoto_ret])
        refine bodyPost_ret (v := spv (r0, r1, false)) (by simp [results, Tryz.results53, go_sem, y0, y1, y2]) rfl ⟨rfl, ?_⟩
        repeat (refine Below.setCell ?_ (by simp only; omega) _)
        exact HWr.out
end Go.Proofs.YtaofdckdmffaiaaGreatDoor.StaS
/- Spans, by the program: what is reckoned of the ends of two. -/
namespace Go.Proofs.YtaofdckdmffaiaaGreatDoor.StaI
open Go.RowKit
open PrtW PrtM ItmW ItmM FrmM StaM StaS FixF FixS FixT FixTi

theorem _root_.Go.Proofs.YtaofdckdmffaiaaGreatDoor.StaS.R3.drew {w : World} {g : Nat} {r : Sp} (h : R3 w g r) : R3 w.drew g r := h
theorem impl_wrong (w : World) : Calls Tryz.prog 114 #[] w fun e w' => e = .returned (spv wrongS) ∧ Below w.heap.size w w' := by
  go_enter Tryz.func114, Tryz.ntmps114
  go_wp2
  refine bodyPost_ret (v := spv wrongS) (by simp [results, Tryz.results114, go_sem, wrongS]) rfl ⟨rfl, by go_grown⟩
/-- the order in which the program asks for the ends -/
def perm (m : Nat) : Nat := m / 2 + 2 * (m % 2)
theorem low_perm (f : Nat → Int × Int) : lowF (fun m => f (perm m)) 4 = lowF f 4 := by
  rw [low_four, low_four]
  show minI (minI (minI (minI 1000000000000000 (f 0).1) (f 1).1) (f 2).1) (f 3).1 = _
  generalize (f 0).1 = a; generalize (f 1).1 = b; generalize (f 2).1 = c; generalize (f 3).1 = d
  unfold minI
  repeat' split
  all_goals omega
theorem high_perm (f : Nat → Int × Int) : highF (fun m => f (perm m)) 4 = highF f 4 := by
  rw [high_four, high_four]
  show maxI (maxI (maxI (maxI (-1000000000000000) (f 0).1) (f 1).1) (f 2).1) (f 3).1 = _
  generalize (f 0).1 = a; generalize (f 1).1 = b; generalize (f 2).1 = c; generalize (f 3).1 = d
  unfold maxI
  repeat' split
  all_goals omega
theorem join_perm (f : Nat → Int × Int) : joinS (fun m => f (perm m)) = joinS f := by
  unfold joinS
  rw [low_perm, high_perm]
  have h : okF (fun m => f (perm m)) = okF f := by
    unfold okF
    show (decide ((f 0).2 = 0) && (decide ((f 2).2 = 0) && (decide ((f 1).2 = 0) && decide ((f 3).2 = 0)))) = _
    cases decide ((f 0).2 = 0) <;> cases decide ((f 1).2 = 0) <;> cases decide ((f 2).2 = 0) <;> cases decide ((f 3).2 = 0) <;> rfl
  rw [h]
theorem min_eq (a b : Int) : min a b = minI a b := by unfold minI; omega
theorem max_eq (a b : Int) : max a b = maxI a b := by unfold maxI; omega

theorem ix0 (x y : Int) (W : World) : (Instr.index 141 (.agg #[.int .i64 x, .int .i64 y]) (.int .i64 0)).run Tryz.prog W = .ok (.int .i64 x) W := by kernel_rfl
theorem ix1 (x y : Int) (W : World) : (Instr.index 141 (.agg #[.int .i64 x, .int .i64 y]) (.int .i64 1)).run Tryz.prog W = .ok (.int .i64 y) W := by kernel_rfl

set_option maxRecDepth 10000 in
set_option maxHeartbeats 3200000 in
theorem impl_corners (K : FuncId) (f : Int → Int → Int × Int) (a b : Sp) (w : World) (hent : ∀ x y W, (callFunc K #[.int .i64 x, .int .i64 y]).run Tryz.prog W = .ok (.enter K #[.int .i64 x, .int .i64 y]) W)
    (hcall : ∀ x y W, Calls Tryz.prog K #[.int .i64 x, .int .i64 y] W fun e w' => e = .returned (numV (f x y).1 (f x y).2) ∧ Below W.heap.size W w') :
    Calls Tryz.prog 113 #[spv a, spv b, .func (.func K) #[] #[]] w fun e w' => e = .returned (spv (joinS (cor f a b))) ∧ Below w.heap.size w w' := by
  have HC := hid hcall
  clear hcall
  obtain ⟨r, hr⟩ : ∃ r, Hid (joinS (cor f a b) = r) := ⟨_, rfl⟩
  rw [hr.out]
  obtain ⟨r0, r1, r2⟩ := r
  obtain ⟨a0, a1, aw⟩ := a
  obtain ⟨b0, b1, bw⟩ := b
  obtain ⟨hA, hB, hZ, hW⟩ := three w (a0, a1, aw) (b0, b1, bw) z0
  unfold spo z0 at hA hB hZ hW
  dsimp only at hA hB hZ hW
  obtain ⟨G, hG⟩ : ∃ G, (fun m => cor f (a0, a1, aw) (b0, b1, bw) (perm m)) = G := ⟨_, rfl⟩
  have HJ : Hid (joinS G = (r0, r1, r2)) := by show _ = _; rw [← hr.out, ← hG]; exact join_perm _
  have hf0 : f a0 b0 = G 0 := by rw [← hG]; rfl
  have hf1 : f a0 b1 = G 1 := by rw [← hG]; rfl
  have hf2 : f a1 b0 = G 2 := by rw [← hG]; rfl
  have hf3 : f a1 b1 = G 3 := by rw [← hG]; rfl
  have HF0 := hid hf0
  have HF1 := hid hf1
  have HF2 := hid hf2
  have HF3 := hid hf3
  have hO := R3.new (((w.alloc (.cells #[.int .i64 a0, .int .i64 a1, .bool aw] 27)).alloc (.cells #[.int .i64 b0, .int .i64 b1, .bool bw] 27)).alloc (.cells #[.int .i64 0, .int .i64 0, .bool false] 27)) (1000000000000000, -1000000000000000, false)
  simp only [World.size_alloc] at hO
  have HA := hid (hA.alloc (.cells #[.int .i64 1000000000000000, .int .i64 (-1000000000000000), .bool false] 27))
  have HB := hid (hB.alloc (.cells #[.int .i64 1000000000000000, .int .i64 (-1000000000000000), .bool false] 27))
  have HZ := hid (hZ.alloc (.cells #[.int .i64 1000000000000000, .int .i64 (-1000000000000000), .bool false] 27))
  have HW := hid (hW.alloc hW.size (.cells #[.int .i64 1000000000000000, .int .i64 (-1000000000000000), .bool false] 27))
  have HO := hid hO
  have HE := hid hent
  have hi0 := ix0
  have hi1 := ix1
  clear hr hG hf0 hf1 hf2 hf3 hO hA hB hZ hW hent
  go_enter Tryz.func113, Tryz.ntmps113
  go_wp2_with fail
  go_loopw [19] (fun i wr => ∃ (k : Nat) (ki : Int), k ≤ 2 ∧ ki = k ∧ i = .int .i64 ki ∧ Hid (∀ j, j < 2 * k → (G j).2 = 0) ∧ Hid (R3 wr w.heap.size (a0, a1, aw)) ∧ Hid (R3 wr (w.heap.size + 1) (b0, b1, bw)) ∧ Hid (R3 wr (w.heap.size + 1 + 1) (0, 0, false)) ∧ Hid (R3 wr (w.heap.size + 1 + 1 + 1) (lowF G (2 * k), highF G (2 * k), false)) ∧ Hid (Below w.heap.size w wr)) (fun i _ => 2 - (intOf i).toNat)
  case atStart => exact ⟨0, 0, Nat.zero_le _, rfl, rfl, fun j hj => absurd hj (Nat.not_lt_zero _), HA.out, HB.out, HZ.out, HO.out, HW.out⟩
  case round =>
    obtain ⟨k, ki, hk, hki, rfl, Hall, HAr, HBr, HZr, HOr, HWr⟩ := hrel
    by_cases hlt : k < 2
    · obtain ⟨q0, q1, q2, qf⟩ := HBr.out.cells
      have hql := HBr.out.lt
      dsimp only at q0 q1 q2
      have he0 := HE.out a0 b0
      have he1 := HE.out a0 b1
      have he2 := HE.out a1 b0
      have he3 := HE.out a1 b1
      obtain ⟨kk, hkk⟩ : ∃ kk, kk = k := ⟨_, rfl⟩
      rw [← hkk] at Hall HOr
      rcases (by omega : (k = 0 ∧ ki = 0) ∨ (k = 1 ∧ ki = 1)) with ⟨rfl, rfl⟩ | ⟨rfl, rfl⟩
      all_goals (
        clear hki
        go_wp2_with fail
        go_loopw [27] (fun i wq => ∃ m : Nat, m ≤ 2 ∧ i = .int .i64 m ∧ Hid (∀ j, j < 2 * kk + m → (G j).2 = 0) ∧ Hid (R3 wq w.heap.size (a0, a1, aw)) ∧ Hid (R3 wq (w.heap.size + 1) (b0, b1, bw)) ∧ Hid (R3 wq (w.heap.size + 1 + 1) (0, 0, false)) ∧ Hid (R3 wq (w.heap.size + 1 + 1 + 1) (lowF G (2 * kk + m), highF G (2 * kk + m), false)) ∧ Hid (Below w.heap.size w wq)) (fun i _ => 2 - (intOf i).toNat)
        case atStart => exact ⟨0, Nat.zero_le _, rfl, Hall.out, HAr.out, HBr.out, HZr.out, HOr.out, HWr.out⟩
        case round =>
          obtain ⟨m, hm, rfl, Hal2, HAq, HBq, HZq, HOq, HWq⟩ := hrel
          by_cases hlm : m < 2
          · have HLn : Hid (lowF G (2 * kk + (m + 1)) = minI (lowF G (2 * kk + m)) (G (2 * kk + m)).1) := rfl
            have HHn : Hid (highF G (2 * kk + (m + 1)) = maxI (highF G (2 * kk + m)) (G (2 * kk + m)).1) := rfl
            have HNo : Hid (¬ (G (2 * kk + m)).2 = 0 → (r0, r1, r2) = wrongS) := fun h => by rw [← HJ.out]; exact join_no (i := 2 * kk + m) (by omega) h
            have HNext : Hid ((G (2 * kk + m)).2 = 0 → ∀ j, j < 2 * kk + (m + 1) → (G j).2 = 0) := fun h j hj => by
              rcases Nat.lt_succ_iff_lt_or_eq.1 (show j < (2 * kk + m) + 1 from hj) with hj' | rfl
              · exact Hal2.out j hj'
              · exact h
            obtain ⟨g, hg⟩ : ∃ g, Hid (G (2 * kk + m) = g) := ⟨_, rfl⟩
            rw [hg.out] at HLn HHn HNo HNext
            obtain ⟨fn, fc⟩ := g
            dsimp only at HLn HHn HNo HNext
            generalize lowF G (2 * kk + m) = L at HLn HOq
            generalize highF G (2 * kk + m) = H at HHn HOq
            rcases (by omega : m = 0 ∨ m = 1) with rfl | rfl
            all_goals (
              go_wp2_with fail
              refine (HC.out _ _ _).mono ?_
              rintro e w1 ⟨rfl, hB1⟩
              (first
                | rw [show f a0 b0 = (fn, fc) by subst hkk; exact HF0.out.trans hg.out]
                | rw [show f a0 b1 = (fn, fc) by subst hkk; exact HF1.out.trans hg.out]
                | rw [show f a1 b0 = (fn, fc) by subst hkk; exact HF2.out.trans hg.out]
                | rw [show f a1 b1 = (fn, fc) by subst hkk; exact HF3.out.trans hg.out])
              unfold numV
              dsimp only
              have HW1 : Hid (Below w.heap.size w w1) := HWq.out.trans (hB1.mono HWq.out.size)
              have HA1 := hid (HAq.out.on hB1)
              have HB1 := hid (HBq.out.on hB1)
              have HZ1 := hid (HZq.out.on hB1)
              have HO1 := hid (HOq.out.on hB1)
              have hw1 := HW1.out.size
              clear hB1
              by_cases hc : fc = 0
              · subst hc
                have HX := hid (HNext.out rfl)
                obtain ⟨o0, o1, o2, of⟩ := HO1.out.cells
                have hol := HO1.out.lt
                dsimp only at o0 o1 o2
                have hmin := min_eq L fn
                have hmax := max_eq H fn
                go_wp2_with fail
                go_region
                go_wp2_with fail
                refine ⟨⟨_, by omega, by go_num, HX.out, ?_, ?_, ?_, ?_, ?_⟩, by simp [intOf]⟩
                · exact (((HA1.out.set (by simp only; omega) _).set (by simp only; omega) _).alloc _).drew
                · exact (((HB1.out.set (by simp only; omega) _).set (by simp only; omega) _).alloc _).drew
                · exact (((HZ1.out.set (by simp only; omega) _).set (by simp only; omega) _).alloc _).drew
                · rw [HLn.out, HHn.out]
                  exact (((HO1.out.low _).high _).alloc _).drew
                · exact (((HW1.out.setCell (by simp only; omega) _).setCell (by simp only; omega) _).alloc (by simp; omega) _).drew
              · have hrr := HNo.out hc
                unfold wrongS at hrr
                injection hrr with e0 e1
                injection e1 with e1 e2
                subst e0 e1 e2
                have hcb : (fc != 0) = true := by simpa using hc
                go_wp2_with fail
                refine (impl_wrong _).mono ?_
                rintro e w2 ⟨rfl, hB2⟩
                unfold wrongS
                dsimp only
                have hb2 : Below w1.heap.size w1 w2 := (ItmS.below_one w1 _).trans (hB2.mono (by simp))
                have HW2 : Hid (Below w.heap.size w w2) := HW1.out.trans (hb2.mono HW1.out.size)
                obtain ⟨x0, x1, x2, xf⟩ := (HZ1.out.on hb2).cells
                clear hB2 hb2
                go_wp2_with fail
                (try rw [Exit.noGoto_ret])
                refine bodyPost_ret (v := spv (-1000000000000000, 1000000000000000, true)) (by simp [results, Tryz.results113, go_sem, x0, x1, x2]) rfl ⟨rfl, ?_⟩
                repeat (refine Below.setCell ?_ (by simp only; omega) _)
                exact HW2.out)
          · obtain rfl : m = 2 := by omega
            go_wp2_with fail
            subst hkk
            first
              | exact ⟨⟨1, 1, by omega, rfl, by go_num, Hal2.out, HAq.out, HBq.out, HZq.out, HOq.out, HWq.out⟩, by simp [intOf]⟩
              | exact ⟨⟨2, 2, by omega, rfl, by go_num, Hal2.out, HAq.out, HBq.out, HZq.out, HOq.out, HWq.out⟩, by simp [intOf]⟩)
    · obtain rfl : k = 2 := by omega
      obtain rfl : ki = 2 := by omega
      have hj := HJ.out
      rw [join_yes (fun i hi => Hall.out i hi)] at hj
      injection hj with e0 e1
      injection e1 with e1 e2
      subst e2
      obtain ⟨o0, o1, o2, of⟩ := HOr.out.cells
      have hol := HOr.out.lt
      obtain ⟨y0, y1, y2, yf⟩ := HZr.out.cells
      dsimp only at o0 o1 o2 y0 y1 y2
      rw [show lowF G (2 * 2) = r0 from e0] at o0
      rw [show highF G (2 * 2) = r1 from e1] at o1
      clear HJ HOr e0 e1 Hall HF0 HF1 HF2 HF3 hi0 hi1 HE hki hk hlt
      go_wp2_with fail
      (try rw [Exit.noGoto_ret])
      refine bodyPost_ret (v := spv (r0, r1, false)) (by simp [results, Tryz.results113, go_sem, y0, y1, y2]) rfl ⟨rfl, ?_⟩
      repeat (refine Below.setCell ?_ (by simp only; omega) _)
      exact HWr.out
end Go.Proofs.YtaofdckdmffaiaaGreatDoor.StaI
/- A comparison of two spans, by the model. -/
namespace Go.Proofs.YtaofdckdmffaiaaGreatDoor.StaS
open Go.RowKit
open PrtW PrtM ItmW ItmM FrmM StaM FixF FixS FixTi
open ItmS (below_one)

/-- two spans that came in -/
theorem both (w : World) (a b : Sp) : R3 ((w.alloc (spo a)).alloc (spo b)) w.heap.size a ∧ R3 ((w.alloc (spo a)).alloc (spo b)) (w.heap.size + 1) b ∧ Below w.heap.size w ((w.alloc (spo a)).alloc (spo b)) := by
  have hA := (R3.new w a).alloc (spo b)
  have hB := R3.new (w.alloc (spo a)) b
  simp only [World.size_alloc] at hB
  exact ⟨hA, hB, by go_grown⟩

set_option maxRecDepth 10000 in
set_option maxHeartbeats 6400000 in
theorem spec_compare (x : Int) (a b : Sp) (w : World) : Calls Tryz.prog 57 #[.int .i64 x, spv a, spv b] w fun e w' => e = .returned (.tuple #[.bool (cmpR x a b).1, .bool (cmpR x a b).2]) ∧ Below w.heap.size w w' := by
  obtain ⟨r, hr⟩ : ∃ r, Hid (cmpR x a b = r) := ⟨_, rfl⟩
  rw [hr.out]
  obtain ⟨r0, r1⟩ := r
  obtain ⟨a0, a1, aw⟩ := a
  obtain ⟨b0, b1, bw⟩ := b
  obtain ⟨hA, hB, hW⟩ := both w (a0, a1, aw) (b0, b1, bw)
  unfold spo at hA hB hW
  dsimp only at hA hB hW
  have HW := hid hW
  by_cases hw : (aw || bw) = true
  · have hr2 : (true, true) = (r0, r1) := by rw [← hr.out]; unfold cmpR; rw [if_pos hw]
    injection hr2 with e0 e1
    subst e0 e1
    clear hr hA hB hW
    cases aw
    · cases bw
      · cases hw
      · go_enter Tryz.func57, Tryz.ntmps57
        go_wp2
        refine bodyPost_ret (v := .tuple #[.bool true, .bool true]) (by simp [results, Tryz.results57, go_sem]) rfl ⟨rfl, HW.out⟩
    · go_enter Tryz.func57, Tryz.ntmps57
      go_wp2
      refine bodyPost_ret (v := .tuple #[.bool true, .bool true]) (by simp [results, Tryz.results57, go_sem]) rfl ⟨rfl, HW.out⟩
  · obtain ⟨rfl, rfl⟩ : aw = false ∧ bw = false := by cases aw <;> cases bw <;> simp at hw ⊢
    obtain ⟨p0, p1, p2, pf⟩ := hA.cells
    obtain ⟨q0, q1, q2, qf⟩ := hB.cells
    have hpl := hA.lt
    have hql := hB.lt
    dsimp only at p0 p1 p2 q0 q1 q2
    clear hA hB hW
    by_cases h6 : x = 6
    · subst h6
      have hr2 : (decide (maxI a0 b0 ≤ minI a1 b1), !decide (a0 = a1) || (!decide (b0 = b1) || !decide (a0 = b0))) = (r0, r1) := by
        rw [← hr.out]; unfold cmpR; rw [if_neg (show ¬ (false || false) = true by decide), if_pos rfl]
      injection hr2 with e0 e1
      clear hr
      have E0 := hid e0
      clear e0
      obtain ⟨mx, hmx⟩ : ∃ mx, Hid (maxI a0 b0 = mx) := ⟨_, rfl⟩
      obtain ⟨mn, hmn⟩ : ∃ mn, Hid (minI a1 b1 = mn) := ⟨_, rfl⟩
      rw [hmx.out, hmn.out] at E0
      by_cases g1 : a0 = a1
      · subst g1
        by_cases g2 : b0 = b1
        · subst g2
          have E1 : Hid ((a0 != b0) = r1) := by show _ = _; rw [← e1]; by_cases g3 : a0 = b0 <;> simp [g3]
          clear e1
          go_enter Tryz.func57, Tryz.ntmps57
          go_wp2_with fail
          go_quiet (first
            | (go_at_call 65; rw [← hmx.out]; exact Calls.quiet_of_same (spec_max _ _ _))
            | (go_at_call 65; exact Calls.quiet_of_same (spec_max _ _ _))
            | (go_at_call 64; exact Calls.quiet_of_same (spec_min _ _ _)))
          go_wp2_with fail
          refine bodyPost_ret (v := .tuple #[.bool r0, .bool r1]) (by simp [results, Tryz.results57, go_sem, ← E0.out, ← E1.out, ← hmx.out, ← hmn.out]) rfl ⟨rfl, below_drewN HW.out _⟩
        · have E1 : true = r1 := by rw [← e1]; simp [g2]
          subst E1
          clear e1
          have n2 : (b0 != b1) = true := by simpa using g2
          have m2 : decide (b0 ≠ b1) = true := by simpa using g2
          go_enter Tryz.func57, Tryz.ntmps57
          go_wp2_with fail
          go_quiet (first
            | (go_at_call 65; exact Calls.quiet_of_same (spec_max _ _ _))
            | (go_at_call 64; exact Calls.quiet_of_same (spec_min _ _ _)))
          go_wp2_with fail
          refine bodyPost_ret (v := .tuple #[.bool r0, .bool true]) (by simp [results, Tryz.results57, go_sem, ← E0.out, ← hmx.out, ← hmn.out]) rfl ⟨rfl, below_drewN HW.out _⟩
      · have E1 : true = r1 := by rw [← e1]; simp [g1]
        subst E1
        clear e1
        have n2 : (a0 != a1) = true := by simpa using g1
        have m2 : decide (a0 ≠ a1) = true := by simpa using g1
        go_enter Tryz.func57, Tryz.ntmps57
        go_wp2_with fail
        go_quiet (first
          | (go_at_call 65; exact Calls.quiet_of_same (spec_max _ _ _))
          | (go_at_call 64; exact Calls.quiet_of_same (spec_min _ _ _)))
        go_wp2_with fail
        refine bodyPost_ret (v := .tuple #[.bool r0, .bool true]) (by simp [results, Tryz.results57, go_sem, ← E0.out, ← hmx.out, ← hmn.out]) rfl ⟨rfl, below_drewN HW.out _⟩
    · have e6 : (x == 6) = false := by simp [h6]
      by_cases h7 : x = 7
      · subst h7
        have hr2 : (decide (a0 < b1), decide (a1 ≥ b0)) = (r0, r1) := by
          rw [← hr.out]; unfold cmpR; rw [if_neg (show ¬ (false || false) = true by decide), if_neg (by decide), if_pos rfl]
        injection hr2 with e0 e1
        subst e0 e1
        clear hr
        go_enter Tryz.func57, Tryz.ntmps57
        go_wp2_with fail
        go_quiet (fail)
        go_wp2_with fail
        refine bodyPost_ret (v := .tuple #[.bool (decide (a0 < b1)), .bool (decide (a1 ≥ b0))]) (by simp [results, Tryz.results57, go_sem]) rfl ⟨rfl, below_drewN HW.out _⟩
      · have e7 : (x == 7) = false := by simp [h7]
        have hr2 : (decide (a0 ≤ b1), decide (a1 > b0)) = (r0, r1) := by
          rw [← hr.out]; unfold cmpR; rw [if_neg (show ¬ (false || false) = true by decide), if_neg h6, if_neg h7]
        injection hr2 with e0 e1
        subst e0 e1
        clear hr
        go_enter Tryz.func57, Tryz.ntmps57
        go_wp2_with fail
        go_quiet (fail)
        go_wp2_with fail
        refine bodyPost_ret (v := .tuple #[.bool (decide (a0 ≤ b1)), .bool (decide (a1 > b0))]) (by simp [results, Tryz.results57, go_sem]) rfl ⟨rfl, below_drewN HW.out _⟩
end Go.Proofs.YtaofdckdmffaiaaGreatDoor.StaS
/- The program's closures over spans, and which one an op has. -/
namespace Go.Proofs.YtaofdckdmffaiaaGreatDoor.StaI
open Go.RowKit
open PrtW PrtM ItmW ItmM FrmM StaM StaS FixF FixS FixT FixTi

theorem makeF : ∀ (fn : Fn) (first cap : Array Value) (w : World), (Instr.makeFunc fn first cap).run Tryz.prog w = .ok (.func fn first cap) w := fun _ _ _ _ => rfl
abbrev pv (p : Nat) : Value := .pointer (some ⟨p, 0, none⟩)
abbrev fn0 (F : FuncId) : Value := .func (.func F) #[] #[]
abbrev fn1 (F : FuncId) (p : Nat) : Value := .func (.func F) #[] #[pv p]
abbrev lko (o : Lk) : Obj := .cells #[.int .i64 o.1.1, .int .i64 o.1.2.1, .bool o.1.2.2, .bool o.2.1, .bool o.2.2] 59
/-- what can come lies in block g -/
def R5 (w : World) (g : Nat) (o : Lk) : Prop := w.heap[g]? = some (.cells #[.int .i64 o.1.1, .int .i64 o.1.2.1, .bool o.1.2.2, .bool o.2.1, .bool o.2.2] 59 (0, 0))
theorem R5.lt {w : World} {g : Nat} {r : Lk} (h : R5 w g r) : g < w.heap.size := (Array.getElem?_eq_some_iff.1 h).1
theorem R5.on {w w' : World} {g : Nat} {r : Lk} (h : R5 w g r) (hB : Below w.heap.size w w') : R5 w' g r := by unfold R5; rw [hB.block g h.lt]; exact h
theorem R5.alloc {w : World} {g : Nat} {r : Lk} (h : R5 w g r) (o : Obj) : R5 (w.alloc o) g r := h.on (ItmS.below_one w o)
theorem R5.new (w : World) (o : Lk) : R5 (w.alloc (lko o)) w.heap.size o := heap_alloc_new w _
theorem R5.cells {w : World} {g : Nat} {o : Lk} (h : R5 w g o) : w.cell? ⟨g, 0, none⟩ = some (.int .i64 o.1.1) ∧ w.cell? ⟨g, 1, none⟩ = some (.int .i64 o.1.2.1) ∧ w.cell? ⟨g, 2, none⟩ = some (.bool o.1.2.2) ∧ w.cell? ⟨g, 3, none⟩ = some (.bool o.2.1) ∧ w.cell? ⟨g, 4, none⟩ = some (.bool o.2.2) ∧ (∀ j, w.frozen? ⟨g, j, none⟩ = false) := by
  unfold R5 at h
  exact ⟨by simp [World.cell?, h], by simp [World.cell?, h], by simp [World.cell?, h], by simp [World.cell?, h], by simp [World.cell?, h], fun j => by simp [World.frozen?, h]⟩

set_option maxRecDepth 10000 in
set_option maxHeartbeats 1600000 in
theorem reck_call (K : FuncId) (f : Int → Int → Int × Int) (a b : Sp) (p : Nat) (w : World) (hp : w.cell? ⟨p, 0, none⟩ = some (fn0 K)) (hpl : p < w.heap.size)
    (hent : ∀ x y W, (callFunc K #[.int .i64 x, .int .i64 y]).run Tryz.prog W = .ok (.enter K #[.int .i64 x, .int .i64 y]) W)
    (hcall : ∀ x y W, Calls Tryz.prog K #[.int .i64 x, .int .i64 y] W fun e w' => e = .returned (numV (f x y).1 (f x y).2) ∧ Below W.heap.size W w') :
    Calls Tryz.prog 112 #[spv a, spv b, pv p] w fun e w' => e = .returned (lkv (joinS (cor f a b), false, false)) ∧ Below w.heap.size w w' := by
  obtain ⟨r, hr⟩ : ∃ r, Hid (joinS (cor f a b) = r) := ⟨_, rfl⟩
  rw [hr.out]
  obtain ⟨r0, r1, r2⟩ := r
  obtain ⟨a0, a1, aw⟩ := a
  obtain ⟨b0, b1, bw⟩ := b
  have HEn := hid hent
  have HCa := hid hcall
  clear hent hcall
  have hR := R5.new ((w.alloc (spo (a0, a1, aw))).alloc (spo (b0, b1, bw))) (z0, false, false)
  unfold lko spo z0 at hR
  dsimp only at hR
  simp only [World.size_alloc] at hR
  have HR := hid hR
  have HB0 : Hid (Below w.heap.size w (((w.alloc (.cells #[.int .i64 a0, .int .i64 a1, .bool aw] 27)).alloc (.cells #[.int .i64 b0, .int .i64 b1, .bool bw] 27)).alloc (.cells #[.int .i64 0, .int .i64 0, .bool false, .bool false, .bool false] 59))) := by show Below _ _ _; go_grown
  have hpa : p < w.heap.size + 1 := by omega
  have hpb : p < w.heap.size + 1 + 1 := by omega
  clear hR
  go_enter Tryz.func112, Tryz.ntmps112
  go_wp2_with fail
  refine (impl_corners K f (a0, a1, aw) (b0, b1, bw) _ HEn.out HCa.out).mono ?_
  rintro e w1 ⟨rfl, hB1⟩
  rw [hr.out]
  dsimp only
  have HB1 : Hid (Below w.heap.size w w1) := HB0.out.trans (hB1.mono HB0.out.size)
  obtain ⟨x0, x1, x2, x3, x4, xf⟩ := (HR.out.on hB1).cells
  dsimp only at x0 x1 x2 x3 x4
  clear hB1 hp
  go_wp2_with fail
  refine bodyPost_ret (v := lkv ((r0, r1, r2), false, false)) (by simp [results, Tryz.results112, go_sem, x0, x1, x2, x3, x4]) rfl ⟨rfl, ?_⟩
  repeat (refine Below.setCell ?_ (by simp only; omega) _)
  exact HB1.out

set_option maxRecDepth 10000 in
set_option maxHeartbeats 1600000 in
theorem comp_call (K : FuncId) (c : Bool × Bool) (a b : Sp) (p : Nat) (w : World) (hp : w.cell? ⟨p, 0, none⟩ = some (fn0 K)) (hpl : p < w.heap.size)
    (hent : ∀ W, (callFunc K #[spv a, spv b]).run Tryz.prog W = .ok (.enter K #[spv a, spv b]) W)
    (hcall : ∀ W, Calls Tryz.prog K #[spv a, spv b] W fun e w' => e = .returned (.tuple #[.bool c.1, .bool c.2]) ∧ Below W.heap.size W w') :
    Calls Tryz.prog 122 #[spv a, spv b, pv p] w fun e w' => e = .returned (lkv (z0, c.1, c.2)) ∧ Below w.heap.size w w' := by
  obtain ⟨c0, c1⟩ := c
  obtain ⟨a0, a1, aw⟩ := a
  obtain ⟨b0, b1, bw⟩ := b
  have HCa := hid hcall
  clear hcall
  unfold z0
  have hR := R5.new ((w.alloc (spo (a0, a1, aw))).alloc (spo (b0, b1, bw))) (z0, false, false)
  unfold lko spo z0 at hR
  dsimp only at hR hent ⊢
  simp only [World.size_alloc] at hR
  have HR := hid hR
  have HB0 : Hid (Below w.heap.size w (((w.alloc (.cells #[.int .i64 a0, .int .i64 a1, .bool aw] 27)).alloc (.cells #[.int .i64 b0, .int .i64 b1, .bool bw] 27)).alloc (.cells #[.int .i64 0, .int .i64 0, .bool false, .bool false, .bool false] 59))) := by show Below _ _ _; go_grown
  have hpa : p < w.heap.size + 1 := by omega
  have hpb : p < w.heap.size + 1 + 1 := by omega
  clear hR
  go_enter Tryz.func122, Tryz.ntmps122
  go_wp2_with fail
  refine (HCa.out _).mono ?_
  rintro e w1 ⟨rfl, hB1⟩
  dsimp only
  have HB1 : Hid (Below w.heap.size w w1) := HB0.out.trans (hB1.mono HB0.out.size)
  obtain ⟨x0, x1, x2, x3, x4, xf⟩ := (HR.out.on hB1).cells
  dsimp only at x0 x1 x2 x3 x4
  clear hB1 hp
  go_wp2_with fail
  refine bodyPost_ret (v := lkv ((0, 0, false), c0, c1)) (by simp [results, Tryz.results122, go_sem, x0, x1, x2, x3, x4]) rfl ⟨rfl, ?_⟩
  repeat (refine Below.setCell ?_ (by simp only; omega) _)
  exact HB1.out

/-- an op: what it makes of two spans, and what of a wrong one -/
abbrev opv (fv : Value) (o : Lk) : Value := .agg #[fv, .int .i64 o.1.1, .int .i64 o.1.2.1, .bool o.1.2.2, .bool o.2.1, .bool o.2.2]
/-- an op over numbers: block p holds what it asks -/
def OpR (w : World) (K : FuncId) (v : Value) : Prop := ∃ p, v = opv (fn1 112 p) (wrongS, false, false) ∧ p < w.heap.size ∧ w.cell? ⟨p, 0, none⟩ = some (fn0 K)
def OpC (w : World) (K : FuncId) (v : Value) : Prop := ∃ p, v = opv (fn1 122 p) (z0, true, true) ∧ p < w.heap.size ∧ w.cell? ⟨p, 0, none⟩ = some (fn0 K)
end Go.Proofs.YtaofdckdmffaiaaGreatDoor.StaI
/- The span of a number, and what a truth can be, by the model. -/
namespace Go.Proofs.YtaofdckdmffaiaaGreatDoor.StaS
open Go.RowKit
open PrtW PrtM PrtS PrtI TexM ItmW ItmM FrmM StaM FixF FixS FixTi
open ItmS (below_one)
open FrmI (fieldQ fieldQ_at)

theorem tup2 {a b : Sp} {v : Value} (h : a = b) : Ending.returned (.tuple #[spv a, v]) = .returned (.tuple #[spv b, v]) := by rw [h]
theorem head_num {ps : List Pt} {k : Nat} {p : Pt} (h : ps.drop k = p :: ps.drop (k + 1)) (hn : numB ((ps.drop k).headD pt0).1 = true) : numB p.1 = true := by rw [h] at hn; exact hn
theorem kind_span {x : Int} (h : numB x = true) (h1 : ¬ x = 1) (h2 : ¬ x = 2) : x = 3 ∨ x = 4 ∨ x = 5 := by
  unfold numB at h
  have := of_decide_eq_true h
  omega
abbrev pto (x n : Int) (t : ByteArray) : Obj := .cells #[.int .i64 x, .int .i64 n, .string t] 56
def P3 (w : World) (g : Nat) (x n : Int) (t : ByteArray) : Prop := w.heap[g]? = some (.cells #[.int .i64 x, .int .i64 n, .string t] 56 (0, 0))
theorem P3.lt {w : World} {g : Nat} {x n : Int} {t : ByteArray} (h : P3 w g x n t) : g < w.heap.size := (Array.getElem?_eq_some_iff.1 h).1
theorem P3.on {w w' : World} {g : Nat} {x n : Int} {t : ByteArray} (h : P3 w g x n t) (hB : Below w.heap.size w w') : P3 w' g x n t := by unfold P3; rw [hB.block g h.lt]; exact h
theorem P3.new (w : World) (x n : Int) (t : ByteArray) : P3 (w.alloc (.cells #[.int .i64 x, .int .i64 n, .string t] 56)) w.heap.size x n t := heap_alloc_new w _
theorem P3.cells {w : World} {g : Nat} {x n : Int} {t : ByteArray} (h : P3 w g x n t) : w.cell? ⟨g, 0, none⟩ = some (.int .i64 x) ∧ w.cell? ⟨g, 1, none⟩ = some (.int .i64 n) ∧ w.cell? ⟨g, 2, none⟩ = some (.string t) := by
  unfold P3 at h
  exact ⟨by simp [World.cell?, h], by simp [World.cell?, h], by simp [World.cell?, h]⟩

set_option maxRecDepth 10000 in
set_option maxHeartbeats 1600000 in
theorem spec_span (ls : List It) (hf : formB ls = true) (la : Option Addr) (lcap : Nat) (a : Option Addr) (cap : Nat) (ps : List Pt) (hlen : ps.length ≤ 20) : ∀ (d : Nat) (k : Nat) (r : List Pt) (w : World), k ≤ ps.length → behind d (ps.drop k) = some r → numB ((ps.drop k).headD pt0).1 = true → Uses ls (ps.drop k) → Its w la ls → Parts w a ps →
    Calls Tryz.prog 33 #[.slice la ls.length lcap, .slice a ps.length cap, .int .i64 k] w fun e w' => e = .returned (.tuple #[spv (lk ls d (ps.drop k)).1, .int .i64 ((ps.length - r.length : Nat) : Int)]) ∧ Below w.heap.size w w' := by
  intro d
  induction d with
  | zero => intro k r w hk h; cases h
  | succ d ih =>
    intro k r w hk hbd hnum hus hL hP
    have HI := hid ih
    have HP := hid hP
    have HL := hid hL
    have hll := hL.1
    clear ih hP hL
    have hlt : k < ps.length := by
      rcases Nat.lt_or_ge k ps.length with h | h
      · exact h
      · rw [List.drop_of_length_le h] at hbd; cases hbd
    obtain ⟨b, o, x, n, t, rfl, hb, hg, -, c0, c1, c2⟩ := parts_at HP.out hlt
    have hdr : ps.drop k = (x, n, t) :: ps.drop (k + 1) := by rw [drop_at ps k hlt, hg]
    rw [hdr] at hbd hnum hus ⊢
    have hnx : numB x = true := hnum
    obtain ⟨hp, hcs⟩ := behind_kids hbd
    have hdl : (ps.drop (k + 1)).length = ps.length - (k + 1) := List.length_drop
    obtain ⟨rr, hrr⟩ : ∃ rr, Hid ((lk ls (d + 1) ((x, n, t) :: ps.drop (k + 1))).1 = rr) := ⟨_, rfl⟩
    rw [hrr.out]
    obtain ⟨r0, r1, r2⟩ := rr
    have hR0 := (R3.new w z0).alloc (.cells #[.int .i64 x, .int .i64 n, .string t] 56)
    have hq0 := P3.new (w.alloc (.cells #[.int .i64 0, .int .i64 0, .bool false] 27)) x n t
    unfold z0 at hR0
    simp only [World.size_alloc] at hR0 hq0
    have HR0 := hid hR0
    have HQ0 := hid hq0
    have HBW0 : Hid (Below w.heap.size w ((w.alloc (.cells #[.int .i64 0, .int .i64 0, .bool false] 27)).alloc (.cells #[.int .i64 x, .int .i64 n, .string t] 56))) := by show Below _ _ _; go_grown
    have HUh := hid hus.head
    have HUt := hid hus.tail
    clear hR0 hq0 hg hus hnum
    by_cases hx1 : x = 1
    · subst hx1
      rcases hcs with ⟨_, rfl⟩ | ⟨h0, _⟩ | ⟨h0, _⟩
      · have hlf : ((n, n, false) : Sp) = (r0, r1, r2) := by rw [← hrr.out]; rfl
        injection hlf with e0 e1
        injection e1 with e1 e2
        subst e0 e1 e2
        have hend : Hid (ps.length - (ps.drop (k + 1)).length = k + 1) := by show _ = _; omega
        rw [hend.out]
        clear hrr hbd hp hdr hdl hend HR0 HQ0
        go_enter Tryz.func33, Tryz.ntmps33
        go_wp2_with fail
        refine bodyPost_ret (v := .tuple #[spv (n, n, false), .int .i64 ((k : Int) + 1)]) (by simp [results, Tryz.results33, go_sem]) rfl ⟨by simp, by go_grown⟩
      · cases h0
      · cases h0
    by_cases hx2 : x = 2
    · subst hx2
      rcases hcs with ⟨_, rfl⟩ | ⟨h0, _⟩ | ⟨h0, _⟩
      · obtain ⟨i, hi, hil, hib, hik⟩ := part_field hf hp rfl HUh.out
        have hlf : fieldS (ls.getD i it0) = (r0, r1, r2) := by
          rw [← hrr.out, ← fieldQ_at hi]; rfl
        have HLF := hid hlf
        have hend : Hid (ps.length - (ps.drop (k + 1)).length = k + 1) := by show _ = _; omega
        rw [hend.out]
        have HFI : Hid (fieldI ls ls.length t = i) := fieldI_at hi
        have hii : (i : Int) < (ls.length : Int) := by omega
        clear hrr hbd hp hdr hdl hend hi hib hik hlf
        go_enter Tryz.func33, Tryz.ntmps33
        go_wp2_with fail
        refine (FrmS.spec_field la lcap ls ls.length t _ (HL.out.on HBW0.out) (Nat.le_refl _)).mono ?_
        rintro e w1 ⟨rfl, rfl⟩
        rw [HFI.out]
        obtain ⟨_, b', o', ai, ci, rfl, hb', hF, _⟩ := HL.out.at HBW0.out hil
        generalize ls.getD i it0 = q at hF HLF
        obtain ⟨fk, fs, fty, flo, fhi, ft, fps, fhd⟩ := q
        obtain ⟨d0, d1, d2, d3, d4, d5, d6, d7⟩ := hF
        dsimp only [ik, inm, ity, ilo, ihi, itx, iex, ihd] at d0 d1 d2 d3 d4 d5 d6 d7
        have hbl := Nat.lt_of_lt_of_le hb' HBW0.out.size
        go_wp2_with fail
        refine (spec_field_span (fk, fs, fty, flo, fhi, ft, fps, fhd) ai ci _).mono ?_
        rintro e w2 ⟨rfl, hB2⟩
        rw [HLF.out]
        have HB2 : Hid (Below w.heap.size w w2) := HBW0.out.trans (hB2.mono HBW0.out.size)
        obtain ⟨x0, x1, x2, xf⟩ := (HR0.out.on hB2).cells
        dsimp only at x0 x1 x2
        clear hB2 c0 c1 c2 d0 d1 d2 d3 d4 d5 d6 d7
        go_wp2_with fail
        refine bodyPost_ret (v := .tuple #[spv (r0, r1, r2), .int .i64 ((k : Int) + 1)]) (by simp [results, Tryz.results33, go_sem, x0, x1, x2]) rfl ⟨by simp, ?_⟩
        repeat (refine Below.setCell ?_ (by simp) _)
        exact HB2.out
      · cases h0
      · cases h0
    have hx345 := kind_span hnx hx1 hx2
    rcases hcs with ⟨h0, _⟩ | ⟨h0, _⟩ | ⟨h0, rm, hb1, hb2, hn1, hn2⟩
    · exfalso; have := (many_zero h0).2; omega
    · exfalso; have := many_one h0; omega
    · have hw3 : wantsB x = true := by unfold wantsB; exact decide_eq_true (by omega)
      rw [hw3] at hn1 hn2
      have hsf := behind_suffix _ _ _ hb1
      have hrm : ps.drop (ps.length - rm.length) = rm := suffix_drop (hsf.1.trans (List.drop_suffix (k + 1) ps))
      have hend : Hid (k + 1 ≤ ps.length) := by show _ ≤ _; omega
      have hrl1 : rm.length ≤ ps.length := by have := hsf.2; rw [hdl] at this; omega
      obtain ⟨s, hs⟩ : ∃ s, Hid ((lk ls d (ps.drop (k + 1))).1 = s) := ⟨_, rfl⟩
      obtain ⟨s', hs'⟩ : ∃ s', Hid ((lk ls d rm).1 = s') := ⟨_, rfl⟩
      have HTw : Hid (twoS (opR x) s s' = (r0, r1, r2)) := by
        show _ = _
        rw [← hrr.out, ← hs.out, ← hs'.out, lk_succ, if_neg (by rw [h0]; decide), if_neg (by rw [h0]; decide)]
        rw [show rest d (ps.drop (k + 1)) = rm by unfold rest; rw [hb1]; rfl]
        unfold joinO
        rw [if_neg (by omega), if_neg (by omega), if_pos hx345]
      have HB1 := hid hb1
      have HN1 := hid hn1
      have HB2 : Hid (behind d (ps.drop (ps.length - rm.length)) = some r) := by show _ = _; rw [hrm]; exact hb2
      have HN2 : Hid (numB ((ps.drop (ps.length - rm.length)).headD pt0).1 = true) := by show _ = _; rw [hrm]; exact hn2
      have HU2 : Hid (Uses ls (ps.drop (ps.length - rm.length))) := by show Uses _ _; rw [hrm]; exact HUt.out.suffix hsf.1
      have HRm := hid hrm
      obtain ⟨k0, k1, k2⟩ := s
      obtain ⟨m0, m1, m2⟩ := s'
      have hkc : Hid (((k : Int) + 1) = ((k + 1 : Nat) : Int)) := by show _ = _; omega
      have ex1 : (x == 1) = false := by simp; omega
      have ex2 : (x == 2) = false := by simp; omega
      clear hbd hp hb1 hb2 hrr h0 hrm hsf hdl hn1 hn2 hdr hw3 HUh hx345
      go_enter Tryz.func33, Tryz.ntmps33
      go_wp2_with fail
      rw [hkc.out]
      refine (HI.out (k + 1) rm _ hend.out HB1.out HN1.out HUt.out (HL.out.on HBW0.out) (HP.out.on HBW0.out)).mono ?_
      rintro e w2 ⟨rfl, hB2⟩
      rw [hs.out]
      have HW2 : Hid (Below w.heap.size w w2) := HBW0.out.trans (hB2.mono HBW0.out.size)
      have HR2 := hid (HR0.out.on hB2)
      have HQ2 := hid (HQ0.out.on hB2)
      clear hB2 c0 c1 c2 HQ0 HR0 HBW0
      go_wp2_with fail
      have hb2 : Below w2.heap.size w2 (w2.alloc (.cells #[.int .i64 k0, .int .i64 k1, .bool k2] 27)) := ItmS.below_one w2 _
      refine (HI.out (ps.length - rm.length) r _ (by omega) HB2.out HN2.out HU2.out ((HL.out.on HW2.out).on hb2) ((HP.out.on HW2.out).on hb2)).mono ?_
      rintro e w3 ⟨rfl, hB3⟩
      rw [HRm.out, hs'.out]
      have hb3 : Below w2.heap.size w2 w3 := hb2.trans (hB3.mono hb2.size)
      have HW3 : Hid (Below w.heap.size w w3) := HW2.out.trans (hb3.mono HW2.out.size)
      have HR3 := hid (HR2.out.on hb3)
      have HQ3 := hid (HQ2.out.on hb3)
      have HA3 : Hid (R3 w3 w2.heap.size (k0, k1, k2)) := (R3.new w2 (k0, k1, k2)).on hB3
      clear hB3 hb3 hb2 HR2 HQ2 HW2
      generalize hg9 : w2.heap.size = g9 at *
      clear hg9
      obtain ⟨q0, q1, q2⟩ := HQ3.out.cells
      have hql := HQ3.out.lt
      obtain ⟨a0, a1, a2, af⟩ := HA3.out.cells
      have hal := HA3.out.lt
      have hrl := HR3.out.lt
      dsimp only at a0 a1 a2
      go_wp2_with fail
      refine (spec_two_span x (k0, k1, k2) (m0, m1, m2) _).mono ?_
      rintro e w4 ⟨rfl, hB4⟩
      rw [HTw.out]
      have hb4 : Below w3.heap.size w3 w4 := (ItmS.below_one w3 _).trans (hB4.mono (by simp))
      have HW4 : Hid (Below w.heap.size w w4) := HW3.out.trans (hb4.mono HW3.out.size)
      obtain ⟨x0, x1, x2, xf⟩ := (HR3.out.on hb4).cells
      dsimp only at x0 x1 x2
      clear hB4 hb4 q0 q1 q2 a0 a1 a2 af HA3 HQ3 HR3
      go_wp2_with fail
      refine bodyPost_ret (v := .tuple #[spv (r0, r1, r2), .int .i64 ((ps.length - r.length : Nat) : Int)]) (by simp [results, Tryz.results33, go_sem, x0, x1, x2]) rfl ⟨rfl, ?_⟩
      repeat (refine Below.setCell ?_ (by simp) _)
      exact HW4.out
end Go.Proofs.YtaofdckdmffaiaaGreatDoor.StaS
/- What a truth can be, by the model. -/
namespace Go.Proofs.YtaofdckdmffaiaaGreatDoor.StaS
open Go.RowKit
open PrtW PrtM PrtS PrtI TexM ItmW ItmM FrmM StaM FixF FixS FixTi

theorem kind_truth {x : Int} (hp : 1 ≤ x ∧ x ≤ 13) (h : numB x = false) : x = 6 ∨ x = 7 ∨ x = 8 ∨ x = 9 ∨ x = 10 ∨ x = 11 ∨ x = 12 ∨ x = 13 := by
  unfold numB at h
  have := of_decide_eq_false h
  omega

set_option maxRecDepth 10000 in
set_option maxHeartbeats 3200000 in
theorem spec_can_at (ls : List It) (hf : formB ls = true) (la : Option Addr) (lcap : Nat) (a : Option Addr) (cap : Nat) (ps : List Pt) (hlen : ps.length ≤ 20) : ∀ (d : Nat) (k : Nat) (r : List Pt) (w : World), k ≤ ps.length → behind d (ps.drop k) = some r → numB ((ps.drop k).headD pt0).1 = false → Uses ls (ps.drop k) → Its w la ls → Parts w a ps →
    Calls Tryz.prog 39 #[.slice la ls.length lcap, .slice a ps.length cap, .int .i64 k] w fun e w' => e = .returned (.tuple #[.bool (lk ls d (ps.drop k)).2.1, .bool (lk ls d (ps.drop k)).2.2, .int .i64 ((ps.length - r.length : Nat) : Int)]) ∧ Below w.heap.size w w' := by
  intro d
  induction d with
  | zero => intro k r w hk h; cases h
  | succ d ih =>
    intro k r w hk hbd hnum hus hL hP
    have HI := hid ih
    have HP := hid hP
    have HL := hid hL
    clear ih hP hL
    have hlt : k < ps.length := by
      rcases Nat.lt_or_ge k ps.length with h | h
      · exact h
      · rw [List.drop_of_length_le h] at hbd; cases hbd
    obtain ⟨b, o, x, n, t, rfl, hb, hg, -, c0, c1, c2⟩ := parts_at HP.out hlt
    have hdr : ps.drop k = (x, n, t) :: ps.drop (k + 1) := by rw [drop_at ps k hlt, hg]
    rw [hdr] at hbd hnum hus ⊢
    have hnx : numB x = false := hnum
    obtain ⟨hp, hcs⟩ := behind_kids hbd
    have hin := part_in hp
    have hdl : (ps.drop (k + 1)).length = ps.length - (k + 1) := List.length_drop
    obtain ⟨rr, hrr⟩ : ∃ rr, Hid ((lk ls (d + 1) ((x, n, t) :: ps.drop (k + 1))).2 = rr) := ⟨_, rfl⟩
    rw [hrr.out]
    obtain ⟨r0, r1⟩ := rr
    have hq0 := P3.new w x n t
    have HQ0 := hid hq0
    have HBW0 : Hid (Below w.heap.size w (w.alloc (.cells #[.int .i64 x, .int .i64 n, .string t] 56))) := ItmS.below_one w _
    have HUt := hid hus.tail
    have hkc : Hid (((k : Int) + 1) = ((k + 1 : Nat) : Int)) := by show _ = _; omega
    have hkt := kind_truth (by omega) hnx
    clear hq0 hg hus hnum hnx hin
    rcases hcs with ⟨h0, rfl⟩ | ⟨h0, hb1, hn1⟩ | ⟨h0, rm, hb1, hb2, hn1, hn2⟩
    · have hx : x = 12 ∨ x = 13 := by have := leaf_op hp h0; simp only at this; omega
      have hlf : ((true, true) : Bool × Bool) = (r0, r1) := by
        rw [← hrr.out, lk_succ, if_pos h0]
        unfold leafO
        rw [if_neg (by omega), if_neg (by omega)]
      injection hlf with e0 e1
      subst e0 e1
      have hend : Hid (ps.length - (ps.drop (k + 1)).length = k + 1) := by show _ = _; omega
      rw [hend.out]
      clear hrr hbd hp hdr hdl hend HQ0 hkt h0
      rcases hx with rfl | rfl
      · go_enter Tryz.func39, Tryz.ntmps39
        go_wp2_with fail
        refine bodyPost_ret (v := .tuple #[.bool true, .bool true, .int .i64 ((k : Int) + 1)]) (by simp [results, Tryz.results39, go_sem]) rfl ⟨by simp, by go_grown⟩
      · go_enter Tryz.func39, Tryz.ntmps39
        go_wp2_with fail
        refine bodyPost_ret (v := .tuple #[.bool true, .bool true, .int .i64 ((k : Int) + 1)]) (by simp [results, Tryz.results39, go_sem]) rfl ⟨by simp, by go_grown⟩
    · obtain rfl : x = 11 := many_one h0
      obtain ⟨s, hs⟩ : ∃ s, Hid (lk ls d (ps.drop (k + 1)) = s) := ⟨_, rfl⟩
      obtain ⟨sp, s0, s1⟩ := s
      have hT : (s1, s0) = (r0, r1) := by
        rw [← hrr.out, lk_succ, if_neg (by rw [h0]; decide), if_pos h0, hs.out]
      injection hT with e0 e1
      subst e0 e1
      have HB1 := hid hb1
      have HN1 : Hid (numB ((ps.drop (k + 1)).headD pt0).1 = false) := by show _ = _; rw [hn1]; rfl
      have hend : Hid (k + 1 ≤ ps.length) := by show _ ≤ _; omega
      clear hrr hbd hp hdr hdl hb1 hn1 h0 hkt
      go_enter Tryz.func39, Tryz.ntmps39
      go_wp2_with fail
      rw [hkc.out]
      refine (HI.out (k + 1) r _ hend.out HB1.out HN1.out HUt.out (HL.out.on HBW0.out) (HP.out.on HBW0.out)).mono ?_
      rintro e w2 ⟨rfl, hB2⟩
      rw [hs.out]
      have HW2 : Hid (Below w.heap.size w w2) := HBW0.out.trans (hB2.mono HBW0.out.size)
      clear hB2 c0 c1 c2 HQ0 HBW0
      go_wp2_with fail
      refine bodyPost_ret (v := .tuple #[.bool s1, .bool s0, .int .i64 ((ps.length - r.length : Nat) : Int)]) (by simp [results, Tryz.results39, go_sem]) rfl ⟨rfl, HW2.out⟩
    · have h310 := many_two h0
      have hsf := behind_suffix _ _ _ hb1
      have hrm : ps.drop (ps.length - rm.length) = rm := suffix_drop (hsf.1.trans (List.drop_suffix (k + 1) ps))
      have hend : Hid (k + 1 ≤ ps.length) := by show _ ≤ _; omega
      have hrl1 : rm.length ≤ ps.length := by have := hsf.2; rw [hdl] at this; omega
      obtain ⟨s, hs⟩ : ∃ s, Hid (lk ls d (ps.drop (k + 1)) = s) := ⟨_, rfl⟩
      obtain ⟨s', hs'⟩ : ∃ s', Hid (lk ls d rm = s') := ⟨_, rfl⟩
      have HTw : Hid ((joinO x s s').2 = (r0, r1)) := by
        show _ = _
        rw [← hrr.out, ← hs.out, ← hs'.out, lk_succ, if_neg (by rw [h0]; decide), if_neg (by rw [h0]; decide)]
        rw [show rest d (ps.drop (k + 1)) = rm by unfold rest; rw [hb1]; rfl]
      have HB1 := hid hb1
      have HB2 : Hid (behind d (ps.drop (ps.length - rm.length)) = some r) := by show _ = _; rw [hrm]; exact hb2
      have HU2 : Hid (Uses ls (ps.drop (ps.length - rm.length))) := by show Uses _ _; rw [hrm]; exact HUt.out.suffix hsf.1
      have HRm := hid hrm
      obtain ⟨⟨k0, k1, k2⟩, u0, u1⟩ := s
      obtain ⟨⟨m0, m1, m2⟩, v0, v1⟩ := s'
      have ex12 : (x == 12) = false := by simp; omega
      have ex13 : (x == 13) = false := by simp; omega
      have ex11 : (x == 11) = false := by simp; omega
      by_cases hx910 : x = 9 ∨ x = 10
      · have hw3 : wantsB x = false := by unfold wantsB; exact decide_eq_false (by omega)
        have HN1 : Hid (numB ((ps.drop (k + 1)).headD pt0).1 = false) := by show _ = _; rw [hn1]; exact hw3
        have HN2 : Hid (numB ((ps.drop (ps.length - rm.length)).headD pt0).1 = false) := by show _ = _; rw [hrm, hn2]; exact hw3
        clear hbd hp hb1 hb2 hrr h0 hrm hsf hdl hn1 hn2 hdr hw3 hkt h310
        rcases hx910 with rfl | rfl
        · have hj : (u0 && v0, u1 || v1) = (r0, r1) := by rw [← HTw.out]; rfl
          injection hj with e0 e1
          subst e0 e1
          clear HTw
          go_enter Tryz.func39, Tryz.ntmps39
          go_wp2_with fail
          rw [hkc.out]
          refine (HI.out (k + 1) rm _ hend.out HB1.out HN1.out HUt.out (HL.out.on HBW0.out) (HP.out.on HBW0.out)).mono ?_
          rintro e w2 ⟨rfl, hB2⟩
          rw [hs.out]
          have HW2 : Hid (Below w.heap.size w w2) := HBW0.out.trans (hB2.mono HBW0.out.size)
          have HQ2 := hid (HQ0.out.on hB2)
          clear hB2 c0 c1 c2 HQ0 HBW0
          go_wp2_with fail
          refine (HI.out (ps.length - rm.length) r _ (by omega) HB2.out HN2.out HU2.out (HL.out.on HW2.out) (HP.out.on HW2.out)).mono ?_
          rintro e w3 ⟨rfl, hB3⟩
          rw [HRm.out, hs'.out]
          have HW3 : Hid (Below w.heap.size w w3) := HW2.out.trans (hB3.mono HW2.out.size)
          obtain ⟨q0, q1, q2⟩ := (HQ2.out.on hB3).cells
          clear hB3 HW2 HQ2
          cases u0 <;> cases u1
          all_goals (
            go_wp2_with fail
            refine bodyPost_ret (v := _) (by simp [results, Tryz.results39, go_sem]; rfl) rfl ⟨by simp, HW3.out⟩)
        · have hj : (u0 || v0, u1 && v1) = (r0, r1) := by rw [← HTw.out]; rfl
          injection hj with e0 e1
          subst e0 e1
          clear HTw
          go_enter Tryz.func39, Tryz.ntmps39
          go_wp2_with fail
          rw [hkc.out]
          refine (HI.out (k + 1) rm _ hend.out HB1.out HN1.out HUt.out (HL.out.on HBW0.out) (HP.out.on HBW0.out)).mono ?_
          rintro e w2 ⟨rfl, hB2⟩
          rw [hs.out]
          have HW2 : Hid (Below w.heap.size w w2) := HBW0.out.trans (hB2.mono HBW0.out.size)
          have HQ2 := hid (HQ0.out.on hB2)
          clear hB2 c0 c1 c2 HQ0 HBW0
          go_wp2_with fail
          refine (HI.out (ps.length - rm.length) r _ (by omega) HB2.out HN2.out HU2.out (HL.out.on HW2.out) (HP.out.on HW2.out)).mono ?_
          rintro e w3 ⟨rfl, hB3⟩
          rw [HRm.out, hs'.out]
          have HW3 : Hid (Below w.heap.size w w3) := HW2.out.trans (hB3.mono HW2.out.size)
          obtain ⟨q0, q1, q2⟩ := (HQ2.out.on hB3).cells
          clear hB3 HW2 HQ2
          cases u0 <;> cases u1
          all_goals (
            go_wp2_with fail
            refine bodyPost_ret (v := _) (by simp [results, Tryz.results39, go_sem]; rfl) rfl ⟨by simp, HW3.out⟩)
      · have hx678 : x = 6 ∨ x = 7 ∨ x = 8 := by omega
        have hw3 : wantsB x = true := by unfold wantsB; exact decide_eq_true (by omega)
        have HN1 : Hid (numB ((ps.drop (k + 1)).headD pt0).1 = true) := by show _ = _; rw [hn1]; exact hw3
        have HN2 : Hid (numB ((ps.drop (ps.length - rm.length)).headD pt0).1 = true) := by show _ = _; rw [hrm, hn2]; exact hw3
        have HJ : Hid (cmpR x (k0, k1, k2) (m0, m1, m2) = (r0, r1)) := by
          show _ = _
          rw [← HTw.out]
          unfold joinO
          rw [if_neg (by omega), if_neg (by omega), if_neg (by omega)]
        have ex9 : (x == 9) = false := by simp; omega
        have ex10 : (x == 10) = false := by simp; omega
        have HS1 : Hid ((lk ls d (ps.drop (k + 1))).1 = (k0, k1, k2)) := by show _ = _; rw [hs.out]
        have HS2 : Hid ((lk ls d rm).1 = (m0, m1, m2)) := by show _ = _; rw [hs'.out]
        clear hbd hp hb1 hb2 hrr h0 hrm hsf hdl hn1 hn2 hdr hw3 hkt h310 HTw hs hs' HI hx910
        go_enter Tryz.func39, Tryz.ntmps39
        go_wp2_with fail
        rw [hkc.out]
        refine (spec_span ls hf la lcap (some ⟨b, o, none⟩) cap ps hlen d (k + 1) rm _ hend.out HB1.out HN1.out HUt.out (HL.out.on HBW0.out) (HP.out.on HBW0.out)).mono ?_
        rintro e w2 ⟨rfl, hB2⟩
        rw [HS1.out]
        have HW2 : Hid (Below w.heap.size w w2) := HBW0.out.trans (hB2.mono HBW0.out.size)
        have HQ2 := hid (HQ0.out.on hB2)
        clear hB2 c0 c1 c2 HQ0 HBW0
        go_wp2_with fail
        have hb2 : Below w2.heap.size w2 (w2.alloc (.cells #[.int .i64 k0, .int .i64 k1, .bool k2] 27)) := ItmS.below_one w2 _
        refine (spec_span ls hf la lcap (some ⟨b, o, none⟩) cap ps hlen d (ps.length - rm.length) r _ (by omega) HB2.out HN2.out HU2.out ((HL.out.on HW2.out).on hb2) ((HP.out.on HW2.out).on hb2)).mono ?_
        rintro e w3 ⟨rfl, hB3⟩
        rw [HRm.out, HS2.out]
        have hb3 : Below w2.heap.size w2 w3 := hb2.trans (hB3.mono hb2.size)
        have HW3 : Hid (Below w.heap.size w w3) := HW2.out.trans (hb3.mono HW2.out.size)
        have HQ3 := hid (HQ2.out.on hb3)
        have HA3 : Hid (R3 w3 w2.heap.size (k0, k1, k2)) := (R3.new w2 (k0, k1, k2)).on hB3
        clear hB3 hb3 hb2 HQ2 HW2
        generalize hg9 : w2.heap.size = g9 at *
        clear hg9
        obtain ⟨q0, q1, q2⟩ := HQ3.out.cells
        have hql := HQ3.out.lt
        obtain ⟨a0, a1, a2, af⟩ := HA3.out.cells
        have hal := HA3.out.lt
        dsimp only at a0 a1 a2
        go_wp2_with fail
        refine (spec_compare x (k0, k1, k2) (m0, m1, m2) _).mono ?_
        rintro e w4 ⟨rfl, hB4⟩
        rw [HJ.out]
        dsimp only
        have hb4 : Below w3.heap.size w3 w4 := (ItmS.below_one w3 _).trans (hB4.mono (by simp))
        have HW4 : Hid (Below w.heap.size w w4) := HW3.out.trans (hb4.mono HW3.out.size)
        clear hB4 hb4 q0 q1 q2 a0 a1 a2 af HA3 HQ3
        go_wp2_with fail
        refine bodyPost_ret (v := .tuple #[.bool r0, .bool r1, .int .i64 ((ps.length - r.length : Nat) : Int)]) (by simp [results, Tryz.results39, go_sem]) rfl ⟨rfl, HW4.out⟩
end Go.Proofs.YtaofdckdmffaiaaGreatDoor.StaS
/- SpanOf, CanBe and CanNot of the model. -/
namespace Go.Proofs.YtaofdckdmffaiaaGreatDoor.StaS
open Go.RowKit
open PrtW PrtM PrtS PrtI TexM ItmW ItmM FrmM StaM

theorem fx_form {ls : List It} {ps : List Pt} (h : rightFX ls ps = true) : formB ls = true ∧ rightB ps = true ∧ usesB ls ls.length ps = true := by
  unfold rightFX at h
  rw [Bool.and_eq_true, Bool.and_eq_true] at h
  exact h
theorem fx_noform {ls : List It} {ps : List Pt} (h : formB ls = false) : rightFX ls ps = false := by unfold rightFX; rw [h]; rfl
theorem fx_noright {ls : List It} {ps : List Pt} (h : rightB ps = false) : rightFX ls ps = false := by unfold rightFX; rw [h, Bool.false_and, Bool.and_false]
theorem fx_yes {ls : List It} {ps : List Pt} (h1 : formB ls = true) (h2 : rightB ps = true) : rightFX ls ps = usesB ls ls.length ps := by unfold rightFX; rw [h1, h2]; rfl

set_option maxRecDepth 10000 in
set_option maxHeartbeats 1600000 in
theorem spec_fx (la : Option Addr) (lcap : Nat) (ls : List It) (a : Option Addr) (cap : Nat) (ps : List Pt) (w : World) (hL : Its w la ls) (hP : Parts w a ps) :
    Calls Tryz.prog 31 #[.slice la ls.length lcap, .slice a ps.length cap] w fun e w' => e = .returned (.bool (rightFX ls ps)) ∧ Below w.heap.size w w' := by
  have HP := hid hP
  have HL := hid hL
  have hpl := hP.1
  have hll := hL.1
  clear hP hL
  obtain ⟨r, hr⟩ : ∃ r, Hid (rightFX ls ps = r) := ⟨_, rfl⟩
  rw [hr.out]
  by_cases h1 : ls.length ≤ 400
  · by_cases h2 : ps.length ≤ 400
    · obtain ⟨f, hf⟩ : ∃ f, Hid (formB ls = f) := ⟨_, rfl⟩
      obtain ⟨g, hg⟩ : ∃ g, Hid (rightB ps = g) := ⟨_, rfl⟩
      have h1' : (ls.length : Int) ≤ 400 := by omega
      have h2' : (ps.length : Int) ≤ 400 := by omega
      go_enter Tryz.func31, Tryz.ntmps31
      go_wp2_with fail
      refine (FrmS.spec_form la lcap ls _ HL.out).mono ?_
      rintro e w1 ⟨rfl, hB1⟩
      rw [hf.out]
      have HB1 := hid hB1
      clear hB1
      cases f
      · obtain rfl : r = false := by rw [← hr.out]; exact fx_noform hf.out
        go_wp2_with fail
        go_ret
        exact ⟨rfl, HB1.out⟩
      · go_wp2_with fail
        refine (PrtS.spec_right a cap ps _ (HP.out.on HB1.out)).mono ?_
        rintro e w2 ⟨rfl, hB2⟩
        rw [hg.out]
        have HB2 : Hid (Below w.heap.size w w2) := HB1.out.trans (hB2.mono HB1.out.size)
        clear hB2
        cases g
        · obtain rfl : r = false := by rw [← hr.out]; exact fx_noright hg.out
          go_wp2_with fail
          go_ret
          exact ⟨rfl, HB2.out⟩
        · have HR : Hid (usesB ls ls.length ps = r) := by show _ = _; rw [← hr.out]; exact (fx_yes hf.out hg.out).symm
          go_wp2_with fail
          refine (FrmS.spec_uses la a lcap cap ls ls.length ps w2 (HL.out.on HB2.out) (HP.out.on HB2.out) (Nat.le_refl _)).mono ?_
          rintro e w3 ⟨rfl, rfl⟩
          rw [HR.out]
          clear hr HR
          cases r
          · go_wp2_with fail
            go_ret
            exact ⟨rfl, HB2.out⟩
          · go_wp2_with fail
            go_ret
            exact ⟨rfl, HB2.out⟩
    · obtain rfl : r = false := by
        rw [← hr.out]
        refine fx_noright ?_
        cases hb : rightB ps
        · rfl
        · have := (right_behind hb).1; omega
      have h1' : (ls.length : Int) ≤ 400 := by omega
      have h2' : ¬ (ps.length : Int) ≤ 400 := by omega
      go_enter Tryz.func31, Tryz.ntmps31
      go_wp2_with fail
      go_ret
      exact ⟨rfl, Below.refl _ _⟩
  · obtain rfl : r = false := by rw [← hr.out]; exact fx_noform (form_long (by omega))
    have h1' : ¬ (ls.length : Int) ≤ 400 := by omega
    go_enter Tryz.func31, Tryz.ntmps31
    go_wp2_with fail
    go_ret
    exact ⟨rfl, Below.refl _ _⟩
theorem head_truth {ps : List Pt} {b : Bool} (h : (rightB ps && !numB (ps.headD pt0).1) = b) (h2 : rightB ps = true) : numB ((ps.drop 0).headD pt0).1 = !b := by
  rw [List.drop_zero, ← h, h2]
  simp

set_option maxRecDepth 10000 in
set_option maxHeartbeats 1600000 in
theorem spec_span_of (la : Option Addr) (lcap : Nat) (ls : List It) (a : Option Addr) (cap : Nat) (ps : List Pt) (w : World) (hL : Its w la ls) (hP : Parts w a ps) :
    Calls Tryz.prog 10 #[.slice la ls.length lcap, .slice a ps.length cap] w fun e w' => e = .returned (spv (spanR ls ps)) ∧ Below w.heap.size w w' := by
  have HP := hid hP
  have HL := hid hL
  clear hP hL
  obtain ⟨r, hr⟩ : ∃ r, Hid (spanR ls ps = r) := ⟨_, rfl⟩
  rw [hr.out]
  obtain ⟨r0, r1, r2⟩ := r
  have hz : ¬ (rightFX ls ps = true ∧ truthB ps = false) → r0 = 0 ∧ r1 = 0 ∧ r2 = false := fun h => by
    have h1 := hr.out
    unfold spanR z0 at h1
    rw [if_neg h] at h1
    injection h1 with h2 h3
    injection h3 with h3 h4
    exact ⟨h2.symm, h3.symm, h4.symm⟩
  have hb0 : Below w.heap.size w (w.alloc (.cells #[.int .i64 0, .int .i64 0, .bool false] 27)) := ItmS.below_one w _
  have HB0 := hid hb0
  have HR0 := hid (R3.new w z0)
  obtain ⟨f, hf⟩ : ∃ f, Hid (rightFX ls ps = f) := ⟨_, rfl⟩
  obtain ⟨g, hg⟩ : ∃ g, Hid (truthB ps = g) := ⟨_, rfl⟩
  clear hb0
  go_enter Tryz.func10, Tryz.ntmps10
  go_wp2_with fail
  refine (spec_fx la lcap ls a cap ps _ (HL.out.on HB0.out) (HP.out.on HB0.out)).mono ?_
  rintro e w1 ⟨rfl, hB1⟩
  rw [hf.out]
  have HB1 : Hid (Below w.heap.size w w1) := HB0.out.trans (hB1.mono HB0.out.size)
  have HR1 := hid (HR0.out.on hB1)
  clear hB1 HR0
  cases f
  · obtain ⟨rfl, rfl, rfl⟩ := hz (fun h => by rw [hf.out] at h; cases h.1)
    clear hz hr
    obtain ⟨x0, x1, x2, xf⟩ := HR1.out.cells
    dsimp only [z0] at x0 x1 x2
    go_wp2_with fail
    refine bodyPost_ret (v := spv (0, 0, false)) (by simp [results, Tryz.results10, go_sem, x0, x1, x2]) rfl ⟨rfl, ?_⟩
    repeat (refine Below.setCell ?_ (by simp) _)
    exact HB1.out
  · go_wp2_with fail
    refine (PrtS.spec_truth a cap ps _ (HP.out.on HB1.out)).mono ?_
    rintro e w2 ⟨rfl, hB2⟩
    rw [hg.out]
    have HB2 : Hid (Below w.heap.size w w2) := HB1.out.trans (hB2.mono HB1.out.size)
    have HR2 := hid (HR1.out.on hB2)
    clear hB2 HR1
    cases g
    · obtain ⟨hfo, hri, hus⟩ := fx_form hf.out
      obtain ⟨h20, hbh⟩ := right_behind hri
      have HQ : Hid ((lk ls 6 ps).1 = (r0, r1, r2)) := by show _ = _; rw [← hr.out]; unfold spanR; rw [if_pos ⟨hf.out, hg.out⟩]
      have hnum : numB ((ps.drop 0).headD pt0).1 = true := head_truth (b := false) (by have := hg.out; unfold truthB at this; exact this) hri
      clear hz
      go_wp2_with fail
      refine (spec_span ls hfo la lcap a cap ps h20 6 0 [] w2 (Nat.zero_le _) (by rw [List.drop_zero]; exact hbh) hnum (by rw [List.drop_zero]; exact uses_of hus) (HL.out.on HB2.out) (HP.out.on HB2.out)).mono ?_
      rintro e w3 ⟨rfl, hB3⟩
      rw [List.drop_zero, HQ.out]
      have HB3 : Hid (Below w.heap.size w w3) := HB2.out.trans (hB3.mono HB2.out.size)
      have HR3 := hid (HR2.out.on hB3)
      clear hB3 HR2
      obtain ⟨x0, x1, x2, xf⟩ := HR3.out.cells
      have hrl := HR3.out.lt
      dsimp only [z0] at x0 x1 x2
      go_wp2_with fail
      refine bodyPost_ret (v := spv (r0, r1, r2)) (by simp [results, Tryz.results10, go_sem, x0, x1, x2, hrl]) rfl ⟨rfl, ?_⟩
      repeat (first | refine Below.setCell ?_ (by simp) _ | refine Below.alloc ?_ (by have := HB3.out.size; simp; omega) _)
      exact HB3.out
    · obtain ⟨rfl, rfl, rfl⟩ := hz (fun h => by rw [hg.out] at h; cases h.2)
      clear hz hr
      obtain ⟨x0, x1, x2, xf⟩ := HR2.out.cells
      dsimp only [z0] at x0 x1 x2
      go_wp2_with fail
      refine bodyPost_ret (v := spv (0, 0, false)) (by simp [results, Tryz.results10, go_sem, x0, x1, x2]) rfl ⟨rfl, ?_⟩
      repeat (refine Below.setCell ?_ (by simp) _)
      exact HB2.out

set_option maxRecDepth 10000 in
set_option maxHeartbeats 1600000 in
theorem spec_can_be (la : Option Addr) (lcap : Nat) (ls : List It) (a : Option Addr) (cap : Nat) (ps : List Pt) (w : World) (hL : Its w la ls) (hP : Parts w a ps) :
    Calls Tryz.prog 17 #[.slice la ls.length lcap, .slice a ps.length cap] w fun e w' => e = .returned (.bool (canR ls ps)) ∧ Below w.heap.size w w' := by
  have HP := hid hP
  have HL := hid hL
  clear hP hL
  obtain ⟨r, hr⟩ : ∃ r, Hid (canR ls ps = r) := ⟨_, rfl⟩
  rw [hr.out]
  have hz : ¬ (rightFX ls ps = true ∧ truthB ps = true) → r = false := fun h => by
    have h1 := hr.out
    unfold canR at h1
    rw [if_neg h] at h1
    exact h1.symm
  obtain ⟨f, hf⟩ : ∃ f, Hid (rightFX ls ps = f) := ⟨_, rfl⟩
  obtain ⟨g, hg⟩ : ∃ g, Hid (truthB ps = g) := ⟨_, rfl⟩
  go_enter Tryz.func17, Tryz.ntmps17
  go_wp2_with fail
  refine (spec_fx la lcap ls a cap ps _ HL.out HP.out).mono ?_
  rintro e w1 ⟨rfl, hB1⟩
  rw [hf.out]
  have HB1 := hid hB1
  clear hB1
  cases f
  · obtain rfl := hz (fun h => by rw [hf.out] at h; cases h.1)
    clear hz hr
    go_wp2_with fail
    go_ret
    exact ⟨rfl, HB1.out⟩
  · go_wp2_with fail
    refine (PrtS.spec_truth a cap ps _ (HP.out.on HB1.out)).mono ?_
    rintro e w2 ⟨rfl, hB2⟩
    rw [hg.out]
    have HB2 : Hid (Below w.heap.size w w2) := HB1.out.trans (hB2.mono HB1.out.size)
    clear hB2
    cases g
    · obtain rfl := hz (fun h => by rw [hg.out] at h; cases h.2)
      clear hz hr
      go_wp2_with fail
      go_ret
      exact ⟨rfl, HB2.out⟩
    · obtain ⟨hfo, hri, hus⟩ := fx_form hf.out
      obtain ⟨h20, hbh⟩ := right_behind hri
      have HQ : Hid ((lk ls 6 ps).2.1 = r) := by show _ = _; rw [← hr.out]; unfold canR; rw [if_pos ⟨hf.out, hg.out⟩]
      have hnum : numB ((ps.drop 0).headD pt0).1 = false := head_truth (b := true) (by have := hg.out; unfold truthB at this; exact this) hri
      clear hz
      go_wp2_with fail
      refine (spec_can_at ls hfo la lcap a cap ps h20 6 0 [] w2 (Nat.zero_le _) (by rw [List.drop_zero]; exact hbh) hnum (by rw [List.drop_zero]; exact uses_of hus) (HL.out.on HB2.out) (HP.out.on HB2.out)).mono ?_
      rintro e w3 ⟨rfl, hB3⟩
      rw [List.drop_zero, HQ.out]
      have HB3 : Hid (Below w.heap.size w w3) := HB2.out.trans (hB3.mono HB2.out.size)
      clear hB3
      go_wp2_with fail
      go_ret
      exact ⟨rfl, HB3.out⟩

set_option maxRecDepth 10000 in
set_option maxHeartbeats 1600000 in
theorem spec_can_not (la : Option Addr) (lcap : Nat) (ls : List It) (a : Option Addr) (cap : Nat) (ps : List Pt) (w : World) (hL : Its w la ls) (hP : Parts w a ps) :
    Calls Tryz.prog 19 #[.slice la ls.length lcap, .slice a ps.length cap] w fun e w' => e = .returned (.bool (canNotR ls ps)) ∧ Below w.heap.size w w' := by
  have HP := hid hP
  have HL := hid hL
  clear hP hL
  obtain ⟨r, hr⟩ : ∃ r, Hid (canNotR ls ps = r) := ⟨_, rfl⟩
  rw [hr.out]
  have hz : ¬ (rightFX ls ps = true ∧ truthB ps = true) → r = false := fun h => by
    have h1 := hr.out
    unfold canNotR at h1
    rw [if_neg h] at h1
    exact h1.symm
  obtain ⟨f, hf⟩ : ∃ f, Hid (rightFX ls ps = f) := ⟨_, rfl⟩
  obtain ⟨g, hg⟩ : ∃ g, Hid (truthB ps = g) := ⟨_, rfl⟩
  go_enter Tryz.func19, Tryz.ntmps19
  go_wp2_with fail
  refine (spec_fx la lcap ls a cap ps _ HL.out HP.out).mono ?_
  rintro e w1 ⟨rfl, hB1⟩
  rw [hf.out]
  have HB1 := hid hB1
  clear hB1
  cases f
  · obtain rfl := hz (fun h => by rw [hf.out] at h; cases h.1)
    clear hz hr
    go_wp2_with fail
    go_ret
    exact ⟨rfl, HB1.out⟩
  · go_wp2_with fail
    refine (PrtS.spec_truth a cap ps _ (HP.out.on HB1.out)).mono ?_
    rintro e w2 ⟨rfl, hB2⟩
    rw [hg.out]
    have HB2 : Hid (Below w.heap.size w w2) := HB1.out.trans (hB2.mono HB1.out.size)
    clear hB2
    cases g
    · obtain rfl := hz (fun h => by rw [hg.out] at h; cases h.2)
      clear hz hr
      go_wp2_with fail
      go_ret
      exact ⟨rfl, HB2.out⟩
    · obtain ⟨hfo, hri, hus⟩ := fx_form hf.out
      obtain ⟨h20, hbh⟩ := right_behind hri
      have HQ : Hid ((lk ls 6 ps).2.2 = r) := by show _ = _; rw [← hr.out]; unfold canNotR; rw [if_pos ⟨hf.out, hg.out⟩]
      have hnum : numB ((ps.drop 0).headD pt0).1 = false := head_truth (b := true) (by have := hg.out; unfold truthB at this; exact this) hri
      clear hz
      go_wp2_with fail
      refine (spec_can_at ls hfo la lcap a cap ps h20 6 0 [] w2 (Nat.zero_le _) (by rw [List.drop_zero]; exact hbh) hnum (by rw [List.drop_zero]; exact uses_of hus) (HL.out.on HB2.out) (HP.out.on HB2.out)).mono ?_
      rintro e w3 ⟨rfl, hB3⟩
      rw [List.drop_zero, HQ.out]
      have HB3 : Hid (Below w.heap.size w w3) := HB2.out.trans (hB3.mono HB2.out.size)
      clear hB3
      go_wp2_with fail
      go_ret
      exact ⟨rfl, HB3.out⟩
end Go.Proofs.YtaofdckdmffaiaaGreatDoor.StaS
