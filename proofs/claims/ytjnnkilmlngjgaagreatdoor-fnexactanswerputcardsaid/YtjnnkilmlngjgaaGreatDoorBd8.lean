/- Texts of ours, laid together: AnsCore, AnsTo, AnsSz. -/
import Derived.Test.YtjnnkilmlngjgaaGreatDoorBd6
import Derived.Deep.RegionHeld3
/- How a list of answers lies in memory. -/
namespace Go.Proofs.YtjnnkilmlngjgaaGreatDoor.AnsW
open Go.RowKit
open ValW

theorem hid {p : Prop} (h : p) : Hid p := h
/-- an answer: its name, its kind, its number, its codes, its text -/
abbrev An := ByteArray × Int × Int × List Int × ByteArray
abbrev nm (p : An) : ByteArray := p.1
abbrev kd (p : An) : Int := p.2.1
abbrev nu (p : An) : Int := p.2.2.1
abbrev cd (p : An) : List Int := p.2.2.2.1
abbrev tx (p : An) : ByteArray := p.2.2.2.2
def an0 : An := (ByteArray.empty, 0, 0, [], ByteArray.empty)
def Fit (p : An) : Prop := (nm p).size ≤ 1048576 ∧ (tx p).size ≤ 1048576
/-- an answer, as a value -/
abbrev anv (p : An) (a : Option Addr) (cap : Nat) : Value := .agg #[.string (nm p), .int .i64 (kd p), .int .i64 (nu p), .slice a (cd p).length cap, .string (tx p)]
/-- the five cells of an answer -/
def Five (w : World) (b o : Nat) (p : An) (a : Option Addr) (cap : Nat) : Prop :=
  w.cell? ⟨b, o, none⟩ = some (.string (nm p)) ∧ w.cell? ⟨b, o + 1, none⟩ = some (.int .i64 (kd p)) ∧ w.cell? ⟨b, o + 2, none⟩ = some (.int .i64 (nu p)) ∧ w.cell? ⟨b, o + 3, none⟩ = some (.slice a (cd p).length cap) ∧ w.cell? ⟨b, o + 4, none⟩ = some (.string (tx p))
theorem Five.on {w w' : World} {b o B : Nat} {p : An} {a : Option Addr} {cap : Nat} (h : Five w b o p a cap) (hb : b < B) (hB : Below B w w') : Five w' b o p a cap := by
  obtain ⟨h0, h1, h2, h3, h4⟩ := h
  exact ⟨by rw [hB.cell (p := ⟨b, _, none⟩) hb]; exact h0, by rw [hB.cell (p := ⟨b, _, none⟩) hb]; exact h1, by rw [hB.cell (p := ⟨b, _, none⟩) hb]; exact h2, by rw [hB.cell (p := ⟨b, _, none⟩) hb]; exact h3, by rw [hB.cell (p := ⟨b, _, none⟩) hb]; exact h4⟩
/-- the answers ls lie in memory as a slice at a -/
def Ans (w : World) (a : Option Addr) (ls : List An) : Prop :=
  ls.length ≤ 1048576 ∧ (∀ i, i < ls.length → Fit (ls.getD i an0)) ∧ (0 < ls.length → ∃ b o, a = some ⟨b, o, none⟩ ∧ b < w.heap.size ∧ ∀ i, i < ls.length → ∃ ai cap, Five w b (o + i * 5) (ls.getD i an0) ai cap ∧ Codes w ai (cd (ls.getD i an0)) ∧ (ai = none → cap = 0))
theorem Ans.on {w w' : World} {a : Option Addr} {ls : List An} (h : Ans w a ls) (hB : Below w.heap.size w w') : Ans w' a ls := by
  refine ⟨h.1, h.2.1, fun hp => ?_⟩
  obtain ⟨b, o, ha, hb, hc⟩ := h.2.2 hp
  refine ⟨b, o, ha, Nat.lt_of_lt_of_le hb hB.size, fun i hi => ?_⟩
  obtain ⟨ai, cap, h1, h2, h3⟩ := hc i hi
  exact ⟨ai, cap, h1.on hb hB, h2.on hB, h3⟩
theorem Ans.alloc {w : World} {a : Option Addr} {ls : List An} (h : Ans w a ls) (o : Obj) : Ans (w.alloc o) a ls := h.on ((Below.refl _ _).alloc (Nat.le_refl _) o)
theorem Ans.nil (w : World) (a : Option Addr) : Ans w a [] := ⟨Nat.zero_le _, fun _ h => absurd h (Nat.not_lt_zero _), fun h => absurd h (Nat.lt_irrefl _)⟩
theorem Ans.atN {w wr : World} {a : Option Addr} {ls : List An} (h : Ans w a ls) (hB : Below w.heap.size w wr) {k : Nat} (hk : k < ls.length) :
    Fit (ls.getD k an0) ∧ ∃ b o ai cap, a = some ⟨b, o, none⟩ ∧ b < w.heap.size ∧ Five wr b (o + k * 5) (ls.getD k an0) ai cap ∧ Codes wr ai (cd (ls.getD k an0)) ∧ (ai = none → cap = 0) := by
  obtain ⟨b, o, ha, hb, hc⟩ := h.2.2 (by omega)
  obtain ⟨ai, cap, h1, h2, h3⟩ := hc k hk
  exact ⟨h.2.1 k hk, b, o, ai, cap, ha, hb, h1.on hb hB, h2.on hB, h3⟩
theorem Ans.at {w wr : World} {a : Option Addr} {ls : List An} (h : Ans w a ls) (hB : Below w.heap.size w wr) {k : Nat} (hk : k < ls.length) :
    Fit (ls.getD k an0) ∧ ∃ b o ai cap, a = some ⟨b, o, none⟩ ∧ b < w.heap.size ∧ Five wr b (o + k * 5) (ls.getD k an0) ai cap ∧ Codes wr ai (cd (ls.getD k an0)) := by
  obtain ⟨h0, b, o, ai, cap, h1, h2, h3, h4, _⟩ := h.atN hB hk
  exact ⟨h0, b, o, ai, cap, h1, h2, h3, h4⟩

/-- how much an answer counts for -/
def wt (p : An) : Nat := (nm p).size + (cd p).length + (tx p).size
/-- all together -/
def bulk : List An → Nat
  | [] => 0
  | p :: r => wt p + bulk r
theorem bulk_take (ls : List An) (k : Nat) (h : k < ls.length) : bulk (ls.take (k + 1)) = bulk (ls.take k) + wt (ls.getD k an0) := by
  induction ls generalizing k with
  | nil => simp at h
  | cons p r ih =>
    cases k with
    | zero => simp [bulk]
    | succ k => simp only [List.take_succ_cons, bulk, List.getD_cons_succ, ih k (by simpa using h)]; omega
theorem bulk_le (ls : List An) (k : Nat) : bulk (ls.take k) ≤ bulk ls := by
  induction ls generalizing k with
  | nil => simp [bulk]
  | cons p r ih => cases k with
    | zero => simp [bulk]
    | succ k => simp only [List.take_succ_cons, bulk]; have := ih k; omega
theorem bulk_one (ls : List An) (k : Nat) (h : k < ls.length) : wt (ls.getD k an0) ≤ bulk ls := by
  have h1 := bulk_take ls k h
  have h2 := bulk_le ls (k + 1)
  omega
/-- codes as they come in: no bound but the machine's -/
def CodesR (w : World) (a : Option Addr) (zs : List Int) : Prop :=
  zs.length ≤ maxLen ∧ (0 < zs.length → ∃ b o, a = some ⟨b, o, none⟩ ∧ b < w.heap.size ∧ ∀ i, i < zs.length → w.cell? ⟨b, o + i, none⟩ = some (.int .i64 (zs.getD i 0)))
/-- as the answers come in: no bound but the machine's -/
def Raw (w : World) (a : Option Addr) (ls : List An) : Prop :=
  ls.length ≤ maxLen ∧ (∀ i, i < ls.length → (nm (ls.getD i an0)).size ≤ maxLen ∧ (tx (ls.getD i an0)).size ≤ maxLen) ∧ (0 < ls.length → ∃ b o, a = some ⟨b, o, none⟩ ∧ b < w.heap.size ∧ ∀ i, i < ls.length → ∃ ai cap, Five w b (o + i * 5) (ls.getD i an0) ai cap ∧ CodesR w ai (cd (ls.getD i an0)) ∧ (ai = none → cap = 0))
theorem Raw.ans {w : World} {a : Option Addr} {ls : List An} (h : Raw w a ls) (hl : ls.length + bulk ls ≤ 1048576) : Ans w a ls := by
  refine ⟨by omega, fun i hi => ?_, fun hp => ?_⟩
  · have := bulk_one ls i hi
    unfold wt at this
    exact ⟨by omega, by omega⟩
  · obtain ⟨b, o, ha, hb, hc⟩ := h.2.2 hp
    refine ⟨b, o, ha, hb, fun i hi => ?_⟩
    obtain ⟨ai, cap, h1, h2, h3⟩ := hc i hi
    refine ⟨ai, cap, h1, ⟨?_, h2.2⟩, h3⟩
    have := bulk_one ls i hi
    unfold wt at this
    omega
theorem Tryz.infoA : (Tryz.prog.info? 52).map (fun i => (i.zero, i.size, i.bytes)) = some (some (.agg #[.string ByteArray.empty, .int .i64 0, .int .i64 0, .slice none 0 0, .string ByteArray.empty]), 5, 72) := by kernel_rfl

/-- block g has room for n answers; the first k of ls lie in it, their codes in blocks of their own behind it -/
def RowsA (w : World) (g n k : Nat) (ls : List An) : Prop :=
  ∃ cs : Array Value, w.heap[g]? = some (.cells cs 52 (0, 0)) ∧ cs.size = n * 5 ∧ ∀ i, i < k → ∃ g', g < g' ∧ w.heap[g']? = some (.cells (cellsI (cd (ls.getD i an0))).toArray 2 (0, 0)) ∧
    cs[i * 5]? = some (.string (nm (ls.getD i an0))) ∧ cs[i * 5 + 1]? = some (.int .i64 (kd (ls.getD i an0))) ∧ cs[i * 5 + 2]? = some (.int .i64 (nu (ls.getD i an0))) ∧ cs[i * 5 + 3]? = some (.slice (some ⟨g', 0, none⟩) (cd (ls.getD i an0)).length (cd (ls.getD i an0)).length) ∧ cs[i * 5 + 4]? = some (.string (tx (ls.getD i an0)))
theorem blk_lt {w : World} {g : Nat} {x : Obj} (h : w.heap[g]? = some x) : g < w.heap.size := (Array.getElem?_eq_some_iff.1 h).1
theorem RowsA.lt {w : World} {g n k : Nat} {ls : List An} (h : RowsA w g n k ls) : g < w.heap.size := by
  obtain ⟨cs, hg, _⟩ := h
  exact blk_lt hg
theorem RowsA.room {w : World} {g n k : Nat} {ls : List An} (h : RowsA w g n k ls) {j : Nat} (hj : j < n * 5) : (∃ v, w.cell? ⟨g, j, none⟩ = some v) ∧ w.frozen? ⟨g, j, none⟩ = false := by
  obtain ⟨cs, hg, hs, _⟩ := h
  refine ⟨⟨cs[j]'(by omega), ?_⟩, by simp [World.frozen?, hg]⟩
  simp [World.cell?, hg, show j < cs.size by omega]
theorem RowsA.on {w w' : World} {g n k : Nat} {ls : List An} (h : RowsA w g n k ls) (hB : Below w.heap.size w w') : RowsA w' g n k ls := by
  have hl := h.lt
  obtain ⟨cs, hg, hs, hc⟩ := h
  refine ⟨cs, by rw [hB.block g hl]; exact hg, hs, fun i hi => ?_⟩
  obtain ⟨g', h1, h2, h3⟩ := hc i hi
  exact ⟨g', h1, by rw [hB.block g' (blk_lt h2)]; exact h2, h3⟩
theorem blk_set (w : World) (g o : Nat) (v : Value) (cs : Array Value) (T : TypeId) (h : w.heap[g]? = some (.cells cs T (0, 0))) : (w.setCell ⟨g, o, none⟩ v).heap[g]? = some (.cells (cs.setIfInBounds o v) T (0, 0)) := by
  simp [World.setCell, Array.getElem?_modify, h]
/-- an answer put into the row at k -/
def put5 (W : World) (g o : Nat) (v0 v1 v2 v3 v4 : Value) : World := ((((W.setCell ⟨g, o, none⟩ v0).setCell ⟨g, o + 1, none⟩ v1).setCell ⟨g, o + 2, none⟩ v2).setCell ⟨g, o + 3, none⟩ v3).setCell ⟨g, o + 4, none⟩ v4
theorem RowsA.put {w : World} {g n k g1 : Nat} {ls : List An} (h : RowsA w g n k ls) (hk : k < n) (hg1 : g < g1) (hr : w.heap[g1]? = some (.cells (cellsI (cd (ls.getD k an0))).toArray 2 (0, 0))) :
    RowsA (put5 w g (k * 5) (.string (nm (ls.getD k an0))) (.int .i64 (kd (ls.getD k an0))) (.int .i64 (nu (ls.getD k an0))) (.slice (some ⟨g1, 0, none⟩) (cd (ls.getD k an0)).length (cd (ls.getD k an0)).length) (.string (tx (ls.getD k an0)))) g n (k + 1) ls := by
  obtain ⟨cs, hg, hs, hc⟩ := h
  unfold put5
  refine ⟨_, blk_set _ _ _ _ _ _ (blk_set _ _ _ _ _ _ (blk_set _ _ _ _ _ _ (blk_set _ _ _ _ _ _ (blk_set _ _ _ _ _ _ hg)))), by simpa using hs, fun i hi => ?_⟩
  simp only [Array.getElem?_setIfInBounds, Array.size_setIfInBounds]
  by_cases he : i = k
  · subst he
    refine ⟨g1, hg1, ?_, ?_, ?_, ?_, ?_, ?_⟩
    · repeat (refine blk_other ?_ (by simp only; omega) _)
      exact hr
    · rw [if_neg (by omega), if_neg (by omega), if_neg (by omega), if_neg (by omega), if_pos rfl, if_pos (by omega)]
    · rw [if_neg (by omega), if_neg (by omega), if_neg (by omega), if_pos rfl, if_pos (by omega)]
    · rw [if_neg (by omega), if_neg (by omega), if_pos rfl, if_pos (by omega)]
    · rw [if_neg (by omega), if_pos rfl, if_pos (by omega)]
    · rw [if_pos rfl, if_pos (by omega)]
  · obtain ⟨g', h1, h2, c0, c1, c2, c3, c4⟩ := hc i (by omega)
    refine ⟨g', h1, ?_, ?_, ?_, ?_, ?_, ?_⟩
    · repeat (refine blk_other ?_ (by simp only; omega) _)
      exact h2
    all_goals
      rw [if_neg (by omega), if_neg (by omega), if_neg (by omega), if_neg (by omega), if_neg (by omega)]
      assumption
theorem RowsA.ans {w : World} {g : Nat} {ls : List An} (h : RowsA w g ls.length ls.length ls) (hl : ls.length ≤ 1048576) (hf : ∀ i, i < ls.length → Fit (ls.getD i an0)) (hz : ∀ i, i < ls.length → (cd (ls.getD i an0)).length ≤ 1048576) : Ans w (some ⟨g, 0, none⟩) ls := by
  refine ⟨hl, hf, fun _ => ⟨g, 0, rfl, h.lt, fun i hi => ?_⟩⟩
  obtain ⟨cs, hg, hs, hc⟩ := h
  obtain ⟨g', h1, h2, c0, c1, c2, c3, c4⟩ := hc i hi
  refine ⟨some ⟨g', 0, none⟩, (cd (ls.getD i an0)).length, ?_, codes_of_row h2 (hz i hi), fun h => by cases h⟩
  unfold Five
  simp only [World.cell?, hg, Nat.zero_add]
  simp [c0, c1, c2, c3, c4]
theorem Ans.len {w : World} {a : Option Addr} {ls : List An} (h : Ans w a ls) : ∀ i, i < ls.length → (cd (ls.getD i an0)).length ≤ 1048576 := fun i hi => by
  obtain ⟨b, o, ha, hb, hc⟩ := h.2.2 (by omega)
  obtain ⟨ai, cap, _, h2, _⟩ := hc i hi
  exact h2.1
end Go.Proofs.YtjnnkilmlngjgaaGreatDoor.AnsW
/- The laws' copies of answers. -/
namespace Go.Proofs.YtjnnkilmlngjgaaGreatDoor.AnsW
open Go.RowKit
open ValW

set_option maxHeartbeats 4000000 in
theorem toAns5 (s : ByteArray) (k n : Int) (a : Option Addr) (cap : Nat) (zs : List Int) (t : ByteArray) (w : World) (hc : Codes w a zs) :
    Calls Tryz.prog 24 #[.agg #[.string s, .int .i64 k, .int .i64 n, .slice a zs.length cap, .string t]] w fun e w' => ∃ g', e = .returned (.agg #[.string s, .int .i64 k, .int .i64 n, .slice (some ⟨g', 0, none⟩) zs.length zs.length, .string t]) ∧ w.heap.size ≤ g' ∧ w'.heap[g']? = some (.cells (cellsI zs).toArray 2 (0, 0)) ∧ Below w.heap.size w w' := by
  have HC : Hid (Codes w a zs) := hc
  clear hc
  go_enter Tryz.func24, Tryz.ntmps24
  go_wp2_with fail
  refine (toValO k n a cap zs t _ (HC.out.on ?hb)).mono ?_
  case hb => go_grown
  rintro e w1 ⟨g', rfl, hg', hr, hB1⟩
  have HB : Hid (Below w.heap.size w w1) := Below.trans ?hb (hB1.mono (by simp; omega))
  case hb => go_grown
  obtain ⟨hcl, hfz⟩ := bcell hB1
  have hz : w.heap.size + 1 + 1 < w1.heap.size := by have := hB1.size; simp at this; omega
  simp only [World.size_alloc] at hcl hfz hg'
  have HR := hid hr
  clear hr hB1 HC
  go_wp2
  refine bodyPost_ret (v := .agg #[.string s, .int .i64 k, .int .i64 n, .slice (some ⟨g', 0, none⟩) zs.length zs.length, .string t]) (by simp [results, Tryz.results24, go_sem, hcl]) rfl ⟨_, rfl, by omega, ?_, ?_⟩
  · repeat (refine blk_other ?_ (by simp only; omega) _)
    exact HR.out
  · repeat (refine Below.setCell ?_ (show w.heap.size ≤ _ by simp only; omega) _)
    exact HB.out
theorem toAns (p : An) (a : Option Addr) (cap : Nat) (w : World) (hc : Codes w a (cd p)) :
    Calls Tryz.prog 24 #[anv p a cap] w fun e w' => ∃ g', e = .returned (anv p (some ⟨g', 0, none⟩) (cd p).length) ∧ w.heap.size ≤ g' ∧ w'.heap[g']? = some (.cells (cellsI (cd p)).toArray 2 (0, 0)) ∧ Below w.heap.size w w' :=
  toAns5 (nm p) (kd p) (nu p) a cap (cd p) (tx p) w hc

theorem szAns_yes (s : ByteArray) (k n : Int) (a : Option Addr) (cap : Nat) (len : Nat) (t : ByteArray) (z : Int) (hz : z ≤ 1048576) (h : ¬ z < s.size + len + t.size) (w : World) :
    Calls Tryz.prog 17 #[.agg #[.string s, .int .i64 k, .int .i64 n, .slice a len cap, .string t], .int .i64 z] w fun e w' => e = .returned (.int .i64 (z - (s.size + len + t.size))) ∧ Below w.heap.size w w' := by
  go_enter Tryz.func17, Tryz.ntmps17
  go_wp2_with fail
  refine (sz_yes k n a len cap t _ _ (by omega) (by omega)).mono ?_
  rintro e w1 ⟨rfl, hB1⟩
  have HB : Hid (Below w.heap.size w w1) := Below.trans ?hb (hB1.mono (by simp))
  case hb => go_grown
  clear hB1
  go_wp2
  go_ret
  exact ⟨by rw [show z - (↑s.size + ↑len + ↑t.size) = z - ↑s.size - ↑len - ↑t.size by omega]; rfl, HB.out⟩
theorem szAns_no (s : ByteArray) (k n : Int) (a : Option Addr) (cap : Nat) (len : Nat) (t : ByteArray) (z : Int) (h0 : 0 ≤ z) (hz : z ≤ 1048576) (h : z < s.size + len + t.size) (hs : s.size ≤ maxLen) (hl : len ≤ maxLen) (ht : t.size ≤ maxLen) (w : World) :
    Calls Tryz.prog 17 #[.agg #[.string s, .int .i64 k, .int .i64 n, .slice a len cap, .string t], .int .i64 z] w fun e w' => e = .returned (.int .i64 (-1)) ∧ Below w.heap.size w w' := by
  have hs' := hs
  unfold maxLen at hs'
  by_cases hc : z < s.size
  · go_enter Tryz.func17, Tryz.ntmps17
    go_wp2
    go_ret
    exact ⟨rfl, by go_grown⟩
  · go_enter Tryz.func17, Tryz.ntmps17
    go_wp2_with fail
    refine (sz_no k n a len cap t _ _ (by omega) (by omega) (by omega) hl ht).mono ?_
    rintro e w1 ⟨rfl, hB1⟩
    have HB : Hid (Below w.heap.size w w1) := Below.trans ?hb (hB1.mono (by simp))
    case hb => go_grown
    clear hB1
    go_wp2
    go_ret
    exact ⟨rfl, HB.out⟩

set_option maxHeartbeats 400000 in
theorem eqAns5 (s : ByteArray) (k n : Int) (a a' : Option Addr) (cap cap' : Nat) (zs : List Int) (t : ByteArray) (w : World) (hc : Codes w a zs) (hc' : Codes w a' zs) :
    Calls Tryz.prog 28 #[.agg #[.string s, .int .i64 k, .int .i64 n, .slice a zs.length cap, .string t], .agg #[.string s, .int .i64 k, .int .i64 n, .slice a' zs.length cap', .string t]] w fun e w' => e = .returned (.bool true) ∧ Below w.heap.size w w' := by
  have HC : Hid (Codes w a zs) := hc
  have HC' : Hid (Codes w a' zs) := hc'
  clear hc hc'
  go_enter Tryz.func28, Tryz.ntmps28
  go_wp2_with fail
  refine (eqVal k n a a' cap cap' zs t _ (HC.out.on ?hb) (HC'.out.on ?hb)).mono ?_
  case hb => go_grown
  rintro e w1 ⟨rfl, hB1⟩
  have HB : Hid (Below w.heap.size w w1) := Below.trans ?hb (hB1.mono (by simp; omega))
  case hb => go_grown
  clear hB1 HC HC'
  go_wp2
  go_ret
  exact ⟨rfl, HB.out⟩

set_option maxRecDepth 10000 in
set_option maxHeartbeats 800000 in
theorem toAnsR (a : Option Addr) (cap : Nat) (ls : List An) (w : World) (hc : Ans w a ls) :
    Calls Tryz.prog 7 #[.slice a ls.length cap] w fun e w' => e = .returned (.slice (some ⟨w.heap.size, 0, none⟩) ls.length ls.length) ∧ Below w.heap.size w w' ∧ RowsA w' w.heap.size ls.length ls.length ls := by
  obtain ⟨i0, hi, hz0, hz1, hz2⟩ := info_parts Tryz.infoA
  have HC : Hid (Ans w a ls) := hc
  have hl := hc.1
  clear hc
  go_enter Tryz.func7, Tryz.ntmps7
  go_wp2_with (first | (at_make; refine wpList_make_full _ rfl _ _ 28 rfl w.heap.size 52 i0 (.agg #[.string ByteArray.empty, .int .i64 0, .int .i64 0, .slice none 0 0, .string ByteArray.empty]) 5 Tryz.underlying28 hi hz0 hz1 _ _ _ _ ls.length rfl rfl rfl rfl ?m1 ?m2 ?m3 ?_))
  case m1 => rw [hz2]; omega
  case m2 => unfold maxLen; omega
  case m3 => exact Nat.le_refl _
  intro w1 hown hgrow
  have hrow : RowsA w1 w.heap.size ls.length 0 ls := by
    obtain ⟨_, hv⟩ := hown
    rcases hv with ⟨h0, _⟩ | ⟨g, cap, cu, h0, _, hg, _, _, hs, ht⟩
    · cases h0
    · cases h0
      exact ⟨cu, hg, hs, fun i hi => absurd hi (Nat.not_lt_zero _)⟩
  have hB1 : Below w.heap.size w w1 := (Below.refl _ _).grown hgrow (Nat.le_refl _) (fun k hk => by cases hk)
  clear hown hgrow
  go_wp2
  go_loopw [4] (fun i wr => ∃ k : Nat, k ≤ ls.length ∧ i = .int .i64 k ∧ Hid (RowsA wr w.heap.size ls.length k ls) ∧ Below w.heap.size w wr) (fun i _ => ls.length - (intOf i).toNat)
  case atStart => exact ⟨0, Nat.zero_le _, rfl, hrow, hB1⟩
  case round =>
    obtain ⟨k, hk, rfl, hrow, hbel⟩ := hrel
    clear hB1
    by_cases hlt : k < ls.length
    · obtain ⟨_, b, o, ai, cai, rfl, hb, ⟨c0, c1, c2, c3, c4⟩, hcd⟩ := HC.out.at hbel hlt
      have HP : Hid (∀ W g1, RowsA W w.heap.size ls.length k ls → w.heap.size < g1 → W.heap[g1]? = some (.cells (cellsI (cd (ls.getD k an0))).toArray 2 (0, 0)) → RowsA (put5 W w.heap.size (k * 5) (.string (nm (ls.getD k an0))) (.int .i64 (kd (ls.getD k an0))) (.int .i64 (nu (ls.getD k an0))) (.slice (some ⟨g1, 0, none⟩) (cd (ls.getD k an0)).length (cd (ls.getD k an0)).length) (.string (tx (ls.getD k an0)))) w.heap.size ls.length (k + 1) ls) := fun W g1 h h1 h2 => h.put hlt h1 h2
      generalize ls.getD k an0 = p at c0 c1 c2 c3 c4 hcd HP
      obtain ⟨s, kk, n, zs, t⟩ := p
      dsimp only [nm, kd, nu, cd, tx] at c0 c1 c2 c3 c4 hcd HP
      have HB : Hid (Below w.heap.size w wr) := hbel
      have HCd := hid hcd
      clear hbel hcd
      go_wp2_with fail
      refine (toAns5 s kk n ai cai zs t wr HCd.out).mono ?_
      rintro e w2 ⟨g1, rfl, hg1, hr1, hB2⟩
      have HR2 := hid (hrow.out.on hB2)
      have HB2 : Hid (Below w.heap.size w w2) := HB.out.trans (hB2.mono HB.out.size)
      have HG := hid hr1
      have HL : Hid (w.heap.size < g1) := Nat.lt_of_lt_of_le hrow.out.lt hg1
      obtain ⟨⟨v0, r0⟩, f0⟩ := HR2.out.room (j := k * 5) (by omega)
      obtain ⟨⟨v1, r1⟩, f1⟩ := HR2.out.room (j := k * 5 + 1) (by omega)
      obtain ⟨⟨v2, r2⟩, f2⟩ := HR2.out.room (j := k * 5 + 2) (by omega)
      obtain ⟨⟨v3, r3⟩, f3⟩ := HR2.out.room (j := k * 5 + 3) (by omega)
      obtain ⟨⟨v4, r4⟩, f4⟩ := HR2.out.room (j := k * 5 + 4) (by omega)
      clear c0 c1 c2 c3 c4 HC hrow hB2 HB hg1 hr1 HCd
      go_wp2
      refine ⟨⟨k + 1, by omega, by go_num, HP.out _ g1 HR2.out HL.out HG.out, ?_⟩, by simp [intOf]; omega⟩
      exact ((((HB2.out.setCell (Nat.le_refl _) _).setCell (Nat.le_refl _) _).setCell (Nat.le_refl _) _).setCell (Nat.le_refl _) _).setCell (Nat.le_refl _) _
    · go_wp2
      go_ret
      obtain rfl : k = ls.length := by omega
      exact ⟨rfl, hbel, hrow.out⟩
theorem toAnsL (a : Option Addr) (cap : Nat) (ls : List An) (w : World) (hc : Ans w a ls) :
    Calls Tryz.prog 7 #[.slice a ls.length cap] w fun e w' => e = .returned (.slice (some ⟨w.heap.size, 0, none⟩) ls.length ls.length) ∧ Ans w' (some ⟨w.heap.size, 0, none⟩) ls ∧ Below w.heap.size w w' :=
  (toAnsR a cap ls w hc).mono fun _ _ ⟨h1, h2, h3⟩ => ⟨h1, h3.ans hc.1 hc.2.1 hc.len, h2⟩
end Go.Proofs.YtjnnkilmlngjgaaGreatDoor.AnsW
/- How great the answers are together; the same answers twice. -/
namespace Go.Proofs.YtjnnkilmlngjgaaGreatDoor.AnsW
open Go.RowKit
open ValW

set_option maxRecDepth 10000 in
set_option maxHeartbeats 800000 in
/-- with l0 left: what is left behind the answers, or less than nothing -/
theorem szAnsL (a : Option Addr) (cap : Nat) (ls : List An) (l0 : Nat) (hl0 : l0 ≤ 1048576) (w : World) (hc : Raw w a ls) :
    Calls Tryz.prog 4 #[.slice a ls.length cap, .int .i64 l0] w fun e w' => (∃ r : Int, e = .returned (.int .i64 r) ∧ (r < 0 ↔ l0 < ls.length + bulk ls) ∧ (ls.length + bulk ls ≤ l0 → r = l0 - (ls.length + bulk ls))) ∧ Below w.heap.size w w' := by
  have HC : Hid (Raw w a ls) := hc
  have hl := hc.1
  unfold maxLen at hl
  clear hc
  go_enter Tryz.func4, Tryz.ntmps4
  by_cases hbig : l0 < ls.length
  · go_wp2
    go_ret
    exact ⟨⟨_, rfl, by omega, by omega⟩, by go_grown⟩
  go_wp2
  go_loopw [1, 5] (fun l i wr => ∃ k : Nat, k ≤ ls.length ∧ i = .int .i64 k ∧ ls.length + bulk (ls.take k) ≤ l0 ∧ l = .int .i64 (l0 - ls.length - bulk (ls.take k)) ∧ Below w.heap.size w wr) (fun _ i _ => ls.length - (intOf i).toNat)
  case atStart => exact ⟨0, Nat.zero_le _, rfl, by simp [bulk]; omega, by simp [bulk], Below.refl _ _⟩
  case round =>
    obtain ⟨k, hk, rfl, hle, rfl, hbel⟩ := hrel
    by_cases hlt : k < ls.length
    · have hnx := bulk_take ls k hlt
      have hall := bulk_le ls (k + 1)
      obtain ⟨_, hfit, h1⟩ := HC.out
      obtain ⟨hs1, hs2⟩ := hfit k hlt
      obtain ⟨b, o, rfl, hb, hcs⟩ := h1 (by omega)
      obtain ⟨ai, cai, hF, hcr, _⟩ := hcs k hlt
      have hcl := hcr.1
      obtain ⟨c0, c1, c2, c3, c4⟩ := hF.on hb hbel
      generalize ls.getD k an0 = p at c0 c1 c2 c3 c4 hnx hs1 hs2 hcl
      obtain ⟨s, x, n, zs, t⟩ := p
      dsimp only [nm, kd, nu, cd, tx] at c0 c1 c2 c3 c4 hs1 hs2 hcl
      replace hnx : bulk (List.take (k + 1) ls) = bulk (List.take k ls) + (s.size + zs.length + t.size) := hnx
      have HB : Hid (Below w.heap.size w wr) := hbel
      clear hcs h1 hbel hfit HC hF hcr
      generalize hB' : bulk (List.take (k + 1) ls) = B' at *
      have HB' := hid hB'
      clear hB'
      generalize bulk (List.take k ls) = B at *
      by_cases hyes : ls.length + B + (s.size + zs.length + t.size) ≤ l0
      · go_wp2_with fail
        refine (szAns_yes s x n ai cai zs.length t _ (by omega) (by omega) wr).mono ?_
        rintro e w2 ⟨rfl, hB2⟩
        have HB2 : Hid (Below w.heap.size w w2) := HB.out.trans (hB2.mono HB.out.size)
        clear hB2 HB c0 c1 c2 c3 c4
        go_wp2
        refine ⟨⟨k + 1, by omega, by go_num, by rw [HB'.out]; omega, ?_, HB2.out⟩, by simp [intOf]; omega⟩
        rw [HB'.out, hnx]
        congr 1
        omega
      · go_wp2_with fail
        refine (szAns_no s x n ai cai zs.length t _ (by omega) (by omega) (by omega) hs1 hcl hs2 wr).mono ?_
        rintro e w2 ⟨rfl, hB2⟩
        have HB2 : Hid (Below w.heap.size w w2) := HB.out.trans (hB2.mono HB.out.size)
        clear hB2 HB c0 c1 c2 c3 c4
        go_wp2
        go_ret
        exact ⟨⟨_, rfl, by omega, by omega⟩, HB2.out⟩
    · go_wp2
      go_ret
      obtain rfl : k = ls.length := by omega
      rw [List.take_length] at *
      exact ⟨⟨_, rfl, by omega, by omega⟩, hbel⟩

theorem held10 {wr w' : World} {b b' o o' : Nat} {p q : An} {a a' : Option Addr} {c c' : Nat} (hb : b < wr.heap.size) (hb' : b' < wr.heap.size) (h : Five wr b o p a c) (h' : Five wr b' o' q a' c') (hB : Below wr.heap.size wr w') :
    Below wr.heap.size wr w' ∧ (w'.cell? ⟨b, o, none⟩ = some (.string (nm p)) ∧ w'.cell? ⟨b, o + 1, none⟩ = some (.int .i64 (kd p)) ∧ w'.cell? ⟨b, o + 2, none⟩ = some (.int .i64 (nu p)) ∧ w'.cell? ⟨b, o + 3, none⟩ = some (.slice a (cd p).length c) ∧ w'.cell? ⟨b, o + 4, none⟩ = some (.string (tx p))) ∧
    (w'.cell? ⟨b', o', none⟩ = some (.string (nm q)) ∧ w'.cell? ⟨b', o' + 1, none⟩ = some (.int .i64 (kd q)) ∧ w'.cell? ⟨b', o' + 2, none⟩ = some (.int .i64 (nu q)) ∧ w'.cell? ⟨b', o' + 3, none⟩ = some (.slice a' (cd q).length c') ∧ w'.cell? ⟨b', o' + 4, none⟩ = some (.string (tx q))) :=
  ⟨hB, h.on hb hB, h'.on hb' hB⟩

set_option maxRecDepth 10000 in
set_option maxHeartbeats 1600000 in
/-- the same answers twice -/
theorem eqAnsL (a a' : Option Addr) (cap cap' : Nat) (ls : List An) (w : World) (hc : Ans w a ls) (hc' : Ans w a' ls) :
    Calls Tryz.prog 11 #[.slice a ls.length cap, .slice a' ls.length cap'] w fun e w' => e = .returned (.bool true) ∧ Below w.heap.size w w' := by
  have HC : Hid (Ans w a ls) := hc
  have HC' : Hid (Ans w a' ls) := hc'
  have hl := hc.1
  clear hc hc'
  go_enter Tryz.func11, Tryz.ntmps11
  go_wp2
  go_loopw [5] (fun i wr => ∃ k : Nat, k ≤ ls.length ∧ i = .int .i64 k ∧ Below w.heap.size w wr) (fun i _ => ls.length - (intOf i).toNat)
  case atStart => exact ⟨0, Nat.zero_le _, rfl, Below.refl _ _⟩
  case round =>
    obtain ⟨k, hk, rfl, hbel⟩ := hrel
    by_cases hlt : k < ls.length
    · obtain ⟨_, b, o, ai, ci, rfl, hb, hF, hcd⟩ := HC.out.at hbel hlt
      obtain ⟨_, b', o', ai', ci', rfl, hb', hF', hcd'⟩ := HC'.out.at hbel hlt
      generalize ls.getD k an0 = p at hF hF' hcd hcd'
      obtain ⟨s, x, n, zs, t⟩ := p
      dsimp only [cd] at hcd hcd'
      have HB : Hid (Below w.heap.size w wr) := hbel
      have HF := hid hF
      have HF' := hid hF'
      have HCd := hid hcd
      have HCd' := hid hcd'
      clear HC HC' hbel hF hF' hcd hcd'
      go_wp2_with fail
      have hbr : b < wr.heap.size := Nat.lt_of_lt_of_le hb HB.out.size
      have hbr' : b' < wr.heap.size := Nat.lt_of_lt_of_le hb' HB.out.size
      have hB0 : Below wr.heap.size wr wr.drew := (Below.refl _ _).drew
      go_region_held3 (fun w' => Below wr.heap.size wr w' ∧ (w'.cell? ⟨b, o + k * 5, none⟩ = some (.string s) ∧ w'.cell? ⟨b, o + k * 5 + 1, none⟩ = some (.int .i64 x) ∧ w'.cell? ⟨b, o + k * 5 + 2, none⟩ = some (.int .i64 n) ∧ w'.cell? ⟨b, o + k * 5 + 3, none⟩ = some (.slice ai zs.length ci) ∧ w'.cell? ⟨b, o + k * 5 + 4, none⟩ = some (.string t)) ∧ (w'.cell? ⟨b', o' + k * 5, none⟩ = some (.string s) ∧ w'.cell? ⟨b', o' + k * 5 + 1, none⟩ = some (.int .i64 x) ∧ w'.cell? ⟨b', o' + k * 5 + 2, none⟩ = some (.int .i64 n) ∧ w'.cell? ⟨b', o' + k * 5 + 3, none⟩ = some (.slice ai' zs.length ci') ∧ w'.cell? ⟨b', o' + k * 5 + 4, none⟩ = some (.string t)))
        (first | exact held10 hbr hbr' HF.out HF'.out (by assumption))
        (first | (go_at_call 28
                  have hp := ‹Below wr.heap.size wr _ ∧ _›.1
                  refine (eqAns5 s x n ai ai' ci ci' zs t _ (HCd.out.on hp) (HCd'.out.on hp)).mono ?_
                  rintro e w' ⟨rfl, hB⟩
                  have hBn := hp.trans (hB.mono hp.size)))
      go_wp2
      refine ⟨⟨k + 1, by omega, by go_num, HB.out.trans (hBn.mono HB.out.size)⟩, by simp [intOf]; omega⟩
    · go_wp2
      go_ret
      exact ⟨rfl, hbel⟩
end Go.Proofs.YtjnnkilmlngjgaaGreatDoor.AnsW
