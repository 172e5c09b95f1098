/- How a list of answers lies in memory. -/
import Derived.Test.YtfnimiimplphkaaValWalks
import Derived.Deep.RegionHeld3
namespace Go.Proofs.Ytfnimiimplphkaa.AnsW
open Go.RowKit
open ValW

theorem hid {p : Prop} (h : p) : Hid p := h
/-- an answer: its name, its kind, its number, its codes, its text -/
abbrev An := ByteArray × Int × Int × List Int × ByteArray
abbrev nm (p : An) : ByteArray := p.1
abbrev kd (p : An) : Int := p.2.1
abbrev nu (p : An) : Int := p.2.2.1
abbrev cd (p : An) : List Int := p.2.2.2.1
abbrev tx (p : An) : ByteArray := p.2.2.2.2
def an0 : An := (ByteArray.empty, 0, 0, [], ByteArray.empty)
def Fit (p : An) : Prop := (nm p).size ≤ 1048576 ∧ (tx p).size ≤ 1048576
/-- an answer, as a value -/
abbrev anv (p : An) (a : Option Addr) (cap : Nat) : Value := .agg #[.string (nm p), .int .i64 (kd p), .int .i64 (nu p), .slice a (cd p).length cap, .string (tx p)]
/-- the five cells of an answer -/
def Five (w : World) (b o : Nat) (p : An) (a : Option Addr) (cap : Nat) : Prop :=
  w.cell? ⟨b, o, none⟩ = some (.string (nm p)) ∧ w.cell? ⟨b, o + 1, none⟩ = some (.int .i64 (kd p)) ∧ w.cell? ⟨b, o + 2, none⟩ = some (.int .i64 (nu p)) ∧ w.cell? ⟨b, o + 3, none⟩ = some (.slice a (cd p).length cap) ∧ w.cell? ⟨b, o + 4, none⟩ = some (.string (tx p))
theorem Five.on {w w' : World} {b o B : Nat} {p : An} {a : Option Addr} {cap : Nat} (h : Five w b o p a cap) (hb : b < B) (hB : Below B w w') : Five w' b o p a cap := by
  obtain ⟨h0, h1, h2, h3, h4⟩ := h
  exact ⟨by rw [hB.cell (p := ⟨b, _, none⟩) hb]; exact h0, by rw [hB.cell (p := ⟨b, _, none⟩) hb]; exact h1, by rw [hB.cell (p := ⟨b, _, none⟩) hb]; exact h2, by rw [hB.cell (p := ⟨b, _, none⟩) hb]; exact h3, by rw [hB.cell (p := ⟨b, _, none⟩) hb]; exact h4⟩
/-- the answers ls lie in memory as a slice at a -/
def Ans (w : World) (a : Option Addr) (ls : List An) : Prop :=
  ls.length ≤ 1048576 ∧ (∀ i, i < ls.length → Fit (ls.getD i an0)) ∧ (0 < ls.length → ∃ b o, a = some ⟨b, o, none⟩ ∧ b < w.heap.size ∧ ∀ i, i < ls.length → ∃ ai cap, Five w b (o + i * 5) (ls.getD i an0) ai cap ∧ Codes w ai (cd (ls.getD i an0)) ∧ (ai = none → cap = 0))
theorem Ans.on {w w' : World} {a : Option Addr} {ls : List An} (h : Ans w a ls) (hB : Below w.heap.size w w') : Ans w' a ls := by
  refine ⟨h.1, h.2.1, fun hp => ?_⟩
  obtain ⟨b, o, ha, hb, hc⟩ := h.2.2 hp
  refine ⟨b, o, ha, Nat.lt_of_lt_of_le hb hB.size, fun i hi => ?_⟩
  obtain ⟨ai, cap, h1, h2, h3⟩ := hc i hi
  exact ⟨ai, cap, h1.on hb hB, h2.on hB, h3⟩
theorem Ans.alloc {w : World} {a : Option Addr} {ls : List An} (h : Ans w a ls) (o : Obj) : Ans (w.alloc o) a ls := h.on ((Below.refl _ _).alloc (Nat.le_refl _) o)
theorem Ans.nil (w : World) (a : Option Addr) : Ans w a [] := ⟨Nat.zero_le _, fun _ h => absurd h (Nat.not_lt_zero _), fun h => absurd h (Nat.lt_irrefl _)⟩
theorem Ans.atN {w wr : World} {a : Option Addr} {ls : List An} (h : Ans w a ls) (hB : Below w.heap.size w wr) {k : Nat} (hk : k < ls.length) :
    Fit (ls.getD k an0) ∧ ∃ b o ai cap, a = some ⟨b, o, none⟩ ∧ b < w.heap.size ∧ Five wr b (o + k * 5) (ls.getD k an0) ai cap ∧ Codes wr ai (cd (ls.getD k an0)) ∧ (ai = none → cap = 0) := by
  obtain ⟨b, o, ha, hb, hc⟩ := h.2.2 (by omega)
  obtain ⟨ai, cap, h1, h2, h3⟩ := hc k hk
  exact ⟨h.2.1 k hk, b, o, ai, cap, ha, hb, h1.on hb hB, h2.on hB, h3⟩
theorem Ans.at {w wr : World} {a : Option Addr} {ls : List An} (h : Ans w a ls) (hB : Below w.heap.size w wr) {k : Nat} (hk : k < ls.length) :
    Fit (ls.getD k an0) ∧ ∃ b o ai cap, a = some ⟨b, o, none⟩ ∧ b < w.heap.size ∧ Five wr b (o + k * 5) (ls.getD k an0) ai cap ∧ Codes wr ai (cd (ls.getD k an0)) := by
  obtain ⟨h0, b, o, ai, cap, h1, h2, h3, h4, _⟩ := h.atN hB hk
  exact ⟨h0, b, o, ai, cap, h1, h2, h3, h4⟩

/-- how much an answer counts for -/
def wt (p : An) : Nat := (nm p).size + (cd p).length + (tx p).size
/-- all together -/
def bulk : List An → Nat
  | [] => 0
  | p :: r => wt p + bulk r
theorem bulk_take (ls : List An) (k : Nat) (h : k < ls.length) : bulk (ls.take (k + 1)) = bulk (ls.take k) + wt (ls.getD k an0) := by
  induction ls generalizing k with
  | nil => simp at h
  | cons p r ih =>
    cases k with
    | zero => simp [bulk]
    | succ k => simp only [List.take_succ_cons, bulk, List.getD_cons_succ, ih k (by simpa using h)]; omega
theorem bulk_le (ls : List An) (k : Nat) : bulk (ls.take k) ≤ bulk ls := by
  induction ls generalizing k with
  | nil => simp [bulk]
  | cons p r ih => cases k with
    | zero => simp [bulk]
    | succ k => simp only [List.take_succ_cons, bulk]; have := ih k; omega
theorem bulk_one (ls : List An) (k : Nat) (h : k < ls.length) : wt (ls.getD k an0) ≤ bulk ls := by
  have h1 := bulk_take ls k h
  have h2 := bulk_le ls (k + 1)
  omega
/-- codes as they come in: no bound but the machine's -/
def CodesR (w : World) (a : Option Addr) (zs : List Int) : Prop :=
  zs.length ≤ maxLen ∧ (0 < zs.length → ∃ b o, a = some ⟨b, o, none⟩ ∧ b < w.heap.size ∧ ∀ i, i < zs.length → w.cell? ⟨b, o + i, none⟩ = some (.int .i64 (zs.getD i 0)))
/-- as the answers come in: no bound but the machine's -/
def Raw (w : World) (a : Option Addr) (ls : List An) : Prop :=
  ls.length ≤ maxLen ∧ (∀ i, i < ls.length → (nm (ls.getD i an0)).size ≤ maxLen ∧ (tx (ls.getD i an0)).size ≤ maxLen) ∧ (0 < ls.length → ∃ b o, a = some ⟨b, o, none⟩ ∧ b < w.heap.size ∧ ∀ i, i < ls.length → ∃ ai cap, Five w b (o + i * 5) (ls.getD i an0) ai cap ∧ CodesR w ai (cd (ls.getD i an0)) ∧ (ai = none → cap = 0))
theorem Raw.ans {w : World} {a : Option Addr} {ls : List An} (h : Raw w a ls) (hl : ls.length + bulk ls ≤ 1048576) : Ans w a ls := by
  refine ⟨by omega, fun i hi => ?_, fun hp => ?_⟩
  · have := bulk_one ls i hi
    unfold wt at this
    exact ⟨by omega, by omega⟩
  · obtain ⟨b, o, ha, hb, hc⟩ := h.2.2 hp
    refine ⟨b, o, ha, hb, fun i hi => ?_⟩
    obtain ⟨ai, cap, h1, h2, h3⟩ := hc i hi
    refine ⟨ai, cap, h1, ⟨?_, h2.2⟩, h3⟩
    have := bulk_one ls i hi
    unfold wt at this
    omega
theorem Try.infoA : (Try.prog.info? 43).map (fun i => (i.zero, i.size, i.bytes)) = some (some (.agg #[.string ByteArray.empty, .int .i64 0, .int .i64 0, .slice none 0 0, .string ByteArray.empty]), 5, 72) := by kernel_rfl

/-- block g has room for n answers; the first k of ls lie in it, their codes in blocks of their own behind it -/
def RowsA (w : World) (g n k : Nat) (ls : List An) : Prop :=
  ∃ cs : Array Value, w.heap[g]? = some (.cells cs 43 (0, 0)) ∧ cs.size = n * 5 ∧ ∀ i, i < k → ∃ g', g < g' ∧ w.heap[g']? = some (.cells (cellsI (cd (ls.getD i an0))).toArray 2 (0, 0)) ∧
    cs[i * 5]? = some (.string (nm (ls.getD i an0))) ∧ cs[i * 5 + 1]? = some (.int .i64 (kd (ls.getD i an0))) ∧ cs[i * 5 + 2]? = some (.int .i64 (nu (ls.getD i an0))) ∧ cs[i * 5 + 3]? = some (.slice (some ⟨g', 0, none⟩) (cd (ls.getD i an0)).length (cd (ls.getD i an0)).length) ∧ cs[i * 5 + 4]? = some (.string (tx (ls.getD i an0)))
theorem blk_lt {w : World} {g : Nat} {x : Obj} (h : w.heap[g]? = some x) : g < w.heap.size := (Array.getElem?_eq_some_iff.1 h).1
theorem RowsA.lt {w : World} {g n k : Nat} {ls : List An} (h : RowsA w g n k ls) : g < w.heap.size := by
  obtain ⟨cs, hg, _⟩ := h
  exact blk_lt hg
theorem RowsA.room {w : World} {g n k : Nat} {ls : List An} (h : RowsA w g n k ls) {j : Nat} (hj : j < n * 5) : (∃ v, w.cell? ⟨g, j, none⟩ = some v) ∧ w.frozen? ⟨g, j, none⟩ = false := by
  obtain ⟨cs, hg, hs, _⟩ := h
  refine ⟨⟨cs[j]'(by omega), ?_⟩, by simp [World.frozen?, hg]⟩
  simp [World.cell?, hg, show j < cs.size by omega]
theorem RowsA.on {w w' : World} {g n k : Nat} {ls : List An} (h : RowsA w g n k ls) (hB : Below w.heap.size w w') : RowsA w' g n k ls := by
  have hl := h.lt
  obtain ⟨cs, hg, hs, hc⟩ := h
  refine ⟨cs, by rw [hB.block g hl]; exact hg, hs, fun i hi => ?_⟩
  obtain ⟨g', h1, h2, h3⟩ := hc i hi
  exact ⟨g', h1, by rw [hB.block g' (blk_lt h2)]; exact h2, h3⟩
theorem blk_set (w : World) (g o : Nat) (v : Value) (cs : Array Value) (T : TypeId) (h : w.heap[g]? = some (.cells cs T (0, 0))) : (w.setCell ⟨g, o, none⟩ v).heap[g]? = some (.cells (cs.setIfInBounds o v) T (0, 0)) := by
  simp [World.setCell, Array.getElem?_modify, h]
/-- an answer put into the row at k -/
def put5 (W : World) (g o : Nat) (v0 v1 v2 v3 v4 : Value) : World := ((((W.setCell ⟨g, o, none⟩ v0).setCell ⟨g, o + 1, none⟩ v1).setCell ⟨g, o + 2, none⟩ v2).setCell ⟨g, o + 3, none⟩ v3).setCell ⟨g, o + 4, none⟩ v4
theorem RowsA.put {w : World} {g n k g1 : Nat} {ls : List An} (h : RowsA w g n k ls) (hk : k < n) (hg1 : g < g1) (hr : w.heap[g1]? = some (.cells (cellsI (cd (ls.getD k an0))).toArray 2 (0, 0))) :
    RowsA (put5 w g (k * 5) (.string (nm (ls.getD k an0))) (.int .i64 (kd (ls.getD k an0))) (.int .i64 (nu (ls.getD k an0))) (.slice (some ⟨g1, 0, none⟩) (cd (ls.getD k an0)).length (cd (ls.getD k an0)).length) (.string (tx (ls.getD k an0)))) g n (k + 1) ls := by
  obtain ⟨cs, hg, hs, hc⟩ := h
  unfold put5
  refine ⟨_, blk_set _ _ _ _ _ _ (blk_set _ _ _ _ _ _ (blk_set _ _ _ _ _ _ (blk_set _ _ _ _ _ _ (blk_set _ _ _ _ _ _ hg)))), by simpa using hs, fun i hi => ?_⟩
  simp only [Array.getElem?_setIfInBounds, Array.size_setIfInBounds]
  by_cases he : i = k
  · subst he
    refine ⟨g1, hg1, ?_, ?_, ?_, ?_, ?_, ?_⟩
    · repeat (refine blk_other ?_ (by simp only; omega) _)
      exact hr
    · rw [if_neg (by omega), if_neg (by omega), if_neg (by omega), if_neg (by omega), if_pos rfl, if_pos (by omega)]
    · rw [if_neg (by omega), if_neg (by omega), if_neg (by omega), if_pos rfl, if_pos (by omega)]
    · rw [if_neg (by omega), if_neg (by omega), if_pos rfl, if_pos (by omega)]
    · rw [if_neg (by omega), if_pos rfl, if_pos (by omega)]
    · rw [if_pos rfl, if_pos (by omega)]
  · obtain ⟨g', h1, h2, c0, c1, c2, c3, c4⟩ := hc i (by omega)
    refine ⟨g', h1, ?_, ?_, ?_, ?_, ?_, ?_⟩
    · repeat (refine blk_other ?_ (by simp only; omega) _)
      exact h2
    all_goals
      rw [if_neg (by omega), if_neg (by omega), if_neg (by omega), if_neg (by omega), if_neg (by omega)]
      assumption
theorem RowsA.ans {w : World} {g : Nat} {ls : List An} (h : RowsA w g ls.length ls.length ls) (hl : ls.length ≤ 1048576) (hf : ∀ i, i < ls.length → Fit (ls.getD i an0)) (hz : ∀ i, i < ls.length → (cd (ls.getD i an0)).length ≤ 1048576) : Ans w (some ⟨g, 0, none⟩) ls := by
  refine ⟨hl, hf, fun _ => ⟨g, 0, rfl, h.lt, fun i hi => ?_⟩⟩
  obtain ⟨cs, hg, hs, hc⟩ := h
  obtain ⟨g', h1, h2, c0, c1, c2, c3, c4⟩ := hc i hi
  refine ⟨some ⟨g', 0, none⟩, (cd (ls.getD i an0)).length, ?_, codes_of_row h2 (hz i hi), fun h => by cases h⟩
  unfold Five
  simp only [World.cell?, hg, Nat.zero_add]
  simp [c0, c1, c2, c3, c4]
theorem Ans.len {w : World} {a : Option Addr} {ls : List An} (h : Ans w a ls) : ∀ i, i < ls.length → (cd (ls.getD i an0)).length ≤ 1048576 := fun i hi => by
  obtain ⟨b, o, ha, hb, hc⟩ := h.2.2 (by omega)
  obtain ⟨ai, cap, _, h2, _⟩ := hc i hi
  exact h2.1
end Go.Proofs.Ytfnimiimplphkaa.AnsW
