/- Texts of ours, laid together. -/
import Derived.Test.YtmbhmknfipdadaaGreatDoorBd5
import Derived.Laws.IdiomStrings
import Derived.Test.YtmbhmknfipdadaaGreatDoorBd6
import Derived.Deep.RegionHeld3
import Derived.Test.YtmbhmknfipdadaaGreatDoorBd0
import Derived.Test.YtmbhmknfipdadaaGreatDoorBd1
import Derived.Deep.AppendLies
namespace Go.Proofs.YtmbhmknfipdadaaGreatDoor.LaidW
open Go.RowKit
def catB (ss : List ByteArray) : List UInt8 := ss.flatMap (fun s => s.data.toList)
theorem catB_snoc (ss : List ByteArray) (k : Nat) (h : k < ss.length) : catB (ss.take (k + 1)) = catB (ss.take k) ++ ss[k].data.toList := by
 unfold catB; rw [List.take_succ_eq_append_getElem h, List.flatMap_append]; simp
theorem catB_len (ss : List ByteArray) (k : Nat) (h : k < ss.length) : (catB (ss.take (k + 1))).length = (catB (ss.take k)).length + ss[k].size := by
 rw [catB_snoc ss k h, List.length_append]; simp
theorem catB_le (ss : List ByteArray) (k : Nat) : (catB (ss.take k)).length ≤ (catB ss).length := by
 have : catB ss = catB (ss.take k) ++ catB (ss.drop k) := by
  unfold catB; rw [← List.flatMap_append, List.take_append_drop]
 rw [this, List.length_append]; omega
theorem conv_row {w : World} {g n : Nat} {t : TypeId} {l : List UInt8} (hg : w.heap[g]? = some (.cells (CopyS.cellsB l).toArray t (0, 0))) (hn : l.length = n) :
  (convert 106 9 (.slice (some ⟨g, 0, none⟩) n n)).run Tryz.prog w = .ok (.string ⟨l.toArray⟩) w := by
 subst hn
 refine run_convert_bytes_back w 106 9 5 _ _ l Tryz.underlying106 Tryz.underlying5 Tryz.underlying9 ?_
 intro j hj
 have hplain : (⟨g, 0, none⟩ : Addr).add j = ⟨g, j, none⟩ := by unfold Addr.add; split <;> simp_all
 rw [hplain]; simp [World.cell?, hg, CopyS.cellsB, hj]
theorem Tryz.infoB : (Tryz.prog.info? 5).map (fun i => (i.zero, i.size, i.bytes)) = some (some (.int .u8 0), 1, 1) := by kernel_rfl
theorem Tryz.sizeB : (Tryz.prog.info? 5).map (·.size) = some 1 := by kernel_rfl
set_option maxRecDepth 10000 in
set_option maxHeartbeats 400000 in
theorem laid_any (ss : List ByteArray) (b : Nat) (w : World) (hlen : ss.length ≤ 16) (hb : b < w.heap.size)
  (hc : ∀ i (h : i < ss.length), w.cell? ⟨b, i, none⟩ = some (.string ss[i])) (htot : (catB ss).length ≤ 100000) :
  Calls Tryz.prog 93 #[.slice (some ⟨b, 0, none⟩) ss.length ss.length] w fun e w' => e = .returned (.string ⟨(catB ss).toArray⟩) ∧ Below w.heap.size w w' := by
 obtain ⟨i0, hi, hz0, hz1, hz2⟩ := info_parts Tryz.infoB
 have HC := hc
 have HH : Hid (∀ i (h : i < ss.length), w.cell? ⟨b, i, none⟩ = some (.string ss[i])) := hc
 clear hc HC
 go_enter Tryz.func93, Tryz.ntmps93
 go_wp2
 go_loop [3, 5, 12] (fun z _ i => ∃ k : Nat, k ≤ ss.length ∧ i = .int .i64 k ∧ z = .int .i64 ((catB (ss.take k)).length : Int)) (fun _ _ i => ss.length - (intOf i).toNat)
 case atStart => exact ⟨0, Nat.zero_le _, rfl, rfl⟩
 case round =>
  obtain ⟨k, hk, rfl, rfl⟩ := hrel
  have hle := catB_le ss k
  by_cases hlt : k < ss.length
  ·have hcell := HH.out k hlt
   have hle2 := catB_le ss (k + 1)
   have HS : Hid ((catB (ss.take (k + 1))).length = (catB (ss.take k)).length + ss[k].size) := catB_len ss k hlt
   have hsz : (catB (ss.take k)).length + ss[k].size ≤ 100000 := by have := HS.out; omega
   generalize (catB (ss.take k)).length = z at *
   go_wp2
   refine ⟨⟨k + 1, by omega, by go_num, ?_⟩, by simp [intOf]; omega⟩
   rw [HS.out]; go_num
  ·have hfull : (catB (ss.take k)) = catB ss := by rw [List.take_of_length_le (by omega)]
   rw [hfull]
   generalize hz : (catB ss).length = z at *
   have HZ : Hid ((catB ss).length = z) := hz
   clear hz hfull
   go_wp2_with (first | (at_make; refine wpList_make_full _ rfl _ _ 106 rfl w.heap.size 5 i0 (.int .u8 0) 1 Tryz.underlying106 hi hz0 hz1 _ _ _ _ z rfl rfl rfl rfl ?m1 ?m2 ?m3 ?_))
   case m1 => omega
   case m2 => unfold maxLen; omega
   intro w1 hown hgrow
   obtain ⟨cur, hrow⟩ : ∃ cur : List Value, cur = CopyS.rowB z [] ∧ w1.heap[w.heap.size]? = some (.cells cur.toArray 5 (0, 0)) := by
    rw [CopyS.made_zero] at hown
    obtain ⟨_, hv⟩ := hown
    rcases hv with ⟨h0, _⟩ | ⟨g, cap, cu, h0, _, hg, _, _, hs, ht⟩
    ·cases h0
    ·cases h0
     refine ⟨CopyS.rowB z [], rfl, ?_⟩
     rw [hg, ← ht, List.take_of_length_le (by simp; omega)]
   obtain ⟨HCur, hrow1⟩ := hrow
   have hB1 : Below w.heap.size w w1 := (Below.refl _ _).grown hgrow (Nat.le_refl _) (fun k hk => by cases hk)
   clear hown hgrow
   subst HCur
   go_wp2
   go_loopw [7, 9, 25] (fun e _ i wr => ∃ k : Nat, k ≤ ss.length ∧ i = .int .i64 k ∧ e = .int .i64 ((catB (ss.take k)).length : Int) ∧
     Hid (wr.heap[w.heap.size]? = some (.cells (CopyS.rowB z (catB (ss.take k))).toArray 5 (0, 0))) ∧ Below w.heap.size w wr) (fun _ _ i _ => ss.length - (intOf i).toNat)
   case atStart => exact ⟨0, Nat.zero_le _, rfl, rfl, hrow1, hB1⟩
   case round =>
    obtain ⟨k, hk, rfl, rfl, hrow, hbel⟩ := hrel
    clear hrow1 hB1
    have hle := catB_le ss k
    rw [HZ.out] at hle
    by_cases hlt : k < ss.length
    ·have hcell : wr.cell? ⟨b, k, none⟩ = some (.string ss[k]) := (hbel.cell hb).trans (HH.out k hlt)
     have hle2 := catB_le ss (k + 1)
     rw [HZ.out] at hle2
     have HS : Hid ((catB (ss.take (k + 1))).length = (catB (ss.take k)).length + ss[k].size) := catB_len ss k hlt
     have HT : Hid (catB (ss.take (k + 1)) = catB (ss.take k) ++ ss[k].data.toList) := catB_snoc ss k hlt
     have hsz : (catB (ss.take k)).length + ss[k].size ≤ z := by have := HS.out; omega
     generalize hl : catB (ss.take k) = l at *
     clear hl
     have hrl : (CopyS.rowB z l).length = z := CopyS.rowB_length z l hle
     by_cases hzl : z = l.length
     ·subst hzl
      have h0 : ss[k].size = 0 := by omega
      have hcp : ∀ wx, (Builtin.copy_ #[106, 9] 3 #[.slice (some ⟨w.heap.size, 0, none⟩) 0 0, .string ss[k]]).run Tryz.prog wx = .ok (goInt 0) wx :=
       fun wx => CopyS.run_copy_str_none wx 106 9 3 5 _ 0 0 ss[k] Tryz.underlying106 Tryz.sizeB h0
      have H0 : Hid (ss[k].size = 0) := h0
      clear h0
      go_wp2
      refine ⟨⟨k + 1, by omega, by go_num, ?_, ?_, hbel⟩, by simp [intOf]; omega⟩
      ·rw [HS.out, H0.out]; go_num
      ·have hd : ss[k].data = #[] := Array.eq_empty_of_size_eq_zero H0.out
       rw [HT.out, hd]; simpa using hrow
     ·obtain ⟨w2, hcp, hrow2, hbel2⟩ := CopyS.copy_to (P := Tryz.prog) wr w 106 9 3 5 w.heap.size (z - l.length) (z - l.length) z l ss[k] 5 Tryz.underlying106 Tryz.sizeB hrow.out (by omega) (by omega) w.heap.size hbel (Nat.le_refl _)
      go_wp2
      refine ⟨⟨k + 1, by omega, by go_num, ?_, ?_, hbel2⟩, by simp [intOf]; omega⟩
      ·rw [HS.out]; go_num
      ·rw [HT.out]; exact hrow2
    ·have HF : Hid (catB (ss.take k) = catB ss) := by
      have : catB (ss.take k) = catB ss := by rw [List.take_of_length_le (by omega)]
      exact this
     have hrow3 : wr.heap[w.heap.size]? = some (.cells (CopyS.cellsB (catB ss)).toArray 5 (0, 0)) := by
      have h0 := hrow.out
      rw [HF.out, ← HZ.out, CopyS.rowB_full] at h0; exact h0
     have hcv := conv_row (n := z) hrow3 HZ.out
     clear hrow3
     go_wp2
     go_ret
     exact ⟨rfl, hbel⟩
end Go.Proofs.YtmbhmknfipdadaaGreatDoor.LaidW
namespace Go.Proofs.YtmbhmknfipdadaaGreatDoor.AnsW
open Go.RowKit
open ValW
theorem hid {p : Prop} (h : p) : Hid p := h
abbrev An := ByteArray × Int × Int × List Int × ByteArray
abbrev nm (p : An) : ByteArray := p.1
abbrev kd (p : An) : Int := p.2.1
abbrev nu (p : An) : Int := p.2.2.1
abbrev cd (p : An) : List Int := p.2.2.2.1
abbrev tx (p : An) : ByteArray := p.2.2.2.2
def an0 : An := (ByteArray.empty, 0, 0, [], ByteArray.empty)
def Fit (p : An) : Prop := (nm p).size ≤ 1048576 ∧ (tx p).size ≤ 1048576
def Five (w : World) (b o : Nat) (p : An) (a : Option Addr) (cap : Nat) : Prop :=
 w.cell? ⟨b, o, none⟩ = some (.string (nm p)) ∧ w.cell? ⟨b, o + 1, none⟩ = some (.int .i64 (kd p)) ∧ w.cell? ⟨b, o + 2, none⟩ = some (.int .i64 (nu p)) ∧ w.cell? ⟨b, o + 3, none⟩ = some (.slice a (cd p).length cap) ∧ w.cell? ⟨b, o + 4, none⟩ = some (.string (tx p))
theorem Five.on {w w' : World} {b o B : Nat} {p : An} {a : Option Addr} {cap : Nat} (h : Five w b o p a cap) (hb : b < B) (hB : Below B w w') : Five w' b o p a cap := by
 obtain ⟨h0, h1, h2, h3, h4⟩ := h
 exact ⟨by rw [hB.cell (p := ⟨b, _, none⟩) hb]; exact h0, by rw [hB.cell (p := ⟨b, _, none⟩) hb]; exact h1, by rw [hB.cell (p := ⟨b, _, none⟩) hb]; exact h2, by rw [hB.cell (p := ⟨b, _, none⟩) hb]; exact h3, by rw [hB.cell (p := ⟨b, _, none⟩) hb]; exact h4⟩
def Ans (w : World) (a : Option Addr) (ls : List An) : Prop :=
 ls.length ≤ 1048576 ∧ (∀ i, i < ls.length → Fit (ls.getD i an0)) ∧ (0 < ls.length → ∃ b o, a = some ⟨b, o, none⟩ ∧ b < w.heap.size ∧ ∀ i, i < ls.length → ∃ ai cap, Five w b (o + i * 5) (ls.getD i an0) ai cap ∧ Codes w ai (cd (ls.getD i an0)) ∧ (ai = none → cap = 0))
theorem Ans.on {w w' : World} {a : Option Addr} {ls : List An} (h : Ans w a ls) (hB : Below w.heap.size w w') : Ans w' a ls := by
 refine ⟨h.1, h.2.1, fun hp => ?_⟩
 obtain ⟨b, o, ha, hb, hc⟩ := h.2.2 hp
 refine ⟨b, o, ha, Nat.lt_of_lt_of_le hb hB.size, fun i hi => ?_⟩
 obtain ⟨ai, cap, h1, h2, h3⟩ := hc i hi
 exact ⟨ai, cap, h1.on hb hB, h2.on hB, h3⟩
theorem Ans.alloc {w : World} {a : Option Addr} {ls : List An} (h : Ans w a ls) (o : Obj) : Ans (w.alloc o) a ls := h.on ((Below.refl _ _).alloc (Nat.le_refl _) o)
theorem Ans.nil (w : World) (a : Option Addr) : Ans w a [] := ⟨Nat.zero_le _, fun _ h => absurd h (Nat.not_lt_zero _), fun h => absurd h (Nat.lt_irrefl _)⟩
theorem Ans.atN {w wr : World} {a : Option Addr} {ls : List An} (h : Ans w a ls) (hB : Below w.heap.size w wr) {k : Nat} (hk : k < ls.length) :
  Fit (ls.getD k an0) ∧ ∃ b o ai cap, a = some ⟨b, o, none⟩ ∧ b < w.heap.size ∧ Five wr b (o + k * 5) (ls.getD k an0) ai cap ∧ Codes wr ai (cd (ls.getD k an0)) ∧ (ai = none → cap = 0) := by
 obtain ⟨b, o, ha, hb, hc⟩ := h.2.2 (by omega)
 obtain ⟨ai, cap, h1, h2, h3⟩ := hc k hk
 exact ⟨h.2.1 k hk, b, o, ai, cap, ha, hb, h1.on hb hB, h2.on hB, h3⟩
theorem Ans.at {w wr : World} {a : Option Addr} {ls : List An} (h : Ans w a ls) (hB : Below w.heap.size w wr) {k : Nat} (hk : k < ls.length) :
  Fit (ls.getD k an0) ∧ ∃ b o ai cap, a = some ⟨b, o, none⟩ ∧ b < w.heap.size ∧ Five wr b (o + k * 5) (ls.getD k an0) ai cap ∧ Codes wr ai (cd (ls.getD k an0)) := by
 obtain ⟨h0, b, o, ai, cap, h1, h2, h3, h4, _⟩ := h.atN hB hk
 exact ⟨h0, b, o, ai, cap, h1, h2, h3, h4⟩
def wt (p : An) : Nat := (nm p).size + (cd p).length + (tx p).size
def bulk : List An → Nat
 | [] => 0
 | p :: r => wt p + bulk r
theorem bulk_take (ls : List An) (k : Nat) (h : k < ls.length) : bulk (ls.take (k + 1)) = bulk (ls.take k) + wt (ls.getD k an0) := by
 induction ls generalizing k with
 | nil => simp at h
 | cons p r ih =>
  cases k with
  | zero => simp [bulk]
  | succ k => simp only [List.take_succ_cons, bulk, List.getD_cons_succ, ih k (by simpa using h)]; omega
theorem bulk_le (ls : List An) (k : Nat) : bulk (ls.take k) ≤ bulk ls := by
 induction ls generalizing k with
 | nil => simp [bulk]
 | cons p r ih => cases k with
  | zero => simp [bulk]
  | succ k => simp only [List.take_succ_cons, bulk]; have := ih k; omega
theorem bulk_one (ls : List An) (k : Nat) (h : k < ls.length) : wt (ls.getD k an0) ≤ bulk ls := by
 have h1 := bulk_take ls k h
 have h2 := bulk_le ls (k + 1)
 omega
def CodesR (w : World) (a : Option Addr) (zs : List Int) : Prop :=
 zs.length ≤ maxLen ∧ (0 < zs.length → ∃ b o, a = some ⟨b, o, none⟩ ∧ b < w.heap.size ∧ ∀ i, i < zs.length → w.cell? ⟨b, o + i, none⟩ = some (.int .i64 (zs.getD i 0)))
def Raw (w : World) (a : Option Addr) (ls : List An) : Prop :=
 ls.length ≤ maxLen ∧ (∀ i, i < ls.length → (nm (ls.getD i an0)).size ≤ maxLen ∧ (tx (ls.getD i an0)).size ≤ maxLen) ∧ (0 < ls.length → ∃ b o, a = some ⟨b, o, none⟩ ∧ b < w.heap.size ∧ ∀ i, i < ls.length → ∃ ai cap, Five w b (o + i * 5) (ls.getD i an0) ai cap ∧ CodesR w ai (cd (ls.getD i an0)) ∧ (ai = none → cap = 0))
theorem Raw.ans {w : World} {a : Option Addr} {ls : List An} (h : Raw w a ls) (hl : ls.length + bulk ls ≤ 1048576) : Ans w a ls := by
 refine ⟨by omega, fun i hi => ?_, fun hp => ?_⟩
 ·have := bulk_one ls i hi
  unfold wt at this
  exact ⟨by omega, by omega⟩
 ·obtain ⟨b, o, ha, hb, hc⟩ := h.2.2 hp
  refine ⟨b, o, ha, hb, fun i hi => ?_⟩
  obtain ⟨ai, cap, h1, h2, h3⟩ := hc i hi
  refine ⟨ai, cap, h1, ⟨?_, h2.2⟩, h3⟩
  have := bulk_one ls i hi
  unfold wt at this
  omega
theorem Tryz.infoA : (Tryz.prog.info? 61).map (fun i => (i.zero, i.size, i.bytes)) = some (some (.agg #[.string ByteArray.empty, .int .i64 0, .int .i64 0, .slice none 0 0, .string ByteArray.empty]), 5, 72) := by kernel_rfl
def RowsA (w : World) (g n k : Nat) (ls : List An) : Prop :=
 ∃ cs : Array Value, w.heap[g]? = some (.cells cs 61 (0, 0)) ∧ cs.size = n * 5 ∧ ∀ i, i < k → ∃ g', g < g' ∧ w.heap[g']? = some (.cells (cellsI (cd (ls.getD i an0))).toArray 2 (0, 0)) ∧
  cs[i * 5]? = some (.string (nm (ls.getD i an0))) ∧ cs[i * 5 + 1]? = some (.int .i64 (kd (ls.getD i an0))) ∧ cs[i * 5 + 2]? = some (.int .i64 (nu (ls.getD i an0))) ∧ cs[i * 5 + 3]? = some (.slice (some ⟨g', 0, none⟩) (cd (ls.getD i an0)).length (cd (ls.getD i an0)).length) ∧ cs[i * 5 + 4]? = some (.string (tx (ls.getD i an0)))
theorem blk_lt {w : World} {g : Nat} {x : Obj} (h : w.heap[g]? = some x) : g < w.heap.size := (Array.getElem?_eq_some_iff.1 h).1
theorem RowsA.lt {w : World} {g n k : Nat} {ls : List An} (h : RowsA w g n k ls) : g < w.heap.size := by
 obtain ⟨cs, hg, _⟩ := h
 exact blk_lt hg
theorem RowsA.room {w : World} {g n k : Nat} {ls : List An} (h : RowsA w g n k ls) {j : Nat} (hj : j < n * 5) : (∃ v, w.cell? ⟨g, j, none⟩ = some v) ∧ w.frozen? ⟨g, j, none⟩ = false := by
 obtain ⟨cs, hg, hs, _⟩ := h
 refine ⟨⟨cs[j]'(by omega), ?_⟩, by simp [World.frozen?, hg]⟩
 simp [World.cell?, hg, show j < cs.size by omega]
theorem RowsA.on {w w' : World} {g n k : Nat} {ls : List An} (h : RowsA w g n k ls) (hB : Below w.heap.size w w') : RowsA w' g n k ls := by
 have hl := h.lt
 obtain ⟨cs, hg, hs, hc⟩ := h
 refine ⟨cs, by rw [hB.block g hl]; exact hg, hs, fun i hi => ?_⟩
 obtain ⟨g', h1, h2, h3⟩ := hc i hi
 exact ⟨g', h1, by rw [hB.block g' (blk_lt h2)]; exact h2, h3⟩
theorem blk_set (w : World) (g o : Nat) (v : Value) (cs : Array Value) (T : TypeId) (h : w.heap[g]? = some (.cells cs T (0, 0))) : (w.setCell ⟨g, o, none⟩ v).heap[g]? = some (.cells (cs.setIfInBounds o v) T (0, 0)) := by
 simp [World.setCell, Array.getElem?_modify, h]
def put5 (W : World) (g o : Nat) (v0 v1 v2 v3 v4 : Value) : World := ((((W.setCell ⟨g, o, none⟩ v0).setCell ⟨g, o + 1, none⟩ v1).setCell ⟨g, o + 2, none⟩ v2).setCell ⟨g, o + 3, none⟩ v3).setCell ⟨g, o + 4, none⟩ v4
theorem RowsA.put {w : World} {g n k g1 : Nat} {ls : List An} (h : RowsA w g n k ls) (hk : k < n) (hg1 : g < g1) (hr : w.heap[g1]? = some (.cells (cellsI (cd (ls.getD k an0))).toArray 2 (0, 0))) :
  RowsA (put5 w g (k * 5) (.string (nm (ls.getD k an0))) (.int .i64 (kd (ls.getD k an0))) (.int .i64 (nu (ls.getD k an0))) (.slice (some ⟨g1, 0, none⟩) (cd (ls.getD k an0)).length (cd (ls.getD k an0)).length) (.string (tx (ls.getD k an0)))) g n (k + 1) ls := by
 obtain ⟨cs, hg, hs, hc⟩ := h
 unfold put5
 refine ⟨_, blk_set _ _ _ _ _ _ (blk_set _ _ _ _ _ _ (blk_set _ _ _ _ _ _ (blk_set _ _ _ _ _ _ (blk_set _ _ _ _ _ _ hg)))), by simpa using hs, fun i hi => ?_⟩
 simp only [Array.getElem?_setIfInBounds, Array.size_setIfInBounds]
 by_cases he : i = k
 ·subst he
  refine ⟨g1, hg1, ?_, ?_, ?_, ?_, ?_, ?_⟩
  ·repeat (refine blk_other ?_ (by simp only; omega) _)
   exact hr
  ·rw [if_neg (by omega), if_neg (by omega), if_neg (by omega), if_neg (by omega), if_pos rfl, if_pos (by omega)]
  ·rw [if_neg (by omega), if_neg (by omega), if_neg (by omega), if_pos rfl, if_pos (by omega)]
  ·rw [if_neg (by omega), if_neg (by omega), if_pos rfl, if_pos (by omega)]
  ·rw [if_neg (by omega), if_pos rfl, if_pos (by omega)]
  ·rw [if_pos rfl, if_pos (by omega)]
 ·obtain ⟨g', h1, h2, c0, c1, c2, c3, c4⟩ := hc i (by omega)
  refine ⟨g', h1, ?_, ?_, ?_, ?_, ?_, ?_⟩
  ·repeat (refine blk_other ?_ (by simp only; omega) _)
   exact h2
  all_goals
   rw [if_neg (by omega), if_neg (by omega), if_neg (by omega), if_neg (by omega), if_neg (by omega)]
   assumption
theorem RowsA.ans {w : World} {g : Nat} {ls : List An} (h : RowsA w g ls.length ls.length ls) (hl : ls.length ≤ 1048576) (hf : ∀ i, i < ls.length → Fit (ls.getD i an0)) (hz : ∀ i, i < ls.length → (cd (ls.getD i an0)).length ≤ 1048576) : Ans w (some ⟨g, 0, none⟩) ls := by
 refine ⟨hl, hf, fun _ => ⟨g, 0, rfl, h.lt, fun i hi => ?_⟩⟩
 obtain ⟨cs, hg, hs, hc⟩ := h
 obtain ⟨g', h1, h2, c0, c1, c2, c3, c4⟩ := hc i hi
 refine ⟨some ⟨g', 0, none⟩, (cd (ls.getD i an0)).length, ?_, codes_of_row h2 (hz i hi), fun h => by cases h⟩
 unfold Five
 simp only [World.cell?, hg, Nat.zero_add]
 simp [c0, c1, c2, c3, c4]
theorem Ans.len {w : World} {a : Option Addr} {ls : List An} (h : Ans w a ls) : ∀ i, i < ls.length → (cd (ls.getD i an0)).length ≤ 1048576 := fun i hi => by
 obtain ⟨b, o, ha, hb, hc⟩ := h.2.2 (by omega)
 obtain ⟨ai, cap, _, h2, _⟩ := hc i hi
 exact h2.1
open Go.RowKit
open ValW
set_option maxHeartbeats 4000000 in
theorem toAns5 (s : ByteArray) (k n : Int) (a : Option Addr) (cap : Nat) (zs : List Int) (t : ByteArray) (w : World) (hc : Codes w a zs) :
  Calls Tryz.prog 31 #[.agg #[.string s, .int .i64 k, .int .i64 n, .slice a zs.length cap, .string t]] w fun e w' => ∃ g', e = .returned (.agg #[.string s, .int .i64 k, .int .i64 n, .slice (some ⟨g', 0, none⟩) zs.length zs.length, .string t]) ∧ w.heap.size ≤ g' ∧ w'.heap[g']? = some (.cells (cellsI zs).toArray 2 (0, 0)) ∧ Below w.heap.size w w' := by
 have HC : Hid (Codes w a zs) := hc
 clear hc
 go_enter Tryz.func31, Tryz.ntmps31
 go_wp2_with fail
 refine (toValO k n a cap zs t _ (HC.out.on ?hb)).mono ?_
 case hb => go_grown
 rintro e w1 ⟨g', rfl, hg', hr, hB1⟩
 have HB : Hid (Below w.heap.size w w1) := Below.trans ?hb (hB1.mono (by simp; omega))
 case hb => go_grown
 obtain ⟨hcl, hfz⟩ := bcell hB1
 have hz : w.heap.size + 1 + 1 < w1.heap.size := by have := hB1.size; simp at this; omega
 simp only [World.size_alloc] at hcl hfz hg'
 have HR := hid hr
 clear hr hB1 HC
 go_wp2
 refine bodyPost_ret (v := .agg #[.string s, .int .i64 k, .int .i64 n, .slice (some ⟨g', 0, none⟩) zs.length zs.length, .string t]) (by simp [results, Tryz.results31, go_sem, hcl]) rfl ⟨_, rfl, by omega, ?_, ?_⟩
 ·repeat (refine blk_other ?_ (by simp only; omega) _)
  exact HR.out
 ·repeat (refine Below.setCell ?_ (show w.heap.size ≤ _ by simp only; omega) _)
  exact HB.out
theorem szAns_yes (s : ByteArray) (k n : Int) (a : Option Addr) (cap : Nat) (len : Nat) (t : ByteArray) (z : Int) (hz : z ≤ 1048576) (h : ¬ z < s.size + len + t.size) (w : World) :
  Calls Tryz.prog 27 #[.agg #[.string s, .int .i64 k, .int .i64 n, .slice a len cap, .string t], .int .i64 z] w fun e w' => e = .returned (.int .i64 (z - (s.size + len + t.size))) ∧ Below w.heap.size w w' := by
 go_enter Tryz.func27, Tryz.ntmps27
 go_wp2_with fail
 refine (sz_yes k n a len cap t _ _ (by omega) (by omega)).mono ?_
 rintro e w1 ⟨rfl, hB1⟩
 have HB : Hid (Below w.heap.size w w1) := Below.trans ?hb (hB1.mono (by simp))
 case hb => go_grown
 clear hB1
 go_wp2
 go_ret
 exact ⟨by rw [show z - (↑s.size + ↑len + ↑t.size) = z - ↑s.size - ↑len - ↑t.size by omega]; rfl, HB.out⟩
theorem szAns_no (s : ByteArray) (k n : Int) (a : Option Addr) (cap : Nat) (len : Nat) (t : ByteArray) (z : Int) (h0 : 0 ≤ z) (hz : z ≤ 1048576) (h : z < s.size + len + t.size) (hs : s.size ≤ maxLen) (hl : len ≤ maxLen) (ht : t.size ≤ maxLen) (w : World) :
  Calls Tryz.prog 27 #[.agg #[.string s, .int .i64 k, .int .i64 n, .slice a len cap, .string t], .int .i64 z] w fun e w' => e = .returned (.int .i64 (-1)) ∧ Below w.heap.size w w' := by
 have hs' := hs
 unfold maxLen at hs'
 by_cases hc : z < s.size
 ·go_enter Tryz.func27, Tryz.ntmps27
  go_wp2
  go_ret
  exact ⟨rfl, by go_grown⟩
 ·go_enter Tryz.func27, Tryz.ntmps27
  go_wp2_with fail
  refine (sz_no k n a len cap t _ _ (by omega) (by omega) (by omega) hl ht).mono ?_
  rintro e w1 ⟨rfl, hB1⟩
  have HB : Hid (Below w.heap.size w w1) := Below.trans ?hb (hB1.mono (by simp))
  case hb => go_grown
  clear hB1
  go_wp2
  go_ret
  exact ⟨rfl, HB.out⟩
set_option maxHeartbeats 400000 in
theorem eqAns5 (s : ByteArray) (k n : Int) (a a' : Option Addr) (cap cap' : Nat) (zs : List Int) (t : ByteArray) (w : World) (hc : Codes w a zs) (hc' : Codes w a' zs) :
  Calls Tryz.prog 35 #[.agg #[.string s, .int .i64 k, .int .i64 n, .slice a zs.length cap, .string t], .agg #[.string s, .int .i64 k, .int .i64 n, .slice a' zs.length cap', .string t]] w fun e w' => e = .returned (.bool true) ∧ Below w.heap.size w w' := by
 have HC : Hid (Codes w a zs) := hc
 have HC' : Hid (Codes w a' zs) := hc'
 clear hc hc'
 go_enter Tryz.func35, Tryz.ntmps35
 go_wp2_with fail
 refine (eqVal k n a a' cap cap' zs t _ (HC.out.on ?hb) (HC'.out.on ?hb)).mono ?_
 case hb => go_grown
 rintro e w1 ⟨rfl, hB1⟩
 have HB : Hid (Below w.heap.size w w1) := Below.trans ?hb (hB1.mono (by simp; omega))
 case hb => go_grown
 clear hB1 HC HC'
 go_wp2
 go_ret
 exact ⟨rfl, HB.out⟩
set_option maxRecDepth 10000 in
set_option maxHeartbeats 800000 in
theorem toAnsR (a : Option Addr) (cap : Nat) (ls : List An) (w : World) (hc : Ans w a ls) :
  Calls Tryz.prog 11 #[.slice a ls.length cap] w fun e w' => e = .returned (.slice (some ⟨w.heap.size, 0, none⟩) ls.length ls.length) ∧ Below w.heap.size w w' ∧ RowsA w' w.heap.size ls.length ls.length ls := by
 obtain ⟨i0, hi, hz0, hz1, hz2⟩ := info_parts Tryz.infoA
 have HC : Hid (Ans w a ls) := hc
 have hl := hc.1
 clear hc
 go_enter Tryz.func11, Tryz.ntmps11
 go_wp2_with (first | (at_make; refine wpList_make_full _ rfl _ _ 27 rfl w.heap.size 61 i0 (.agg #[.string ByteArray.empty, .int .i64 0, .int .i64 0, .slice none 0 0, .string ByteArray.empty]) 5 Tryz.underlying27 hi hz0 hz1 _ _ _ _ ls.length rfl rfl rfl rfl ?m1 ?m2 ?m3 ?_))
 case m1 => rw [hz2]; omega
 case m2 => unfold maxLen; omega
 case m3 => exact Nat.le_refl _
 intro w1 hown hgrow
 have hrow : RowsA w1 w.heap.size ls.length 0 ls := by
  obtain ⟨_, hv⟩ := hown
  rcases hv with ⟨h0, _⟩ | ⟨g, cap, cu, h0, _, hg, _, _, hs, ht⟩
  ·cases h0
  ·cases h0
   exact ⟨cu, hg, hs, fun i hi => absurd hi (Nat.not_lt_zero _)⟩
 have hB1 : Below w.heap.size w w1 := (Below.refl _ _).grown hgrow (Nat.le_refl _) (fun k hk => by cases hk)
 clear hown hgrow
 go_wp2
 go_loopw [4] (fun i wr => ∃ k : Nat, k ≤ ls.length ∧ i = .int .i64 k ∧ Hid (RowsA wr w.heap.size ls.length k ls) ∧ Below w.heap.size w wr) (fun i _ => ls.length - (intOf i).toNat)
 case atStart => exact ⟨0, Nat.zero_le _, rfl, hrow, hB1⟩
 case round =>
  obtain ⟨k, hk, rfl, hrow, hbel⟩ := hrel
  clear hB1
  by_cases hlt : k < ls.length
  ·obtain ⟨_, b, o, ai, cai, rfl, hb, ⟨c0, c1, c2, c3, c4⟩, hcd⟩ := HC.out.at hbel hlt
   have HP : Hid (∀ W g1, RowsA W w.heap.size ls.length k ls → w.heap.size < g1 → W.heap[g1]? = some (.cells (cellsI (cd (ls.getD k an0))).toArray 2 (0, 0)) → RowsA (put5 W w.heap.size (k * 5) (.string (nm (ls.getD k an0))) (.int .i64 (kd (ls.getD k an0))) (.int .i64 (nu (ls.getD k an0))) (.slice (some ⟨g1, 0, none⟩) (cd (ls.getD k an0)).length (cd (ls.getD k an0)).length) (.string (tx (ls.getD k an0)))) w.heap.size ls.length (k + 1) ls) := fun W g1 h h1 h2 => h.put hlt h1 h2
   generalize ls.getD k an0 = p at c0 c1 c2 c3 c4 hcd HP
   obtain ⟨s, kk, n, zs, t⟩ := p
   dsimp only [nm, kd, nu, cd, tx] at c0 c1 c2 c3 c4 hcd HP
   have HB : Hid (Below w.heap.size w wr) := hbel
   have HCd := hid hcd
   clear hbel hcd
   go_wp2_with fail
   refine (toAns5 s kk n ai cai zs t wr HCd.out).mono ?_
   rintro e w2 ⟨g1, rfl, hg1, hr1, hB2⟩
   have HR2 := hid (hrow.out.on hB2)
   have HB2 : Hid (Below w.heap.size w w2) := HB.out.trans (hB2.mono HB.out.size)
   have HG := hid hr1
   have HL : Hid (w.heap.size < g1) := Nat.lt_of_lt_of_le hrow.out.lt hg1
   obtain ⟨⟨v0, r0⟩, f0⟩ := HR2.out.room (j := k * 5) (by omega)
   obtain ⟨⟨v1, r1⟩, f1⟩ := HR2.out.room (j := k * 5 + 1) (by omega)
   obtain ⟨⟨v2, r2⟩, f2⟩ := HR2.out.room (j := k * 5 + 2) (by omega)
   obtain ⟨⟨v3, r3⟩, f3⟩ := HR2.out.room (j := k * 5 + 3) (by omega)
   obtain ⟨⟨v4, r4⟩, f4⟩ := HR2.out.room (j := k * 5 + 4) (by omega)
   clear c0 c1 c2 c3 c4 HC hrow hB2 HB hg1 hr1 HCd
   go_wp2
   refine ⟨⟨k + 1, by omega, by go_num, HP.out _ g1 HR2.out HL.out HG.out, ?_⟩, by simp [intOf]; omega⟩
   exact ((((HB2.out.setCell (Nat.le_refl _) _).setCell (Nat.le_refl _) _).setCell (Nat.le_refl _) _).setCell (Nat.le_refl _) _).setCell (Nat.le_refl _) _
  ·go_wp2
   go_ret
   obtain rfl : k = ls.length := by omega
   exact ⟨rfl, hbel, hrow.out⟩
theorem toAnsL (a : Option Addr) (cap : Nat) (ls : List An) (w : World) (hc : Ans w a ls) :
  Calls Tryz.prog 11 #[.slice a ls.length cap] w fun e w' => e = .returned (.slice (some ⟨w.heap.size, 0, none⟩) ls.length ls.length) ∧ Ans w' (some ⟨w.heap.size, 0, none⟩) ls ∧ Below w.heap.size w w' :=
 (toAnsR a cap ls w hc).mono fun _ _ ⟨h1, h2, h3⟩ => ⟨h1, h3.ans hc.1 hc.2.1 hc.len, h2⟩
open Go.RowKit
open ValW
set_option maxRecDepth 10000 in
set_option maxHeartbeats 800000 in
theorem szAnsL (a : Option Addr) (cap : Nat) (ls : List An) (l0 : Nat) (hl0 : l0 ≤ 1048576) (w : World) (hc : Raw w a ls) :
  Calls Tryz.prog 8 #[.slice a ls.length cap, .int .i64 l0] w fun e w' => (∃ r : Int, e = .returned (.int .i64 r) ∧ (r < 0 ↔ l0 < ls.length + bulk ls) ∧ (ls.length + bulk ls ≤ l0 → r = l0 - (ls.length + bulk ls))) ∧ Below w.heap.size w w' := by
 have HC : Hid (Raw w a ls) := hc
 have hl := hc.1
 unfold maxLen at hl
 clear hc
 go_enter Tryz.func8, Tryz.ntmps8
 by_cases hbig : l0 < ls.length
 ·go_wp2
  go_ret
  exact ⟨⟨_, rfl, by omega, by omega⟩, by go_grown⟩
 go_wp2
 go_loopw [1, 5] (fun l i wr => ∃ k : Nat, k ≤ ls.length ∧ i = .int .i64 k ∧ ls.length + bulk (ls.take k) ≤ l0 ∧ l = .int .i64 (l0 - ls.length - bulk (ls.take k)) ∧ Below w.heap.size w wr) (fun _ i _ => ls.length - (intOf i).toNat)
 case atStart => exact ⟨0, Nat.zero_le _, rfl, by simp [bulk]; omega, by simp [bulk], Below.refl _ _⟩
 case round =>
  obtain ⟨k, hk, rfl, hle, rfl, hbel⟩ := hrel
  by_cases hlt : k < ls.length
  ·have hnx := bulk_take ls k hlt
   have hall := bulk_le ls (k + 1)
   obtain ⟨_, hfit, h1⟩ := HC.out
   obtain ⟨hs1, hs2⟩ := hfit k hlt
   obtain ⟨b, o, rfl, hb, hcs⟩ := h1 (by omega)
   obtain ⟨ai, cai, hF, hcr, _⟩ := hcs k hlt
   have hcl := hcr.1
   obtain ⟨c0, c1, c2, c3, c4⟩ := hF.on hb hbel
   generalize ls.getD k an0 = p at c0 c1 c2 c3 c4 hnx hs1 hs2 hcl
   obtain ⟨s, x, n, zs, t⟩ := p
   dsimp only [nm, kd, nu, cd, tx] at c0 c1 c2 c3 c4 hs1 hs2 hcl
   replace hnx : bulk (List.take (k + 1) ls) = bulk (List.take k ls) + (s.size + zs.length + t.size) := hnx
   have HB : Hid (Below w.heap.size w wr) := hbel
   clear hcs h1 hbel hfit HC hF hcr
   generalize hB' : bulk (List.take (k + 1) ls) = B' at *
   have HB' := hid hB'
   clear hB'
   generalize bulk (List.take k ls) = B at *
   by_cases hyes : ls.length + B + (s.size + zs.length + t.size) ≤ l0
   ·go_wp2_with fail
    refine (szAns_yes s x n ai cai zs.length t _ (by omega) (by omega) wr).mono ?_
    rintro e w2 ⟨rfl, hB2⟩
    have HB2 : Hid (Below w.heap.size w w2) := HB.out.trans (hB2.mono HB.out.size)
    clear hB2 HB c0 c1 c2 c3 c4
    go_wp2
    refine ⟨⟨k + 1, by omega, by go_num, by rw [HB'.out]; omega, ?_, HB2.out⟩, by simp [intOf]; omega⟩
    rw [HB'.out, hnx]
    congr 1
    omega
   ·go_wp2_with fail
    refine (szAns_no s x n ai cai zs.length t _ (by omega) (by omega) (by omega) hs1 hcl hs2 wr).mono ?_
    rintro e w2 ⟨rfl, hB2⟩
    have HB2 : Hid (Below w.heap.size w w2) := HB.out.trans (hB2.mono HB.out.size)
    clear hB2 HB c0 c1 c2 c3 c4
    go_wp2
    go_ret
    exact ⟨⟨_, rfl, by omega, by omega⟩, HB2.out⟩
  ·go_wp2
   go_ret
   obtain rfl : k = ls.length := by omega
   rw [List.take_length] at *
   exact ⟨⟨_, rfl, by omega, by omega⟩, hbel⟩
theorem held10 {wr w' : World} {b b' o o' : Nat} {p q : An} {a a' : Option Addr} {c c' : Nat} (hb : b < wr.heap.size) (hb' : b' < wr.heap.size) (h : Five wr b o p a c) (h' : Five wr b' o' q a' c') (hB : Below wr.heap.size wr w') :
  Below wr.heap.size wr w' ∧ (w'.cell? ⟨b, o, none⟩ = some (.string (nm p)) ∧ w'.cell? ⟨b, o + 1, none⟩ = some (.int .i64 (kd p)) ∧ w'.cell? ⟨b, o + 2, none⟩ = some (.int .i64 (nu p)) ∧ w'.cell? ⟨b, o + 3, none⟩ = some (.slice a (cd p).length c) ∧ w'.cell? ⟨b, o + 4, none⟩ = some (.string (tx p))) ∧
  (w'.cell? ⟨b', o', none⟩ = some (.string (nm q)) ∧ w'.cell? ⟨b', o' + 1, none⟩ = some (.int .i64 (kd q)) ∧ w'.cell? ⟨b', o' + 2, none⟩ = some (.int .i64 (nu q)) ∧ w'.cell? ⟨b', o' + 3, none⟩ = some (.slice a' (cd q).length c') ∧ w'.cell? ⟨b', o' + 4, none⟩ = some (.string (tx q))) :=
 ⟨hB, h.on hb hB, h'.on hb' hB⟩
set_option maxRecDepth 10000 in
set_option maxHeartbeats 1600000 in
theorem eqAnsL (a a' : Option Addr) (cap cap' : Nat) (ls : List An) (w : World) (hc : Ans w a ls) (hc' : Ans w a' ls) :
    Calls Tryz.prog 15 #[.slice a ls.length cap, .slice a' ls.length cap'] w fun e w' => e = .returned (.bool true) ∧ Below w.heap.size w w' := by
  have HC : Hid (Ans w a ls) := hc
  have HC' : Hid (Ans w a' ls) := hc'
  have hl := hc.1
  clear hc hc'
  go_enter Tryz.func15, Tryz.ntmps15
  go_wp2
  go_loopw [5] (fun i wr => ∃ k : Nat, k ≤ ls.length ∧ i = .int .i64 k ∧ Below w.heap.size w wr) (fun i _ => ls.length - (intOf i).toNat)
  case atStart => exact ⟨0, Nat.zero_le _, rfl, Below.refl _ _⟩
  case round =>
    obtain ⟨k, hk, rfl, hbel⟩ := hrel
    by_cases hlt : k < ls.length
    · obtain ⟨_, b, o, ai, ci, rfl, hb, hF, hcd⟩ := HC.out.at hbel hlt
      obtain ⟨_, b', o', ai', ci', rfl, hb', hF', hcd'⟩ := HC'.out.at hbel hlt
      generalize ls.getD k an0 = p at hF hF' hcd hcd'
      obtain ⟨s, x, n, zs, t⟩ := p
      dsimp only [cd] at hcd hcd'
      have HB : Hid (Below w.heap.size w wr) := hbel
      have HF := hid hF
      have HF' := hid hF'
      have HCd := hid hcd
      have HCd' := hid hcd'
      clear HC HC' hbel hF hF' hcd hcd'
      go_wp2_with fail
      have hbr : b < wr.heap.size := Nat.lt_of_lt_of_le hb HB.out.size
      have hbr' : b' < wr.heap.size := Nat.lt_of_lt_of_le hb' HB.out.size
      have hB0 : Below wr.heap.size wr wr.drew := (Below.refl _ _).drew
      go_region_held3 (fun w' => Below wr.heap.size wr w' ∧ (w'.cell? ⟨b, o + k * 5, none⟩ = some (.string s) ∧ w'.cell? ⟨b, o + k * 5 + 1, none⟩ = some (.int .i64 x) ∧ w'.cell? ⟨b, o + k * 5 + 2, none⟩ = some (.int .i64 n) ∧ w'.cell? ⟨b, o + k * 5 + 3, none⟩ = some (.slice ai zs.length ci) ∧ w'.cell? ⟨b, o + k * 5 + 4, none⟩ = some (.string t)) ∧ (w'.cell? ⟨b', o' + k * 5, none⟩ = some (.string s) ∧ w'.cell? ⟨b', o' + k * 5 + 1, none⟩ = some (.int .i64 x) ∧ w'.cell? ⟨b', o' + k * 5 + 2, none⟩ = some (.int .i64 n) ∧ w'.cell? ⟨b', o' + k * 5 + 3, none⟩ = some (.slice ai' zs.length ci') ∧ w'.cell? ⟨b', o' + k * 5 + 4, none⟩ = some (.string t)))
        (first | exact held10 hbr hbr' HF.out HF'.out (by assumption))
        (first | (go_at_call 35
                  have hp := ‹Below wr.heap.size wr _ ∧ _›.1
                  refine (eqAns5 s x n ai ai' ci ci' zs t _ (HCd.out.on hp) (HCd'.out.on hp)).mono ?_
                  rintro e w' ⟨rfl, hB⟩
                  have hBn := hp.trans (hB.mono hp.size)))
      go_wp2
      refine ⟨⟨k + 1, by omega, by go_num, HB.out.trans (hBn.mono HB.out.size)⟩, by simp [intOf]; omega⟩
    · go_wp2
      go_ret
      exact ⟨rfl, hbel⟩
end Go.Proofs.YtmbhmknfipdadaaGreatDoor.AnsW
namespace Go.Proofs.YtmbhmknfipdadaaGreatDoor.PrtW
open Go.RowKit
theorem hid {p : Prop} (h : p) : Hid p := h
abbrev Pt := Int × Int × ByteArray
def pt0 : Pt := (0, 0, ByteArray.empty)
def Fit (p : Pt) : Prop := (-9223372036854775808 ≤ p.1 ∧ p.1 ≤ 9223372036854775807) ∧ (-9223372036854775808 ≤ p.2.1 ∧ p.2.1 ≤ 9223372036854775807) ∧ p.2.2.size ≤ 1048576
def Parts (w : World) (a : Option Addr) (ps : List Pt) : Prop :=
 ps.length ≤ 1048576 ∧ (∀ i, i < ps.length → Fit (ps.getD i pt0)) ∧ (0 < ps.length → ∃ b o, a = some ⟨b, o, none⟩ ∧ b < w.heap.size ∧ ∀ i, i < ps.length →
  w.cell? ⟨b, o + i * 3, none⟩ = some (.int .i64 (ps.getD i pt0).1) ∧ w.cell? ⟨b, o + i * 3 + 1, none⟩ = some (.int .i64 (ps.getD i pt0).2.1) ∧ w.cell? ⟨b, o + i * 3 + 2, none⟩ = some (.string (ps.getD i pt0).2.2))
theorem Parts.on {w w' : World} {a : Option Addr} {ps : List Pt} (h : Parts w a ps) (hB : Below w.heap.size w w') : Parts w' a ps := by
 refine ⟨h.1, h.2.1, fun hp => ?_⟩
 obtain ⟨b, o, ha, hb, hc⟩ := h.2.2 hp
 refine ⟨b, o, ha, Nat.lt_of_lt_of_le hb hB.size, fun i hi => ?_⟩
 obtain ⟨c0, c1, c2⟩ := hc i hi
 exact ⟨by rw [hB.cell (p := ⟨b, _, none⟩) hb]; exact c0, by rw [hB.cell (p := ⟨b, _, none⟩) hb]; exact c1, by rw [hB.cell (p := ⟨b, _, none⟩) hb]; exact c2⟩
theorem Parts.alloc {w : World} {a : Option Addr} {ps : List Pt} (h : Parts w a ps) (o : Obj) : Parts (w.alloc o) a ps := h.on ((Below.refl _ _).alloc (Nat.le_refl _) o)
theorem Parts.nil (w : World) (a : Option Addr) : Parts w a [] := ⟨Nat.zero_le _, fun _ h => absurd h (Nat.not_lt_zero _), fun h => absurd h (Nat.lt_irrefl _)⟩
theorem bcell {W w1 : World} (hb : Below W.heap.size W w1) : (∀ b o, b < W.heap.size → w1.cell? ⟨b, o, none⟩ = W.cell? ⟨b, o, none⟩) ∧ (∀ b o, b < W.heap.size → w1.frozen? ⟨b, o, none⟩ = W.frozen? ⟨b, o, none⟩) :=
 ⟨fun b o h => hb.cell (p := ⟨b, o, none⟩) h, fun b o h => hb.frozen (p := ⟨b, o, none⟩) h⟩
abbrev pv (p : Pt) : Value := .agg #[.int .i64 p.1, .int .i64 p.2.1, .string p.2.2]
set_option maxHeartbeats 400000 in
theorem eqPart (k n : Int) (t : ByteArray) (w : World) :
  Calls Tryz.prog 102 #[.agg #[.int .i64 k, .int .i64 n, .string t], .agg #[.int .i64 k, .int .i64 n, .string t]] w fun e w' => e = .returned (.bool true) ∧ Below w.heap.size w w' := by
 go_enter Tryz.func102, Tryz.ntmps102
 go_wp2
 go_ret
 exact ⟨rfl, by go_grown⟩
theorem held6 {wr w' : World} {b b' o0 o1 o2 p0 p1 p2 : Nat} {x0 x1 x2 y0 y1 y2 : Value} (hb : b < wr.heap.size) (hb' : b' < wr.heap.size) (c0 : wr.cell? ⟨b, o0, none⟩ = some x0) (c1 : wr.cell? ⟨b, o1, none⟩ = some x1) (c2 : wr.cell? ⟨b, o2, none⟩ = some x2)
  (d0 : wr.cell? ⟨b', p0, none⟩ = some y0) (d1 : wr.cell? ⟨b', p1, none⟩ = some y1) (d2 : wr.cell? ⟨b', p2, none⟩ = some y2) (hB : Below wr.heap.size wr w') :
  Below wr.heap.size wr w' ∧ w'.cell? ⟨b, o0, none⟩ = some x0 ∧ w'.cell? ⟨b, o1, none⟩ = some x1 ∧ w'.cell? ⟨b, o2, none⟩ = some x2 ∧ w'.cell? ⟨b', p0, none⟩ = some y0 ∧ w'.cell? ⟨b', p1, none⟩ = some y1 ∧ w'.cell? ⟨b', p2, none⟩ = some y2 := by
 obtain ⟨h, _⟩ := bcell hB
 exact ⟨hB, by rw [h _ _ hb]; exact c0, by rw [h _ _ hb]; exact c1, by rw [h _ _ hb]; exact c2, by rw [h _ _ hb']; exact d0, by rw [h _ _ hb']; exact d1, by rw [h _ _ hb']; exact d2⟩
set_option maxRecDepth 10000 in
set_option maxHeartbeats 400000 in
theorem eqParts (a a' : Option Addr) (cap cap' : Nat) (ps : List Pt) (w : World) (hc : Parts w a ps) (hc' : Parts w a' ps) :
    Calls Tryz.prog 71 #[.slice a ps.length cap, .slice a' ps.length cap'] w fun e w' => e = .returned (.bool true) ∧ Below w.heap.size w w' := by
  have HC : Hid (Parts w a ps) := hc
  have HC' : Hid (Parts w a' ps) := hc'
  have hl := hc.1
  clear hc hc'
  go_enter Tryz.func71, Tryz.ntmps71
  go_wp2
  go_loopw [5] (fun i wr => ∃ k : Nat, k ≤ ps.length ∧ i = .int .i64 k ∧ Below w.heap.size w wr) (fun i _ => ps.length - (intOf i).toNat)
  case atStart => exact ⟨0, Nat.zero_le _, rfl, Below.refl _ _⟩
  case round =>
    obtain ⟨k, hk, rfl, hbel⟩ := hrel
    by_cases hlt : k < ps.length
    · obtain ⟨_, _, h1⟩ := HC.out
      obtain ⟨_, _, h2⟩ := HC'.out
      obtain ⟨b, o, rfl, hb, hcs⟩ := h1 (by omega)
      obtain ⟨b', o', rfl, hb', hcs'⟩ := h2 (by omega)
      obtain ⟨c0, c1, c2⟩ := hcs k hlt
      obtain ⟨d0, d1, d2⟩ := hcs' k hlt
      rw [← hbel.cell (p := ⟨b, _, none⟩) hb] at c0 c1 c2
      rw [← hbel.cell (p := ⟨b', _, none⟩) hb'] at d0 d1 d2
      generalize ps.getD k pt0 = p at c0 c1 c2 d0 d1 d2
      obtain ⟨x, n, t⟩ := p
      have HB : Hid (Below w.heap.size w wr) := hbel
      clear hcs hcs' h1 h2 HC HC' hbel
      go_wp2_with fail
      have hbr : b < wr.heap.size := Nat.lt_of_lt_of_le hb HB.out.size
      have hbr' : b' < wr.heap.size := Nat.lt_of_lt_of_le hb' HB.out.size
      have hB0 : Below wr.heap.size wr wr.drew := (Below.refl _ _).drew
      go_region_held3 (fun w' => Below wr.heap.size wr w' ∧ w'.cell? ⟨b, o + k * 3, none⟩ = some (.int .i64 x) ∧ w'.cell? ⟨b, o + k * 3 + 1, none⟩ = some (.int .i64 n) ∧ w'.cell? ⟨b, o + k * 3 + 2, none⟩ = some (.string t) ∧ w'.cell? ⟨b', o' + k * 3, none⟩ = some (.int .i64 x) ∧ w'.cell? ⟨b', o' + k * 3 + 1, none⟩ = some (.int .i64 n) ∧ w'.cell? ⟨b', o' + k * 3 + 2, none⟩ = some (.string t))
        (first | exact held6 hbr hbr' c0 c1 c2 d0 d1 d2 (by assumption))
        (first | (go_at_call 102
                  have hp := ‹Below wr.heap.size wr _ ∧ _›.1
                  refine (eqPart x n t _).mono ?_
                  rintro e w' ⟨rfl, hB⟩
                  have hBn := hp.trans (hB.mono hp.size)))
      go_wp2
      refine ⟨⟨k + 1, by omega, by go_num, HB.out.trans (hBn.mono HB.out.size)⟩, by simp [intOf]; omega⟩
    · go_wp2
      go_ret
      exact ⟨rfl, hbel⟩
def Rows3 (w : World) (g n k : Nat) (ps : List Pt) : Prop :=
 ∃ cs : Array Value, w.heap[g]? = some (.cells cs 108 (0, 0)) ∧ cs.size = n * 3 ∧ ∀ i, i < k → cs[i * 3]? = some (.int .i64 (ps.getD i pt0).1) ∧ cs[i * 3 + 1]? = some (.int .i64 (ps.getD i pt0).2.1) ∧ cs[i * 3 + 2]? = some (.string (ps.getD i pt0).2.2)
theorem Rows3.lt {w : World} {g n k : Nat} {ps : List Pt} (h : Rows3 w g n k ps) : g < w.heap.size := by
 obtain ⟨cs, hg, _⟩ := h
 exact (Array.getElem?_eq_some_iff.1 hg).1
theorem Rows3.room {w : World} {g n k : Nat} {ps : List Pt} (h : Rows3 w g n k ps) {j : Nat} (hj : j < n * 3) : (∃ v, w.cell? ⟨g, j, none⟩ = some v) ∧ w.frozen? ⟨g, j, none⟩ = false := by
 obtain ⟨cs, hg, hs, _⟩ := h
 refine ⟨⟨cs[j]'(by omega), ?_⟩, by simp [World.frozen?, hg]⟩
 simp [World.cell?, hg, show j < cs.size by omega]
theorem Rows3.on {w w' : World} {g n k : Nat} {ps : List Pt} (h : Rows3 w g n k ps) (hB : Below w.heap.size w w') : Rows3 w' g n k ps := by
 have hl := h.lt
 obtain ⟨cs, hg, hs, hc⟩ := h
 exact ⟨cs, by rw [hB.block g hl]; exact hg, hs, hc⟩
theorem blk_set (w : World) (g o : Nat) (v : Value) (cs : Array Value) (T : TypeId) (h : w.heap[g]? = some (.cells cs T (0, 0))) : (w.setCell ⟨g, o, none⟩ v).heap[g]? = some (.cells (cs.setIfInBounds o v) T (0, 0)) := by
 simp [World.setCell, Array.getElem?_modify, h]
theorem Rows3.put {w : World} {g n k : Nat} {ps : List Pt} (h : Rows3 w g n k ps) (hk : k < n) :
  Rows3 (((w.setCell ⟨g, k * 3, none⟩ (.int .i64 (ps.getD k pt0).1)).setCell ⟨g, k * 3 + 1, none⟩ (.int .i64 (ps.getD k pt0).2.1)).setCell ⟨g, k * 3 + 2, none⟩ (.string (ps.getD k pt0).2.2)) g n (k + 1) ps := by
 obtain ⟨cs, hg, hs, hc⟩ := h
 refine ⟨_, blk_set _ _ _ _ _ _ (blk_set _ _ _ _ _ _ (blk_set _ _ _ _ _ _ hg)), by simpa using hs, fun i hi => ?_⟩
 simp only [Array.getElem?_setIfInBounds, Array.size_setIfInBounds]
 by_cases he : i = k
 ·subst he
  refine ⟨?_, ?_, ?_⟩
  ·rw [if_neg (by omega), if_neg (by omega), if_pos rfl, if_pos (by omega)]
  ·rw [if_neg (by omega), if_pos rfl, if_pos (by omega)]
  ·rw [if_pos rfl, if_pos (by omega)]
 ·obtain ⟨c0, c1, c2⟩ := hc i (by omega)
  refine ⟨?_, ?_, ?_⟩
  ·rw [if_neg (by omega), if_neg (by omega), if_neg (by omega)]; exact c0
  ·rw [if_neg (by omega), if_neg (by omega), if_neg (by omega)]; exact c1
  ·rw [if_neg (by omega), if_neg (by omega), if_neg (by omega)]; exact c2
theorem Rows3.parts {w : World} {g : Nat} {ps : List Pt} (h : Rows3 w g ps.length ps.length ps) (hl : ps.length ≤ 1048576) (hf : ∀ i, i < ps.length → Fit (ps.getD i pt0)) : Parts w (some ⟨g, 0, none⟩) ps := by
 refine ⟨hl, hf, fun _ => ⟨g, 0, rfl, h.lt, fun i hi => ?_⟩⟩
 obtain ⟨cs, hg, hs, hc⟩ := h
 obtain ⟨c0, c1, c2⟩ := hc i hi
 simp only [World.cell?, hg, Nat.zero_add]
 simp [c0, c1, c2]
theorem Tryz.infoP : (Tryz.prog.info? 108).map (fun i => (i.zero, i.size, i.bytes)) = some (some (.agg #[.int .i64 0, .int .i64 0, .string ByteArray.empty]), 3, 32) := by kernel_rfl
def bulk : List Pt → Nat
 | [] => 0
 | p :: r => p.2.2.size + bulk r
theorem bulk_take (ps : List Pt) (k : Nat) (h : k < ps.length) : bulk (ps.take (k + 1)) = bulk (ps.take k) + (ps.getD k pt0).2.2.size := by
 induction ps generalizing k with
 | nil => simp at h
 | cons p r ih =>
  cases k with
  | zero => simp [bulk]
  | succ k => simp only [List.take_succ_cons, bulk, List.getD_cons_succ, ih k (by simpa using h)]; omega
theorem bulk_le (ps : List Pt) (k : Nat) : bulk (ps.take k) ≤ bulk ps := by
 induction ps generalizing k with
 | nil => simp [bulk]
 | cons p r ih => cases k with
  | zero => simp [bulk]
  | succ k => simp only [List.take_succ_cons, bulk]; have := ih k; omega
def Raw (w : World) (a : Option Addr) (ps : List Pt) : Prop :=
 ps.length ≤ maxLen ∧ (∀ i, i < ps.length → (-9223372036854775808 ≤ (ps.getD i pt0).1 ∧ (ps.getD i pt0).1 ≤ 9223372036854775807) ∧ (-9223372036854775808 ≤ (ps.getD i pt0).2.1 ∧ (ps.getD i pt0).2.1 ≤ 9223372036854775807) ∧ (ps.getD i pt0).2.2.size ≤ maxLen) ∧ (0 < ps.length → ∃ b o, a = some ⟨b, o, none⟩ ∧ b < w.heap.size ∧ ∀ i, i < ps.length →
  w.cell? ⟨b, o + i * 3, none⟩ = some (.int .i64 (ps.getD i pt0).1) ∧ w.cell? ⟨b, o + i * 3 + 1, none⟩ = some (.int .i64 (ps.getD i pt0).2.1) ∧ w.cell? ⟨b, o + i * 3 + 2, none⟩ = some (.string (ps.getD i pt0).2.2))
theorem bulk_one (ps : List Pt) (k : Nat) (h : k < ps.length) : (ps.getD k pt0).2.2.size ≤ bulk ps := by
 have h1 := bulk_take ps k h
 have h2 := bulk_le ps (k + 1)
 omega
theorem Raw.parts {w : World} {a : Option Addr} {ps : List Pt} (h : Raw w a ps) (hl : ps.length + bulk ps ≤ 1048576) : Parts w a ps :=
 ⟨by omega, fun i hi => ⟨(h.2.1 i hi).1, (h.2.1 i hi).2.1, by have := bulk_one ps i hi; omega⟩, h.2.2⟩
open Go.RowKit
set_option maxHeartbeats 400000 in
theorem toPart (k n : Int) (t : ByteArray) (w : World) :
  Calls Tryz.prog 88 #[.agg #[.int .i64 k, .int .i64 n, .string t]] w fun e w' => e = .returned (.agg #[.int .i64 k, .int .i64 n, .string t]) ∧ Below w.heap.size w w' := by
 go_enter Tryz.func88, Tryz.ntmps88
 go_wp2
 refine bodyPost_ret (v := .agg #[.int .i64 k, .int .i64 n, .string t]) (by simp [results, Tryz.results88, go_sem]) rfl ⟨rfl, ?_⟩
 go_grown
set_option maxHeartbeats 400000 in
theorem szPart_yes (k n : Int) (t : ByteArray) (z : Int) (hz : z ≤ 1048576) (h : ¬ z < t.size) (w : World) :
  Calls Tryz.prog 78 #[.agg #[.int .i64 k, .int .i64 n, .string t], .int .i64 z] w fun e w' => e = .returned (.int .i64 (z - t.size)) ∧ Below w.heap.size w w' := by
 go_enter Tryz.func78, Tryz.ntmps78
 go_wp2
 go_ret
 exact ⟨rfl, by go_grown⟩
set_option maxHeartbeats 400000 in
theorem szPart_no (k n : Int) (t : ByteArray) (z : Int) (h0 : 0 ≤ z) (hz : z ≤ 1048576) (h : z < t.size) (ht : t.size ≤ maxLen) (w : World) :
  Calls Tryz.prog 78 #[.agg #[.int .i64 k, .int .i64 n, .string t], .int .i64 z] w fun e w' => e = .returned (.int .i64 (-1)) ∧ Below w.heap.size w w' := by
 unfold maxLen at ht
 go_enter Tryz.func78, Tryz.ntmps78
 go_wp2
 go_ret
 exact ⟨rfl, by go_grown⟩
set_option maxRecDepth 10000 in
set_option maxHeartbeats 800000 in
theorem toPartsR (a : Option Addr) (cap : Nat) (ps : List Pt) (w : World) (hc : Parts w a ps) :
  Calls Tryz.prog 61 #[.slice a ps.length cap] w fun e w' => e = .returned (.slice (some ⟨w.heap.size, 0, none⟩) ps.length ps.length) ∧ Parts w' (some ⟨w.heap.size, 0, none⟩) ps ∧ Below w.heap.size w w' ∧ Rows3 w' w.heap.size ps.length ps.length ps := by
 obtain ⟨i0, hi, hz0, hz1, hz2⟩ := info_parts Tryz.infoP
 have HC : Hid (Parts w a ps) := hc
 have hl := hc.1
 clear hc
 go_enter Tryz.func61, Tryz.ntmps61
 go_wp2_with (first | (at_make; refine wpList_make_full _ rfl _ _ 55 rfl w.heap.size 108 i0 (.agg #[.int .i64 0, .int .i64 0, .string ByteArray.empty]) 3 Tryz.underlying55 hi hz0 hz1 _ _ _ _ ps.length rfl rfl rfl rfl ?m1 ?m2 ?m3 ?_))
 case m1 => rw [hz2]; omega
 case m2 => unfold maxLen; omega
 case m3 => exact Nat.le_refl _
 intro w1 hown hgrow
 have hrow : Rows3 w1 w.heap.size ps.length 0 ps := by
  obtain ⟨_, hv⟩ := hown
  rcases hv with ⟨h0, _⟩ | ⟨g, cap, cu, h0, _, hg, _, _, hs, ht⟩
  ·cases h0
  ·cases h0
   exact ⟨cu, hg, hs, fun i hi => absurd hi (Nat.not_lt_zero _)⟩
 have hB1 : Below w.heap.size w w1 := (Below.refl _ _).grown hgrow (Nat.le_refl _) (fun k hk => by cases hk)
 clear hown hgrow
 go_wp2
 go_loopw [4] (fun i wr => ∃ k : Nat, k ≤ ps.length ∧ i = .int .i64 k ∧ Hid (Rows3 wr w.heap.size ps.length k ps) ∧ Below w.heap.size w wr) (fun i _ => ps.length - (intOf i).toNat)
 case atStart => exact ⟨0, Nat.zero_le _, rfl, hrow, hB1⟩
 case round =>
  obtain ⟨k, hk, rfl, hrow, hbel⟩ := hrel
  clear hB1
  by_cases hlt : k < ps.length
  ·obtain ⟨_, _, h1⟩ := HC.out
   obtain ⟨b, o, rfl, hb, hcs⟩ := h1 (by omega)
   obtain ⟨c0, c1, c2⟩ := hcs k hlt
   rw [← hbel.cell (p := ⟨b, _, none⟩) hb] at c0 c1 c2
   have HP : Hid (∀ W, Rows3 W w.heap.size ps.length k ps → Rows3 (((W.setCell ⟨w.heap.size, k * 3, none⟩ (.int .i64 (ps.getD k pt0).1)).setCell ⟨w.heap.size, k * 3 + 1, none⟩ (.int .i64 (ps.getD k pt0).2.1)).setCell ⟨w.heap.size, k * 3 + 2, none⟩ (.string (ps.getD k pt0).2.2)) w.heap.size ps.length (k + 1) ps) := fun W h => h.put hlt
   generalize ps.getD k pt0 = p at c0 c1 c2 HP
   obtain ⟨x, n, t⟩ := p
   have HB : Hid (Below w.heap.size w wr) := hbel
   clear hcs h1 hbel
   go_wp2_with fail
   refine (toPart x n t wr).mono ?_
   rintro e w2 ⟨rfl, hB2⟩
   have HR2 := hid (hrow.out.on hB2)
   have HB2 : Hid (Below w.heap.size w w2) := HB.out.trans (hB2.mono HB.out.size)
   obtain ⟨⟨v0, r0⟩, f0⟩ := HR2.out.room (j := k * 3) (by omega)
   obtain ⟨⟨v1, r1⟩, f1⟩ := HR2.out.room (j := k * 3 + 1) (by omega)
   obtain ⟨⟨v2, r2⟩, f2⟩ := HR2.out.room (j := k * 3 + 2) (by omega)
   clear c0 c1 c2 HC hrow hB2 HB
   go_wp2
   refine ⟨⟨k + 1, by omega, by go_num, HP.out _ HR2.out, ?_⟩, by simp [intOf]; omega⟩
   exact ((HB2.out.setCell (Nat.le_refl _) _).setCell (Nat.le_refl _) _).setCell (Nat.le_refl _) _
  ·go_wp2
   go_ret
   obtain rfl : k = ps.length := by omega
   exact ⟨rfl, hrow.out.parts hl HC.out.2.1, hbel, hrow.out⟩
end Go.Proofs.YtmbhmknfipdadaaGreatDoor.PrtW
namespace Go.Proofs.YtmbhmknfipdadaaGreatDoor.ItmW
open Go.RowKit
open PrtW
theorem blk_other {w : World} {g : Nat} {x : Obj} (h : w.heap[g]? = some x) {p : Addr} (hp : p.block ≠ g) (v : Value) : (w.setCell p v).heap[g]? = some x := by
 rw [Below.heap_setCell _ _ _ _ (fun e => hp e.symm)]; exact h
theorem blk_lt {w : World} {g : Nat} {x : Obj} (h : w.heap[g]? = some x) : g < w.heap.size := (Array.getElem?_eq_some_iff.1 h).1
abbrev It := Int × ByteArray × Int × Int × Int × ByteArray × List Pt × Bool
abbrev ik (p : It) : Int := p.1
abbrev inm (p : It) : ByteArray := p.2.1
abbrev ity (p : It) : Int := p.2.2.1
abbrev ilo (p : It) : Int := p.2.2.2.1
abbrev ihi (p : It) : Int := p.2.2.2.2.1
abbrev itx (p : It) : ByteArray := p.2.2.2.2.2.1
abbrev iex (p : It) : List Pt := p.2.2.2.2.2.2.1
abbrev ihd (p : It) : Bool := p.2.2.2.2.2.2.2
def it0 : It := (0, ByteArray.empty, 0, 0, 0, ByteArray.empty, [], false)
def FitI (p : It) : Prop := (inm p).size ≤ 1048576 ∧ (itx p).size ≤ 1048576
abbrev itv (p : It) (a : Option Addr) (cap : Nat) : Value := .agg #[.int .i64 (ik p), .string (inm p), .int .i64 (ity p), .int .i64 (ilo p), .int .i64 (ihi p), .string (itx p), .slice a (iex p).length cap, .bool (ihd p)]
def Eight (w : World) (b o : Nat) (p : It) (a : Option Addr) (cap : Nat) : Prop :=
 w.cell? ⟨b, o, none⟩ = some (.int .i64 (ik p)) ∧ w.cell? ⟨b, o + 1, none⟩ = some (.string (inm p)) ∧ w.cell? ⟨b, o + 2, none⟩ = some (.int .i64 (ity p)) ∧ w.cell? ⟨b, o + 3, none⟩ = some (.int .i64 (ilo p)) ∧ w.cell? ⟨b, o + 4, none⟩ = some (.int .i64 (ihi p)) ∧ w.cell? ⟨b, o + 5, none⟩ = some (.string (itx p)) ∧ w.cell? ⟨b, o + 6, none⟩ = some (.slice a (iex p).length cap) ∧ w.cell? ⟨b, o + 7, none⟩ = some (.bool (ihd p))
theorem Eight.on {w w' : World} {b o B : Nat} {p : It} {a : Option Addr} {cap : Nat} (h : Eight w b o p a cap) (hb : b < B) (hB : Below B w w') : Eight w' b o p a cap := by
 obtain ⟨h0, h1, h2, h3, h4, h5, h6, h7⟩ := h
 exact ⟨by rw [hB.cell (p := ⟨b, _, none⟩) hb]; exact h0, by rw [hB.cell (p := ⟨b, _, none⟩) hb]; exact h1, by rw [hB.cell (p := ⟨b, _, none⟩) hb]; exact h2, by rw [hB.cell (p := ⟨b, _, none⟩) hb]; exact h3, by rw [hB.cell (p := ⟨b, _, none⟩) hb]; exact h4, by rw [hB.cell (p := ⟨b, _, none⟩) hb]; exact h5, by rw [hB.cell (p := ⟨b, _, none⟩) hb]; exact h6, by rw [hB.cell (p := ⟨b, _, none⟩) hb]; exact h7⟩
def Its (w : World) (a : Option Addr) (ls : List It) : Prop :=
 ls.length ≤ 1048576 ∧ (∀ i, i < ls.length → FitI (ls.getD i it0)) ∧ (0 < ls.length → ∃ b o, a = some ⟨b, o, none⟩ ∧ b < w.heap.size ∧ ∀ i, i < ls.length → ∃ ai cap, Eight w b (o + i * 8) (ls.getD i it0) ai cap ∧ Parts w ai (iex (ls.getD i it0)) ∧ (iex (ls.getD i it0)).length ≤ cap ∧ (ai = none → cap = 0))
theorem Its.on {w w' : World} {a : Option Addr} {ls : List It} (h : Its w a ls) (hB : Below w.heap.size w w') : Its w' a ls := by
 refine ⟨h.1, h.2.1, fun hp => ?_⟩
 obtain ⟨b, o, ha, hb, hc⟩ := h.2.2 hp
 refine ⟨b, o, ha, Nat.lt_of_lt_of_le hb hB.size, fun i hi => ?_⟩
 obtain ⟨ai, cap, h1, h2, h3⟩ := hc i hi
 exact ⟨ai, cap, h1.on hb hB, h2.on hB, h3⟩
theorem Its.alloc {w : World} {a : Option Addr} {ls : List It} (h : Its w a ls) (o : Obj) : Its (w.alloc o) a ls := h.on ((Below.refl _ _).alloc (Nat.le_refl _) o)
theorem Its.nil (w : World) (a : Option Addr) : Its w a [] := ⟨Nat.zero_le _, fun _ h => absurd h (Nat.not_lt_zero _), fun h => absurd h (Nat.lt_irrefl _)⟩
theorem Its.at {w wr : World} {a : Option Addr} {ls : List It} (h : Its w a ls) (hB : Below w.heap.size w wr) {k : Nat} (hk : k < ls.length) :
  FitI (ls.getD k it0) ∧ ∃ b o ai cap, a = some ⟨b, o, none⟩ ∧ b < w.heap.size ∧ Eight wr b (o + k * 8) (ls.getD k it0) ai cap ∧ Parts wr ai (iex (ls.getD k it0)) ∧ (iex (ls.getD k it0)).length ≤ cap ∧ (ai = none → cap = 0) := by
 obtain ⟨b, o, ha, hb, hc⟩ := h.2.2 (by omega)
 obtain ⟨ai, cap, h1, h2, h3, h4⟩ := hc k hk
 exact ⟨h.2.1 k hk, b, o, ai, cap, ha, hb, h1.on hb hB, h2.on hB, h3, h4⟩
def wtI (p : It) : Nat := (inm p).size + (itx p).size + ((iex p).length + bulk (iex p))
def bulkI : List It → Nat
 | [] => 0
 | p :: r => wtI p + bulkI r
theorem bulkI_take (ls : List It) (k : Nat) (h : k < ls.length) : bulkI (ls.take (k + 1)) = bulkI (ls.take k) + wtI (ls.getD k it0) := by
 induction ls generalizing k with
 | nil => simp at h
 | cons p r ih =>
  cases k with
  | zero => simp [bulkI]
  | succ k => simp only [List.take_succ_cons, bulkI, List.getD_cons_succ, ih k (by simpa using h)]; omega
theorem bulkI_le (ls : List It) (k : Nat) : bulkI (ls.take k) ≤ bulkI ls := by
 induction ls generalizing k with
 | nil => simp [bulkI]
 | cons p r ih => cases k with
  | zero => simp [bulkI]
  | succ k => simp only [List.take_succ_cons, bulkI]; have := ih k; omega
theorem bulkI_one (ls : List It) (k : Nat) (h : k < ls.length) : wtI (ls.getD k it0) ≤ bulkI ls := by
 have h1 := bulkI_take ls k h
 have h2 := bulkI_le ls (k + 1)
 omega
def RawI (w : World) (a : Option Addr) (ls : List It) : Prop :=
 ls.length ≤ maxLen ∧ (∀ i, i < ls.length → (inm (ls.getD i it0)).size ≤ maxLen ∧ (itx (ls.getD i it0)).size ≤ maxLen) ∧ (0 < ls.length → ∃ b o, a = some ⟨b, o, none⟩ ∧ b < w.heap.size ∧ ∀ i, i < ls.length → ∃ ai cap, Eight w b (o + i * 8) (ls.getD i it0) ai cap ∧ Raw w ai (iex (ls.getD i it0)) ∧ (iex (ls.getD i it0)).length ≤ cap ∧ (ai = none → cap = 0))
theorem RawI.its {w : World} {a : Option Addr} {ls : List It} (h : RawI w a ls) (hl : ls.length + bulkI ls ≤ 1048576) : Its w a ls := by
 refine ⟨by omega, fun i hi => ?_, fun hp => ?_⟩
 ·have := bulkI_one ls i hi
  unfold wtI at this
  exact ⟨by omega, by omega⟩
 ·obtain ⟨b, o, ha, hb, hc⟩ := h.2.2 hp
  refine ⟨b, o, ha, hb, fun i hi => ?_⟩
  obtain ⟨ai, cap, h1, h2, h3⟩ := hc i hi
  have := bulkI_one ls i hi
  unfold wtI at this
  exact ⟨ai, cap, h1, h2.parts (by omega), h3⟩
theorem raw_on {w w' : World} {a : Option Addr} {ps : List Pt} (h : Raw w a ps) (hB : Below w.heap.size w w') : Raw w' a ps := by
 refine ⟨h.1, h.2.1, fun hp => ?_⟩
 obtain ⟨b, o, ha, hb, hc⟩ := h.2.2 hp
 refine ⟨b, o, ha, Nat.lt_of_lt_of_le hb hB.size, fun i hi => ?_⟩
 obtain ⟨c0, c1, c2⟩ := hc i hi
 exact ⟨by rw [hB.cell (p := ⟨b, _, none⟩) hb]; exact c0, by rw [hB.cell (p := ⟨b, _, none⟩) hb]; exact c1, by rw [hB.cell (p := ⟨b, _, none⟩) hb]; exact c2⟩
theorem Tryz.infoI : (Tryz.prog.info? 57).map (fun i => (i.zero, i.size, i.bytes)) = some (some (.agg #[.int .i64 0, .string ByteArray.empty, .int .i64 0, .int .i64 0, .int .i64 0, .string ByteArray.empty, .slice none 0 0, .bool false]), 8, 96) := by kernel_rfl
def RowsI (w : World) (g n k : Nat) (ls : List It) : Prop :=
 ∃ cs : Array Value, w.heap[g]? = some (.cells cs 57 (0, 0)) ∧ cs.size = n * 8 ∧ ∀ i, i < k → ∃ g', g < g' ∧ Rows3 w g' (iex (ls.getD i it0)).length (iex (ls.getD i it0)).length (iex (ls.getD i it0)) ∧
  cs[i * 8]? = some (.int .i64 (ik (ls.getD i it0))) ∧ cs[i * 8 + 1]? = some (.string (inm (ls.getD i it0))) ∧ cs[i * 8 + 2]? = some (.int .i64 (ity (ls.getD i it0))) ∧ cs[i * 8 + 3]? = some (.int .i64 (ilo (ls.getD i it0))) ∧ cs[i * 8 + 4]? = some (.int .i64 (ihi (ls.getD i it0))) ∧ cs[i * 8 + 5]? = some (.string (itx (ls.getD i it0))) ∧ cs[i * 8 + 6]? = some (.slice (some ⟨g', 0, none⟩) (iex (ls.getD i it0)).length (iex (ls.getD i it0)).length) ∧ cs[i * 8 + 7]? = some (.bool (ihd (ls.getD i it0)))
theorem RowsI.lt {w : World} {g n k : Nat} {ls : List It} (h : RowsI w g n k ls) : g < w.heap.size := by
 obtain ⟨cs, hg, _⟩ := h
 exact blk_lt hg
theorem RowsI.room {w : World} {g n k : Nat} {ls : List It} (h : RowsI w g n k ls) {j : Nat} (hj : j < n * 8) : (∃ v, w.cell? ⟨g, j, none⟩ = some v) ∧ w.frozen? ⟨g, j, none⟩ = false := by
 obtain ⟨cs, hg, hs, _⟩ := h
 refine ⟨⟨cs[j]'(by omega), ?_⟩, by simp [World.frozen?, hg]⟩
 simp [World.cell?, hg, show j < cs.size by omega]
theorem RowsI.on {w w' : World} {g n k : Nat} {ls : List It} (h : RowsI w g n k ls) (hB : Below w.heap.size w w') : RowsI w' g n k ls := by
 have hl := h.lt
 obtain ⟨cs, hg, hs, hc⟩ := h
 refine ⟨cs, by rw [hB.block g hl]; exact hg, hs, fun i hi => ?_⟩
 obtain ⟨g', h1, h2, h3⟩ := hc i hi
 exact ⟨g', h1, h2.on hB, h3⟩
theorem rows3_other {w : World} {g n k : Nat} {ps : List Pt} (h : Rows3 w g n k ps) {p : Addr} (hp : p.block ≠ g) (v : Value) : Rows3 (w.setCell p v) g n k ps := by
 obtain ⟨cs, hg, hs⟩ := h
 exact ⟨cs, blk_other hg hp v, hs⟩
def put8 (W : World) (g o : Nat) (v0 v1 v2 v3 v4 v5 v6 v7 : Value) : World := (((((((W.setCell ⟨g, o, none⟩ v0).setCell ⟨g, o + 1, none⟩ v1).setCell ⟨g, o + 2, none⟩ v2).setCell ⟨g, o + 3, none⟩ v3).setCell ⟨g, o + 4, none⟩ v4).setCell ⟨g, o + 5, none⟩ v5).setCell ⟨g, o + 6, none⟩ v6).setCell ⟨g, o + 7, none⟩ v7
theorem RowsI.put {w : World} {g n k g1 : Nat} {ls : List It} (h : RowsI w g n k ls) (hk : k < n) (hg1 : g < g1) (hr : Rows3 w g1 (iex (ls.getD k it0)).length (iex (ls.getD k it0)).length (iex (ls.getD k it0))) :
  RowsI (put8 w g (k * 8) (.int .i64 (ik (ls.getD k it0))) (.string (inm (ls.getD k it0))) (.int .i64 (ity (ls.getD k it0))) (.int .i64 (ilo (ls.getD k it0))) (.int .i64 (ihi (ls.getD k it0))) (.string (itx (ls.getD k it0))) (.slice (some ⟨g1, 0, none⟩) (iex (ls.getD k it0)).length (iex (ls.getD k it0)).length) (.bool (ihd (ls.getD k it0)))) g n (k + 1) ls := by
 obtain ⟨cs, hg, hs, hc⟩ := h
 unfold put8
 refine ⟨_, blk_set _ _ _ _ _ _ (blk_set _ _ _ _ _ _ (blk_set _ _ _ _ _ _ (blk_set _ _ _ _ _ _ (blk_set _ _ _ _ _ _ (blk_set _ _ _ _ _ _ (blk_set _ _ _ _ _ _ (blk_set _ _ _ _ _ _ hg))))))), by simpa using hs, fun i hi => ?_⟩
 simp only [Array.getElem?_setIfInBounds, Array.size_setIfInBounds]
 by_cases he : i = k
 ·subst he
  refine ⟨g1, hg1, ?_, ?_, ?_, ?_, ?_, ?_, ?_, ?_, ?_⟩
  ·repeat (refine rows3_other ?_ (by simp only; omega) _)
   exact hr
  ·rw [if_neg (by omega), if_neg (by omega), if_neg (by omega), if_neg (by omega), if_neg (by omega), if_neg (by omega), if_neg (by omega), if_pos rfl, if_pos (by omega)]
  ·rw [if_neg (by omega), if_neg (by omega), if_neg (by omega), if_neg (by omega), if_neg (by omega), if_neg (by omega), if_pos rfl, if_pos (by omega)]
  ·rw [if_neg (by omega), if_neg (by omega), if_neg (by omega), if_neg (by omega), if_neg (by omega), if_pos rfl, if_pos (by omega)]
  ·rw [if_neg (by omega), if_neg (by omega), if_neg (by omega), if_neg (by omega), if_pos rfl, if_pos (by omega)]
  ·rw [if_neg (by omega), if_neg (by omega), if_neg (by omega), if_pos rfl, if_pos (by omega)]
  ·rw [if_neg (by omega), if_neg (by omega), if_pos rfl, if_pos (by omega)]
  ·rw [if_neg (by omega), if_pos rfl, if_pos (by omega)]
  ·rw [if_pos rfl, if_pos (by omega)]
 ·obtain ⟨g', h1, h2, c0, c1, c2, c3, c4, c5, c6, c7⟩ := hc i (by omega)
  refine ⟨g', h1, ?_, ?_, ?_, ?_, ?_, ?_, ?_, ?_, ?_⟩
  ·repeat (refine rows3_other ?_ (by simp only; omega) _)
   exact h2
  all_goals
   rw [if_neg (by omega), if_neg (by omega), if_neg (by omega), if_neg (by omega), if_neg (by omega), if_neg (by omega), if_neg (by omega), if_neg (by omega)]
   assumption
theorem RowsI.its {w : World} {g : Nat} {ls : List It} (h : RowsI w g ls.length ls.length ls) (hl : ls.length ≤ 1048576) (hf : ∀ i, i < ls.length → FitI (ls.getD i it0)) (hz : ∀ i, i < ls.length → (iex (ls.getD i it0)).length ≤ 1048576 ∧ ∀ j, j < (iex (ls.getD i it0)).length → Fit ((iex (ls.getD i it0)).getD j pt0)) : Its w (some ⟨g, 0, none⟩) ls := by
 refine ⟨hl, hf, fun _ => ⟨g, 0, rfl, h.lt, fun i hi => ?_⟩⟩
 obtain ⟨cs, hg, hs, hc⟩ := h
 obtain ⟨g', h1, h2, c0, c1, c2, c3, c4, c5, c6, c7⟩ := hc i hi
 refine ⟨some ⟨g', 0, none⟩, (iex (ls.getD i it0)).length, ?_, h2.parts (hz i hi).1 (hz i hi).2, Nat.le_refl _, fun h => by cases h⟩
 unfold Eight
 simp only [World.cell?, hg, Nat.zero_add]
 simp [c0, c1, c2, c3, c4, c5, c6, c7]
theorem Its.len {w : World} {a : Option Addr} {ls : List It} (h : Its w a ls) : ∀ i, i < ls.length → (iex (ls.getD i it0)).length ≤ 1048576 ∧ ∀ j, j < (iex (ls.getD i it0)).length → Fit ((iex (ls.getD i it0)).getD j pt0) := fun i hi => by
 obtain ⟨b, o, ha, hb, hc⟩ := h.2.2 (by omega)
 obtain ⟨ai, cap, _, h2, _⟩ := hc i hi
 exact ⟨h2.1, h2.2.1⟩
end Go.Proofs.YtmbhmknfipdadaaGreatDoor.ItmW
namespace Go.Proofs.YtmbhmknfipdadaaGreatDoor.PrtM
open Go.RowKit
open PrtW NameW
def many (x : Int) : Nat := if x = 11 then 1 else if 3 ≤ x ∧ x ≤ 10 then 2 else 0
def manyI (x : Int) : Int := if x = 1 ∨ x = 2 ∨ x = 12 ∨ x = 13 then 0 else if x = 11 then 1 else if 3 ≤ x ∧ x ≤ 10 then 2 else -1
def numB (x : Int) : Bool := decide (1 ≤ x ∧ x ≤ 5)
def wantsB (x : Int) : Bool := decide (3 ≤ x ∧ x ≤ 8)
def inB (n lo hi : Int) : Bool := decide (lo ≤ n ∧ n ≤ hi)
def emptyB (t : ByteArray) : Bool := t.toList.isEmpty
def partB (p : Pt) : Bool :=
 if p.1 = 1 then inB p.2.1 (-1000000) 1000000 && emptyB p.2.2
 else if p.1 = 2 ∨ p.1 = 13 then inB p.2.1 0 0 && nameB p.2.2
 else if p.1 = 12 then inB p.2.1 1 20 && nameB p.2.2
 else inB p.1 3 11 && (inB p.2.1 0 0 && emptyB p.2.2)
def iter (f : List Pt → Option (List Pt)) : Nat → Option (List Pt) → Option (List Pt)
 | 0, s => s
 | _ + 1, none => none
 | n + 1, some l => iter f n (f l)
def behind : Nat → List Pt → Option (List Pt)
 | 0, _ => none
 | _ + 1, [] => none
 | d + 1, p :: r => if partB p = true then iter (fun l => if numB (l.headD pt0).1 = wantsB p.1 then behind d l else none) (many p.1) (some r) else none
def child (d : Nat) (x : Int) (l : List Pt) : Option (List Pt) := if numB (l.headD pt0).1 = wantsB x then behind d l else none
theorem behind_succ (d : Nat) (p : Pt) (r : List Pt) : behind (d + 1) (p :: r) = if partB p = true then iter (child d p.1) (many p.1) (some r) else none := rfl
theorem behind_nil (d : Nat) : behind d [] = none := by cases d <;> rfl
def rightB (ps : List Pt) : Bool := decide (ps.length ≤ 20) && decide (behind 6 ps = some [])
def truthB (ps : List Pt) : Bool := rightB ps && !numB (ps.headD pt0).1
theorem iter_suffix (f : List Pt → Option (List Pt)) (h : ∀ l r, f l = some r → r <:+ l) : ∀ n s r, iter f n s = some r → ∃ l, s = some l ∧ r <:+ l := by
 intro n
 induction n with
 | zero => intro s r h1; exact ⟨r, h1, List.suffix_refl _⟩
 | succ n ih =>
  intro s r h1
  cases s with
  | none => cases h1
  | some l =>
   obtain ⟨l', e, hs⟩ := ih _ _ h1
   exact ⟨l, rfl, hs.trans (h l l' e)⟩
theorem behind_suffix : ∀ d l r, behind d l = some r → r <:+ l ∧ r.length < l.length := by
 intro d
 induction d with
 | zero => intro l r h; cases h
 | succ d ih =>
  intro l r h
  cases l with
  | nil => cases h
  | cons p q =>
   rw [behind_succ] at h
   by_cases hp : partB p = true
   ·rw [if_pos hp] at h
    obtain ⟨l', e, hs⟩ := iter_suffix (child d p.1) (fun l r h1 => by
     unfold child at h1
     by_cases hw : numB (l.headD pt0).1 = wantsB p.1
     ·rw [if_pos hw] at h1; exact (ih _ _ h1).1
     ·rw [if_neg hw] at h1; cases h1) _ _ _ h
    cases e
    have := hs.length_le
    exact ⟨hs.trans (List.suffix_cons _ _), by simp; omega⟩
   ·rw [if_neg hp] at h; cases h
theorem iter_none (f : List Pt → Option (List Pt)) (n : Nat) : iter f n none = none := by cases n <;> rfl
theorem suffix_drop {l r : List Pt} (h : r <:+ l) : l.drop (l.length - r.length) = r := by
 obtain ⟨t, rfl⟩ := h
 simp
end Go.Proofs.YtmbhmknfipdadaaGreatDoor.PrtM
namespace Go.Proofs.YtmbhmknfipdadaaGreatDoor.PrtS
open Go.RowKit
open PrtW PrtM NameW
theorem inB_t {n lo hi : Int} (h : lo ≤ n ∧ n ≤ hi) : inB n lo hi = true := by unfold inB; rw [decide_eq_true_iff]; exact h
theorem inB_f {n lo hi : Int} (h : ¬ (lo ≤ n ∧ n ≤ hi)) : inB n lo hi = false := by unfold inB; rw [decide_eq_false_iff_not]; exact h
set_option maxHeartbeats 400000 in
theorem is_any (n lo hi : Int) (w : World) :
  Calls Tryz.prog 60 #[.int .i64 n, .int .i64 lo, .int .i64 hi] w fun e w' => e = .returned (.bool (inB n lo hi)) ∧ w' = w := by
 by_cases h : lo ≤ n
 ·by_cases h2 : n ≤ hi
  ·rw [inB_t ⟨h, h2⟩]
   go_enter Tryz.func60, Tryz.ntmps60
   go_wp2
   go_ret
   exact ⟨rfl, rfl⟩
  ·rw [inB_f (by omega)]
   go_enter Tryz.func60, Tryz.ntmps60
   go_wp2
   go_ret
   exact ⟨rfl, rfl⟩
 ·rw [inB_f (by omega)]
  go_enter Tryz.func60, Tryz.ntmps60
  go_wp2
  go_ret
  exact ⟨rfl, rfl⟩
set_option maxHeartbeats 400000 in
theorem spec_number (x : Int) (w : World) : Calls Tryz.prog 130 #[.int .i64 x] w fun e w' => e = .returned (.bool (numB x)) ∧ w' = w := by
 unfold numB
 by_cases h1 : 1 ≤ x
 ·by_cases h2 : x ≤ 5
  ·rw [decide_eq_true ⟨h1, h2⟩]
   go_enter Tryz.func130, Tryz.ntmps130
   go_wp2
   go_ret
   exact ⟨rfl, rfl⟩
  ·rw [decide_eq_false (fun h => h2 h.2)]
   go_enter Tryz.func130, Tryz.ntmps130
   go_wp2
   go_ret
   exact ⟨rfl, rfl⟩
 ·rw [decide_eq_false (fun h => h1 h.1)]
  go_enter Tryz.func130, Tryz.ntmps130
  go_wp2
  go_ret
  exact ⟨rfl, rfl⟩
set_option maxHeartbeats 400000 in
theorem spec_wants (x : Int) (w : World) : Calls Tryz.prog 169 #[.int .i64 x] w fun e w' => e = .returned (.bool (wantsB x)) ∧ w' = w := by
 unfold wantsB
 by_cases h1 : 3 ≤ x
 ·by_cases h2 : x ≤ 8
  ·rw [decide_eq_true ⟨h1, h2⟩]
   go_enter Tryz.func169, Tryz.ntmps169
   go_wp2
   go_ret
   exact ⟨rfl, rfl⟩
  ·rw [decide_eq_false (fun h => h2 h.2)]
   go_enter Tryz.func169, Tryz.ntmps169
   go_wp2
   go_ret
   exact ⟨rfl, rfl⟩
 ·rw [decide_eq_false (fun h => h1 h.1)]
  go_enter Tryz.func169, Tryz.ntmps169
  go_wp2
  go_ret
  exact ⟨rfl, rfl⟩
set_option maxHeartbeats 800000 in
theorem spec_many (x : Int) (w : World) : Calls Tryz.prog 168 #[.int .i64 x] w fun e w' => e = .returned (.int .i64 (manyI x)) ∧ w' = w := by
 rcases (by omega : x = 1 ∨ x = 2 ∨ x = 12 ∨ x = 13 ∨ x = 11 ∨ (x ≠ 1 ∧ x ≠ 2 ∧ x ≠ 12 ∧ x ≠ 13 ∧ x ≠ 11)) with rfl | rfl | rfl | rfl | rfl | ⟨h1, h2, h3, h4, h5⟩
 ·go_enter Tryz.func168, Tryz.ntmps168
  go_wp2; go_ret; exact ⟨rfl, rfl⟩
 ·go_enter Tryz.func168, Tryz.ntmps168
  go_wp2; go_ret; exact ⟨rfl, rfl⟩
 ·go_enter Tryz.func168, Tryz.ntmps168
  go_wp2; go_ret; exact ⟨rfl, rfl⟩
 ·go_enter Tryz.func168, Tryz.ntmps168
  go_wp2; go_ret; exact ⟨rfl, rfl⟩
 ·go_enter Tryz.func168, Tryz.ntmps168
  go_wp2; go_ret; exact ⟨rfl, rfl⟩
 ·have e1 : (x == 1) = false := by simp [h1]
  have e2 : (x == 2) = false := by simp [h2]
  have e3 : (x == 12) = false := by simp [h3]
  have e4 : (x == 13) = false := by simp [h4]
  have e5 : (x == 11) = false := by simp [h5]
  have em : manyI x = if 3 ≤ x ∧ x ≤ 10 then 2 else -1 := by unfold manyI; rw [if_neg (by omega), if_neg (by omega)]
  by_cases h6 : 3 ≤ x
  ·by_cases h7 : x ≤ 10
   ·rw [em, if_pos ⟨h6, h7⟩]
    clear em
    go_enter Tryz.func168, Tryz.ntmps168
    go_wp2; go_ret; exact ⟨rfl, rfl⟩
   ·rw [em, if_neg (by omega)]
    clear em
    go_enter Tryz.func168, Tryz.ntmps168
    go_wp2; go_ret; exact ⟨rfl, rfl⟩
  ·rw [em, if_neg (by omega)]
   clear em
   go_enter Tryz.func168, Tryz.ntmps168
   go_wp2; go_ret; exact ⟨rfl, rfl⟩
set_option maxHeartbeats 1600000 in
theorem spec_part (x n : Int) (t : ByteArray) (ht : t.size ≤ maxLen) (w : World) :
  Calls Tryz.prog 167 #[.agg #[.int .i64 x, .int .i64 n, .string t]] w fun e w' => e = .returned (.bool (partB (x, n, t))) ∧ Below w.heap.size w w' := by
 have HT : Hid (t.size ≤ maxLen) := ht
 clear ht
 rcases (by omega : x = 1 ∨ x = 2 ∨ x = 13 ∨ x = 12 ∨ (x ≠ 1 ∧ x ≠ 2 ∧ x ≠ 12 ∧ x ≠ 13)) with rfl | rfl | rfl | rfl | ⟨h1, h2, h3, h4⟩
 ·have e : partB (1, n, t) = (inB n (-1000000) 1000000 && emptyB t) := rfl
  rw [e]
  clear e
  obtain ⟨r, hr⟩ : ∃ r, Hid (inB n (-1000000) 1000000 = r) := ⟨_, rfl⟩
  rw [hr.out]
  cases r
  ·go_enter Tryz.func167, Tryz.ntmps167
   go_wp2_with (first | (go_at_call 60; refine (is_any _ _ _ _).mono ?_; rintro e w' ⟨rfl, rfl⟩; rw [hr.out]))
   go_ret
   exact ⟨rfl, by go_grown⟩
  ·rw [Bool.true_and]; unfold emptyB
   go_enter Tryz.func167, Tryz.ntmps167
   go_wp2_with (first | (go_at_call 60; refine (is_any _ _ _ _).mono ?_; rintro e w' ⟨rfl, rfl⟩; rw [hr.out]))
   go_ret
   exact ⟨rfl, by go_grown⟩
 ·have e : partB (2, n, t) = (inB n 0 0 && nameB t) := rfl
  rw [e]
  clear e
  by_cases h0 : n = 0
  ·subst h0
   rw [inB_t (by omega), Bool.true_and]
   go_enter Tryz.func167, Tryz.ntmps167
   go_wp2_with (first | (go_at_call 83; refine (spec_name _ _ HT.out).mono ?_; rintro e w' ⟨rfl, rfl⟩))
   go_ret
   exact ⟨rfl, by go_grown⟩
  ·rw [inB_f (by omega), Bool.false_and]
   have e0 : (n == 0) = false := by simp [h0]
   go_enter Tryz.func167, Tryz.ntmps167
   go_wp2_with (first | (go_at_call 83; refine (spec_name _ _ HT.out).mono ?_; rintro e w' ⟨rfl, rfl⟩))
   go_ret
   exact ⟨rfl, by go_grown⟩
 ·have e : partB (13, n, t) = (inB n 0 0 && nameB t) := rfl
  rw [e]
  clear e
  by_cases h0 : n = 0
  ·subst h0
   rw [inB_t (by omega), Bool.true_and]
   go_enter Tryz.func167, Tryz.ntmps167
   go_wp2_with (first | (go_at_call 83; refine (spec_name _ _ HT.out).mono ?_; rintro e w' ⟨rfl, rfl⟩))
   go_ret
   exact ⟨rfl, by go_grown⟩
  ·rw [inB_f (by omega), Bool.false_and]
   have e0 : (n == 0) = false := by simp [h0]
   go_enter Tryz.func167, Tryz.ntmps167
   go_wp2_with (first | (go_at_call 83; refine (spec_name _ _ HT.out).mono ?_; rintro e w' ⟨rfl, rfl⟩))
   go_ret
   exact ⟨rfl, by go_grown⟩
 ·have e : partB (12, n, t) = (inB n 1 20 && nameB t) := rfl
  rw [e]
  clear e
  obtain ⟨r, hr⟩ : ∃ r, Hid (inB n 1 20 = r) := ⟨_, rfl⟩
  rw [hr.out]
  cases r
  ·go_enter Tryz.func167, Tryz.ntmps167
   go_wp2_with (first | (go_at_call 60; refine (is_any _ _ _ _).mono ?_; rintro e w' ⟨rfl, rfl⟩; rw [hr.out]) | (go_at_call 83; refine (spec_name _ _ HT.out).mono ?_; rintro e w' ⟨rfl, rfl⟩))
   go_ret
   exact ⟨rfl, by go_grown⟩
  ·rw [Bool.true_and]
   go_enter Tryz.func167, Tryz.ntmps167
   go_wp2_with (first | (go_at_call 60; refine (is_any _ _ _ _).mono ?_; rintro e w' ⟨rfl, rfl⟩; rw [hr.out]) | (go_at_call 83; refine (spec_name _ _ HT.out).mono ?_; rintro e w' ⟨rfl, rfl⟩))
   go_ret
   exact ⟨rfl, by go_grown⟩
 ·have e : partB (x, n, t) = (inB x 3 11 && (inB n 0 0 && emptyB t)) := by unfold partB; simp only; rw [if_neg (by omega), if_neg (by omega), if_neg (by omega)]
  rw [e]
  clear e
  have e1 : (x == 1) = false := by simp [h1]
  have e2 : (x == 2) = false := by simp [h2]
  have e3 : (x == 12) = false := by simp [h3]
  have e4 : (x == 13) = false := by simp [h4]
  obtain ⟨m, hm⟩ : ∃ m, Hid (manyI x = m) := ⟨_, rfl⟩
  by_cases hx : 3 ≤ x ∧ x ≤ 11
  ·have hm0 : 0 < m := by
    have := hm.out
    unfold manyI at this
    rw [if_neg (by omega)] at this
    by_cases h11 : x = 11
    ·rw [if_pos h11] at this; omega
    ·rw [if_neg h11, if_pos (by omega)] at this; omega
   rw [inB_t hx, Bool.true_and]
   clear hx
   by_cases h0 : n = 0
   ·subst h0
    rw [inB_t (by omega), Bool.true_and]
    unfold emptyB
    go_enter Tryz.func167, Tryz.ntmps167
    go_wp2_with (first | (go_at_call 168; refine (spec_many _ _).mono ?_; rintro e w' ⟨rfl, rfl⟩; rw [hm.out]))
    go_ret
    exact ⟨rfl, by go_grown⟩
   ·rw [inB_f (by omega), Bool.false_and]
    have e0 : (n == 0) = false := by simp [h0]
    go_enter Tryz.func167, Tryz.ntmps167
    go_wp2_with (first | (go_at_call 168; refine (spec_many _ _).mono ?_; rintro e w' ⟨rfl, rfl⟩; rw [hm.out]))
    go_ret
    exact ⟨rfl, by go_grown⟩
  ·have hm0 : ¬ 0 < m := by
    have := hm.out
    unfold manyI at this
    rw [if_neg (by omega), if_neg (by omega), if_neg (by omega)] at this
    omega
   rw [inB_f hx, Bool.false_and]
   clear hx
   go_enter Tryz.func167, Tryz.ntmps167
   go_wp2_with (first | (go_at_call 168; refine (spec_many _ _).mono ?_; rintro e w' ⟨rfl, rfl⟩; rw [hm.out]))
   go_ret
   exact ⟨rfl, by go_grown⟩
open Go.RowKit
open PrtW PrtM NameW
def endI (ps : List Pt) : Option (List Pt) → Int
 | none => -1
 | some r => ((ps.length - r.length : Nat) : Int)
theorem drop_at (ps : List Pt) (k : Nat) (h : k < ps.length) : ps.drop k = ps.getD k pt0 :: ps.drop (k + 1) := by
 rw [List.drop_eq_getElem_cons h]; simp [List.getD, List.getElem?_eq_getElem h]
theorem parts_at {w : World} {a : Option Addr} {ps : List Pt} (h : Parts w a ps) {k : Nat} (hk : k < ps.length) : ∃ b o x n t, a = some ⟨b, o, none⟩ ∧ b < w.heap.size ∧ ps.getD k pt0 = (x, n, t) ∧ Fit (x, n, t) ∧
  w.cell? ⟨b, o + k * 3, none⟩ = some (.int .i64 x) ∧ w.cell? ⟨b, o + k * 3 + 1, none⟩ = some (.int .i64 n) ∧ w.cell? ⟨b, o + k * 3 + 2, none⟩ = some (.string t) := by
 obtain ⟨b, o, ha, hb, hc⟩ := h.2.2 (by omega)
 exact ⟨b, o, _, _, _, ha, hb, rfl, h.2.1 k hk, hc k hk⟩
theorem many_of {p : Pt} (h : partB p = true) : manyI p.1 = (many p.1 : Int) := by
 unfold partB at h
 unfold manyI many
 by_cases h1 : p.1 = 1
 ·rw [if_pos (by omega), if_neg (by omega), if_neg (by omega)]; rfl
 rw [if_neg h1] at h
 by_cases h2 : p.1 = 2 ∨ p.1 = 13
 ·rw [if_pos (by omega), if_neg (by omega), if_neg (by omega)]; rfl
 rw [if_neg h2] at h
 by_cases h3 : p.1 = 12
 ·rw [if_pos (by omega), if_neg (by omega), if_neg (by omega)]; rfl
 rw [if_neg h3] at h
 rw [if_neg (by omega)]
 split
 ·rfl
 ·have h4 : inB p.1 3 11 = true := by cases hb : inB p.1 3 11 <;> simp_all
  unfold inB at h4
  rw [decide_eq_true_iff] at h4
  rw [if_pos (by omega), if_pos (by omega)]; rfl
theorem many_le (x : Int) : many x ≤ 2 := by unfold many; split <;> (try split) <;> omega
set_option maxRecDepth 10000 in
set_option maxHeartbeats 1600000 in
theorem spec_end (a : Option Addr) (cap : Nat) (ps : List Pt) : ∀ (d : Nat) (deep : Int), deep = 7 - (d : Int) → 1 ≤ deep → ∀ (k : Nat) (w : World), k ≤ ps.length → Parts w a ps →
  Calls Tryz.prog 132 #[.slice a ps.length cap, .int .i64 k, .int .i64 deep] w fun e w' => e = .returned (.int .i64 (endI ps (behind d (ps.drop k)))) ∧ Below w.heap.size w w' := by
 intro d
 induction d with
 | zero =>
  intro deep hd h1 k w hk hP
  obtain rfl : deep = 7 := by omega
  have hl := hP.1
  have e : endI ps (behind 0 (ps.drop k)) = -1 := rfl
  rw [e]
  clear e hd h1
  by_cases hlt : k < ps.length
  ·go_enter Tryz.func132, Tryz.ntmps132
   go_wp2_with fail
   go_ret
   exact ⟨rfl, by go_grown⟩
  ·go_enter Tryz.func132, Tryz.ntmps132
   go_wp2_with fail
   go_ret
   exact ⟨rfl, by go_grown⟩
 | succ d ih =>
  intro deep hd h1 k w hk hP
  have hl := hP.1
  have HP : Hid (Parts w a ps) := hP
  have HI := hid ih
  clear ih hP
  by_cases hlt : k < ps.length
  ·obtain ⟨b, o, x, n, t, rfl, hb, hg, hf, c0, c1, c2⟩ := parts_at HP.out hlt
   rw [drop_at ps k hlt, hg, behind_succ]
   have hsz := hf.2.2
   obtain ⟨r, hr⟩ : ∃ r, Hid (partB (x, n, t) = r) := ⟨_, rfl⟩
   rw [hr.out]
   have hd6 : decide (6 < deep) = false := by simp; omega
   have hd7 : decide (((ps.length : Nat) : Int) ≤ (k : Int)) = false := by simp; omega
   have HD := hid hd
   have hdh : deep ≤ 6 := by omega
   clear hd
   cases r
   ·rw [if_neg (by decide)]
    go_enter Tryz.func132, Tryz.ntmps132
    go_wp2_with fail
    refine (spec_part x n t (by unfold maxLen; omega) w).mono ?_
    rintro e w1 ⟨rfl, hB1⟩
    rw [hr.out]
    have HB1 := hid hB1
    clear hB1 c0 c1 c2
    go_wp2_with fail
    go_ret
    exact ⟨rfl, HB1.out⟩
   ·rw [if_pos rfl]
    obtain ⟨F, HF⟩ : ∃ F, Hid (iter (child d x) (many x) (some (ps.drop (k + 1))) = F) := ⟨_, rfl⟩
    rw [HF.out]
    go_enter Tryz.func132, Tryz.ntmps132
    go_wp2_with fail
    refine (spec_part x n t (by unfold maxLen; omega) w).mono ?_
    rintro e w1 ⟨rfl, hB1⟩
    rw [hr.out]
    have HB1 := hid hB1
    rw [← hB1.cell (p := ⟨b, _, none⟩) hb] at c0 c1 c2
    clear hB1
    go_wp2_with fail
    refine (spec_many x w1).mono ?_
    rintro e w2 ⟨rfl, rfl⟩
    rw [show manyI x = (many x : Int) from many_of hr.out]
    have hm2 := many_le x
    generalize hmx : many x = mx at *
    have HMX := hid hmx
    clear hmx c0 c1 c2
    go_wp2_with fail
    go_loopw [1, 8] (fun at' n' wr => ∃ (m : Nat) (s : Option (List Pt)), n' = .int .i64 m ∧ m ≤ 2 ∧ at' = .int .i64 (endI ps s) ∧ (∀ l, s = some l → l <:+ ps) ∧ Hid (iter (child d x) m s = F) ∧ Below w.heap.size w wr) (fun _ n' _ => (intOf n').toNat)
    case atStart =>
     refine ⟨mx, some (ps.drop (k + 1)), rfl, hm2, ?_, fun l hl => ?_, HF, HB1.out⟩
     ·simp only [endI, List.length_drop]; congr 1; omega
     ·cases hl; exact List.drop_suffix _ _
    case round =>
     obtain ⟨m, s, rfl, hm, rfl, hsuf, hit, hbel⟩ := hrel
     cases s with
     | none =>
      have e : endI ps none = -1 := rfl
      rw [e]
      obtain rfl : F = none := by rw [← hit.out, iter_none]
      clear hit e HI HF
      by_cases hm0 : 0 < m
      ·go_wp2_with fail
       go_ret
       exact ⟨rfl, hbel⟩
      ·go_wp2_with fail
       go_ret
       exact ⟨rfl, hbel⟩
     | some l =>
      have hls := hsuf l rfl
      have hll := hls.length_le
      have hdr := suffix_drop hls
      have e : endI ps (some l) = ((ps.length - l.length : Nat) : Int) := rfl
      rw [e]
      clear hsuf e
      obtain ⟨k1, hk1⟩ : ∃ k1, k1 = ps.length - l.length := ⟨_, rfl⟩
      rw [← hk1] at hdr ⊢
      have HK1 := hid hk1
      have hk1l : k1 ≤ ps.length := by omega
      clear hk1
      cases m with
      | zero =>
       obtain rfl : some l = F := hit.out
       clear hit HF HI
       go_wp2_with fail
       go_ret
       rw [HK1.out]
       exact ⟨rfl, hbel⟩
      | succ m =>
       have hit2 : Hid (iter (child d x) m (child d x l) = F) := hit.out
       have HDR := hid hdr
       clear hit HF hdr hls
       by_cases hlt1 : k1 < ps.length
       ·obtain ⟨b1, o1, x1, n1, t1, hbo, hb1, hg1, hf1, d0, d1, d2⟩ := parts_at HP.out hlt1
        cases hbo
        rw [← hbel.cell (p := ⟨b, _, none⟩) hb] at d0 d1 d2
        have hch : Hid (child d x l = if numB x1 = wantsB x then behind d (ps.drop k1) else none) := by
         show _ = _
         rw [← HDR.out]
         unfold child
         rw [show ((ps.drop k1).headD pt0).1 = x1 by rw [drop_at ps k1 hlt1, hg1]; rfl]
        have HB := hid hbel
        clear hbel d1 d2 hg1 hf1
        obtain ⟨r1, hr1⟩ : ∃ r, Hid (numB x1 = r) := ⟨_, rfl⟩
        obtain ⟨r2, hr2⟩ : ∃ r, Hid (wantsB x = r) := ⟨_, rfl⟩
        by_cases hrr : r1 = r2
        ·subst hrr
         rw [hr1.out, hr2.out, if_pos rfl] at hch
         have hne : (r1 != r1) = false := by simp
         go_wp2_with fail
         refine (spec_number x1 wr).mono ?_
         rintro e w3 ⟨rfl, rfl⟩
         rw [hr1.out]
         go_wp2_with fail
         refine (spec_wants x w3).mono ?_
         rintro e w4 ⟨rfl, rfl⟩
         rw [hr2.out]
         clear d0
         go_wp2_with fail
         refine (HI.out (deep + 1) (by rw [HD.out]; push_cast; omega) (by omega) k1 w4 hk1l (HP.out.on HB.out)).mono ?_
         rintro e w5 ⟨rfl, hB5⟩
         have HB5 : Hid (Below w.heap.size w w5) := HB.out.trans (hB5.mono HB.out.size)
         have hsuf2 : ∀ l', behind d (ps.drop k1) = some l' → l' <:+ ps := fun l' h => (behind_suffix _ _ _ h).1.trans (List.drop_suffix _ _)
         rw [hch.out] at hit2
         generalize behind d (List.drop k1 ps) = s2 at *
         have HS := hid hsuf2
         clear hB5 hsuf2 hch
         go_wp2_with fail
         refine ⟨⟨m, s2, by go_num, by omega, rfl, HS.out, hit2, HB5.out⟩, by simp [intOf]⟩
        ·rw [hr1.out, hr2.out, if_neg hrr] at hch
         have hne : (r1 == r2) = false := by simp [hrr]
         go_wp2_with fail
         refine (spec_number x1 wr).mono ?_
         rintro e w3 ⟨rfl, rfl⟩
         rw [hr1.out]
         go_wp2_with fail
         refine (spec_wants x w3).mono ?_
         rintro e w4 ⟨rfl, rfl⟩
         rw [hr2.out]
         rw [hch.out, iter_none] at hit2
         obtain rfl := hit2.out
         clear hch hit2 HI d0
         go_wp2_with fail
         go_ret
         exact ⟨rfl, HB.out⟩
       ·have hch : Hid (child d x l = none) := by
         show _ = _
         rw [← HDR.out, List.drop_of_length_le (by omega)]
         unfold child
         rw [behind_nil]; simp
        have HB := hid hbel
        clear hbel
        rw [hch.out, iter_none] at hit2
        go_wp2_with fail
        refine (HI.out (deep + 1) (by rw [HD.out]; push_cast; omega) (by omega) k1 wr hk1l (HP.out.on HB.out)).mono ?_
        rintro e w5 ⟨rfl, hB5⟩
        have HB5 : Hid (Below w.heap.size w w5) := HB.out.trans (hB5.mono HB.out.size)
        rw [List.drop_of_length_le (by omega), behind_nil]
        clear hB5
        go_wp2_with fail
        refine ⟨⟨m, none, by go_num, by omega, rfl, (fun _ h => by cases h), by rw [iter_none]; exact hit2, HB5.out⟩, by simp [intOf]⟩
  ·rw [List.drop_of_length_le (by omega), behind_nil]
   have e : endI ps none = -1 := rfl
   rw [e]
   clear HI e
   go_enter Tryz.func132, Tryz.ntmps132
   go_wp2_with fail
   go_ret
   exact ⟨rfl, by go_grown⟩
open Go.RowKit
open PrtW PrtM NameW
theorem end_len (ps : List Pt) (s : Option (List Pt)) (h : ∀ r, s = some r → r <:+ ps) : (endI ps s == (ps.length : Int)) = decide (s = some []) := by
 cases s with
 | none => simp [endI]
 | some r =>
  have := (h r rfl).length_le
  simp only [endI, Option.some.injEq]
  rw [Bool.eq_iff_iff, beq_iff_eq, decide_eq_true_iff]
  constructor
  ·intro e; exact List.length_eq_zero_iff.1 (by omega)
  ·intro e; subst e; simp
set_option maxHeartbeats 400000 in
theorem spec_right (a : Option Addr) (cap : Nat) (ps : List Pt) (w : World) (hP : Parts w a ps) :
  Calls Tryz.prog 110 #[.slice a ps.length cap] w fun e w' => e = .returned (.bool (rightB ps)) ∧ Below w.heap.size w w' := by
 have hl := hP.1
 have HP := hid hP
 clear hP
 unfold rightB
 by_cases h : ps.length ≤ 20
 ·rw [decide_eq_true h, Bool.true_and, ← end_len ps _ (fun r h => (behind_suffix _ _ _ h).1)]
  obtain ⟨z, hz⟩ : ∃ z, Hid (endI ps (behind 6 ps) = z) := ⟨_, rfl⟩
  rw [hz.out]
  go_enter Tryz.func110, Tryz.ntmps110
  go_wp2_with fail
  refine (spec_end a cap ps 6 1 (by decide) (by decide) 0 w (by omega) HP.out).mono ?_
  rintro e w1 ⟨rfl, hB⟩
  rw [List.drop_zero, hz.out]
  have HB := hid hB
  clear hB
  go_wp2_with fail
  go_ret
  exact ⟨rfl, HB.out⟩
 ·rw [decide_eq_false h, Bool.false_and]
  go_enter Tryz.func110, Tryz.ntmps110
  go_wp2_with fail
  go_ret
  exact ⟨rfl, Below.refl _ _⟩
theorem right_pos {ps : List Pt} (h : rightB ps = true) : 0 < ps.length := by
 cases ps with
 | nil => revert h; decide
 | cons p r => simp
open Go.RowKit
open PrtW PrtM NameW
set_option maxHeartbeats 400000 in
theorem spec_truth (a : Option Addr) (cap : Nat) (ps : List Pt) (w : World) (hP : Parts w a ps) :
  Calls Tryz.prog 106 #[.slice a ps.length cap] w fun e w' => e = .returned (.bool (truthB ps)) ∧ Below w.heap.size w w' := by
 have hl := hP.1
 have HP := hid hP
 clear hP
 unfold truthB
 obtain ⟨r, hr⟩ : ∃ r, Hid (rightB ps = r) := ⟨_, rfl⟩
 rw [hr.out]
 cases r
 ·rw [Bool.false_and]
  go_enter Tryz.func106, Tryz.ntmps106
  go_wp2_with fail
  refine (spec_right a cap ps w HP.out).mono ?_
  rintro e w1 ⟨rfl, hB⟩
  rw [hr.out]
  have HB := hid hB
  clear hB
  go_wp2_with fail
  go_ret
  exact ⟨rfl, HB.out⟩
 ·rw [Bool.true_and]
  have hpos := right_pos hr.out
  obtain ⟨b, o, x, n, t, rfl, hb, hg, hf, c0, c1, c2⟩ := parts_at HP.out hpos
  have hh : (ps.headD pt0).1 = x := by
   have e := drop_at ps 0 hpos
   rw [List.drop_zero] at e
   rw [e, hg]; rfl
  rw [hh]
  clear hh hg hf c1 c2
  rw [Nat.zero_mul, Nat.add_zero] at c0
  go_enter Tryz.func106, Tryz.ntmps106
  go_wp2_with fail
  refine (spec_right _ cap ps w HP.out).mono ?_
  rintro e w1 ⟨rfl, hB⟩
  rw [hr.out]
  have HB := hid hB
  rw [← hB.cell (p := ⟨b, _, none⟩) hb] at c0
  clear hB
  go_wp2_with fail
  refine (spec_number x w1).mono ?_
  rintro e w2 ⟨rfl, rfl⟩
  go_wp2_with fail
  go_ret
  exact ⟨rfl, HB.out⟩
end Go.Proofs.YtmbhmknfipdadaaGreatDoor.PrtS
namespace Go.Proofs.YtmbhmknfipdadaaGreatDoor.ItmM
open Go.RowKit
open PrtW PrtM NameW ItmW ValM
def labelB (t : ByteArray) : Bool := decide (1 ≤ t.size) && ((plainB t && decide ((t.size : Int) ≤ 60)) && (decide (chr t 0 ≠ 32) && decide (chr t (t.size - 1) ≠ 32)))
def rangeB (ty lo hi : Int) : Bool :=
 if ty = 1 then decide (-1000000 ≤ lo ∧ lo ≤ 1000000) && decide (lo ≤ hi ∧ hi ≤ 1000000)
 else if ty = 2 ∨ ty = 3 then decide (lo = 1) && decide (1 ≤ hi ∧ hi ≤ 20)
 else if ty = 4 then decide (lo = 0) && decide (1 ≤ hi ∧ hi ≤ 40) else false
def bareB (ty lo hi : Int) : Bool := decide (ty = 0) && (decide (lo = 0) && decide (hi = 0))
def noText (t : ByteArray) : Bool := t.toList.isEmpty
def noParts (ps : List Pt) : Bool := decide ((ps.length : Int) = 0)
def itemB (p : It) : Bool :=
 if ik p = 1 then nameB (inm p) && (rangeB (ity p) (ilo p) (ihi p) && (labelB (itx p) && (noParts (iex p) && !ihd p)))
 else if ik p = 2 then noText (inm p) && (bareB (ity p) (ilo p) (ihi p) && (noText (itx p) && (truthB (iex p) && !ihd p)))
 else if ik p = 3 ∨ ik p = 4 then noText (inm p) && (bareB (ity p) (ilo p) (ihi p) && (noText (itx p) && (noParts (iex p) && !ihd p)))
 else if ik p = 5 then nameB (inm p) && (bareB (ity p) (ilo p) (ihi p) && (labelB (itx p) && truthB (iex p)))
 else if ik p = 6 then nameB (inm p) && (bareB (ity p) (ilo p) (ihi p) && (noText (itx p) && (rightB (iex p) && (!truthB (iex p) && !ihd p))))
 else false
end Go.Proofs.YtmbhmknfipdadaaGreatDoor.ItmM
namespace Go.Proofs.YtmbhmknfipdadaaGreatDoor.FrmM
open Go.RowKit
open PrtW PrtM NameW ItmW ValM ItmM
def isF (s : ByteArray) (q : It) : Bool := ((inm q).toList == s.toList) && ((ik q == 1) || (ik q == 6))
def fieldN (ls : List It) (n : Nat) (s : ByteArray) : Option Nat := (List.range n).find? fun i => isF s (ls.getD i it0)
theorem field_at {ls : List It} {n i : Nat} {s : ByteArray} : fieldN ls n s = some i ↔ isF s (ls.getD i it0) = true ∧ i < n ∧ ∀ j, j < i → isF s (ls.getD j it0) = false := by
 unfold fieldN
 rw [List.find?_range_eq_some]
 simp
theorem field_no {ls : List It} {n : Nat} {s : ByteArray} : fieldN ls n s = none ↔ ∀ j, j < n → isF s (ls.getD j it0) = false := by
 unfold fieldN
 rw [List.find?_range_eq_none]
 simp
def fieldI (ls : List It) (n : Nat) (s : ByteArray) : Int := match fieldN ls n s with | none => -1 | some i => i
theorem fieldI_at {ls : List It} {n i : Nat} {s : ByteArray} (h : fieldN ls n s = some i) : fieldI ls n s = i := by unfold fieldI; rw [h]
theorem fieldI_no {ls : List It} {n : Nat} {s : ByteArray} (h : fieldN ls n s = none) : fieldI ls n s = -1 := by unfold fieldI; rw [h]
def servesB (op : Int) (q : It) : Bool := !((op == 2 && (ity q == 3 || ity q == 4)) || (op == 12 && !(ity q == 3)))
def useB (ls : List It) (n : Nat) (p : Pt) : Bool := p.2.2.toList.isEmpty || (match fieldN ls n p.2.2 with | none => false | some i => servesB p.1 (ls.getD i it0))
def usesB (ls : List It) (n : Nat) (ps : List Pt) : Bool := decide (∀ i, i < ps.length → useB ls n (ps.getD i pt0) = true)
theorem uses_yes {ls : List It} {n : Nat} {ps : List Pt} (h : ∀ i, i < ps.length → useB ls n (ps.getD i pt0) = true) : usesB ls n ps = true := decide_eq_true h
theorem uses_no {ls : List It} {n : Nat} {ps : List Pt} {i : Nat} (hi : i < ps.length) (h : useB ls n (ps.getD i pt0) = false) : usesB ls n ps = false := decide_eq_false fun a => by rw [a i hi] at h; cases h
theorem use_empty {ls : List It} {n : Nat} {p : Pt} (h : p.2.2.toList.isEmpty = true) : useB ls n p = true := by unfold useB; rw [h]; rfl
theorem use_none {ls : List It} {n : Nat} {p : Pt} (h : p.2.2.toList.isEmpty = false) (hf : fieldN ls n p.2.2 = none) : useB ls n p = false := by unfold useB; rw [h, hf]; rfl
theorem use_some {ls : List It} {n i : Nat} {p : Pt} (h : p.2.2.toList.isEmpty = false) (hf : fieldN ls n p.2.2 = some i) : useB ls n p = servesB p.1 (ls.getD i it0) := by unfold useB; rw [h, hf]; rfl
def sameN (x y : ByteArray) : Bool := x.toList == y.toList
def newB (ls : List It) (i : Nat) : Bool := noText (inm (ls.getD i it0)) || decide (∀ k, k < i → sameN (inm (ls.getD k it0)) (inm (ls.getD i it0)) = false)
theorem new_empty {ls : List It} {i : Nat} (h : (inm (ls.getD i it0)).toList.isEmpty = true) : newB ls i = true := by unfold newB noText; rw [h]; rfl
theorem new_yes {ls : List It} {i : Nat} (h : ∀ k, k < i → sameN (inm (ls.getD k it0)) (inm (ls.getD i it0)) = false) : newB ls i = true := by unfold newB; rw [decide_eq_true h, Bool.or_true]
theorem new_no {ls : List It} {i k : Nat} (h : (inm (ls.getD i it0)).toList.isEmpty = false) (hk : k < i) (hs : sameN (inm (ls.getD k it0)) (inm (ls.getD i it0)) = true) : newB ls i = false := by
 unfold newB noText
 rw [h, Bool.false_or]
 exact decide_eq_false fun a => by rw [a k hk] at hs; cases hs
def behindB (ls : List It) (i : Nat) : Bool := itemB (ls.getD i it0) && (usesB ls i (iex (ls.getD i it0)) && newB ls i)
def stepB (k : Int) (op : List Bool) : Option (List Bool) :=
 if k = 2 then (if 6 ≤ op.length then none else some (op ++ [false]))
 else if k = 3 then (if op.getLast? = some false then some (op.dropLast ++ [true]) else none)
 else if k = 4 then (if op.length = 0 then none else some op.dropLast)
 else some op
def blkF : List It → List Bool → Option (List Bool)
 | [], op => some op
 | p :: r, op => match stepB (ik p) op with | none => none | some op' => blkF r op'
theorem blk_cons (p : It) (r : List It) (op : List Bool) : blkF (p :: r) op = match stepB (ik p) op with | none => none | some op' => blkF r op' := rfl
def blocksB (ls : List It) : Bool := decide (blkF ls [] = some [])
theorem drop_it (ls : List It) (k : Nat) (h : k < ls.length) : ls.drop k = ls.getD k it0 :: ls.drop (k + 1) := by
 rw [List.drop_eq_getElem_cons h, List.getD_eq_getElem?_getD, List.getElem?_eq_getElem h]; rfl
theorem blk_none {ls : List It} {k : Nat} {op : List Bool} (h : blkF ls [] = blkF (ls.drop k) op) (hk : k < ls.length) (hs : stepB (ik (ls.getD k it0)) op = none) : blocksB ls = false := by
 unfold blocksB
 rw [h, drop_it ls k hk, blk_cons, hs]
 exact decide_eq_false (fun e => by cases e)
theorem blk_some {ls : List It} {k : Nat} {op op' : List Bool} (h : blkF ls [] = blkF (ls.drop k) op) (hk : k < ls.length) (hs : stepB (ik (ls.getD k it0)) op = some op') : blkF ls [] = blkF (ls.drop (k + 1)) op' := by
 rw [h, drop_it ls k hk, blk_cons, hs]
theorem blk_end {ls : List It} {op : List Bool} (h : blkF ls [] = blkF (ls.drop ls.length) op) : blocksB ls = decide (op.length = 0) := by
 unfold blocksB
 rw [h, List.drop_length]
 cases op <;> simp [blkF]
theorem step_deep {op : List Bool} (h : 6 ≤ op.length) : stepB 2 op = none := by unfold stepB; rw [if_pos rfl, if_pos h]
theorem step_if {op : List Bool} (h : ¬ 6 ≤ op.length) : stepB 2 op = some (op ++ [false]) := by unfold stepB; rw [if_pos rfl, if_neg h]
theorem step_else {op : List Bool} : stepB 3 (op ++ [false]) = some (op ++ [true]) := by unfold stepB; simp
theorem step_else_two {op : List Bool} : stepB 3 (op ++ [true]) = none := by unfold stepB; simp
theorem step_else_no : stepB 3 [] = none := by unfold stepB; simp
theorem step_end {op : List Bool} {b : Bool} : stepB 4 (op ++ [b]) = some op := by unfold stepB; simp
theorem step_end_no : stepB 4 [] = none := by unfold stepB; simp
theorem step_other {k : Int} {op : List Bool} (h2 : ¬ k = 2) (h3 : ¬ k = 3) (h4 : ¬ k = 4) : stepB k op = some op := by unfold stepB; rw [if_neg h2, if_neg h3, if_neg h4]
theorem step_len {k : Int} {op op' : List Bool} (h : stepB k op = some op') (hl : op.length ≤ 6) : op'.length ≤ 6 := by
 unfold stepB at h
 split at h
 ·split at h
  ·cases h
  ·cases h; simp; omega
 ·split at h
  ·split at h
   ·cases h; simp; omega
   ·cases h
  ·split at h
   ·split at h
    ·cases h
    ·cases h; simp; omega
   ·cases h; exact hl
theorem snoc_of {op : List Bool} (h : 0 < op.length) : ∃ q b, op = q ++ [b] := by
 have hne : op ≠ [] := fun e => by rw [e] at h; exact absurd h (Nat.lt_irrefl _)
 exact ⟨op.dropLast, op.getLast hne, (List.dropLast_concat_getLast hne).symm⟩
def formB (ls : List It) : Bool := decide (ls.length ≤ 24) && (decide (∀ i, i < ls.length → behindB ls i = true) && blocksB ls)
theorem form_long {ls : List It} (h : ¬ ls.length ≤ 24) : formB ls = false := by unfold formB; rw [decide_eq_false h]; rfl
theorem form_no {ls : List It} {i : Nat} (hi : i < ls.length) (h : behindB ls i = false) : formB ls = false := by
 unfold formB
 rw [decide_eq_false (p := ∀ i, i < ls.length → behindB ls i = true) (fun a => by rw [a i hi] at h; cases h), Bool.false_and, Bool.and_false]
theorem form_yes {ls : List It} (h : ls.length ≤ 24) (ha : ∀ i, i < ls.length → behindB ls i = true) : formB ls = blocksB ls := by
 unfold formB; rw [decide_eq_true h, decide_eq_true ha]; rfl
theorem form_at {ls : List It} (h : formB ls = true) : ls.length ≤ 24 ∧ (∀ i, i < ls.length → behindB ls i = true) ∧ blocksB ls = true := by
 unfold formB at h
 rw [Bool.and_eq_true, Bool.and_eq_true] at h
 exact ⟨of_decide_eq_true h.1, of_decide_eq_true h.2.1, h.2.2⟩
theorem behind_item {ls : List It} {i : Nat} (h : itemB (ls.getD i it0) = false) : behindB ls i = false := by unfold behindB; rw [h]; rfl
theorem behind_uses {ls : List It} {i : Nat} (h : usesB ls i (iex (ls.getD i it0)) = false) : behindB ls i = false := by unfold behindB; rw [h, Bool.false_and, Bool.and_false]
theorem behind_new {ls : List It} {i : Nat} (h : newB ls i = false) : behindB ls i = false := by unfold behindB; rw [h, Bool.and_false, Bool.and_false]
theorem behind_yes {ls : List It} {i : Nat} (h1 : itemB (ls.getD i it0) = true) (h2 : usesB ls i (iex (ls.getD i it0)) = true) (h3 : newB ls i = true) : behindB ls i = true := by unfold behindB; rw [h1, h2, h3]; rfl
theorem behind_at {ls : List It} {i : Nat} (h : behindB ls i = true) : itemB (ls.getD i it0) = true ∧ usesB ls i (iex (ls.getD i it0)) = true ∧ newB ls i = true := by
 unfold behindB at h; rw [Bool.and_eq_true, Bool.and_eq_true] at h; exact h
end Go.Proofs.YtmbhmknfipdadaaGreatDoor.FrmM
namespace Go.Proofs.YtmbhmknfipdadaaGreatDoor.PrtI
open Go.RowKit
open PrtW PrtM NameW PrtS
def truthF (k : Nat) : Bool := [false, false, false, false, false, false, true, true, true, true, true, true, true, true].getD k false
def innerF (k : Nat) : Nat := [0, 0, 0, 2, 2, 2, 2, 2, 2, 2, 2, 1, 0, 0].getD k 0
def truthsF (k : Nat) : Bool := [false, false, false, false, false, false, false, false, false, true, true, true, false, false].getD k false
def namedF (k : Nat) : Bool := [false, false, true, false, false, false, false, false, false, false, false, false, true, true].getD k false
def lowF (k : Nat) : Int := [0, -1000000, 0, 0, 0, 0, 0, 0, 0, 0, 0, 0, 1, 0].getD k 0
def highF (k : Nat) : Int := [0, 1000000, 0, 0, 0, 0, 0, 0, 0, 0, 0, 0, 20, 0].getD k 0
def signL (k : Nat) : List UInt8 := [[], [], [], [43], [45], [42], [61], [60], [60, 61], [38], [124], [33], [], []].getD k []
def signF (k : Nat) : ByteArray := ⟨(signL k).toArray⟩
def EnvS (w : World) : Prop := 2 < w.heap.size ∧ ∀ k, k < 14 →
 w.cell? ⟨2, k * 7, none⟩ = some (.bool (truthF k)) ∧ w.cell? ⟨2, k * 7 + 1, none⟩ = some (.int .i64 (innerF k)) ∧ w.cell? ⟨2, k * 7 + 2, none⟩ = some (.bool (truthsF k)) ∧
 w.cell? ⟨2, k * 7 + 3, none⟩ = some (.bool (namedF k)) ∧ w.cell? ⟨2, k * 7 + 4, none⟩ = some (.int .i64 (lowF k)) ∧ w.cell? ⟨2, k * 7 + 5, none⟩ = some (.int .i64 (highF k)) ∧ w.cell? ⟨2, k * 7 + 6, none⟩ = some (.string (signF k))
theorem EnvS.on {w w' : World} (h : EnvS w) (hB : Below w.heap.size w w') : EnvS w' := by
 refine ⟨Nat.lt_of_lt_of_le h.1 hB.size, fun k hk => ?_⟩
 have hc := (bcell hB).1
 simp only [hc _ _ h.1]
 exact h.2 k hk
set_option maxHeartbeats 400000 in
theorem between_any (n lo hi : Int) (w : World) :
  Calls Tryz.prog 127 #[.int .i64 n, .int .i64 lo, .int .i64 hi] w fun e w' => e = .returned (.bool (inB n lo hi)) ∧ w' = w := by
 by_cases h : lo ≤ n
 ·by_cases h2 : n ≤ hi
  ·rw [inB_t ⟨h, h2⟩]
   go_enter Tryz.func127, Tryz.ntmps127
   go_wp2
   go_ret
   exact ⟨rfl, rfl⟩
  ·rw [inB_f (by omega)]
   go_enter Tryz.func127, Tryz.ntmps127
   go_wp2
   go_ret
   exact ⟨rfl, rfl⟩
 ·rw [inB_f (by omega)]
  go_enter Tryz.func127, Tryz.ntmps127
  go_wp2
  go_ret
  exact ⟨rfl, rfl⟩
def tabB (k : Nat) (n : Int) (t : ByteArray) : Bool := (if namedF k = true then nameB t else emptyB t) && inB n (lowF k) (highF k)
theorem tab_part (k : Nat) (n : Int) (t : ByteArray) (h1 : 1 ≤ k) (h2 : k ≤ 13) : partB ((k : Int), n, t) = tabB k n t := by
 rcases (by omega : k = 1 ∨ k = 2 ∨ k = 3 ∨ k = 4 ∨ k = 5 ∨ k = 6 ∨ k = 7 ∨ k = 8 ∨ k = 9 ∨ k = 10 ∨ k = 11 ∨ k = 12 ∨ k = 13) with rfl | rfl | rfl | rfl | rfl | rfl | rfl | rfl | rfl | rfl | rfl | rfl | rfl <;>
  simp [partB, tabB, namedF, lowF, highF, inB, Bool.and_comm]
theorem part_out {x : Int} {n : Int} {t : ByteArray} (h : ¬ (1 ≤ x ∧ x ≤ 13)) : partB (x, n, t) = false := by
 unfold partB
 simp only
 rw [if_neg (by omega), if_neg (by omega), if_neg (by omega), inB_f (by omega)]
 rfl
theorem part_in {x : Int} {n : Int} {t : ByteArray} (h : partB (x, n, t) = true) : 1 ≤ x ∧ x ≤ 13 := by
 by_cases hx : 1 ≤ x ∧ x ≤ 13
 ·exact hx
 ·rw [part_out hx] at h; cases h
set_option maxRecDepth 10000 in
set_option maxHeartbeats 1600000 in
theorem impl_part (x n : Int) (t : ByteArray) (ht : t.size ≤ maxLen) (w : World) (hE : EnvS w) :
  Calls Tryz.prog 221 #[.agg #[.int .i64 x, .int .i64 n, .string t]] w fun e w' => e = .returned (.bool (partB (x, n, t))) ∧ Below w.heap.size w w' := by
 have HT : Hid (t.size ≤ maxLen) := ht
 have HE := hid hE
 clear ht hE
 by_cases hx : 1 ≤ x ∧ x ≤ 13
 ·obtain ⟨k, rfl⟩ : ∃ k : Nat, x = k := ⟨x.toNat, by omega⟩
  rw [tab_part k n t (by omega) (by omega)]
  have hin : Hid (inB (k : Int) 1 13 = true) := inB_t hx
  have hg := HE.out.1
  obtain ⟨e0, e1, e2, e3, e4, e5, e6⟩ := HE.out.2 k (by omega)
  unfold tabB
  generalize truthF k = s0 at *
  generalize innerF k = s1 at *
  generalize truthsF k = s2 at *
  generalize namedF k = s3 at *
  generalize lowF k = s4 at *
  generalize highF k = s5 at *
  generalize signF k = s6 at *
  have hk13 : k < 14 := by omega
  cases s3
  ·rw [if_neg (by decide)]
   unfold emptyB
   obtain ⟨r, hr⟩ : ∃ r, t.toList.isEmpty = r := ⟨_, rfl⟩
   rw [hr]
   cases r
   ·go_enter Tryz.func221, Tryz.ntmps221
    go_wp2_with fail
    refine (between_any _ _ _ _).mono ?_
    rintro e w1 ⟨rfl, rfl⟩
    rw [hin.out]
    go_wp2_with fail
    go_ret
    exact ⟨rfl, by go_grown⟩
   ·rw [Bool.true_and]
    go_enter Tryz.func221, Tryz.ntmps221
    go_wp2_with fail
    refine (between_any _ _ _ _).mono ?_
    rintro e w1 ⟨rfl, rfl⟩
    rw [hin.out]
    go_wp2_with fail
    refine (between_any _ _ _ _).mono ?_
    rintro e w1 ⟨rfl, rfl⟩
    go_wp2_with fail
    go_ret
    exact ⟨rfl, by go_grown⟩
  ·rw [if_pos rfl]
   obtain ⟨r, hr⟩ : ∃ r, Hid (nameB t = r) := ⟨_, rfl⟩
   rw [hr.out]
   cases r
   ·go_enter Tryz.func221, Tryz.ntmps221
    go_wp2_with fail
    refine (between_any _ _ _ _).mono ?_
    rintro e w1 ⟨rfl, rfl⟩
    rw [hin.out]
    go_wp2_with fail
    refine (impl_name t _ HT.out).mono ?_
    rintro e w1 ⟨rfl, rfl⟩
    rw [hr.out]
    go_wp2_with fail
    go_ret
    exact ⟨rfl, by go_grown⟩
   ·rw [Bool.true_and]
    go_enter Tryz.func221, Tryz.ntmps221
    go_wp2_with fail
    refine (between_any _ _ _ _).mono ?_
    rintro e w1 ⟨rfl, rfl⟩
    rw [hin.out]
    go_wp2_with fail
    refine (impl_name t _ HT.out).mono ?_
    rintro e w1 ⟨rfl, rfl⟩
    rw [hr.out]
    go_wp2_with fail
    refine (between_any _ _ _ _).mono ?_
    rintro e w1 ⟨rfl, rfl⟩
    go_wp2_with fail
    go_ret
    exact ⟨rfl, by go_grown⟩
 ·rw [part_out hx]
  have hin : Hid (inB x 1 13 = false) := inB_f hx
  go_enter Tryz.func221, Tryz.ntmps221
  go_wp2_with (go_at_call 127; refine (between_any _ _ _ _).mono ?_; rintro e w' ⟨rfl, rfl⟩; rw [hin.out])
  go_ret
  exact ⟨rfl, by go_grown⟩
end Go.Proofs.YtmbhmknfipdadaaGreatDoor.PrtI
namespace Go.Proofs.YtmbhmknfipdadaaGreatDoor.RteX
open Go.RowKit
open AnsW (An Raw)
theorem raw_on {w w' : World} {a : Option Addr} {ls : List An} (h : Raw w a ls) (hB : Below w.heap.size w w') : Raw w' a ls := by
 refine ⟨h.1, h.2.1, fun hp => ?_⟩
 obtain ⟨b, o, ha, hb, hc⟩ := h.2.2 hp
 refine ⟨b, o, ha, Nat.lt_of_lt_of_le hb hB.size, fun i hi => ?_⟩
 obtain ⟨ai, cap, h1, h2, h3⟩ := hc i hi
 refine ⟨ai, cap, h1.on hb hB, ⟨h2.1, fun hp2 => ?_⟩, h3⟩
 obtain ⟨b2, o2, ha2, hb2, hc2⟩ := h2.2 hp2
 exact ⟨b2, o2, ha2, Nat.lt_of_lt_of_le hb2 hB.size, fun j hj => by rw [hB.cell (p := ⟨b2, o2 + j, none⟩) hb2]; exact hc2 j hj⟩
end Go.Proofs.YtmbhmknfipdadaaGreatDoor.RteX
namespace Go.Proofs.YtmbhmknfipdadaaGreatDoor.ItmW
open Go.RowKit
open PrtW
set_option maxRecDepth 10000 in
set_option maxHeartbeats 4000000 in
theorem toItem8 (k : Int) (s : ByteArray) (ty lo hi : Int) (t : ByteArray) (a : Option Addr) (cap : Nat) (ps : List Pt) (hd : Bool) (w : World) (hc : Parts w a ps) :
  Calls Tryz.prog 30 #[.agg #[.int .i64 k, .string s, .int .i64 ty, .int .i64 lo, .int .i64 hi, .string t, .slice a ps.length cap, .bool hd]] w fun e w' => ∃ g', e = .returned (.agg #[.int .i64 k, .string s, .int .i64 ty, .int .i64 lo, .int .i64 hi, .string t, .slice (some ⟨g', 0, none⟩) ps.length ps.length, .bool hd]) ∧ w.heap.size ≤ g' ∧ Rows3 w' g' ps.length ps.length ps ∧ Below w.heap.size w w' := by
 have HC : Hid (Parts w a ps) := hc
 clear hc
 go_enter Tryz.func30, Tryz.ntmps30
 go_wp2_with fail
 refine (toPartsR a cap ps _ (HC.out.on ?hb)).mono ?_
 case hb => go_grown
 rintro e w1 ⟨rfl, _, hB1, hr⟩
 have HB : Hid (Below w.heap.size w w1) := Below.trans ?hb (hB1.mono (by simp; omega))
 case hb => go_grown
 obtain ⟨hcl, hfz⟩ := bcell hB1
 have hz : w.heap.size + 1 + 1 + 1 < w1.heap.size := by have := hr.lt; simp at this; omega
 simp only [World.size_alloc] at hcl hfz hr
 have HR := hid hr
 clear hr hB1 HC
 go_wp2
 refine bodyPost_ret (v := .agg #[.int .i64 k, .string s, .int .i64 ty, .int .i64 lo, .int .i64 hi, .string t, .slice (some ⟨w.heap.size + 1 + 1 + 1, 0, none⟩) ps.length ps.length, .bool hd]) (by simp [results, Tryz.results30, go_sem, hcl]) rfl ⟨_, rfl, by omega, ?_, ?_⟩
 ·repeat (refine rows3_other ?_ (by simp only; omega) _)
  exact HR.out
 ·repeat (refine Below.setCell ?_ (show w.heap.size ≤ _ by simp only; omega) _)
  exact HB.out
set_option maxRecDepth 10000 in
set_option maxHeartbeats 1600000 in
theorem toItsR (a : Option Addr) (cap : Nat) (ls : List It) (w : World) (hc : Its w a ls) :
  Calls Tryz.prog 10 #[.slice a ls.length cap] w fun e w' => e = .returned (.slice (some ⟨w.heap.size, 0, none⟩) ls.length ls.length) ∧ Below w.heap.size w w' ∧ RowsI w' w.heap.size ls.length ls.length ls := by
 obtain ⟨i0, hi, hz0, hz1, hz2⟩ := info_parts Tryz.infoI
 have HC : Hid (Its w a ls) := hc
 have hl := hc.1
 clear hc
 go_enter Tryz.func10, Tryz.ntmps10
 go_wp2_with (first | (at_make; refine wpList_make_full _ rfl _ _ 31 rfl w.heap.size 57 i0 (.agg #[.int .i64 0, .string ByteArray.empty, .int .i64 0, .int .i64 0, .int .i64 0, .string ByteArray.empty, .slice none 0 0, .bool false]) 8 Tryz.underlying31 hi hz0 hz1 _ _ _ _ ls.length rfl rfl rfl rfl ?m1 ?m2 ?m3 ?_))
 case m1 => rw [hz2]; omega
 case m2 => unfold maxLen; omega
 case m3 => exact Nat.le_refl _
 intro w1 hown hgrow
 have hrow : RowsI w1 w.heap.size ls.length 0 ls := by
  obtain ⟨_, hv⟩ := hown
  rcases hv with ⟨h0, _⟩ | ⟨g, cap, cu, h0, _, hg, _, _, hs, ht⟩
  ·cases h0
  ·cases h0
   exact ⟨cu, hg, hs, fun i hi => absurd hi (Nat.not_lt_zero _)⟩
 have hB1 : Below w.heap.size w w1 := (Below.refl _ _).grown hgrow (Nat.le_refl _) (fun k hk => by cases hk)
 clear hown hgrow
 go_wp2
 go_loopw [4] (fun i wr => ∃ k : Nat, k ≤ ls.length ∧ i = .int .i64 k ∧ Hid (RowsI wr w.heap.size ls.length k ls) ∧ Below w.heap.size w wr) (fun i _ => ls.length - (intOf i).toNat)
 case atStart => exact ⟨0, Nat.zero_le _, rfl, hrow, hB1⟩
 case round =>
  obtain ⟨k, hk, rfl, hrow, hbel⟩ := hrel
  clear hB1
  by_cases hlt : k < ls.length
  ·obtain ⟨_, b, o, ai, cai, rfl, hb, ⟨c0, c1, c2, c3, c4, c5, c6, c7⟩, hcd, _, _⟩ := HC.out.at hbel hlt
   have HP : Hid (∀ W g1, RowsI W w.heap.size ls.length k ls → w.heap.size < g1 → Rows3 W g1 (iex (ls.getD k it0)).length (iex (ls.getD k it0)).length (iex (ls.getD k it0)) → RowsI (put8 W w.heap.size (k * 8) (.int .i64 (ik (ls.getD k it0))) (.string (inm (ls.getD k it0))) (.int .i64 (ity (ls.getD k it0))) (.int .i64 (ilo (ls.getD k it0))) (.int .i64 (ihi (ls.getD k it0))) (.string (itx (ls.getD k it0))) (.slice (some ⟨g1, 0, none⟩) (iex (ls.getD k it0)).length (iex (ls.getD k it0)).length) (.bool (ihd (ls.getD k it0)))) w.heap.size ls.length (k + 1) ls) := fun W g1 h h1 h2 => h.put hlt h1 h2
   generalize ls.getD k it0 = p at c0 c1 c2 c3 c4 c5 c6 c7 hcd HP
   obtain ⟨kk, s, ty, lo, hi, t, ps, hd⟩ := p
   dsimp only [ik, inm, ity, ilo, ihi, itx, iex, ihd] at c0 c1 c2 c3 c4 c5 c6 c7 hcd HP
   have HB : Hid (Below w.heap.size w wr) := hbel
   have HCd := hid hcd
   clear hbel hcd
   go_wp2_with fail
   refine (toItem8 kk s ty lo hi t ai cai ps hd wr HCd.out).mono ?_
   rintro e w2 ⟨g1, rfl, hg1, hr1, hB2⟩
   have HR2 := hid (hrow.out.on hB2)
   have HB2 : Hid (Below w.heap.size w w2) := HB.out.trans (hB2.mono HB.out.size)
   have HG := hid hr1
   have HL : Hid (w.heap.size < g1) := Nat.lt_of_lt_of_le hrow.out.lt hg1
   obtain ⟨⟨v0, r0⟩, f0⟩ := HR2.out.room (j := k * 8) (by omega)
   obtain ⟨⟨v1, r1⟩, f1⟩ := HR2.out.room (j := k * 8 + 1) (by omega)
   obtain ⟨⟨v2, r2⟩, f2⟩ := HR2.out.room (j := k * 8 + 2) (by omega)
   obtain ⟨⟨v3, r3⟩, f3⟩ := HR2.out.room (j := k * 8 + 3) (by omega)
   obtain ⟨⟨v4, r4⟩, f4⟩ := HR2.out.room (j := k * 8 + 4) (by omega)
   obtain ⟨⟨v5, r5⟩, f5⟩ := HR2.out.room (j := k * 8 + 5) (by omega)
   obtain ⟨⟨v6, r6⟩, f6⟩ := HR2.out.room (j := k * 8 + 6) (by omega)
   obtain ⟨⟨v7, r7⟩, f7⟩ := HR2.out.room (j := k * 8 + 7) (by omega)
   clear c0 c1 c2 c3 c4 c5 c6 c7 HC hrow hB2 HB hg1 hr1 HCd
   go_wp2
   refine ⟨⟨k + 1, by omega, by go_num, HP.out _ g1 HR2.out HL.out HG.out, ?_⟩, by simp [intOf]; omega⟩
   exact (((((((HB2.out.setCell (Nat.le_refl _) _).setCell (Nat.le_refl _) _).setCell (Nat.le_refl _) _).setCell (Nat.le_refl _) _).setCell (Nat.le_refl _) _).setCell (Nat.le_refl _) _).setCell (Nat.le_refl _) _).setCell (Nat.le_refl _) _
  ·go_wp2
   go_ret
   obtain rfl : k = ls.length := by omega
   exact ⟨rfl, hbel, hrow.out⟩
theorem toItsL (a : Option Addr) (cap : Nat) (ls : List It) (w : World) (hc : Its w a ls) :
  Calls Tryz.prog 10 #[.slice a ls.length cap] w fun e w' => e = .returned (.slice (some ⟨w.heap.size, 0, none⟩) ls.length ls.length) ∧ Its w' (some ⟨w.heap.size, 0, none⟩) ls ∧ Below w.heap.size w w' :=
 (toItsR a cap ls w hc).mono fun _ _ ⟨h1, h2, h3⟩ => ⟨h1, h3.its hc.1 hc.2.1 hc.len, h2⟩
set_option maxRecDepth 10000 in
set_option maxHeartbeats 1600000 in
theorem eqItem8 (k : Int) (s : ByteArray) (ty lo hi : Int) (t : ByteArray) (a a' : Option Addr) (cap cap' : Nat) (ps : List Pt) (hd : Bool) (w : World) (hc : Parts w a ps) (hc' : Parts w a' ps) :
  Calls Tryz.prog 34 #[.agg #[.int .i64 k, .string s, .int .i64 ty, .int .i64 lo, .int .i64 hi, .string t, .slice a ps.length cap, .bool hd], .agg #[.int .i64 k, .string s, .int .i64 ty, .int .i64 lo, .int .i64 hi, .string t, .slice a' ps.length cap', .bool hd]] w fun e w' => e = .returned (.bool true) ∧ Below w.heap.size w w' := by
 have HC : Hid (Parts w a ps) := hc
 have HC' : Hid (Parts w a' ps) := hc'
 clear hc hc'
 go_enter Tryz.func34, Tryz.ntmps34
 go_wp2_with fail
 refine (eqParts a a' cap cap' ps _ (HC.out.on ?hb) (HC'.out.on ?hb)).mono ?_
 case hb => go_grown
 rintro e w1 ⟨rfl, hB1⟩
 have HB : Hid (Below w.heap.size w w1) := Below.trans ?hb (hB1.mono (by simp; omega))
 case hb => go_grown
 obtain ⟨hcl, hfz⟩ := bcell hB1
 clear hB1 HC HC'
 go_wp2
 go_ret
 exact ⟨rfl, HB.out⟩
end Go.Proofs.YtmbhmknfipdadaaGreatDoor.ItmW
namespace Go.Proofs.YtmbhmknfipdadaaGreatDoor.PrtW
open Go.RowKit
end Go.Proofs.YtmbhmknfipdadaaGreatDoor.PrtW
namespace Go.Proofs.YtmbhmknfipdadaaGreatDoor.ItmW
open Go.RowKit
open PrtW
set_option maxRecDepth 10000 in
set_option maxHeartbeats 800000 in
theorem szPartsG (a : Option Addr) (cap : Nat) (ps : List Pt) (l0 : Nat) (hl0 : l0 ≤ 1048576) (w : World) (hc : Raw w a ps) :
  Calls Tryz.prog 50 #[.slice a ps.length cap, .int .i64 l0] w fun e w' => (∃ r : Int, e = .returned (.int .i64 r) ∧ (r < 0 ↔ l0 < ps.length + bulk ps) ∧ (ps.length + bulk ps ≤ l0 → r = l0 - (ps.length + bulk ps))) ∧ Below w.heap.size w w' := by
 have HC : Hid (Raw w a ps) := hc
 have hl := hc.1
 unfold maxLen at hl
 clear hc
 go_enter Tryz.func50, Tryz.ntmps50
 by_cases hbig : l0 < ps.length
 ·go_wp2
  go_ret
  exact ⟨⟨_, rfl, by omega, by omega⟩, by go_grown⟩
 go_wp2
 go_loopw [1, 5] (fun l i wr => ∃ k : Nat, k ≤ ps.length ∧ i = .int .i64 k ∧ ps.length + bulk (ps.take k) ≤ l0 ∧ l = .int .i64 (l0 - ps.length - bulk (ps.take k)) ∧ Below w.heap.size w wr) (fun _ i _ => ps.length - (intOf i).toNat)
 case atStart => exact ⟨0, Nat.zero_le _, rfl, by simp [bulk]; omega, by simp [bulk], Below.refl _ _⟩
 case round =>
  obtain ⟨k, hk, rfl, hle, rfl, hbel⟩ := hrel
  by_cases hlt : k < ps.length
  ·have hnx := bulk_take ps k hlt
   have hall := bulk_le ps (k + 1)
   have HN : Hid (bulk (ps.take (k + 1)) = bulk (ps.take k) + (ps.getD k pt0).2.2.size) := hnx
   obtain ⟨_, hfit, h1⟩ := HC.out
   have hsz := (hfit k hlt).2.2
   obtain ⟨b, o, rfl, hb, hcs⟩ := h1 (by omega)
   obtain ⟨c0, c1, c2⟩ := hcs k hlt
   rw [← hbel.cell (p := ⟨b, _, none⟩) hb] at c0 c1 c2
   generalize ps.getD k pt0 = p at c0 c1 c2 hnx hsz HN
   obtain ⟨x, n, t⟩ := p
   have HB : Hid (Below w.heap.size w wr) := hbel
   clear hcs h1 hbel hfit HC
   generalize hB' : bulk (List.take (k + 1) ps) = B' at *
   have HB' := hid hB'
   clear hB'
   generalize bulk (List.take k ps) = B at *
   by_cases hyes : ps.length + B + t.size ≤ l0
   ·go_wp2_with fail
    refine (szPart_yes x n t _ (by omega) (by omega) wr).mono ?_
    rintro e w2 ⟨rfl, hB2⟩
    have HB2 : Hid (Below w.heap.size w w2) := HB.out.trans (hB2.mono HB.out.size)
    clear hB2 HB c0 c1 c2
    go_wp2
    refine ⟨⟨k + 1, by omega, by go_num, by rw [HB'.out]; omega, ?_, HB2.out⟩, by simp [intOf]; omega⟩
    rw [HB'.out, hnx]
    congr 1
    omega
   ·go_wp2_with fail
    refine (szPart_no x n t _ (by omega) (by omega) (by omega) hsz wr).mono ?_
    rintro e w2 ⟨rfl, hB2⟩
    have HB2 : Hid (Below w.heap.size w w2) := HB.out.trans (hB2.mono HB.out.size)
    clear hB2 HB c0 c1 c2
    go_wp2
    go_ret
    exact ⟨⟨_, rfl, by omega, by omega⟩, HB2.out⟩
  ·go_wp2
   go_ret
   obtain rfl : k = ps.length := by omega
   rw [List.take_length] at *
   exact ⟨⟨_, rfl, by omega, by omega⟩, hbel⟩
set_option maxHeartbeats 1600000 in
theorem szItem_yes (k : Int) (s : ByteArray) (ty lo hi : Int) (t : ByteArray) (a : Option Addr) (cap : Nat) (ps : List Pt) (hd : Bool) (z : Nat) (hz : z ≤ 1048576) (h : s.size + t.size + (ps.length + bulk ps) ≤ z) (w : World) (hc : Raw w a ps) :
  Calls Tryz.prog 26 #[.agg #[.int .i64 k, .string s, .int .i64 ty, .int .i64 lo, .int .i64 hi, .string t, .slice a ps.length cap, .bool hd], .int .i64 z] w fun e w' => e = .returned (.int .i64 ((z : Int) - (s.size + t.size + (ps.length + bulk ps)))) ∧ Below w.heap.size w w' := by
 have HC := hid hc
 clear hc
 obtain ⟨b, hb⟩ : ∃ b, Hid (bulk ps = b) := ⟨_, rfl⟩
 rw [hb.out] at h ⊢
 obtain ⟨z1, hz1⟩ : ∃ z1 : Nat, Hid ((z1 : Int) = (z : Int) - s.size - t.size) := ⟨z - s.size - t.size, by show _ = _; omega⟩
 have hz1' := hz1.out
 go_enter Tryz.func26, Tryz.ntmps26
 go_wp2_with fail
 rw [← hz1.out]
 refine (szPartsG a cap ps z1 (by omega) _ (raw_on HC.out ?hb)).mono ?_
 case hb => go_grown
 rintro e w1 ⟨⟨r, rfl, _, hr2⟩, hB1⟩
 have HB : Hid (Below w.heap.size w w1) := Below.trans ?hb (hB1.mono (by simp))
 case hb => go_grown
 rw [hb.out] at hr2
 have hr3 := hr2 (by omega)
 subst hr3
 clear hB1 HC hr2
 go_wp2
 go_ret
 exact ⟨by rw [show (z : Int) - (s.size + t.size + (ps.length + b)) = (z : Int) - s.size - t.size - (ps.length + b) by omega]; rfl, HB.out⟩
set_option maxHeartbeats 1600000 in
theorem szItem_no (k : Int) (s : ByteArray) (ty lo hi : Int) (t : ByteArray) (a : Option Addr) (cap : Nat) (ps : List Pt) (hd : Bool) (z : Nat) (hz : z ≤ 1048576) (h : z < s.size + t.size + (ps.length + bulk ps)) (hs : s.size ≤ maxLen) (ht : t.size ≤ maxLen) (w : World) (hc : Raw w a ps) :
  Calls Tryz.prog 26 #[.agg #[.int .i64 k, .string s, .int .i64 ty, .int .i64 lo, .int .i64 hi, .string t, .slice a ps.length cap, .bool hd], .int .i64 z] w fun e w' => e = .returned (.int .i64 (-1)) ∧ Below w.heap.size w w' := by
 have HC := hid hc
 unfold maxLen at hs ht
 clear hc
 by_cases h1 : (z : Int) < s.size
 ·go_enter Tryz.func26, Tryz.ntmps26
  go_wp2
  go_ret
  exact ⟨rfl, by go_grown⟩
 by_cases h2 : (z : Int) - s.size < t.size
 ·go_enter Tryz.func26, Tryz.ntmps26
  go_wp2
  go_ret
  exact ⟨rfl, by go_grown⟩
 obtain ⟨b, hb⟩ : ∃ b, Hid (bulk ps = b) := ⟨_, rfl⟩
 rw [hb.out] at h
 obtain ⟨z1, hz1⟩ : ∃ z1 : Nat, Hid ((z1 : Int) = (z : Int) - s.size - t.size) := ⟨z - s.size - t.size, by show _ = _; omega⟩
 have hz1' := hz1.out
 go_enter Tryz.func26, Tryz.ntmps26
 go_wp2_with fail
 rw [← hz1.out]
 refine (szPartsG a cap ps z1 (by omega) _ (raw_on HC.out ?hb)).mono ?_
 case hb => go_grown
 rintro e w1 ⟨⟨r, rfl, hr1, _⟩, hB1⟩
 have HB : Hid (Below w.heap.size w w1) := Below.trans ?hb (hB1.mono (by simp))
 case hb => go_grown
 rw [hb.out] at hr1
 have hr3 : r < 0 := hr1.2 (by omega)
 clear hB1 HC hr1
 go_wp2
 go_ret
 exact ⟨rfl, HB.out⟩
set_option maxRecDepth 10000 in
set_option maxHeartbeats 1600000 in
theorem szItsL (a : Option Addr) (cap : Nat) (ls : List It) (l0 : Nat) (hl0 : l0 ≤ 1048576) (w : World) (hc : RawI w a ls) :
  Calls Tryz.prog 7 #[.slice a ls.length cap, .int .i64 l0] w fun e w' => (∃ r : Int, e = .returned (.int .i64 r) ∧ (r < 0 ↔ l0 < ls.length + bulkI ls) ∧ (ls.length + bulkI ls ≤ l0 → r = l0 - (ls.length + bulkI ls))) ∧ Below w.heap.size w w' := by
 have HC : Hid (RawI w a ls) := hc
 have hl := hc.1
 unfold maxLen at hl
 clear hc
 go_enter Tryz.func7, Tryz.ntmps7
 by_cases hbig : l0 < ls.length
 ·go_wp2
  go_ret
  exact ⟨⟨_, rfl, by omega, by omega⟩, by go_grown⟩
 go_wp2
 go_loopw [1, 5] (fun l i wr => ∃ k z : Nat, k ≤ ls.length ∧ i = .int .i64 k ∧ ls.length + bulkI (ls.take k) + z = l0 ∧ l = .int .i64 z ∧ Below w.heap.size w wr) (fun _ i _ => ls.length - (intOf i).toNat)
 case atStart => exact ⟨0, l0 - ls.length, Nat.zero_le _, rfl, by simp [bulkI]; omega, by congr 1; omega, Below.refl _ _⟩
 case round =>
  obtain ⟨k, z, hk, rfl, hle, rfl, hbel⟩ := hrel
  by_cases hlt : k < ls.length
  ·have hnx := bulkI_take ls k hlt
   have hall := bulkI_le ls (k + 1)
   obtain ⟨_, hfit, h1⟩ := HC.out
   obtain ⟨hs1, hs2⟩ := hfit k hlt
   obtain ⟨b, o, rfl, hb, hcs⟩ := h1 (by omega)
   obtain ⟨ai, cai, hF, hcr, _⟩ := hcs k hlt
   obtain ⟨c0, c1, c2, c3, c4, c5, c6, c7⟩ := hF.on hb hbel
   have HCr := hid (raw_on hcr hbel)
   generalize ls.getD k it0 = p at c0 c1 c2 c3 c4 c5 c6 c7 hnx hs1 hs2 HCr
   obtain ⟨kk, s, ty, lo, hi, t, ps, hd⟩ := p
   dsimp only [ik, inm, ity, ilo, ihi, itx, iex, ihd] at c0 c1 c2 c3 c4 c5 c6 c7 hs1 hs2 HCr
   replace hnx : bulkI (List.take (k + 1) ls) = bulkI (List.take k ls) + (s.size + t.size + (ps.length + bulk ps)) := hnx
   have HB : Hid (Below w.heap.size w wr) := hbel
   clear hcs h1 hbel hfit HC hF hcr
   generalize hB' : bulkI (List.take (k + 1) ls) = B' at *
   have HB' := hid hB'
   clear hB'
   generalize bulkI (List.take k ls) = B at *
   obtain ⟨sz, hsz⟩ : ∃ sz, Hid (s.size + t.size + (ps.length + bulk ps) = sz) := ⟨_, rfl⟩
   rw [hsz.out] at hnx
   by_cases hyes : sz ≤ z
   ·go_wp2_with fail
    refine (szItem_yes kk s ty lo hi t ai cai ps hd z (by omega) (by rw [hsz.out]; exact hyes) wr HCr.out).mono ?_
    rintro e w2 ⟨rfl, hB2⟩
    have HB2 : Hid (Below w.heap.size w w2) := HB.out.trans (hB2.mono HB.out.size)
    have hq : (z : Int) - (s.size + t.size + (ps.length + bulk ps)) = ((z - sz : Nat) : Int) := by have := hsz.out; omega
    rw [hq]
    obtain ⟨z2, hz2⟩ : ∃ z2 : Nat, z2 + sz = z := ⟨z - sz, by omega⟩
    have hz3 : z - sz = z2 := by omega
    rw [hz3]
    clear hB2 HB c0 c1 c2 c3 c4 c5 c6 c7 hq hz3
    go_wp2
    exact ⟨⟨k + 1, z2, by omega, by go_num, by rw [HB'.out]; omega, rfl, HB2.out⟩, by simp [intOf]; omega⟩
   ·go_wp2_with fail
    refine (szItem_no kk s ty lo hi t ai cai ps hd z (by omega) (by rw [hsz.out]; omega) hs1 hs2 wr HCr.out).mono ?_
    rintro e w2 ⟨rfl, hB2⟩
    have HB2 : Hid (Below w.heap.size w w2) := HB.out.trans (hB2.mono HB.out.size)
    clear hB2 HB c0 c1 c2 c3 c4 c5 c6 c7
    go_wp2
    go_ret
    exact ⟨⟨_, rfl, by omega, by omega⟩, HB2.out⟩
  ·go_wp2
   go_ret
   obtain rfl : k = ls.length := by omega
   rw [List.take_length] at *
   exact ⟨⟨_, rfl, by omega, by omega⟩, hbel⟩
theorem held16 {wr w' : World} {b b' o o' : Nat} {p q : It} {a a' : Option Addr} {c c' : Nat} (hb : b < wr.heap.size) (hb' : b' < wr.heap.size) (h : Eight wr b o p a c) (h' : Eight wr b' o' q a' c') (hB : Below wr.heap.size wr w') :
  Below wr.heap.size wr w' ∧ (w'.cell? ⟨b, o, none⟩ = some (.int .i64 (ik p)) ∧ w'.cell? ⟨b, o + 1, none⟩ = some (.string (inm p)) ∧ w'.cell? ⟨b, o + 2, none⟩ = some (.int .i64 (ity p)) ∧ w'.cell? ⟨b, o + 3, none⟩ = some (.int .i64 (ilo p)) ∧ w'.cell? ⟨b, o + 4, none⟩ = some (.int .i64 (ihi p)) ∧ w'.cell? ⟨b, o + 5, none⟩ = some (.string (itx p)) ∧ w'.cell? ⟨b, o + 6, none⟩ = some (.slice a (iex p).length c) ∧ w'.cell? ⟨b, o + 7, none⟩ = some (.bool (ihd p))) ∧ (w'.cell? ⟨b', o', none⟩ = some (.int .i64 (ik q)) ∧ w'.cell? ⟨b', o' + 1, none⟩ = some (.string (inm q)) ∧ w'.cell? ⟨b', o' + 2, none⟩ = some (.int .i64 (ity q)) ∧ w'.cell? ⟨b', o' + 3, none⟩ = some (.int .i64 (ilo q)) ∧ w'.cell? ⟨b', o' + 4, none⟩ = some (.int .i64 (ihi q)) ∧ w'.cell? ⟨b', o' + 5, none⟩ = some (.string (itx q)) ∧ w'.cell? ⟨b', o' + 6, none⟩ = some (.slice a' (iex q).length c') ∧ w'.cell? ⟨b', o' + 7, none⟩ = some (.bool (ihd q))) :=
 ⟨hB, h.on hb hB, h'.on hb' hB⟩
set_option maxRecDepth 10000 in
set_option maxHeartbeats 3200000 in
theorem eqItsL (a a' : Option Addr) (cap cap' : Nat) (ls : List It) (w : World) (hc : Its w a ls) (hc' : Its w a' ls) :
    Calls Tryz.prog 14 #[.slice a ls.length cap, .slice a' ls.length cap'] w fun e w' => e = .returned (.bool true) ∧ Below w.heap.size w w' := by
  have HC : Hid (Its w a ls) := hc
  have HC' : Hid (Its w a' ls) := hc'
  have hl := hc.1
  clear hc hc'
  go_enter Tryz.func14, Tryz.ntmps14
  go_wp2
  go_loopw [5] (fun i wr => ∃ k : Nat, k ≤ ls.length ∧ i = .int .i64 k ∧ Below w.heap.size w wr) (fun i _ => ls.length - (intOf i).toNat)
  case atStart => exact ⟨0, Nat.zero_le _, rfl, Below.refl _ _⟩
  case round =>
    obtain ⟨k', hk, rfl, hbel⟩ := hrel
    by_cases hlt : k' < ls.length
    · obtain ⟨_, b, o, ai, ci, rfl, hb, hF, hcd, _, _⟩ := HC.out.at hbel hlt
      obtain ⟨_, b', o', ai', ci', rfl, hb', hF', hcd', _, _⟩ := HC'.out.at hbel hlt
      generalize ls.getD k' it0 = p at hF hF' hcd hcd'
      obtain ⟨k, s, ty, lo, hi, t, ps, hd⟩ := p
      dsimp only [iex] at hcd hcd'
      have HB : Hid (Below w.heap.size w wr) := hbel
      have HF := hid hF
      have HF' := hid hF'
      have HCd := hid hcd
      have HCd' := hid hcd'
      clear HC HC' hbel hF hF' hcd hcd'
      go_wp2_with fail
      have hbr : b < wr.heap.size := Nat.lt_of_lt_of_le hb HB.out.size
      have hbr' : b' < wr.heap.size := Nat.lt_of_lt_of_le hb' HB.out.size
      have hB0 : Below wr.heap.size wr wr.drew := (Below.refl _ _).drew
      go_region_held3 (fun w' => Below wr.heap.size wr w' ∧ (w'.cell? ⟨b, o + k' * 8, none⟩ = some (.int .i64 k) ∧ w'.cell? ⟨b, o + k' * 8 + 1, none⟩ = some (.string s) ∧ w'.cell? ⟨b, o + k' * 8 + 2, none⟩ = some (.int .i64 ty) ∧ w'.cell? ⟨b, o + k' * 8 + 3, none⟩ = some (.int .i64 lo) ∧ w'.cell? ⟨b, o + k' * 8 + 4, none⟩ = some (.int .i64 hi) ∧ w'.cell? ⟨b, o + k' * 8 + 5, none⟩ = some (.string t) ∧ w'.cell? ⟨b, o + k' * 8 + 6, none⟩ = some (.slice ai ps.length ci) ∧ w'.cell? ⟨b, o + k' * 8 + 7, none⟩ = some (.bool hd)) ∧ (w'.cell? ⟨b', o' + k' * 8, none⟩ = some (.int .i64 k) ∧ w'.cell? ⟨b', o' + k' * 8 + 1, none⟩ = some (.string s) ∧ w'.cell? ⟨b', o' + k' * 8 + 2, none⟩ = some (.int .i64 ty) ∧ w'.cell? ⟨b', o' + k' * 8 + 3, none⟩ = some (.int .i64 lo) ∧ w'.cell? ⟨b', o' + k' * 8 + 4, none⟩ = some (.int .i64 hi) ∧ w'.cell? ⟨b', o' + k' * 8 + 5, none⟩ = some (.string t) ∧ w'.cell? ⟨b', o' + k' * 8 + 6, none⟩ = some (.slice ai' ps.length ci') ∧ w'.cell? ⟨b', o' + k' * 8 + 7, none⟩ = some (.bool hd)))
        (first | exact held16 hbr hbr' HF.out HF'.out (by assumption))
        (first | (go_at_call 34
                  have hp := ‹Below wr.heap.size wr _ ∧ _›.1
                  refine (eqItem8 k s ty lo hi t ai ai' ci ci' ps hd _ (HCd.out.on hp) (HCd'.out.on hp)).mono ?_
                  rintro e w' ⟨rfl, hB⟩
                  have hBn := hp.trans (hB.mono hp.size)))
      go_wp2
      refine ⟨⟨k' + 1, by omega, by go_num, HB.out.trans (hBn.mono HB.out.size)⟩, by simp [intOf]; omega⟩
    · go_wp2
      go_ret
      exact ⟨rfl, hbel⟩
end Go.Proofs.YtmbhmknfipdadaaGreatDoor.ItmW
namespace Go.Proofs.YtmbhmknfipdadaaGreatDoor.RdS
open Go.RowKit
open ValW
theorem own_codes {w : World} {base : Nat} {v : Value} {zs : List Int} (h : w.ownsRow base 2 1 v zs.length (cellsI zs)) (hl : zs.length ≤ 1048576) : ∃ a cap, v = .slice a zs.length cap ∧ Codes w a zs ∧ (a = none ∨ ∃ g, a = some ⟨g, 0, none⟩ ∧ base ≤ g) := by
 rcases h.2 with ⟨rfl, h0⟩ | ⟨g, cap, cur, rfl, hb, hg, hn, hm, hs, ht⟩
 ·rw [h0]
  have : zs = [] := List.length_eq_zero_iff.1 h0
  subst this
  exact ⟨none, 0, rfl, Codes.nil _ _, .inl rfl⟩
 ·refine ⟨_, cap, rfl, ⟨hl, fun hp => ⟨g, 0, rfl, (Array.getElem?_eq_some_iff.1 hg).1, fun i hi => ?_⟩⟩, .inr ⟨g, rfl, hb⟩⟩
  have e : (cellsI zs)[i]? = some (.int .i64 (zs.getD i 0)) := by unfold cellsI; simp [List.getD, List.getElem?_eq_getElem hi]
  rw [← ht, List.getElem?_take, if_pos (by omega)] at e
  simp only [World.cell?, hg, Nat.zero_add]
  simpa using e
theorem codes_set {w : World} {a : Option Addr} {zs : List Int} {p : Addr} (h : Codes w a zs) (hne : ∀ b o, a = some ⟨b, o, none⟩ → p.block ≠ b) (v : Value) : Codes (w.setCell p v) a zs := by
 refine ⟨h.1, fun hp => ?_⟩
 obtain ⟨b, o, ha, hb, hc⟩ := h.2 hp
 exact ⟨b, o, ha, by simpa using hb, fun i hi => by rw [World.cell?_setCell_other w p ⟨b, o + i, none⟩ _ (by intro e; exact hne b o ha (by rw [e]))]; exact hc i hi⟩
def Fresh (a : Option Addr) (B : Nat) : Prop := ∀ b o, a = some ⟨b, o, none⟩ → B ≤ b
theorem fresh_none (B : Nat) : Fresh none B := fun _ _ h => by cases h
end Go.Proofs.YtmbhmknfipdadaaGreatDoor.RdS
namespace Go.Proofs.YtmbhmknfipdadaaGreatDoor.RdI
open Go.RowKit
open ValW
def Free (w : World) (a : Option Addr) (zs : List Int) : Prop := ∀ b o, a = some ⟨b, o, none⟩ → ∀ i, i < zs.length → b < w.heap.size ∧ w.frozen? ⟨b, o + i, none⟩ = false
theorem Free.on {w w' : World} {a : Option Addr} {zs : List Int} (h : Free w a zs) (hB : Below w.heap.size w w') : Free w' a zs := fun b o ha i hi => by
 have := h b o ha i hi
 exact ⟨Nat.lt_of_lt_of_le this.1 hB.size, by rw [hB.frozen (p := ⟨b, o + i, none⟩) this.1]; exact this.2⟩
theorem free_nil (w : World) (a : Option Addr) : Free w a [] := fun _ _ _ i hi => absurd hi (Nat.not_lt_zero i)
theorem free_set {w : World} {a : Option Addr} {zs : List Int} (h : Free w a zs) (p : Addr) (v : Value) : Free (w.setCell p v) a zs := fun b o ha i hi => by
 have := h b o ha i hi
 exact ⟨by simpa using this.1, by simpa using this.2⟩
theorem own_free {w : World} {base n : Nat} {a : Option Addr} {cap : Nat} {zs : List Int} (h : w.ownsRow base 2 1 (.slice a zs.length cap) n (cellsI zs)) : Free w a zs := by
 rcases h.2 with ⟨h0, _⟩ | ⟨g, cap', cur, h0, _, hg, _⟩
 ·have e : a = none := by injection h0
  subst e; intro b o ha; cases ha
 ·have e : a = some ⟨g, 0, none⟩ := by injection h0
  subst e
  intro b o ha i _
  cases ha
  exact ⟨(Array.getElem?_eq_some_iff.1 hg).1, by simp [World.frozen?, hg]⟩
end Go.Proofs.YtmbhmknfipdadaaGreatDoor.RdI
