/- Texts of ours, laid together. -/
import Derived.Test.YtmbhmknfipdadaaGreatDoorBd18
namespace Go.Proofs.YtmbhmknfipdadaaGreatDoor.AnsW
open Go.RowKit
open ValW
def Within (w w' : World) (g e : Nat) : Prop := w'.os = w.os ∧ w'.tape = w.tape ∧ w'.output = w.output ∧ w.heap.size ≤ w'.heap.size ∧ ∀ j, j < w.heap.size → (j < g ∨ e ≤ j) → w'.heap[j]? = w.heap[j]?
theorem Within.refl (w : World) (g e : Nat) : Within w w g e := ⟨rfl, rfl, rfl, Nat.le_refl _, fun _ _ _ => rfl⟩
theorem Within.on {w w' w'' : World} {g e : Nat} (h : Within w w' g e) (hB : Below w'.heap.size w' w'') : Within w w'' g e :=
 ⟨hB.os.trans h.1, hB.tape.trans h.2.1, hB.output.trans h.2.2.1, Nat.le_trans h.2.2.2.1 hB.size, fun j hj hn => (hB.block j (Nat.lt_of_lt_of_le hj h.2.2.2.1)).trans (h.2.2.2.2 j hj hn)⟩
theorem Within.trans {w w' w'' : World} {g e : Nat} (h : Within w w' g e) (k : Within w' w'' g e) : Within w w'' g e :=
 ⟨k.1.trans h.1, k.2.1.trans h.2.1, k.2.2.1.trans h.2.2.1, Nat.le_trans h.2.2.2.1 k.2.2.2.1, fun j hj hn => (k.2.2.2.2 j (Nat.lt_of_lt_of_le hj h.2.2.2.1) hn).trans (h.2.2.2.2 j hj hn)⟩
theorem Within.set {w w' : World} {g e : Nat} (h : Within w w' g e) (he : g < e) (o : Nat) (v : Value) : Within w (w'.setCell ⟨g, o, none⟩ v) g e :=
 ⟨h.1, h.2.1, h.2.2.1, by simpa using h.2.2.2.1, fun j hj hn => by rw [Below.heap_setCell _ _ _ _ (by simp only; omega)]; exact h.2.2.2.2 j hj hn⟩
theorem Within.below {w w' : World} {g e B : Nat} (h : Within w w' g e) (hg : B ≤ g) (hs : B ≤ w.heap.size) : Below B w w' :=
 ⟨h.1, h.2.1, h.2.2.1, h.2.2.2.1, fun j hj => h.2.2.2.2 j (by omega) (.inl (by omega))⟩
def MkA (w : World) (g e n : Nat) (len : Nat → Nat) : Prop :=
 g < e ∧ ∃ cs : Array Value, w.heap[g]? = some (.cells cs 61 (0, 0)) ∧ cs.size = n * 5 ∧ ∀ i, i < n → ∃ g', g < g' ∧ g' < e ∧ cs[i * 5 + 3]? = some (.slice (some ⟨g', 0, none⟩) (len i) (len i)) ∧ ∃ zs : List Int, zs.length = len i ∧ w.heap[g']? = some (.cells (cellsI zs).toArray 2 (0, 0))
theorem RowsA.mkA {w : World} {g n : Nat} {ls : List An} (h : RowsA w g n ls.length ls) (hn : n = ls.length) : MkA w g w.heap.size n fun i => (cd (ls.getD i an0)).length := by
 subst hn
 refine ⟨h.lt, ?_⟩
 obtain ⟨cs, h1, h2, h3⟩ := h
 refine ⟨cs, h1, h2, fun i hi => ?_⟩
 obtain ⟨g', a, b, _, _, _, c, _⟩ := h3 i hi
 exact ⟨g', a, blk_lt b, c, _, rfl, b⟩
theorem MkA.on {w w' : World} {g e n : Nat} {len : Nat → Nat} (h : MkA w g e n len) (hB : Below w.heap.size w w') : MkA w' g e n len := by
 obtain ⟨he, cs, h1, h2, h3⟩ := h
 refine ⟨he, cs, by rw [hB.block g (blk_lt h1)]; exact h1, h2, fun i hi => ?_⟩
 obtain ⟨g', a, b, c, zs, d, f⟩ := h3 i hi
 exact ⟨g', a, b, c, zs, d, by rw [hB.block g' (blk_lt f)]; exact f⟩
theorem MkA.set {w : World} {g e n : Nat} {len : Nat → Nat} (h : MkA w g e n len) (o : Nat) (ho : ∀ i, i < n → o ≠ i * 5 + 3) (v : Value) : MkA (w.setCell ⟨g, o, none⟩ v) g e n len := by
 obtain ⟨he, cs, h1, h2, h3⟩ := h
 refine ⟨he, _, blk_set _ _ _ _ _ _ h1, by simpa using h2, fun i hi => ?_⟩
 obtain ⟨g', a, b, c, zs, d, f⟩ := h3 i hi
 exact ⟨g', a, b, by rw [Array.getElem?_setIfInBounds, if_neg (ho i hi)]; exact c, zs, d, blk_other f (by simp only; omega) _⟩
theorem MkA.room {w : World} {g e n : Nat} {len : Nat → Nat} (h : MkA w g e n len) {j : Nat} (hj : j < n * 5) : (∃ v, w.cell? ⟨g, j, none⟩ = some v) ∧ w.frozen? ⟨g, j, none⟩ = false := by
 obtain ⟨_, cs, hg, hs, _⟩ := h
 refine ⟨⟨cs[j]'(by omega), ?_⟩, by simp [World.frozen?, hg]⟩
 simp [World.cell?, hg, show j < cs.size by omega]
theorem MkA.at {w : World} {g e n : Nat} {len : Nat → Nat} (h : MkA w g e n len) {i : Nat} (hi : i < n) : ∃ g', g < g' ∧ g' < e ∧ w.cell? ⟨g, i * 5 + 3, none⟩ = some (.slice (some ⟨g', 0, none⟩) (len i) (len i)) ∧ ∃ zs : List Int, zs.length = len i ∧ w.heap[g']? = some (.cells (cellsI zs).toArray 2 (0, 0)) := by
 obtain ⟨_, cs, hg, hs, h3⟩ := h
 obtain ⟨g', a, b, c, d⟩ := h3 i hi
 exact ⟨g', a, b, by simp [World.cell?, hg, c], d⟩
theorem MkA.codes {w w' : World} {g e n g1 : Nat} {len : Nat → Nat} {zs zs' : List Int} (h : MkA w g e n len) (hg1 : g < g1) (h0 : w.heap[g1]? = some (.cells (cellsI zs).toArray 2 (0, 0))) (hz : zs'.length = zs.length)
  (h1 : w'.heap[g1]? = some (.cells (cellsI zs').toArray 2 (0, 0))) (hs : ∀ j, j < w.heap.size → j ≠ g1 → w'.heap[j]? = w.heap[j]?) : MkA w' g e n len := by
 obtain ⟨he, cs, k1, k2, k3⟩ := h
 refine ⟨he, cs, by rw [hs g (blk_lt k1) (by omega)]; exact k1, k2, fun i hi => ?_⟩
 obtain ⟨g', a, b, c, ys, d, f⟩ := k3 i hi
 by_cases eq : g' = g1
 ·subst eq
  have hl : (cellsI ys).length = (cellsI zs).length := by
   rw [h0] at f
   have f' := Option.some.inj f
   injection f' with f1
   have := congrArg Array.size f1
   simpa using this.symm
  refine ⟨g', a, b, c, zs', ?_, h1⟩
  have : ys.length = zs.length := by simpa [cellsI] using hl
  omega
 ·exact ⟨g', a, b, c, ys, d, by rw [hs g' (blk_lt f) eq]; exact f⟩
def rowM (zs : List Int) (k : Int) (j : Nat) : List Int := (List.range zs.length).map fun (i : Nat) => if i < j then k + (i : Int) else zs.getD i 0
theorem rowM_len (zs : List Int) (k : Int) (j : Nat) : (rowM zs k j).length = zs.length := by simp [rowM]
theorem rowM_zero (zs : List Int) (k : Int) : rowM zs k 0 = zs := by
 apply List.ext_getElem
 ·simp [rowM]
 ·intro i h1 h2; simp [rowM, List.getD, List.getElem?_eq_getElem h2]
theorem rowM_set (zs : List Int) (k : Int) (j : Nat) : (cellsI (rowM zs k j)).toArray.setIfInBounds j (.int .i64 (k + (j : Int))) = (cellsI (rowM zs k (j + 1))).toArray := by
 rw [List.setIfInBounds_toArray]
 congr 1
 apply List.ext_getElem
 ·simp [cellsI, rowM]
 ·intro i h1 h2
  rw [List.getElem_set]
  by_cases e : j = i
  ·subst e; simp [cellsI, rowM]
  ·have e2 : (i < j + 1) ↔ i < j := by omega
   simp [cellsI, rowM, e, e2]
set_option maxRecDepth 10000 in
set_option maxHeartbeats 1000000 in
theorem mark_block (g : Nat) (zs : List Int) (cap : Nat) (k : Int) (w : World) (hg : w.heap[g]? = some (.cells (cellsI zs).toArray 2 (0, 0))) (hl : zs.length ≤ 1048576) (hk0 : 0 ≤ k) (hk1 : k ≤ 100000000) :
  Calls Tryz.prog 38 #[.slice (some ⟨g, 0, none⟩) zs.length cap, .int .i64 k] w fun e w' => e = .returned (.int .i64 (k + zs.length)) ∧ w'.os = w.os ∧ w'.tape = w.tape ∧ w'.output = w.output ∧ w'.heap.size = w.heap.size ∧
   w'.heap[g]? = some (.cells (cellsI (rowM zs k zs.length)).toArray 2 (0, 0)) ∧ ∀ j, j ≠ g → w'.heap[j]? = w.heap[j]? := by
 have HG := hid hg
 clear hg
 go_enter Tryz.func38, Tryz.ntmps38
 go_wp2
 go_loopw [1, 5] (fun kv iv wr => ∃ j : Nat, j ≤ zs.length ∧ iv = .int .i64 j ∧ kv = .int .i64 (k + j) ∧ Hid (wr.os = w.os ∧ wr.tape = w.tape ∧ wr.output = w.output ∧ wr.heap.size = w.heap.size ∧ wr.heap[g]? = some (.cells (cellsI (rowM zs k j)).toArray 2 (0, 0)) ∧ ∀ j, j ≠ g → wr.heap[j]? = w.heap[j]?)) (fun _ i _ => zs.length - (intOf i).toNat)
 case atStart => exact ⟨0, Nat.zero_le _, rfl, by simp, rfl, rfl, rfl, rfl, by rw [rowM_zero]; exact HG.out, fun _ _ => rfl⟩
 case round =>
  obtain ⟨j, hj, rfl, rfl, hI⟩ := hrel
  by_cases hlt : j < zs.length
  ·obtain ⟨i1, i2, i3, i4, i5, i6⟩ := hI.out
   have hold : wr.cell? ⟨g, j, none⟩ = some ((cellsI (rowM zs k j))[j]'(by simp [cellsI, rowM]; exact hlt)) := by simp [World.cell?, i5]
   have hfr : wr.frozen? ⟨g, j, none⟩ = false := by simp [World.frozen?, i5]
   generalize (cellsI (rowM zs k j))[j]'(by simp [cellsI, rowM]; exact hlt) = ov at hold
   have HN : Hid ((wr.setCell ⟨g, j, none⟩ (.int .i64 (k + (j : Int)))).os = w.os ∧ (wr.setCell ⟨g, j, none⟩ (.int .i64 (k + (j : Int)))).tape = w.tape ∧ (wr.setCell ⟨g, j, none⟩ (.int .i64 (k + (j : Int)))).output = w.output ∧ (wr.setCell ⟨g, j, none⟩ (.int .i64 (k + (j : Int)))).heap.size = w.heap.size ∧
     (wr.setCell ⟨g, j, none⟩ (.int .i64 (k + (j : Int)))).heap[g]? = some (.cells (cellsI (rowM zs k (j + 1))).toArray 2 (0, 0)) ∧ ∀ i, i ≠ g → (wr.setCell ⟨g, j, none⟩ (.int .i64 (k + (j : Int)))).heap[i]? = w.heap[i]?) :=
    ⟨i1, i2, i3, by simpa using i4, by rw [← rowM_set]; exact blk_set _ _ _ _ _ _ i5, fun i hi => by rw [Below.heap_setCell _ _ _ _ hi]; exact i6 i hi⟩
   obtain ⟨m, hm⟩ : ∃ m : Int, k + (j : Int) = m := ⟨_, rfl⟩
   have hm0 : 0 ≤ m := by omega
   have hm1 : m ≤ 200000000 := by omega
   rw [hm] at HN
   rw [hm]
   clear hI i1 i2 i3 i4 i5 i6
   go_wp2
   refine ⟨⟨j + 1, by omega, by go_num, ?_, HN.out⟩, by simp [intOf]; omega⟩
   congr 1
   omega
  ·obtain rfl : j = zs.length := by omega
   go_wp2
   go_ret
   exact ⟨rfl, hI.out⟩
open Go.RowKit
open ValW
def tot (len : Nat → Nat) : Nat → Nat
 | 0 => 0
 | i + 1 => tot len i + len i
theorem tot_le (len : Nat → Nat) {i j : Nat} (h : i ≤ j) : tot len i ≤ tot len j := by
 induction h with
 | refl => exact Nat.le_refl _
 | step _ ih => exact Nat.le_trans ih (Nat.le_add_right _ _)
theorem tot_bulk (ls : List An) : ∀ k, k ≤ ls.length → tot (fun i => (cd (ls.getD i an0)).length) k ≤ bulk (ls.take k)
 | 0, _ => Nat.zero_le _
 | k + 1, hk => by
  have ih := tot_bulk ls k (by omega)
  have hb := bulk_take ls k (by omega)
  unfold wt at hb
  show tot (fun i => (cd (ls.getD i an0)).length) k + (cd (ls.getD k an0)).length ≤ _
  omega
open Go.RowKit
open ValW
set_option maxRecDepth 10000 in
set_option maxHeartbeats 3200000 in
theorem mark_answersX (k0 : Nat) (hka : 1 ≤ k0) (hkz : k0 ≤ 20000000) (g e n cap : Nat) (len : Nat → Nat) (w : World) (hM : MkA w g e n len) (hn : n ≤ 1048576) (ht : tot len n ≤ 1048576) :
  Calls Tryz.prog 17 #[.slice (some ⟨g, 0, none⟩) n cap, .int .i64 (k0 : Int)] w fun r w' => (∃ z : Int, r = .returned (.int .i64 z) ∧ 0 ≤ z ∧ z ≤ ((k0 + 4 * n + tot len n : Nat) : Int)) ∧ Within w w' g e := by
 have HM := hid hM
 have hge := hM.1
 clear hM
 go_enter Tryz.func17, Tryz.ntmps17
 go_wp2
 go_loopw [1, 5] (fun kv iv wr => ∃ i kk : Nat, i ≤ n ∧ iv = .int .i64 i ∧ kv = .int .i64 kk ∧ 1 ≤ kk ∧ kk ≤ k0 + 4 * i + tot len i ∧ Hid (MkA wr g e n len) ∧ Hid (Within w wr g e)) (fun _ i _ => n - (intOf i).toNat)
 case atStart => exact ⟨0, k0, Nat.zero_le _, rfl, rfl, hka, by omega, HM, Within.refl _ _ _⟩
 case round =>
  obtain ⟨i, kk, hi, rfl, rfl, hk1, hk2, hA, hW⟩ := hrel
  by_cases hlt : i < n
  ·have htl := tot_le len (show i + 1 ≤ n by omega)
   have hts : tot len (i + 1) = tot len i + len i := rfl
   have hkb : kk ≤ 30000000 := by omega
   go_wp2_with fail
   refine (MarkT.mark_text kk wr hk1 (by omega)).mono ?_
   rintro r w1 ⟨rfl, hB1⟩
   have HA1 := hid (hA.out.on hB1)
   have HW1 := hid (hW.out.on hB1)
   obtain ⟨T1, hT1⟩ : ∃ T : ByteArray, Hid ((⟨(MarkT.markL kk).toArray⟩ : ByteArray) = T) := ⟨_, rfl⟩
   rw [hT1.out]
   clear hB1 hA hW
   obtain ⟨⟨v0, r0⟩, f0⟩ := HA1.out.room (j := i * 5) (by omega)
   obtain ⟨⟨v1, r1⟩, f1⟩ := HA1.out.room (j := i * 5 + 1) (by omega)
   obtain ⟨⟨v2, r2⟩, f2⟩ := HA1.out.room (j := i * 5 + 2) (by omega)
   obtain ⟨g', hg1, hg2, r3, zs, hz, hgz⟩ := HA1.out.at hlt
   have HGZ := hid hgz
   have hkw1 : IntKind.i64.wrap ((kk : Int) + 1) = (kk : Int) + 1 := by rw [IntKind.wrap_i64]; omega
   have HA2 : Hid (MkA (((w1.setCell ⟨g, i * 5, none⟩ (.string T1)).setCell ⟨g, i * 5 + 1, none⟩ (.int .i64 ((kk : Int) + 1))).setCell ⟨g, i * 5 + 2, none⟩ (.int .i64 ((kk : Int) + 1 + 1))) g e n len) := ((HA1.out.set _ (fun j _ => by omega) _).set _ (fun j _ => by omega) _).set _ (fun j _ => by omega) _
   have HW2 : Hid (Within w (((w1.setCell ⟨g, i * 5, none⟩ (.string T1)).setCell ⟨g, i * 5 + 1, none⟩ (.int .i64 ((kk : Int) + 1))).setCell ⟨g, i * 5 + 2, none⟩ (.int .i64 ((kk : Int) + 1 + 1))) g e) := ((HW1.out.set hge _ _).set hge _ _).set hge _ _
   have HG2 : Hid ((((w1.setCell ⟨g, i * 5, none⟩ (.string T1)).setCell ⟨g, i * 5 + 1, none⟩ (.int .i64 ((kk : Int) + 1))).setCell ⟨g, i * 5 + 2, none⟩ (.int .i64 ((kk : Int) + 1 + 1))).heap[g']? = some (.cells (cellsI zs).toArray 2 (0, 0))) := blk_other (blk_other (blk_other HGZ.out (by simp only; omega) _) (by simp only; omega) _) (by simp only; omega) _
   clear hgz HGZ HA1 HW1
   go_wp2_with fail
   rw [← hz]
   refine (mark_block g' zs zs.length ((kk : Int) + 1 + 1 + 1) _ HG2.out (by omega) (by omega) (by omega)).mono ?_
   rintro r w2 ⟨rfl, q1, q2, q3, q4, q5, q6⟩
   have HA3 := hid (HA2.out.codes hg1 HG2.out (rowM_len _ _ _) q5 (fun j _ hj => q6 j hj))
   have HW3 : Hid (Within w w2 g e) := HW2.out.trans ⟨q1, q2, q3, by omega, fun j _ hj => q6 j (by omega)⟩
   clear q1 q2 q3 q4 q5 q6 HA2 HW2 HG2 r0 r1 r2 r3 f0 f1 f2
   obtain ⟨kn, hkn⟩ : ∃ kn : Nat, (kk : Int) + 1 + 1 + 1 + (zs.length : Int) = (kn : Int) := ⟨kk + 3 + zs.length, by omega⟩
   rw [hkn]
   have hkn1 : 1 ≤ kn := by omega
   have hkn2 : kn ≤ 3 + k0 + 4 * i + tot len (i + 1) := by omega
   have hkn3 : kn ≤ 40000000 := by omega
   clear hkn hkw1
   go_wp2_with fail
   refine (MarkT.mark_text kn w2 hkn1 (by omega)).mono ?_
   rintro r w3 ⟨rfl, hB3⟩
   have HA4 := hid (HA3.out.on hB3)
   have HW4 := hid (HW3.out.on hB3)
   obtain ⟨T2, hT2⟩ : ∃ T : ByteArray, Hid ((⟨(MarkT.markL kn).toArray⟩ : ByteArray) = T) := ⟨_, rfl⟩
   rw [hT2.out]
   clear hB3 HA3 HW3
   obtain ⟨⟨v4, r4⟩, f4⟩ := HA4.out.room (j := i * 5 + 4) (by omega)
   go_wp2_with fail
   refine ⟨⟨i + 1, kn + 1, by omega, by go_num, by go_num, by omega, by omega, HA4.out.set _ (fun j _ => by omega) _, HW4.out.set hge _ _⟩, by simp [intOf]; omega⟩
  ·obtain rfl : i = n := by omega
   go_wp2
   go_ret
   exact ⟨⟨_, rfl, by omega, by omega⟩, hW.out⟩
end Go.Proofs.YtmbhmknfipdadaaGreatDoor.AnsW
