/- Texts of ours, laid together. -/
import Derived.Test.YtmbhmknfipdadaaGreatDoorBd9
import Derived.Test.YtmbhmknfipdadaaGreatDoorBd18
namespace Go.Proofs.YtmbhmknfipdadaaGreatDoor.FldK
open Go.RowKit
open StrW DecM
def markL (k : Nat) : List UInt8 := 109 :: Lib.decDigits k
def marks (k n : Nat) : List (List UInt8) := (List.range n).map fun i => markL (k + i)
theorem marks_len (k n : Nat) : (marks k n).length = n := by simp [marks]
theorem marks_at (k n i : Nat) (h : i < n) : (marks k n).getD i [] = markL (k + i) := by simp [marks, List.getD, h]
set_option maxRecDepth 10000 in
set_option maxHeartbeats 1000000 in
theorem mark_text (n : Nat) (w : World) (h0 : 1 ≤ n) (h1 : n ≤ 9223372036854775807) :
  Calls Tryz.prog 36 #[.int .i64 n] w fun e w' => e = .returned (encS (markL n)) ∧ Below w.heap.size w w' := by
 obtain ⟨r, hr⟩ : ∃ r : ByteArray, Hid ((⟨(markL n).toArray⟩ : ByteArray) = r) := ⟨_, rfl⟩
 rw [show encS (markL n) = .string r by unfold encS; rw [hr.out]]
 have HD : Hid ((Lib.decDigits n).length ≤ 19) := dec_len19 (by omega)
 have hneg : ¬ (n : Int) ≤ 0 := by omega
 go_enter Tryz.func36, Tryz.ntmps36
 go_wp2
 go_loopw [0, 3] (fun u v wr => ∃ (m : Nat) (out : ByteArray), u = .int .i64 m ∧ m ≤ 9223372036854775807 ∧ v = .string out ∧ Below w.heap.size w wr ∧ Hid (Lib.decDigits n = tail0 m ++ out.data.toList)) (fun u _ _ => (intOf u).toNat)
 case atStart => exact ⟨n, ByteArray.empty, rfl, by omega, rfl, Below.refl _ _, show Lib.decDigits n = _ by unfold tail0; rw [if_neg (by omega)]; simp⟩
 case round =>
  obtain ⟨m, out, rfl, hm, rfl, hbel, hA⟩ := hrel
  have hlen : out.size ≤ 19 := by
   have := HD.out; rw [hA.out, List.length_append, ← size_len] at this; omega
  by_cases hm0 : m = 0
  ·subst hm0
   have HF : Hid ((⟨#[109]⟩ : ByteArray) ++ out = r) := show _ = r by
    have e : tail0 0 ++ out.data.toList = out.data.toList := rfl
    rw [← hr.out]
    apply eq_mk
    rw [data_add]
    unfold markL
    rw [hA.out, e]; rfl
   go_wp2
   go_ret
   exact ⟨DecS.ret_str HF.out, hbel⟩
  ·obtain ⟨d, hd⟩ : ∃ d : Nat, m % 10 = d := ⟨_, rfl⟩
   obtain ⟨q, hq⟩ : ∃ q : Nat, m / 10 = q := ⟨_, rfl⟩
   have hdi : (m : Int) % 10 = d := by omega
   have hqi : (m : Int) / 10 = q := by omega
   have hdl : d < 10 := by omega
   have hql : q < m := by omega
   have HN : Hid (Lib.decDigits n = tail0 q ++ (DecS.dig d ++ out).data.toList) := by
    show _ = _; rw [hA.out, dec_step m hm0, data_add, DecS.dig_data, hq, hd]; simp
   have hcv := DecS.conv_dig wr d hdl
   have hds := DecS.dig_size d
   have hB2 := hbel.alloc hbel.size (Obj.cells #[Value.int IntKind.u8 (48 + (d : Int))] 5)
   clear hd hq
   go_wp2
   go_roundw
   case rel => exact ⟨q, _, by go_num, by omega, rfl, hB2, HN⟩
   case measure => simp [intOf]; omega
open Go.RowKit
open StrW DecM
def Only (w w' : World) (g : Nat) : Prop := w.grownBy w' (some g)
theorem Only.refl (w : World) (g : Nat) : Only w w g := ⟨rfl, rfl, rfl, Nat.le_refl _, fun _ _ _ => rfl⟩
theorem Only.on {w w' w'' : World} {g : Nat} (h : Only w w' g) (hB : Below w'.heap.size w' w'') : Only w w'' g :=
 ⟨hB.os.trans h.os, hB.tape.trans h.tape, hB.output.trans h.output, Nat.le_trans h.size hB.size, fun k hk hne => (hB.block k (Nat.lt_of_lt_of_le hk h.size)).trans (h.block k hk hne)⟩
theorem Only.set {w w' : World} {g : Nat} (h : Only w w' g) (o : Nat) (v : Value) : Only w (w'.setCell ⟨g, o, none⟩ v) g :=
 ⟨h.os, h.tape, h.output, by have := h.size; simpa using this, fun k hk hne => by
  rw [Below.heap_setCell _ _ _ _ (show k ≠ g from fun e => hne (by rw [e]))]; exact h.block k hk hne⟩
theorem Only.below {w w' : World} {g B : Nat} (h : Only w w' g) (hB : B ≤ g) (hs : B ≤ w.heap.size) : Below B w w' :=
 ⟨h.os, h.tape, h.output, h.size, fun k hk => h.block k (by omega) (fun e => by cases e; omega)⟩
theorem blk_lt {w : World} {g : Nat} {cs : Array Value} {T : TypeId} {f : Nat × Nat} (h : w.heap[g]? = some (.cells cs T f)) : g < w.heap.size := (Array.getElem?_eq_some_iff.1 h).1
open Go.RowKit
open StrW DecM
set_option maxRecDepth 10000 in
set_option maxHeartbeats 400000 in
theorem eqStrs (a a' : Option Addr) (cap cap' : Nat) (ss : List (List UInt8)) (w : World) (hc : Strs w a ss) (hc' : Strs w a' ss) :
  Calls Tryz.prog 33 #[.slice a ss.length cap, .slice a' ss.length cap'] w fun e w' => e = .returned (.bool true) ∧ Below w.heap.size w w' := by
 have HC := hid hc
 have HC' := hid hc'
 have hl := hc.1
 clear hc hc'
 go_enter Tryz.func33, Tryz.ntmps33
 go_wp2
 go_loopw [5] (fun i wr => ∃ k : Nat, k ≤ ss.length ∧ i = .int .i64 k ∧ Below w.heap.size w wr) (fun i _ => ss.length - (intOf i).toNat)
 case atStart => exact ⟨0, Nat.zero_le _, rfl, Below.refl _ _⟩
 case round =>
  obtain ⟨k, hk, rfl, hbel⟩ := hrel
  by_cases hlt : k < ss.length
  ·obtain ⟨b, o, rfl, hb, c0⟩ := Strs.at HC.out hlt
   obtain ⟨b', o', rfl, hb', d0⟩ := Strs.at HC'.out hlt
   rw [← hbel.cell (p := ⟨b, _, none⟩) hb] at c0
   rw [← hbel.cell (p := ⟨b', _, none⟩) hb'] at d0
   unfold encS at c0 d0
   generalize (⟨(ss.getD k []).toArray⟩ : ByteArray) = v at c0 d0
   have HB := hid hbel
   clear HC HC' hbel
   go_wp2
   go_region
   go_wp2
   refine ⟨⟨k + 1, by omega, by go_num, HB.out.drew⟩, by simp [intOf]; omega⟩
  ·go_wp2
   go_ret
   exact ⟨rfl, hbel⟩
open Go.RowKit
open StrW DecM
def Room (w : World) (g n : Nat) : Prop := ∃ cs : Array Value, w.heap[g]? = some (.cells cs 108 (0, 0)) ∧ cs.size = n * 3
theorem Room.on {w w' : World} {g n : Nat} (h : Room w g n) (hB : Below w.heap.size w w') : Room w' g n := by
 obtain ⟨cs, hg, hs⟩ := h
 exact ⟨cs, by rw [hB.block g (blk_lt hg)]; exact hg, hs⟩
theorem Room.set {w : World} {g n : Nat} (h : Room w g n) (o : Nat) (v : Value) : Room (w.setCell ⟨g, o, none⟩ v) g n := by
 obtain ⟨cs, hg, hs⟩ := h
 exact ⟨_, PrtW.blk_set _ _ _ _ _ _ hg, by simpa using hs⟩
theorem Room.at {w : World} {g n i : Nat} (h : Room w g n) (hi : i < n * 3) : (∃ v, w.cell? ⟨g, i, none⟩ = some v) ∧ w.frozen? ⟨g, i, none⟩ = false := by
 obtain ⟨cs, hg, hs⟩ := h
 refine ⟨⟨cs[i]'(by omega), ?_⟩, by simp [World.frozen?, hg]⟩
 simp [World.cell?, hg, show i < cs.size by omega]
open Go.RowKit
open StrW DecM
open ItmW (It iex it0 RowsI)
set_option maxRecDepth 10000 in
set_option maxHeartbeats 1600000 in
theorem mark_parts_on (g n cap k0 : Nat) (w : World) (hR : Room w g n) (hl : n ≤ 1048576) (h1 : 1 ≤ k0) (h2 : k0 ≤ 100000000) :
  Calls Tryz.prog 37 #[.slice (some ⟨g, 0, none⟩) n cap, .int .i64 k0] w fun e w' => e = .returned (.int .i64 ((k0 + 3 * n : Nat) : Int)) ∧ Only w w' g ∧ Room w' g n := by
 have HR := hid hR
 clear hR
 go_enter Tryz.func37, Tryz.ntmps37
 go_wp2
 go_loopw [1, 5] (fun k i wr => ∃ j kk : Nat, j ≤ n ∧ i = .int .i64 j ∧ k = .int .i64 kk ∧ kk = k0 + 3 * j ∧ Hid (Room wr g n) ∧ Hid (Only w wr g)) (fun _ i _ => n - (intOf i).toNat)
 case atStart => exact ⟨0, k0, Nat.zero_le _, rfl, rfl, rfl, HR, Only.refl _ _⟩
 case round =>
  obtain ⟨k, kk, hk, rfl, rfl, hkk, hM, hO⟩ := hrel
  by_cases hlt : k < n
  ·obtain ⟨⟨v0, r0⟩, f0⟩ := hM.out.at (i := k * 3) (by omega)
   obtain ⟨⟨v1, r1⟩, f1⟩ := hM.out.at (i := k * 3 + 1) (by omega)
   have hk1 : 1 ≤ kk := by omega
   have hk2 : kk ≤ 104000000 := by omega
   have HK : Hid (kk = k0 + 3 * k) := hkk
   clear hkk
   have HO1 := hid ((hO.out.set (k * 3) (.int .i64 (kk : Int))).set (k * 3 + 1) (.int .i64 ((kk : Int) + 1)))
   have HM1 := hid ((hM.out.set (k * 3) (.int .i64 (kk : Int))).set (k * 3 + 1) (.int .i64 ((kk : Int) + 1)))
   clear hO hM
   go_wp2_with fail
   clear r0 r1 f0 f1
   generalize (wr.setCell ⟨g, k * 3, none⟩ (.int .i64 (kk : Int))).setCell ⟨g, k * 3 + 1, none⟩ (.int .i64 ((kk : Int) + 1)) = W2 at *
   rw [show ((kk : Int) + 1 + 1) = ((kk + 2 : Nat) : Int) by omega]
   refine (mark_text (kk + 2) W2 (by omega) (by omega)).mono ?_
   rintro e w3 ⟨rfl, hB3⟩
   have HM3 := hid (HM1.out.on hB3)
   have HO3 := hid (HO1.out.on hB3)
   obtain ⟨⟨v2, r2⟩, f2⟩ := HM3.out.at (i := k * 3 + 2) (by omega)
   unfold encS
   generalize (⟨(markL (kk + 2)).toArray⟩ : ByteArray) = T
   clear HM1 HO1 hB3
   go_wp2_with fail
   refine ⟨⟨k + 1, kk + 3, by omega, by go_num, by congr 1 <;> omega, by have := HK.out; omega, HM3.out.set _ _, HO3.out.set _ _⟩, by simp [intOf]; omega⟩
  ·obtain rfl : k = n := by omega
   subst hkk
   go_wp2
   go_ret
   exact ⟨rfl, hO.out, hM.out⟩
def WithinI (w w' : World) (g e : Nat) : Prop := w'.os = w.os ∧ w'.tape = w.tape ∧ w'.output = w.output ∧ w.heap.size ≤ w'.heap.size ∧ ∀ j, j < w.heap.size → (j < g ∨ e ≤ j) → w'.heap[j]? = w.heap[j]?
theorem WithinI.refl (w : World) (g e : Nat) : WithinI w w g e := ⟨rfl, rfl, rfl, Nat.le_refl _, fun _ _ _ => rfl⟩
theorem WithinI.on {w w' w'' : World} {g e : Nat} (h : WithinI w w' g e) (hB : Below w'.heap.size w' w'') : WithinI w w'' g e :=
 ⟨hB.os.trans h.1, hB.tape.trans h.2.1, hB.output.trans h.2.2.1, Nat.le_trans h.2.2.2.1 hB.size, fun j hj hn => (hB.block j (Nat.lt_of_lt_of_le hj h.2.2.2.1)).trans (h.2.2.2.2 j hj hn)⟩
theorem WithinI.set {w w' : World} {g e : Nat} (h : WithinI w w' g e) (he : g < e) (o : Nat) (v : Value) : WithinI w (w'.setCell ⟨g, o, none⟩ v) g e :=
 ⟨h.1, h.2.1, h.2.2.1, by simpa using h.2.2.2.1, fun j hj hn => by rw [Below.heap_setCell _ _ _ _ (by simp only; omega)]; exact h.2.2.2.2 j hj hn⟩
theorem WithinI.only {w w' w'' : World} {g e g1 : Nat} (h : WithinI w w' g e) (h1 : g < g1) (h2 : g1 < e) (hO : Only w' w'' g1) : WithinI w w'' g e :=
 ⟨hO.os.trans h.1, hO.tape.trans h.2.1, hO.output.trans h.2.2.1, Nat.le_trans h.2.2.2.1 hO.size, fun j hj hn => (hO.block j (Nat.lt_of_lt_of_le hj h.2.2.2.1) (fun e1 => by cases e1; omega)).trans (h.2.2.2.2 j hj hn)⟩
theorem WithinI.below {w w' : World} {g e B : Nat} (h : WithinI w w' g e) (hg : B ≤ g) (hs : B ≤ w.heap.size) : Below B w w' :=
 ⟨h.1, h.2.1, h.2.2.1, h.2.2.2.1, fun j hj => h.2.2.2.2 j (by omega) (.inl (by omega))⟩
def MkI (w : World) (g e n : Nat) (len : Nat → Nat) : Prop :=
 g < e ∧ ∃ cs : Array Value, w.heap[g]? = some (.cells cs 57 (0, 0)) ∧ cs.size = n * 8 ∧ ∀ i, i < n → ∃ g', g < g' ∧ g' < e ∧ cs[i * 8 + 6]? = some (.slice (some ⟨g', 0, none⟩) (len i) (len i)) ∧ Room w g' (len i)
theorem mkI_of {w : World} {g : Nat} {ls : List It} (h : RowsI w g ls.length ls.length ls) : MkI w g w.heap.size ls.length fun i => (iex (ls.getD i it0)).length := by
 refine ⟨h.lt, ?_⟩
 obtain ⟨cs, h1, h2, h3⟩ := h
 refine ⟨cs, h1, h2, fun i hi => ?_⟩
 obtain ⟨g', a, b, _, _, _, _, _, _, c, _⟩ := h3 i hi
 have hr : Room w g' (iex (ls.getD i it0)).length := by obtain ⟨cs', k1, k2, _⟩ := b; exact ⟨cs', k1, k2⟩
 exact ⟨g', a, b.lt, c, hr⟩
theorem MkI.on {w w' : World} {g e n : Nat} {len : Nat → Nat} (h : MkI w g e n len) (hB : Below w.heap.size w w') : MkI w' g e n len := by
 obtain ⟨he, cs, h1, h2, h3⟩ := h
 refine ⟨he, cs, by rw [hB.block g (blk_lt h1)]; exact h1, h2, fun i hi => ?_⟩
 obtain ⟨g', a, b, c, d⟩ := h3 i hi
 exact ⟨g', a, b, c, d.on hB⟩
theorem room_other {w : World} {g n : Nat} (h : Room w g n) {p : Addr} (hp : p.block ≠ g) (v : Value) : Room (w.setCell p v) g n := by
 obtain ⟨cs, hg, hs⟩ := h
 exact ⟨cs, by rw [Below.heap_setCell _ _ _ _ (fun e => hp e.symm)]; exact hg, hs⟩
theorem MkI.set {w : World} {g e n : Nat} {len : Nat → Nat} (h : MkI w g e n len) (o : Nat) (ho : ∀ i, i < n → o ≠ i * 8 + 6) (v : Value) : MkI (w.setCell ⟨g, o, none⟩ v) g e n len := by
 obtain ⟨he, cs, h1, h2, h3⟩ := h
 refine ⟨he, _, PrtW.blk_set _ _ _ _ _ _ h1, by simpa using h2, fun i hi => ?_⟩
 obtain ⟨g', a, b, c, d⟩ := h3 i hi
 exact ⟨g', a, b, by rw [Array.getElem?_setIfInBounds, if_neg (ho i hi)]; exact c, room_other d (by simp only; omega) _⟩
theorem MkI.room {w : World} {g e n : Nat} {len : Nat → Nat} (h : MkI w g e n len) {j : Nat} (hj : j < n * 8) : (∃ v, w.cell? ⟨g, j, none⟩ = some v) ∧ w.frozen? ⟨g, j, none⟩ = false := by
 obtain ⟨_, cs, hg, hs, _⟩ := h
 refine ⟨⟨cs[j]'(by omega), ?_⟩, by simp [World.frozen?, hg]⟩
 simp [World.cell?, hg, show j < cs.size by omega]
theorem MkI.at {w : World} {g e n : Nat} {len : Nat → Nat} (h : MkI w g e n len) {i : Nat} (hi : i < n) : ∃ g', g < g' ∧ g' < e ∧ w.cell? ⟨g, i * 8 + 6, none⟩ = some (.slice (some ⟨g', 0, none⟩) (len i) (len i)) ∧ Room w g' (len i) := by
 obtain ⟨_, cs, hg, hs, h3⟩ := h
 obtain ⟨g', a, b, c, d⟩ := h3 i hi
 exact ⟨g', a, b, by simp [World.cell?, hg, c], d⟩
theorem room_only {w w' : World} {g g1 n : Nat} (h : Room w g n) (hO : Only w w' g1) (hr : g = g1 → Room w' g1 n) : Room w' g n := by
 by_cases e : g = g1
 ·rw [e]; exact hr e
 ·obtain ⟨cs, hg, hs⟩ := h
  exact ⟨cs, by rw [hO.block g (blk_lt hg) (fun e1 => e (by cases e1; rfl))]; exact hg, hs⟩
theorem room_same {w : World} {g n m : Nat} (h : Room w g n) (h' : Room w g m) : n = m := by
 obtain ⟨cs, a, b⟩ := h
 obtain ⟨cs', a', b'⟩ := h'
 rw [a] at a'
 injection a' with a'
 injection a' with a1
 subst a1
 omega
theorem MkI.only {w w' : World} {g e n m g' : Nat} {len : Nat → Nat} (h : MkI w g e n len) (hg : g < g') (hr : Room w g' m) (hr' : Room w' g' m) (hO : Only w w' g') : MkI w' g e n len := by
 obtain ⟨he, cs, h1, h2, h3⟩ := h
 refine ⟨he, cs, by rw [hO.block g (blk_lt h1) (fun e1 => by cases e1; omega)]; exact h1, h2, fun i hi => ?_⟩
 obtain ⟨g'', a, b, c, d⟩ := h3 i hi
 refine ⟨g'', a, b, c, room_only d hO fun e1 => ?_⟩
 rw [e1] at d
 rw [room_same d hr]
 exact hr'
def totI (len : Nat → Nat) : Nat → Nat
 | 0 => 0
 | i + 1 => totI len i + len i
theorem totI_le (len : Nat → Nat) {i j : Nat} (h : i ≤ j) : totI len i ≤ totI len j := by
 induction h with
 | refl => exact Nat.le_refl _
 | step _ ih => exact Nat.le_trans ih (Nat.le_add_right _ _)
theorem tot_bulkI (ls : List It) : ∀ k, k ≤ ls.length → totI (fun i => (iex (ls.getD i it0)).length) k ≤ ItmW.bulkI (ls.take k)
 | 0, _ => Nat.zero_le _
 | k + 1, hk => by
  have ih := tot_bulkI ls k (by omega)
  have hb := ItmW.bulkI_take ls k (by omega)
  unfold ItmW.wtI at hb
  show totI (fun i => (iex (ls.getD i it0)).length) k + (iex (ls.getD k it0)).length ≤ _
  omega
open Go.RowKit
open StrW DecM
set_option maxRecDepth 10000 in
set_option maxHeartbeats 3200000 in
theorem mark_items (g e n cap : Nat) (len : Nat → Nat) (w : World) (hM : MkI w g e n len) (hn : n ≤ 1048576) (ht : totI len n ≤ 1048576) :
  Calls Tryz.prog 16 #[.slice (some ⟨g, 0, none⟩) n cap, .int .i64 1] w fun r w' => (∃ z : Int, r = .returned (.int .i64 z) ∧ 1 ≤ z ∧ z ≤ 12000000) ∧ WithinI w w' g e := by
 have HM := hid hM
 have hge := hM.1
 clear hM
 go_enter Tryz.func16, Tryz.ntmps16
 go_wp2
 go_loopw [1, 5] (fun kv iv wr => ∃ i kk : Nat, i ≤ n ∧ iv = .int .i64 i ∧ kv = .int .i64 kk ∧ 1 ≤ kk ∧ kk ≤ 1 + 7 * i + 3 * totI len i ∧ Hid (MkI wr g e n len) ∧ Hid (WithinI w wr g e)) (fun _ i _ => n - (intOf i).toNat)
 case atStart => exact ⟨0, 1, Nat.zero_le _, rfl, rfl, Nat.le_refl _, by omega, HM, WithinI.refl _ _ _⟩
 case round =>
  obtain ⟨i, kk, hi, rfl, rfl, hk1, hk2, hA, hW⟩ := hrel
  by_cases hlt : i < n
  ·have htl := totI_le len (show i + 1 ≤ n by omega)
   have hts : totI len (i + 1) = totI len i + len i := rfl
   have hkb : kk ≤ 20000000 := by omega
   have hkN : Hid (kk ≤ 1 + 7 * i + 3 * totI len i) := hk2
   clear hk2
   obtain ⟨⟨v0, r0⟩, f0⟩ := hA.out.room (j := i * 8) (by omega)
   have HA1 := hid (hA.out.set (i * 8) (fun j _ => by omega) (.int .i64 (kk : Int)))
   have HW1 := hid (hW.out.set hge (i * 8) (.int .i64 (kk : Int)))
   clear hA hW
   go_wp2_with fail
   clear r0 f0
   generalize wr.setCell ⟨g, i * 8, none⟩ (.int .i64 (kk : Int)) = W1 at *
   rw [show ((kk : Int) + 1) = ((kk + 1 : Nat) : Int) by omega]
   refine (mark_text (kk + 1) W1 (by omega) (by omega)).mono ?_
   rintro r w2 ⟨rfl, hB2⟩
   have HA2 := hid (HA1.out.on hB2)
   have HW2 := hid (HW1.out.on hB2)
   clear hB2 HA1 HW1
   unfold encS
   generalize (⟨(markL (kk + 1)).toArray⟩ : ByteArray) = T1
   obtain ⟨⟨v1, r1⟩, f1⟩ := HA2.out.room (j := i * 8 + 1) (by omega)
   obtain ⟨⟨v2, r2⟩, f2⟩ := HA2.out.room (j := i * 8 + 2) (by omega)
   obtain ⟨⟨v3, r3⟩, f3⟩ := HA2.out.room (j := i * 8 + 3) (by omega)
   obtain ⟨⟨v4, r4⟩, f4⟩ := HA2.out.room (j := i * 8 + 4) (by omega)
   have HA3 := hid ((((HA2.out.set (i * 8 + 1) (fun j _ => by omega) (.string T1)).set (i * 8 + 2) (fun j _ => by omega) (.int .i64 ((kk : Int) + 1 + 1))).set (i * 8 + 3) (fun j _ => by omega) (.int .i64 ((kk : Int) + 1 + 1 + 1))).set (i * 8 + 4) (fun j _ => by omega) (.int .i64 ((kk : Int) + 1 + 1 + 1 + 1)))
   have HW3 := hid ((((HW2.out.set hge (i * 8 + 1) (.string T1)).set hge (i * 8 + 2) (.int .i64 ((kk : Int) + 1 + 1))).set hge (i * 8 + 3) (.int .i64 ((kk : Int) + 1 + 1 + 1))).set hge (i * 8 + 4) (.int .i64 ((kk : Int) + 1 + 1 + 1 + 1)))
   clear HA2 HW2
   go_wp2_with fail
   clear r1 r2 r3 r4 f1 f2 f3 f4
   generalize (((w2.setCell ⟨g, i * 8 + 1, none⟩ (.string T1)).setCell ⟨g, i * 8 + 2, none⟩ (.int .i64 ((kk : Int) + 1 + 1))).setCell ⟨g, i * 8 + 3, none⟩ (.int .i64 ((kk : Int) + 1 + 1 + 1))).setCell ⟨g, i * 8 + 4, none⟩ (.int .i64 ((kk : Int) + 1 + 1 + 1 + 1)) = W3 at *
   rw [show ((kk : Int) + 1 + 1 + 1 + 1 + 1) = ((kk + 5 : Nat) : Int) by omega]
   refine (mark_text (kk + 5) W3 (by omega) (by omega)).mono ?_
   rintro r w4 ⟨rfl, hB4⟩
   have HA4 := hid (HA3.out.on hB4)
   have HW4 := hid (HW3.out.on hB4)
   clear hB4 HA3 HW3
   unfold encS
   generalize (⟨(markL (kk + 5)).toArray⟩ : ByteArray) = T2
   obtain ⟨⟨v5, r5⟩, f5⟩ := HA4.out.room (j := i * 8 + 5) (by omega)
   obtain ⟨g', hg1, hg2, r6, hro⟩ := HA4.out.at hlt
   have HA5 := hid (HA4.out.set (i * 8 + 5) (fun j _ => by omega) (.string T2))
   have HW5 := hid (HW4.out.set hge (i * 8 + 5) (.string T2))
   have HR5 := hid (room_other hro (p := ⟨g, i * 8 + 5, none⟩) (by simp only; omega) (.string T2))
   clear HA4 HW4 hro
   go_wp2_with fail
   clear r5 r6 f5
   generalize w4.setCell ⟨g, i * 8 + 5, none⟩ (.string T2) = W5 at *
   rw [show ((kk : Int) + 5 + 1) = ((kk + 6 : Nat) : Int) by omega]
   refine (mark_parts_on g' (len i) (len i) (kk + 6) W5 HR5.out (by omega) (by omega) (by omega)).mono ?_
   rintro r w6 ⟨rfl, hO6, hR6⟩
   have HA6 := hid (HA5.out.only hg1 HR5.out hR6 hO6)
   have HW6 := hid (HW5.out.only hg1 hg2 hO6)
   obtain ⟨kn, hkn⟩ : ∃ kn : Nat, kk + 6 + 3 * len i = kn := ⟨_, rfl⟩
   rw [hkn]
   have hkn1 : kn ≤ 30000000 := by omega
   have HKN : Hid (kn + 1 ≤ 1 + 7 * (i + 1) + 3 * totI len (i + 1)) := by
    have := hkN.out
    show _ ≤ _
    omega
   clear hO6 hR6 HA5 HW5 HR5 hkN hkn hts
   obtain ⟨⟨v7, r7⟩, f7⟩ := HA6.out.room (j := i * 8 + 7) (by omega)
   go_wp2_with fail
   refine ⟨⟨i + 1, kn + 1, by omega, by go_num, by go_num, by omega, HKN.out, HA6.out.set _ (fun j _ => by omega) _, HW6.out.set hge _ _⟩, by simp [intOf]; omega⟩
  ·obtain rfl : i = n := by omega
   go_wp2
   go_ret
   exact ⟨⟨_, rfl, by omega⟩, hW.out⟩
end Go.Proofs.YtmbhmknfipdadaaGreatDoor.FldK
