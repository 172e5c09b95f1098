/- Texts of ours, laid together. -/
import Derived.Test.YtmbhmknfipdadaaGreatDoorBd38
import Derived.Test.YtmbhmknfipdadaaGreatDoorShelf
import Derived.Maps.RangeWalk
import Derived.Sort.OwnSorted
import Derived.Lib.OwnBridge
namespace Go.Proofs.YtmbhmknfipdadaaGreatDoor.BookW
open Go.RowKit Go.Maps Go.Sort
open ValW RdS RdI AnsW
theorem enc_name (s : ByteArray) : encStr s.data.toList = .string s := by unfold encStr; simp
theorem names_len (ls : List An) : (namesA ls).length = ls.length := by simp [namesA]
theorem name_cell {w : World} {base g cap : Nat} {ls : List An} (h : w.ownsRow base 9 1 (.slice (some ⟨g, 0, none⟩) ls.length cap) ls.length ((namesA ls).map encStr)) {i : Nat} (hi : i < ls.length) : w.cell? ⟨g, i, none⟩ = some (.string (nm (ls.getD i an0))) := by
 have := h.cellAt i (by omega)
 rw [this]
 simp [namesA, List.getElem?_eq_getElem hi, enc_name]
set_option maxRecDepth 10000 in
set_option maxHeartbeats 3200000 in
theorem answers_in2 (B : Nat) {F : Nat} (ls : List An) (w : World) {D : DataW Value} (hown : Mp w B ls.length D) (hH : Holds w F D ls ls.length) (hA : Apt D) (hr : rightA ls = true) (ads : Nat → Option Addr × Nat) (hK : Kept w F D ls ads) :
  Calls Tryz.prog 70 #[.map (some B)] w fun e w' => (∃ g, e = .returned (.slice (some ⟨g, 0, none⟩) ls.length ls.length) ∧ w.heap.size ≤ g ∧ OwnA w' F g ls ads) ∧ Below w.heap.size w w' := by
 obtain ⟨h30, hR, hG⟩ := right_ris hr
 have hsz := book_size hown hH hR
 have HPm := hid (keys_perm hown hH hR)
 have HAp := hid (hK.apart hA hR)
 have HK := hid hK
 have HSrt := hid (names_sorted hR)
 have HFit : Hid (∀ i, i < ls.length → (nm (ls.getD i an0)).size ≤ maxLen) := fun i hi => Nat.le_trans (good_fit (hG _ (getD_mem hi))).1 (by decide)
 have hsz30 : Maps.size D ≤ 30 := by omega
 have HSZ := hid hsz
 clear hsz hK hA hH hG hR
 obtain ⟨i0, hi0, hz0, hz1, hz2⟩ := info_parts Tryz.infoStr
 obtain ⟨j0, hj0, hy0, hy1, hy2⟩ := info_parts Tryz.infoA
 have hbl := hown.lt
 have HM := hid hown
 clear hown
 go_enter Tryz.func70, Tryz.ntmps70
 go_wp2_with (first
  | (at_len; refine wpList_len_own _ rfl _ 93 rfl 9 59 Tryz.underlying93 _ B _ _ rfl HM.out ?_)
  | (at_make; refine wpList_make_own _ rfl _ _ 26 rfl w.heap.size 9 i0 (.string ⟨#[]⟩) 1 Tryz.underlying26 hi0 hz0 hz1 _ _ _ (Maps.size D) rfl rfl rfl (by rw [hz2]; omega) (by unfold maxLen; omega) (Nat.le_refl _) ?_; intro w1 hrow1 hg1)
  | (at_range; refine wpList_range_own _ rfl _ 93 rfl 9 59 key_law Tryz.underlying93 _ B _ _ rfl (HM.out.kept hg1 (by simp)) ?_; intro w0 hrg0 hg0 hs0)
  | go_in)
 go_frame
 go_loopw [3] (fun v wr => ∃ (left : Lit → Bool) (cnt : Nat) (ss : List (List UInt8)), wr.ranges Tryz.prog 9 heldR B w1.heap.size ls.length D left cnt ∧ ss.length + cnt ≤ Maps.size D ∧
   wr.ownsRow w.heap.size 9 1 v ss.length (ss.map encStr) ∧ v ≠ .slice none 0 0 ∧ Collected D left ss ∧ Below w.heap.size w wr)
  (fun _ wr => wr.rangeLeft B w1.heap.size)
 case atStart =>
  exact ⟨_, _, [], hrg0, by simp, hrow1.kept hg0 (Or.inr (by simp [Value.ownBlock])), by simp, Collected.start D,
   ((Below.refl _ _).grown hg1 (Nat.le_refl _) (fun j hj => by cases hj)).grown hg0 hg1.size (fun j hj => by cases hj)⟩
 case round =>
  obtain ⟨left, cnt, ss, hrg, hcs, hrow, hnn, hC, hnx⟩ := hrel
  go_wp2_with (first
   | (at_next; refine wpList_next_ranges _ rfl _ rfl 9 key_law heldR encStr (fun v : Value => v) (fun key kl hk => by obtain ⟨x, hx, _⟩ := Maps.keyOf_str Tryz.underlying9 hk; exact ⟨x, hx⟩) (fun v y _ => ⟨v, rfl⟩) B w1.heap.size _ _ _ _ rfl hrg ?_ ?_)
   | go_in)
  ·intro hc0 hl0
   have hperm := hC.perm HM.out key_law Tryz.underlying9 hl0
   have hsl : ss.length = ls.length := by rw [hperm.length_eq, ← HPm.out.length_eq, names_len]
   have HQ : Hid (ss.mergeSort (fun x y => decide (x ≤ y)) = namesA ls) := (mergeSort_of_perm (hperm.trans HPm.out.symm)).trans HSrt.out
   obtain ⟨g, cap3, rfl, hbg, hgl, hnc, hcm, -, hH⟩ := Lib.holds_of_ownsRow hrow hnn
   have HOWN := hid hrow
   have HBG := hid hbg
   have HH := hid hH
   have HBL := hid hnx
   have hss : ss.length ≤ 30 := by omega
   have HSL := hid hsl
   clear hrow hH hnx hC hperm hnn hrg hcs hc0 hl0 hsl hbg
   go_wp2_with fail
   refine (Tryz.slices_Sort_string g 0 cap3 ss wr HH.out hgl (by omega)).mono ?_
   have hsl := HSL.out
   have hbg := HBG.out
   rintro e w4 ⟨rfl, nn, os, hw4⟩
   rw [HQ.out] at hw4
   have hown4 : w4.ownsRow w.heap.size 9 1 (.slice (some ⟨g, 0, none⟩) ls.length cap3) ls.length ((namesA ls).map encStr) := by
    rcases HOWN.out.2 with ⟨h0, _⟩ | ⟨g', cap', cur, hv, hbase, hb, h1, h2, h3, h4⟩
    ·cases h0
    ·cases hv
     rw [hw4, ← hsl]
     exact ownsRow_sorted (by rw [names_len]; exact hsl.symm) hbase hb h1 h2 h3
   have hbel4 : Below w.heap.size w w4 := by rw [hw4]; exact HBL.out.grown (grownBy_sorted _) HBL.out.size (fun j hj => by cases hj; exact hbg)
   have HOWN4 := hid hown4
   have HBL4 := hid hbel4
   rw [hsl]
   clear hw4 hown4 hbel4 HOWN HH HBL HQ hsl HSL HBG hbg hss
   have hg4 : g < w4.heap.size := by have := (HOWN4.out.lt g (by simp [Value.ownBlock])).2; omega
   go_wp2_with (first | (at_make; refine wpList_make_full _ rfl _ _ 27 rfl w4.heap.size 61 j0 (.agg #[.string ByteArray.empty, .int .i64 0, .int .i64 0, .slice none 0 0, .string ByteArray.empty]) 5 Tryz.underlying27 hj0 hy0 hy1 _ _ _ _ ls.length rfl rfl rfl rfl ?m1 ?m2 ?m3 ?_))
   case m1 => rw [hy2]; omega
   case m2 => unfold maxLen; omega
   case m3 => exact Nat.le_refl _
   intro w5 hown5 hgrow5
   have hrow5 : RowO w5 w4.heap.size ls.length 0 ls ads := by
    obtain ⟨_, hv⟩ := hown5
    rcases hv with ⟨h0, _⟩ | ⟨g, cap, cu, h0, _, hg, _, _, hs, ht⟩
    ·cases h0
    ·cases h0
     exact ⟨cu, hg, hs, fun i hi => absurd hi (Nat.not_lt_zero _)⟩
   have hB5 : Below w4.heap.size w4 w5 := (Below.refl _ _).grown hgrow5 (Nat.le_refl _) (fun k hk => by cases hk)
   have HROW5 := hid hrow5
   have HB5 := hid hB5
   clear hown5 hgrow5 hrow5 hB5
   go_wp2_with fail
   go_loopw [28] (fun iv wq => ∃ k : Nat, k ≤ ls.length ∧ iv = .int .i64 k ∧ Hid (RowO wq w4.heap.size ls.length k ls ads) ∧ Hid (Below w4.heap.size w4 wq)) (fun iv _ => ls.length - (intOf iv).toNat)
   case atStart => exact ⟨0, Nat.zero_le _, rfl, HROW5, HB5⟩
   case round =>
    obtain ⟨k, hk, rfl, hRO, hBO⟩ := hrel
    by_cases hlt : k < ls.length
    ·have c0 : wr.cell? ⟨g, k, none⟩ = some (.string (nm (ls.getD k an0))) := by rw [hBO.out.cell (p := ⟨g, k, none⟩) hg4]; exact name_cell HOWN4.out hlt
     have hlk := kept_look HM.out HK.out (W := wr) (by rw [hBO.out.block B (Nat.lt_of_lt_of_le hbl HBL4.out.size), HBL4.out.block B hbl]) hlt (HFit.out k hlt)
     have HPt : Hid (RowO (put5 wr w4.heap.size (k * 5) (.string (nm (ls.getD k an0))) (.int .i64 (kd (ls.getD k an0))) (.int .i64 (nu (ls.getD k an0))) (.slice (ads k).1 (cd (ls.getD k an0)).length (ads k).2) (.string (tx (ls.getD k an0)))) w4.heap.size ls.length (k + 1) ls ads) := hRO.out.put hlt
     generalize ads k = ak at hlk HPt
     generalize ls.getD k an0 = p at c0 hlk HPt
     obtain ⟨s, kk, n, zs, t⟩ := p
     obtain ⟨aa, ca⟩ := ak
     dsimp only [nm, kd, nu, cd, tx] at c0 hlk HPt
     obtain ⟨⟨v0, r0⟩, f0⟩ := hRO.out.room (j := k * 5) (by omega)
     obtain ⟨⟨v1, r1⟩, f1⟩ := hRO.out.room (j := k * 5 + 1) (by omega)
     obtain ⟨⟨v2, r2⟩, f2⟩ := hRO.out.room (j := k * 5 + 2) (by omega)
     obtain ⟨⟨v3, r3⟩, f3⟩ := hRO.out.room (j := k * 5 + 3) (by omega)
     obtain ⟨⟨v4, r4⟩, f4⟩ := hRO.out.room (j := k * 5 + 4) (by omega)
     clear hRO
     go_wp2_with fail
     refine ⟨⟨k + 1, by omega, by go_num, HPt, ?_⟩, by simp [intOf]; omega⟩
     exact ((((hBO.out.setCell (Nat.le_refl _) _).setCell (Nat.le_refl _) _).setCell (Nat.le_refl _) _).setCell (Nat.le_refl _) _).setCell (Nat.le_refl _) _
    ·obtain rfl : k = ls.length := by omega
     have HBB : Hid (Below w.heap.size w wr) := HBL4.out.trans (hBO.out.mono HBL4.out.size)
     have hw4s := HBL4.out.size
     go_wp2_with fail
     go_ret
     refine ⟨⟨w4.heap.size, rfl, hw4s, hRO.out, fun i hi => ⟨(HK.out i hi).2.on HBB.out, fun b o ha hp => ?_⟩, HAp.out⟩, HBB.out⟩
     obtain ⟨b', o', ha', hb', _⟩ := (HK.out i hi).2.1.2 hp
     rw [ha] at ha'
     cases ha'
     omega
  ·intro x c kl yd yp w2 cnt2 hkey hlk hv hat hrg2 hlt hg2 hs2 hen
   obtain ⟨x', ex, rfl, _⟩ := Maps.keyOf_str Tryz.underlying9 hkey
   obtain rfl : x = x' := encStr_inj ex
   have hrow2 := hrow.kept hg2 (Or.inr (row_ne_iter hrow hrg).symm)
   clear hs2
   go_wp2_with (first
    | (at_builtin; refine wpList_append_own _ rfl _ _ 26 rfl w.heap.size 9 i0 (.string ⟨#[]⟩) 1 16 Tryz.underlying26 hi0 hz0 hz1 hz2 rfl (by decide) _ _ _ rfl (hrow2.alloc _) ⟨w2.heap.size, 0, none⟩ 1 1 [encStr x] rfl rfl (cell_one_new _ _ _) (by simp [Value.oneCell', encStr]) (by unfold maxLen; omega) (by omega) (by have := hnx.size; have := hg2.size; simp; omega) ?_; intro v' w3 hown' hg3 hnil3; go_frame)
    | go_in)
   have hrg3 := (hrg2.alloc _).kept hg3 (row_ne_low hrow2 hbl) (row_ne_iter hrow2 hrg2)
   go_roundw
   case rel =>
    refine ⟨_, cnt2, ss ++ [x], hrg3, by simp; omega, by simpa using hown', fun hv' => by have := (hnil3.1 hv').2; omega, hC.step hlk hat, ?_⟩
    exact ((hnx.grown hg2 hnx.size (fun j hj => by cases hj; exact hg1.size)).alloc (by have := hnx.size; have := hg2.size; omega) _).grown hg3 (by have := hnx.size; have := hg2.size; simp; omega) (fun j hj => (hrow2.lt j hj).1)
   case measure => rw [hrg3.left_eq, hrg.left_eq]; exact hlt
end Go.Proofs.YtmbhmknfipdadaaGreatDoor.BookW
