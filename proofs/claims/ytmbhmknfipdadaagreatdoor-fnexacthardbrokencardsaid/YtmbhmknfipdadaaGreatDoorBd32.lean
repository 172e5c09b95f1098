/- Texts of ours, laid together. -/
import Derived.Test.YtmbhmknfipdadaaGreatDoorBd29
import Derived.Test.YtmbhmknfipdadaaGreatDoorBd25
namespace Go.Proofs.YtmbhmknfipdadaaGreatDoor.FrmI
open Go.RowKit
open PrtW PrtM NameW ItmW ValM ItmM FrmM
open FrmS (OwnB)
theorem own_nil (w : World) (base : Nat) : OwnB w base (.slice none 0 0) [] := World.ownsRow_nil _ _ _ _
set_option maxRecDepth 10000 in
set_option maxHeartbeats 6400000 in
theorem not_blocks (a : Option Addr) (cap : Nat) (ls : List It) (w : World) (hc : Its w a ls) (hE : EnvF w) :
  Calls Tryz.prog 119 #[.slice a ls.length cap] w fun e w' => (∃ v, e = .returned v ∧ ErrIs (blocksB ls) v) ∧ Below w.heap.size w w' := by
 have HC := hid hc
 have HE := hid hE
 have hl := hc.1
 clear hc hE
 obtain ⟨i0, hi0, hz0, hz1, hz2⟩ := info_parts FrmS.Tryz.infoB
 obtain ⟨z, hz⟩ : ∃ z, Hid (blocksB ls = z) := ⟨_, rfl⟩
 rw [hz.out]
 go_enter Tryz.func119, Tryz.ntmps119
 go_wp2_with fail
 go_loopw [3, 6, 9] (fun v _ i wr => ∃ (k : Nat) (op : List Bool) (a1 : Option Addr) (c1 : Nat), k ≤ ls.length ∧ i = .int .i64 k ∧ op.length ≤ 6 ∧ v = .slice a1 op.length c1 ∧ Hid (OwnB wr w.heap.size v op) ∧ Hid (blkF ls [] = blkF (ls.drop k) op) ∧ Hid (Below w.heap.size w wr)) (fun _ _ i _ => ls.length - (intOf i).toNat)
 case atStart => exact ⟨0, [], _, 0, Nat.zero_le _, rfl, Nat.zero_le _, rfl, own_nil _ _, rfl, Below.refl _ _⟩
 case round =>
  obtain ⟨k, op, a1, c1, hk, rfl, h6, rfl, HO, HK, HB⟩ := hrel
  by_cases hlt : k < ls.length
  ·obtain ⟨_, b, o, ai, ci, rfl, hb, hF, _⟩ := HC.out.at (Below.refl _ _) hlt
   obtain ⟨c0, c1', c2, c3, c4, c5, c6, c7⟩ := hF.on hb HB.out
   have HNo : Hid (stepB (ik (ls.getD k it0)) op = none → z = false) := fun h => by rw [← hz.out]; exact blk_none HK.out hlt h
   have HSome : Hid (∀ op', stepB (ik (ls.getD k it0)) op = some op' → blkF ls [] = blkF (ls.drop (k + 1)) op' ∧ op'.length ≤ 6) := fun op' h => ⟨blk_some HK.out hlt h, step_len h h6⟩
   generalize ls.getD k it0 = p at c0 c1' c2 c3 c4 c5 c6 c7 HNo HSome
   obtain ⟨kk, s, ty, lo, hi, t, ps, hd⟩ := p
   dsimp only [ik, inm, ity, ilo, ihi, itx, iex, ihd] at c0 c1' c2 c3 c4 c5 c6 c7 HNo HSome
   have hBn : Hid (Below wr.heap.size wr (wr.alloc (.cells #[.int .i64 kk, .string s, .int .i64 ty, .int .i64 lo, .int .i64 hi, .string t, .slice ai ps.length ci, .bool hd] 57))) := (Below.refl _ _).alloc (Nat.le_refl _) _
   have hq : (wr.alloc (.cells #[.int .i64 kk, .string s, .int .i64 ty, .int .i64 lo, .int .i64 hi, .string t, .slice ai ps.length ci, .bool hd] 57)).cell? ⟨wr.heap.size, 0, none⟩ = some (.int .i64 kk) := by simp
   clear hF HK HC
   go_upto_region 5 with fail
   obtain ⟨W1, hW1⟩ : ∃ W1, Hid (wr.alloc (.cells #[.int .i64 kk, .string s, .int .i64 ty, .int .i64 lo, .int .i64 hi, .string t, .slice ai ps.length ci, .bool hd] 57) = W1) := ⟨_, rfl⟩
   rw [hW1.out] at hBn hq ⊢
   have HO1 := hid (HO.out.on hBn.out)
   have HB1 : Hid (Below w.heap.size w W1) := HB.out.trans (hBn.out.mono HB.out.size)
   have hg6 := (HE.out.2.2.2.2.2.on HB1.out).1
   obtain ⟨-, tp, pe, r6⟩ := HE.out.2.2.2.2.2.on HB1.out
   have hwg : wr.heap.size < W1.heap.size := World.block_lt_of_cell? W1 _ hq
   have hws : w.heap.size ≤ W1.heap.size := HB1.out.size
   clear hBn hW1 HO HB c0 c1' c2 c3 c4 c5 c6 c7
   generalize wr.heap.size = g1 at *
   by_cases h2 : kk = 2
   ·subst h2
    by_cases hd6 : 6 ≤ op.length
    ·have hd7 : op.length = 6 := by omega
     have HZ := hid (HNo.out (step_deep hd6))
     rw [hd7] at HO1 ⊢
     clear HNo HSome hd6 hd7
     go_wp2_with fail
     go_ret
     exact ⟨⟨_, rfl, .inr ⟨HZ.out, tp, pe, rfl⟩⟩, HB1.out⟩
    ·have HX := hid (HSome.out _ (step_if hd6))
     have hne : ((op.length : Nat) : Int) ≠ 6 := by omega
     have hne2 : (((op.length : Nat) : Int) == 6) = false := by simp; omega
     clear HNo HSome
     go_wp2_with (first
      | (at_builtin; refine wpList_append_own _ rfl _ _ 145 rfl w.heap.size 4 i0 (.bool false) 1 1 Tryz.underlying145 hi0 hz0 hz1 hz2 rfl (by decide) _ _ _ rfl (HO1.out.alloc _) ⟨W1.heap.size, 0, none⟩ 1 1 [.bool false] rfl rfl (cell_one_new _ _ _) (by simp [Value.oneCell']) (by unfold maxLen; omega) (by omega) (by simp; omega) ?_; intro v' w3 hown' hg3 hnil3; go_frame)
      | go_in)
     have HO3 : Hid (OwnB w3 w.heap.size v' (op ++ [false])) := by
      show w3.ownsRow _ _ _ _ _ _
      rw [List.map_append, show (op ++ [false]).length = op.length + 1 by simp]
      exact hown'
     have HB3 : Hid (Below w.heap.size w w3) := (HB1.out.alloc HB1.out.size _).grown hg3 (by have := HB1.out.size; simp; omega) (fun j hj => (HO1.out.lt j hj).1)
     obtain ⟨a3, c3, rfl⟩ := HO3.out.len
     clear hown' hg3 hnil3 HO1
     go_wp2_with fail
     exact ⟨⟨k + 1, op ++ [false], a3, c3, by omega, by go_num, HX.out.2, rfl, HO3, HX.out.1, HB3⟩, by simp [intOf]; omega⟩
   have e2 : (kk == 2) = false := by simp [h2]
   by_cases h3 : kk = 3
   ·subst h3
    rcases Nat.eq_zero_or_pos op.length with h0 | h0
    ·obtain rfl := List.length_eq_zero_iff.1 h0
     have HZ := hid (HNo.out step_else_no)
     clear HNo HSome h0
     go_wp2_with fail
     go_ret
     exact ⟨⟨_, rfl, .inr ⟨HZ.out, tp, pe, rfl⟩⟩, HB1.out⟩
    ·obtain ⟨q, b1, rfl⟩ := snoc_of h0
     obtain ⟨g, c, hv, hbg, hgl, hcap, r0, f0⟩ := HO1.out.last
     have hlen : (q ++ [b1]).length = q.length + 1 := by simp
     rw [hlen] at hv h6 HO1 ⊢
     cases hv
     clear hlen h0
     cases b1
     ·have HX := hid (HSome.out _ step_else)
      have HO3 := hid (HO1.out.store true)
      have HB3 : Hid (Below w.heap.size w (W1.setCell ⟨g, q.length, none⟩ (.bool true))) := HB1.out.setCell hbg _
      clear HNo HSome HO1
      go_wp2_with fail
      exact ⟨⟨k + 1, q ++ [true], some ⟨g, 0, none⟩, c1, by omega, by go_num, HX.out.2, by simp, HO3, HX.out.1, HB3⟩, by simp [intOf]; omega⟩
     ·have HZ := hid (HNo.out step_else_two)
      clear HNo HSome HO1
      go_wp2_with fail
      go_ret
      exact ⟨⟨_, rfl, .inr ⟨HZ.out, tp, pe, rfl⟩⟩, HB1.out⟩
   have e3 : (kk == 3) = false := by simp [h3]
   by_cases h4 : kk = 4
   ·subst h4
    rcases Nat.eq_zero_or_pos op.length with h0 | h0
    ·obtain rfl := List.length_eq_zero_iff.1 h0
     have HZ := hid (HNo.out step_end_no)
     clear HNo HSome h0
     go_wp2_with fail
     go_ret
     exact ⟨⟨_, rfl, .inr ⟨HZ.out, tp, pe, rfl⟩⟩, HB1.out⟩
    ·obtain ⟨q, b1, rfl⟩ := snoc_of h0
     obtain ⟨g, c, hv, hbg, hgl, hcap, r0, f0⟩ := HO1.out.last
     have HX := hid (HSome.out _ FrmM.step_end)
     have hlen : (q ++ [b1]).length = q.length + 1 := by simp
     rw [hlen] at hv h6 HO1 ⊢
     cases hv
     clear hlen
     have HO3 := hid HO1.out.pop
     clear HNo HSome HO1 h0
     go_wp2_with fail
     exact ⟨⟨k + 1, q, some ⟨g, 0, none⟩, c1, by omega, by go_num, HX.out.2, rfl, HO3, HX.out.1, HB1⟩, by simp [intOf]; omega⟩
   have e4 : (kk == 4) = false := by simp [h4]
   have HX := hid (HSome.out _ (step_other h2 h3 h4))
   clear HNo HSome
   go_wp2_with fail
   exact ⟨⟨k + 1, op, a1, c1, by omega, by go_num, h6, rfl, HO1, HX.out.1, HB1⟩, by simp [intOf]; omega⟩
  ·obtain rfl : k = ls.length := by omega
   have HZ : Hid (z = decide (op.length = 0)) := by rw [← hz.out]; exact blk_end HK.out
   have hg6 := (HE.out.2.2.2.2.2.on HB.out).1
   obtain ⟨-, tp, pe, r6⟩ := HE.out.2.2.2.2.2.on HB.out
   rcases Nat.eq_zero_or_pos op.length with h0 | h0
   ·obtain rfl := List.length_eq_zero_iff.1 h0
    clear h0
    go_wp2_with fail
    go_ret
    exact ⟨⟨_, rfl, .inl ⟨HZ.out, rfl⟩⟩, HB.out⟩
   ·have hpos : (0 : Int) < ((op.length : Nat) : Int) := by omega
    have HZ2 : Hid (z = false) := by rw [HZ.out]; exact decide_eq_false (by omega)
    go_wp2_with fail
    go_ret
    exact ⟨⟨_, rfl, .inr ⟨HZ2.out, tp, pe, rfl⟩⟩, HB.out⟩
open Go.RowKit
open PrtW PrtM NameW ItmW ValM ItmM FrmM
theorem keepN {W w' : World} {g : Nat} {q : It} {a : Option Addr} {c : Nat} (h : Blk W g q a c) (hB : Below W.heap.size W w') :
  Below W.heap.size W w' ∧ (w'.cell? ⟨g, 0, none⟩ = some (.int .i64 (ik q)) ∧ w'.cell? ⟨g, 1, none⟩ = some (.string (inm q)) ∧ w'.cell? ⟨g, 2, none⟩ = some (.int .i64 (ity q)) ∧ w'.cell? ⟨g, 3, none⟩ = some (.int .i64 (ilo q)) ∧ w'.cell? ⟨g, 4, none⟩ = some (.int .i64 (ihi q)) ∧ w'.cell? ⟨g, 5, none⟩ = some (.string (itx q)) ∧ w'.cell? ⟨g, 6, none⟩ = some (.slice a (iex q).length c) ∧ w'.cell? ⟨g, 7, none⟩ = some (.bool (ihd q))) := ⟨hB, (h.on hB).all.1⟩
theorem new_take {ls : List It} {k : Nat} (hk : k ≤ ls.length) {s : ByteArray} : nameNew (ls.take k) s = (noText s || decide (∀ j, j < k → sameN (inm (ls.getD j it0)) s = false)) := by
 unfold nameNew noText
 congr 1
 rw [Bool.eq_iff_iff, decide_eq_true_iff, decide_eq_true_iff, List.length_take, Nat.min_eq_left hk]
 constructor
 ·intro h j hj
  have := h j hj
  rwa [take_getD hj] at this
 ·intro h j hj
  rw [take_getD hj]
  exact h j hj
theorem use_take {ls : List It} {k : Nat} {p : Pt} : useB (ls.take k) k p = useB ls k p := by
 unfold useB
 rw [field_take]
 cases h : fieldN ls k p.2.2 with
 | none => rfl
 | some i => simp only; rw [take_getD (field_at.1 h).2.1]
theorem uses_take {ls : List It} {k : Nat} {ps : List Pt} : usesB (ls.take k) k ps = usesB ls k ps := by
 unfold usesB
 simp only [use_take]
theorem not_behind_k (a : Option Addr) (cap : Nat) (ls : List It) (k : Nat) (hk : k ≤ ls.length) (kk : Int) (s : ByteArray) (ty lo hi : Int) (t : ByteArray) (ai : Option Addr) (ci : Nat) (ps : List Pt) (hd : Bool) (w : World) (hA : Its w a ls) (hr : ∀ i, i < k → itemB (ls.getD i it0) = true)
  (hP : Parts w ai ps) (hpr : ∀ k, k < ps.length → partB (ps.getD k pt0) = true) (hE : EnvF w) :
  Calls Tryz.prog 118 #[.slice a k cap, .agg #[.int .i64 kk, .string s, .int .i64 ty, .int .i64 lo, .int .i64 hi, .string t, .slice ai ps.length ci, .bool hd]] w fun e w' => (∃ v, e = .returned v ∧ ErrIs ((noText s || decide (∀ j, j < k → sameN (inm (ls.getD j it0)) s = false)) && usesB ls k ps) v) ∧ Below w.heap.size w w' := by
 have hlen : (ls.take k).length = k := by rw [List.length_take, Nat.min_eq_left hk]
 have h := not_behind a cap (ls.take k) kk s ty lo hi t ai ci ps hd w (its_take hA k) (fun i hi => by rw [hlen] at hi; rw [take_getD hi]; exact hr i hi) hP hpr hE
 rw [hlen, new_take hk, uses_take] at h
 exact h
set_option maxRecDepth 10000 in
set_option maxHeartbeats 6400000 in
theorem why_not (a : Option Addr) (cap : Nat) (ls : List It) (w : World) (hc : Its w a ls) (hcap : ls.length ≤ cap) (hE : EnvF w) :
  Calls Tryz.prog 90 #[.slice a ls.length cap] w fun e w' => (∃ v, e = .returned v ∧ ErrIs (formB ls) v) ∧ Below w.heap.size w w' := by
 have HC := hid hc
 have HE := hid hE
 have hl := hc.1
 clear hc hE
 obtain ⟨z, hz⟩ : ∃ z, Hid (formB ls = z) := ⟨_, rfl⟩
 rw [hz.out]
 by_cases h24 : ls.length ≤ 24
 case neg =>
  have HZ : Hid (z = false) := by rw [← hz.out]; exact form_long h24
  have hg1 := HE.out.2.1.1
  obtain ⟨-, tp, pe, r1⟩ := HE.out.2.1
  go_enter Tryz.func90, Tryz.ntmps90
  go_wp2
  go_ret
  exact ⟨⟨_, rfl, .inr ⟨HZ.out, tp, pe, rfl⟩⟩, by go_grown⟩
 go_enter Tryz.func90, Tryz.ntmps90
 go_wp2_with fail
 go_loopw [3, 5, 12] (fun _ _ i wr => ∃ k : Nat, k ≤ ls.length ∧ i = .int .i64 k ∧ Hid (∀ j, j < k → behindB ls j = true) ∧ Hid (Below w.heap.size w wr)) (fun _ _ i _ => ls.length - (intOf i).toNat)
 case atStart => exact ⟨0, Nat.zero_le _, rfl, fun j hj => absurd hj (Nat.not_lt_zero _), Below.refl _ _⟩
 case round =>
  obtain ⟨k, hk, rfl, HA, HB⟩ := hrel
  by_cases hlt : k < ls.length
  ·have HNo : Hid (behindB ls k = false → z = false) := fun h => by rw [← hz.out]; exact form_no hlt h
   have HNext : Hid (behindB ls k = true → ∀ j, j < k + 1 → behindB ls j = true) := fun h j hj => by
    rcases Nat.lt_succ_iff_lt_or_eq.1 hj with hj' | rfl
    ·exact HA.out j hj'
    ·exact h
   have HAll : Hid (∀ i, i < k → itemB (ls.getD i it0) = true) := fun i hi => (behind_at (HA.out i hi)).1
   have HBe : Hid (behindB ls k = (itemB (ls.getD k it0) && (usesB ls k (iex (ls.getD k it0)) && (noText (inm (ls.getD k it0)) || decide (∀ j, j < k → sameN (inm (ls.getD j it0)) (inm (ls.getD k it0)) = false))))) := rfl
   obtain ⟨hfit, b, o, ai, ci, rfl, hb, hF, hcd, hci, _⟩ := HC.out.at (Below.refl _ _) hlt
   have HPa : Hid (itemB (ls.getD k it0) = true → ∀ j, j < (iex (ls.getD k it0)).length → partB ((iex (ls.getD k it0)).getD j pt0) = true) := fun h => item_parts h
   generalize behindB ls k = bh at HNo HNext HBe
   generalize ls.getD k it0 = p at hF hcd hfit hci HBe HPa
   obtain ⟨kk, s, ty, lo, hi, t, ps, hd⟩ := p
   dsimp only [inm, iex] at hcd hci HBe HPa
   have HS : Hid (s.size ≤ maxLen) := Nat.le_trans hfit.1 (by decide)
   have HT : Hid (t.size ≤ maxLen) := Nat.le_trans hfit.2 (by decide)
   have HCd := hid hcd
   obtain ⟨v1, hv1⟩ : ∃ v, Hid (itemB (kk, s, ty, lo, hi, t, ps, hd) = v) := ⟨_, rfl⟩
   obtain ⟨v2, hv2⟩ : ∃ v, Hid (((noText s || decide (∀ j, j < k → sameN (inm (ls.getD j it0)) s = false)) && usesB ls k ps) = v) := ⟨_, rfl⟩
   have HB2v : Hid (bh = (v1 && v2)) := by
    show _ = _
    rw [HBe.out, hv1.out, ← hv2.out, Bool.and_comm (usesB ls k ps)]
   rw [hv1.out] at HPa
   obtain ⟨c0, c1, c2, c3, c4, c5, c6, c7⟩ := hF.on hb HB.out
   dsimp only [ik, inm, ity, ilo, ihi, itx, iex, ihd] at c0 c1 c2 c3 c4 c5 c6 c7
   have hBn : Hid (Below wr.heap.size wr (wr.alloc (.cells #[.int .i64 kk, .string s, .int .i64 ty, .int .i64 lo, .int .i64 hi, .string t, .slice ai ps.length ci, .bool hd] 57))) := (Below.refl _ _).alloc (Nat.le_refl _) _
   have HBk := hid (Blk.laid wr (kk, s, ty, lo, hi, t, ps, hd) ai ci)
   clear hF hcd hfit HA HBe
   go_upto_region 6 with fail
   obtain ⟨W1, hW1⟩ : ∃ W1, Hid (wr.alloc (.cells #[.int .i64 kk, .string s, .int .i64 ty, .int .i64 lo, .int .i64 hi, .string t, .slice ai ps.length ci, .bool hd] 57) = W1) := ⟨_, rfl⟩
   have HBk1 : Hid (Blk (wr.alloc (.cells #[.int .i64 kk, .string s, .int .i64 ty, .int .i64 lo, .int .i64 hi, .string t, .slice ai ps.length ci, .bool hd] 57)) wr.heap.size (kk, s, ty, lo, hi, t, ps, hd) ai ci) := HBk.out
   rw [hW1.out] at hBn HBk1 ⊢
   have HB1 : Hid (Below w.heap.size w W1) := HB.out.trans (hBn.out.mono HB.out.size)
   clear hBn hW1 HB HBk c0 c1 c2 c3 c4 c5 c6 c7
   generalize wr.heap.size = g1 at *
   obtain ⟨⟨y0, y1, y2, y3, y4, y5, y6, y7⟩, yf, yl⟩ := HBk1.out.all
   dsimp only [ik, inm, ity, ilo, ihi, itx, iex, ihd] at y0 y1 y2 y3 y4 y5 y6 y7
   go_wp2_with fail
   refine (ItmI.impl_item kk s ty lo hi t ai ci ps hd _ (HCd.out.on HB1.out) hci HS.out HT.out (HE.out.on HB1.out).1).mono ?_
   rintro e W2 ⟨rfl, hB2⟩
   rw [hv1.out]
   have HB2 : Hid (Below w.heap.size w W2) := HB1.out.trans (hB2.mono HB1.out.size)
   have HK2 := hid (HBk1.out.on hB2)
   clear hB2 HBk1 HB1 y0 y1 y2 y3 y4 y5 y6 y7 yf yl
   cases v1
   ·have HZ := hid (HNo.out (by rw [HB2v.out]; rfl))
    have hg2 := (HE.out.2.2.1.on HB2.out).1
    obtain ⟨-, tp, pe, r2⟩ := HE.out.2.2.1.on HB2.out
    go_wp2_with fail
    go_ret
    exact ⟨⟨_, rfl, .inr ⟨HZ.out, tp, pe, rfl⟩⟩, HB2.out⟩
   have HPR := hid (HPa.out rfl)
   clear HPa
   have h0 : Below W2.heap.size W2 W2.drew := (Below.refl _ _).drew
   have hkc : (k : Int) ≤ cap := by omega
   have hkc2 : k ≤ cap := by omega
   go_wp2_with fail
   refine wp_region_held_drew (S := (fun w' => Below W2.heap.size W2 w' ∧ (w'.cell? ⟨g1, 0, none⟩ = some (.int .i64 kk) ∧ w'.cell? ⟨g1, 1, none⟩ = some (.string s) ∧ w'.cell? ⟨g1, 2, none⟩ = some (.int .i64 ty) ∧ w'.cell? ⟨g1, 3, none⟩ = some (.int .i64 lo) ∧ w'.cell? ⟨g1, 4, none⟩ = some (.int .i64 hi) ∧ w'.cell? ⟨g1, 5, none⟩ = some (.string t) ∧ w'.cell? ⟨g1, 6, none⟩ = some (.slice ai ps.length ci) ∧ w'.cell? ⟨g1, 7, none⟩ = some (.bool hd)))) (by kernel_rfl) ?_ (fun hHeld => ?_)
   ·(try dsimp only) <;> (first | exact keepN HK2.out hN | exact keepN HK2.out h0)
   refine tk 0 (some 21) rfl hHeld ?_; (try simp only [Act.put, pA, pB, pC]); refine tk 1 (some 22) rfl hHeld ?_; (try simp only [Act.put, pA, pB, pC]); refine tk 2 (some 23) rfl hHeld ?_; (try simp only [Act.put, pA, pB, pC]); refine tk 3 (some 24) rfl hHeld ?_; (try simp only [Act.put, pA, pB, pC])
   refine wpAnyH_ready (rs := [4]) (by kernel_rfl) (by simp) ?_
   refine AllReadyH.cons rfl (fun K hK => ?_) AllReadyH.nil
   go_simp
   go_at_call 118
   have hp := hHeld.1
   refine (not_behind_k (some ⟨b, o, none⟩) cap ls k hk kk s ty lo hi t ai ci ps hd _ (HC.out.on (HB2.out.trans (hp.mono HB2.out.size))) HAll.out (HCd.out.on (HB2.out.trans (hp.mono HB2.out.size))) HPR.out (HE.out.on (HB2.out.trans (hp.mono HB2.out.size)))).mono ?_
   rintro e w' ⟨⟨v, rfl, hv⟩, hB⟩
   rw [hv2.out] at hv
   have HV := hid hv
   have hN := hp.trans (hB.mono hp.size)
   clear hp hB hv
   (try go_wp2_with fail)
   refine hK.out _ _ ?_ (fun hHeld2 => ?_)
   ·(try dsimp only) <;> (first | exact keepN HK2.out hN | exact keepN HK2.out h0)
   clear hK K hHeld
   have hHeld := hHeld2
   clear hHeld2
   (try simp only [Act.put, pA, pB, pC]); refine tk 5 (some 5) rfl hHeld ?_; (try simp only [Act.put, pA, pB, pC])
   refine wpAnyH_done (by kernel_rfl) ?_ _
   have HZ2 := hid hHeld.1
   clear hHeld h0
   cases v2
   ·have HZ := hid (HNo.out (by rw [HB2v.out]; rfl))
    rcases HV.out with ⟨h, _⟩ | ⟨_, tp, pe, rfl⟩
    ·cases h
    go_wp2_with fail
    go_ret
    exact ⟨⟨_, rfl, .inr ⟨HZ.out, tp, pe, rfl⟩⟩, HB2.out.trans (HZ2.out.mono HB2.out.size)⟩
   ·have HX := hid (HNext.out (by rw [HB2v.out]; rfl))
    rcases HV.out with ⟨_, rfl⟩ | ⟨h, _⟩
    ·go_wp2_with fail
     exact ⟨⟨k + 1, by omega, by go_num, HX.out, HB2.out.trans (HZ2.out.mono HB2.out.size)⟩, by simp [intOf]; omega⟩
    ·cases h
  ·obtain rfl : k = ls.length := by omega
   have HZ : Hid (z = blocksB ls) := by rw [← hz.out]; exact form_yes h24 HA.out
   go_wp2_with fail
   refine (not_blocks a cap ls _ (HC.out.on HB.out) (HE.out.on HB.out)).mono ?_
   rintro e w1 ⟨⟨v, rfl, hv⟩, hB1⟩
   rw [← HZ.out] at hv
   have HV := hid hv
   have HB1 : Hid (Below w.heap.size w w1) := HB.out.trans (hB1.mono HB.out.size)
   clear hB1 HB hv
   go_wp2_with fail
   go_ret
   exact ⟨⟨_, rfl, HV.out⟩, HB1.out⟩
set_option maxHeartbeats 1600000 in
theorem impl_form (a : Option Addr) (cap : Nat) (ls : List It) (w : World) (hc : Its w a ls) (hcap : ls.length ≤ cap) (hE : EnvF w) :
  Calls Tryz.prog 63 #[.slice a ls.length cap] w fun e w' => e = .returned (.bool (formB ls)) ∧ Below w.heap.size w w' := by
 have HC := hid hc
 have HE := hid hE
 clear hc hE
 obtain ⟨z, hz⟩ : ∃ z, Hid (formB ls = z) := ⟨_, rfl⟩
 rw [hz.out]
 go_enter Tryz.func63, Tryz.ntmps63
 go_wp2_with fail
 refine (why_not a cap ls w HC.out hcap HE.out).mono ?_
 rintro e w1 ⟨⟨v, rfl, hv⟩, hB1⟩
 rw [hz.out] at hv
 have HB1 := hid hB1
 clear hB1
 rcases hv with ⟨rfl, rfl⟩ | ⟨rfl, tp, pe, rfl⟩
 ·go_wp2_with fail
  go_ret
  exact ⟨rfl, HB1.out⟩
 ·go_wp2_with fail
  go_ret
  exact ⟨rfl, HB1.out⟩
end Go.Proofs.YtmbhmknfipdadaaGreatDoor.FrmI
