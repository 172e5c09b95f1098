/- Why blocks may not be as they are, by the program. -/
import Derived.Test.YtbhblnpehhaiiaaDoorFrmImC
import Derived.Test.YtbhblnpehhaiiaaDoorFrmSpC
import Derived.Deep.Cut
import Derived.Deep.CutRange
namespace Go.Proofs.YtbhblnpehhaiiaaDoor.FrmI
open Go.RowKit
open PrtW PrtM NameW ItmW ValM ItmM FrmM
open FrmS (OwnB)

theorem own_nil (w : World) (base : Nat) : OwnB w base (.slice none 0 0) [] := World.ownsRow_nil _ _ _ _
set_option maxRecDepth 10000 in
set_option maxHeartbeats 6400000 in
theorem not_blocks (a : Option Addr) (cap : Nat) (ls : List It) (w : World) (hc : Its w a ls) (hE : EnvF w) :
    Calls Tryd.prog 60 #[.slice a ls.length cap] w fun e w' => (∃ v, e = .returned v ∧ ErrIs (blocksB ls) v) ∧ Below w.heap.size w w' := by
  have HC := hid hc
  have HE := hid hE
  have hl := hc.1
  clear hc hE
  obtain ⟨i0, hi0, hz0, hz1, hz2⟩ := info_parts FrmS.Tryd.infoB
  obtain ⟨z, hz⟩ : ∃ z, Hid (blocksB ls = z) := ⟨_, rfl⟩
  rw [hz.out]
  go_enter Tryd.func60, Tryd.ntmps60
  go_wp2_with fail
  go_loopw [3, 6, 9] (fun v _ i wr => ∃ (k : Nat) (op : List Bool) (a1 : Option Addr) (c1 : Nat), k ≤ ls.length ∧ i = .int .i64 k ∧ op.length ≤ 6 ∧ v = .slice a1 op.length c1 ∧ Hid (OwnB wr w.heap.size v op) ∧ Hid (blkF ls [] = blkF (ls.drop k) op) ∧ Hid (Below w.heap.size w wr)) (fun _ _ i _ => ls.length - (intOf i).toNat)
  case atStart => exact ⟨0, [], _, 0, Nat.zero_le _, rfl, Nat.zero_le _, rfl, own_nil _ _, rfl, Below.refl _ _⟩
  case round =>
    obtain ⟨k, op, a1, c1, hk, rfl, h6, rfl, HO, HK, HB⟩ := hrel
    by_cases hlt : k < ls.length
    · obtain ⟨_, b, o, ai, ci, rfl, hb, hF, _⟩ := HC.out.at (Below.refl _ _) hlt
      obtain ⟨c0, c1', c2, c3, c4, c5, c6, c7⟩ := hF.on hb HB.out
      have HNo : Hid (stepB (ik (ls.getD k it0)) op = none → z = false) := fun h => by rw [← hz.out]; exact blk_none HK.out hlt h
      have HSome : Hid (∀ op', stepB (ik (ls.getD k it0)) op = some op' → blkF ls [] = blkF (ls.drop (k + 1)) op' ∧ op'.length ≤ 6) := fun op' h => ⟨blk_some HK.out hlt h, step_len h h6⟩
      generalize ls.getD k it0 = p at c0 c1' c2 c3 c4 c5 c6 c7 HNo HSome
      obtain ⟨kk, s, ty, lo, hi, t, ps, hd⟩ := p
      dsimp only [ik, inm, ity, ilo, ihi, itx, iex, ihd] at c0 c1' c2 c3 c4 c5 c6 c7 HNo HSome
      have hBn : Hid (Below wr.heap.size wr (wr.alloc (.cells #[.int .i64 kk, .string s, .int .i64 ty, .int .i64 lo, .int .i64 hi, .string t, .slice ai ps.length ci, .bool hd] 31))) := (Below.refl _ _).alloc (Nat.le_refl _) _
      have hq : (wr.alloc (.cells #[.int .i64 kk, .string s, .int .i64 ty, .int .i64 lo, .int .i64 hi, .string t, .slice ai ps.length ci, .bool hd] 31)).cell? ⟨wr.heap.size, 0, none⟩ = some (.int .i64 kk) := by simp
      clear hF HK HC
      go_upto_region 5 with fail
      obtain ⟨W1, hW1⟩ : ∃ W1, Hid (wr.alloc (.cells #[.int .i64 kk, .string s, .int .i64 ty, .int .i64 lo, .int .i64 hi, .string t, .slice ai ps.length ci, .bool hd] 31) = W1) := ⟨_, rfl⟩
      rw [hW1.out] at hBn hq ⊢
      have HO1 := hid (HO.out.on hBn.out)
      have HB1 : Hid (Below w.heap.size w W1) := HB.out.trans (hBn.out.mono HB.out.size)
      have hg6 := (HE.out.2.2.2.2.2.on HB1.out).1
      obtain ⟨-, tp, pe, r6⟩ := HE.out.2.2.2.2.2.on HB1.out
      have hwg : wr.heap.size < W1.heap.size := World.block_lt_of_cell? W1 _ hq
      have hws : w.heap.size ≤ W1.heap.size := HB1.out.size
      clear hBn hW1 HO HB c0 c1' c2 c3 c4 c5 c6 c7
      generalize wr.heap.size = g1 at *
      by_cases h2 : kk = 2
      · subst h2
        by_cases hd6 : 6 ≤ op.length
        · have hd7 : op.length = 6 := by omega
          have HZ := hid (HNo.out (step_deep hd6))
          rw [hd7] at HO1 ⊢
          clear HNo HSome hd6 hd7
          go_wp2_with fail
          go_ret
          exact ⟨⟨_, rfl, .inr ⟨HZ.out, tp, pe, rfl⟩⟩, HB1.out⟩
        · have HX := hid (HSome.out _ (step_if hd6))
          have hne : ((op.length : Nat) : Int) ≠ 6 := by omega
          have hne2 : (((op.length : Nat) : Int) == 6) = false := by simp; omega
          clear HNo HSome
          go_wp2_with (first
            | (at_builtin; refine wpList_append_own _ rfl _ _ 76 rfl w.heap.size 4 i0 (.bool false) 1 1 Tryd.underlying76 hi0 hz0 hz1 hz2 rfl (by decide) _ _ _ rfl (HO1.out.alloc _) ⟨W1.heap.size, 0, none⟩ 1 1 [.bool false] rfl rfl (cell_one_new _ _ _) (by simp [Value.oneCell']) (by unfold maxLen; omega) (by omega) (by simp; omega) ?_; intro v' w3 hown' hg3 hnil3; go_frame)
            | go_in)
          have HO3 : Hid (OwnB w3 w.heap.size v' (op ++ [false])) := by
            show w3.ownsRow _ _ _ _ _ _
            rw [List.map_append, show (op ++ [false]).length = op.length + 1 by simp]
            exact hown'
          have HB3 : Hid (Below w.heap.size w w3) := (HB1.out.alloc HB1.out.size _).grown hg3 (by have := HB1.out.size; simp; omega) (fun j hj => (HO1.out.lt j hj).1)
          obtain ⟨a3, c3, rfl⟩ := HO3.out.len
          clear hown' hg3 hnil3 HO1
          go_wp2_with fail
          exact ⟨⟨k + 1, op ++ [false], a3, c3, by omega, by go_num, HX.out.2, rfl, HO3, HX.out.1, HB3⟩, by simp [intOf]; omega⟩
      have e2 : (kk == 2) = false := by simp [h2]
      by_cases h3 : kk = 3
      · subst h3
        rcases Nat.eq_zero_or_pos op.length with h0 | h0
        · obtain rfl := List.length_eq_zero_iff.1 h0
          have HZ := hid (HNo.out step_else_no)
          clear HNo HSome h0
          go_wp2_with fail
          go_ret
          exact ⟨⟨_, rfl, .inr ⟨HZ.out, tp, pe, rfl⟩⟩, HB1.out⟩
        · obtain ⟨q, b1, rfl⟩ := snoc_of h0
          obtain ⟨g, c, hv, hbg, hgl, hcap, r0, f0⟩ := HO1.out.last
          have hlen : (q ++ [b1]).length = q.length + 1 := by simp
          rw [hlen] at hv h6 HO1 ⊢
          cases hv
          clear hlen h0
          cases b1
          · have HX := hid (HSome.out _ step_else)
            have HO3 := hid (HO1.out.store true)
            have HB3 : Hid (Below w.heap.size w (W1.setCell ⟨g, q.length, none⟩ (.bool true))) := HB1.out.setCell hbg _
            clear HNo HSome HO1
            go_wp2_with fail
            exact ⟨⟨k + 1, q ++ [true], some ⟨g, 0, none⟩, c1, by omega, by go_num, HX.out.2, by simp, HO3, HX.out.1, HB3⟩, by simp [intOf]; omega⟩
          · have HZ := hid (HNo.out step_else_two)
            clear HNo HSome HO1
            go_wp2_with fail
            go_ret
            exact ⟨⟨_, rfl, .inr ⟨HZ.out, tp, pe, rfl⟩⟩, HB1.out⟩
      have e3 : (kk == 3) = false := by simp [h3]
      by_cases h4 : kk = 4
      · subst h4
        rcases Nat.eq_zero_or_pos op.length with h0 | h0
        · obtain rfl := List.length_eq_zero_iff.1 h0
          have HZ := hid (HNo.out step_end_no)
          clear HNo HSome h0
          go_wp2_with fail
          go_ret
          exact ⟨⟨_, rfl, .inr ⟨HZ.out, tp, pe, rfl⟩⟩, HB1.out⟩
        · obtain ⟨q, b1, rfl⟩ := snoc_of h0
          obtain ⟨g, c, hv, hbg, hgl, hcap, r0, f0⟩ := HO1.out.last
          have HX := hid (HSome.out _ FrmM.step_end)
          have hlen : (q ++ [b1]).length = q.length + 1 := by simp
          rw [hlen] at hv h6 HO1 ⊢
          cases hv
          clear hlen
          have HO3 := hid HO1.out.pop
          clear HNo HSome HO1 h0
          go_wp2_with fail
          exact ⟨⟨k + 1, q, some ⟨g, 0, none⟩, c1, by omega, by go_num, HX.out.2, rfl, HO3, HX.out.1, HB1⟩, by simp [intOf]; omega⟩
      have e4 : (kk == 4) = false := by simp [h4]
      have HX := hid (HSome.out _ (step_other h2 h3 h4))
      clear HNo HSome
      go_wp2_with fail
      exact ⟨⟨k + 1, op, a1, c1, by omega, by go_num, h6, rfl, HO1, HX.out.1, HB1⟩, by simp [intOf]; omega⟩
    · obtain rfl : k = ls.length := by omega
      have HZ : Hid (z = decide (op.length = 0)) := by rw [← hz.out]; exact blk_end HK.out
      have hg6 := (HE.out.2.2.2.2.2.on HB.out).1
      obtain ⟨-, tp, pe, r6⟩ := HE.out.2.2.2.2.2.on HB.out
      rcases Nat.eq_zero_or_pos op.length with h0 | h0
      · obtain rfl := List.length_eq_zero_iff.1 h0
        clear h0
        go_wp2_with fail
        go_ret
        exact ⟨⟨_, rfl, .inl ⟨HZ.out, rfl⟩⟩, HB.out⟩
      · have hpos : (0 : Int) < ((op.length : Nat) : Int) := by omega
        have HZ2 : Hid (z = false) := by rw [HZ.out]; exact decide_eq_false (by omega)
        go_wp2_with fail
        go_ret
        exact ⟨⟨_, rfl, .inr ⟨HZ2.out, tp, pe, rfl⟩⟩, HB.out⟩
end Go.Proofs.YtbhblnpehhaiiaaDoor.FrmI
