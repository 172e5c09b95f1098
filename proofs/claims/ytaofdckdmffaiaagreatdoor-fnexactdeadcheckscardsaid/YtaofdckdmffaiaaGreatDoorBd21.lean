/- Texts of ours, laid together: FrmSpC. -/
import Derived.Test.YtaofdckdmffaiaaGreatDoorBd11
import Derived.Laws.OwnMore
import Derived.Laws.AppendOwn
import Derived.OwnWalk
import Derived.WalkSmall
/- Blocks that are open, by the model. -/
namespace Go.Proofs.YtaofdckdmffaiaaGreatDoor.FrmS
open Go.RowKit
open PrtW PrtM NameW ItmW ValM ItmM FrmM

theorem Tryz.infoB : (Tryz.prog.info? 4).map (fun i => (i.zero, i.size, i.bytes)) = some (some (.bool false), 1, 1) := by kernel_rfl
/-- the blocks that are open, as a slice of the call's own -/
def OwnB (w : World) (base : Nat) (v : Value) (op : List Bool) : Prop := w.ownsRow base 4 1 v op.length (op.map Value.bool)
theorem OwnB.len {w : World} {base : Nat} {v : Value} {op : List Bool} (h : OwnB w base v op) : ∃ a c, v = .slice a op.length c := by
  rcases h.2 with ⟨h0, h1⟩ | ⟨g, c, cur, h0, _⟩
  · exact ⟨none, 0, by rw [h0, h1]⟩
  · exact ⟨_, c, h0⟩
theorem OwnB.on {w w' : World} {base : Nat} {v : Value} {op : List Bool} (h : OwnB w base v op) (hB : Below w.heap.size w w') : OwnB w' base v op := by
  obtain ⟨h0, hv⟩ := h
  rcases hv with h1 | ⟨g, c, cur, h1, hb, hg, hr⟩
  · exact ⟨h0, .inl h1⟩
  · exact ⟨h0, .inr ⟨g, c, cur, h1, hb, by rw [hB.block g (Array.getElem?_eq_some_iff.1 hg).1]; exact hg, hr⟩⟩
theorem OwnB.made (w : World) : OwnB (w.alloc (.cells #[] 4)) w.heap.size (.slice (some ⟨w.heap.size, 0, none⟩) 0 0) [] := World.ownsRow_made (base := w.heap.size) (e := 4) (size := 1) w #[] 0 (Nat.le_refl _) (by unfold maxLen; omega) rfl
theorem OwnB.last {w : World} {base : Nat} {v : Value} {q : List Bool} {b : Bool} (h : OwnB w base v (q ++ [b])) : ∃ g c, v = .slice (some ⟨g, 0, none⟩) (q.length + 1) c ∧ base ≤ g ∧ g < w.heap.size ∧ q.length + 1 ≤ c ∧ w.cell? ⟨g, q.length, none⟩ = some (.bool b) ∧ w.frozen? ⟨g, q.length, none⟩ = false := by
  have hl : (q ++ [b]).length = q.length + 1 := by simp
  have h' := h
  unfold OwnB at h'
  rw [hl] at h'
  rcases h'.2 with ⟨_, h1⟩ | ⟨g, c, cur, h0, hb, hg, hc, _⟩
  · omega
  · subst h0
    refine ⟨g, c, rfl, hb, (Array.getElem?_eq_some_iff.1 hg).1, hc, ?_, h'.frozenAt _⟩
    rw [h'.cellAt _ (by omega)]
    simp
theorem OwnB.pop {w : World} {base g c : Nat} {q : List Bool} {b : Bool} (h : OwnB w base (.slice (some ⟨g, 0, none⟩) (q.length + 1) c) (q ++ [b])) : OwnB w base (.slice (some ⟨g, 0, none⟩) q.length c) q := by
  unfold OwnB at h
  rw [List.map_append, show (q ++ [b]).length = q.length + 1 by simp] at h
  exact ownsRow_pop (by simp) h
theorem OwnB.store {w : World} {base g c : Nat} {q : List Bool} {b : Bool} (h : OwnB w base (.slice (some ⟨g, 0, none⟩) (q.length + 1) c) (q ++ [b])) (u : Bool) : OwnB (w.setCell ⟨g, q.length, none⟩ (.bool u)) base (.slice (some ⟨g, 0, none⟩) (q.length + 1) c) (q ++ [u]) := by
  unfold OwnB at h ⊢
  rw [show (q ++ [b]).length = q.length + 1 by simp] at h
  rw [show (q ++ [u]).length = q.length + 1 by simp]
  have h1 := (h.stored q.length (.bool u)).1
  have h2 : ((q ++ [b]).map Value.bool).set q.length (.bool u) = (q ++ [u]).map Value.bool := by
    rw [List.map_append, List.set_append_right _ _ (by simp)]
    simp
  rw [h2] at h1
  exact h1

set_option maxRecDepth 10000 in
set_option maxHeartbeats 6400000 in
theorem spec_blocks (a : Option Addr) (cap : Nat) (ls : List It) (w : World) (hc : Its w a ls) :
    Calls Tryz.prog 59 #[.slice a ls.length cap] w fun e w' => e = .returned (.bool (blocksB ls)) ∧ Below w.heap.size w w' := by
  have HC := hid hc
  have hl := hc.1
  clear hc
  obtain ⟨i0, hi0, hz0, hz1, hz2⟩ := info_parts Tryz.infoB
  obtain ⟨z, hz⟩ : ∃ z, Hid (blocksB ls = z) := ⟨_, rfl⟩
  rw [hz.out]
  go_enter Tryz.func59, Tryz.ntmps59
  go_wp2_with fail
  go_loopw [3, 4, 5] (fun v i _ wr => ∃ (k : Nat) (op : List Bool) (a1 : Option Addr) (c1 : Nat), k ≤ ls.length ∧ i = .int .i64 k ∧ op.length ≤ 6 ∧ v = .slice a1 op.length c1 ∧ Hid (OwnB wr w.heap.size v op) ∧ Hid (blkF ls [] = blkF (ls.drop k) op) ∧ Hid (Below w.heap.size w wr)) (fun _ i _ _ => ls.length - (intOf i).toNat)
  case atStart => exact ⟨0, [], _, 0, Nat.zero_le _, rfl, Nat.zero_le _, rfl, OwnB.made w, rfl, (Below.refl _ _).alloc (Nat.le_refl _) _⟩
  case round =>
    obtain ⟨k, op, a1, c1, hk, rfl, h6, rfl, HO, HK, HB⟩ := hrel
    by_cases hlt : k < ls.length
    · obtain ⟨_, b, o, ai, ci, rfl, hb, hF, _⟩ := HC.out.at (Below.refl _ _) hlt
      have hF2 := hF.on hb HB.out
      obtain ⟨c0, -⟩ := hF2
      have HNo : Hid (stepB (ik (ls.getD k it0)) op = none → z = false) := fun h => by rw [← hz.out]; exact blk_none HK.out hlt h
      have HSome : Hid (∀ op', stepB (ik (ls.getD k it0)) op = some op' → blkF ls [] = blkF (ls.drop (k + 1)) op' ∧ op'.length ≤ 6) := fun op' h => ⟨blk_some HK.out hlt h, step_len h h6⟩
      generalize ls.getD k it0 = p at c0 HNo HSome
      obtain ⟨kk, p2⟩ := p
      dsimp only [ik] at c0 HNo HSome
      clear hF HK HC
      by_cases h2 : kk = 2
      · subst h2
        by_cases hd : 6 ≤ op.length
        · have HZ := hid (HNo.out (step_deep hd))
          go_wp2_with fail
          go_ret
          exact ⟨by rw [HZ.out]; rfl, HB.out⟩
        · have HX := hid (HSome.out _ (step_if hd))
          clear HNo HSome
          go_wp2_with (first
            | (at_builtin; refine wpList_append_own _ rfl _ _ 66 rfl w.heap.size 4 i0 (.bool false) 1 1 Tryz.underlying66 hi0 hz0 hz1 hz2 rfl (by decide) _ _ _ rfl (HO.out.alloc _) ⟨wr.heap.size, 0, none⟩ 1 1 [.bool false] rfl rfl (cell_one_new _ _ _) (by simp [Value.oneCell']) (by unfold maxLen; omega) (by omega) (by have := HB.out.size; simp; omega) ?_; intro v' w3 hown' hg3 hnil3; go_frame)
            | go_in)
          have HO3 : Hid (OwnB w3 w.heap.size v' (op ++ [false])) := by
            show w3.ownsRow _ _ _ _ _ _
            rw [List.map_append, show (op ++ [false]).length = op.length + 1 by simp]
            exact hown'
          have HB3 : Hid (Below w.heap.size w w3) := (HB.out.alloc HB.out.size _).grown hg3 (by have := HB.out.size; simp; omega) (fun j hj => (HO.out.lt j hj).1)
          obtain ⟨a3, c3, rfl⟩ := HO3.out.len
          clear hown' hg3 hnil3 HO
          go_wp2_with fail
          exact ⟨⟨k + 1, op ++ [false], a3, c3, by omega, by go_num, HX.out.2, rfl, HO3, HX.out.1, HB3⟩, by simp [intOf]; omega⟩
      have e2 : (kk == 2) = false := by simp [h2]
      by_cases h3 : kk = 3
      · subst h3
        rcases Nat.eq_zero_or_pos op.length with h0 | h0
        · obtain rfl := List.length_eq_zero_iff.1 h0
          have HZ := hid (HNo.out step_else_no)
          clear HNo HSome h0
          go_wp2_with fail
          go_ret
          exact ⟨by rw [HZ.out]; rfl, HB.out⟩
        · obtain ⟨q, b1, rfl⟩ := snoc_of h0
          obtain ⟨g, c, hv, hbg, hgl, hcap, r0, f0⟩ := HO.out.last
          have hlen : (q ++ [b1]).length = q.length + 1 := by simp
          rw [hlen] at hv h6 HO ⊢
          cases hv
          clear hlen
          clear h0
          cases b1
          · have HX := hid (HSome.out _ step_else)
            have HO3 := hid (HO.out.store true)
            have HB3 : Hid (Below w.heap.size w (wr.setCell ⟨g, q.length, none⟩ (.bool true))) := HB.out.setCell hbg _
            clear HNo HSome HO
            go_wp2_with fail
            exact ⟨⟨k + 1, q ++ [true], some ⟨g, 0, none⟩, c1, by omega, by go_num, HX.out.2, by simp, HO3, HX.out.1, HB3⟩, by simp [intOf]; omega⟩
          · have HZ := hid (HNo.out step_else_two)
            clear HNo HSome HO
            go_wp2_with fail
            go_ret
            exact ⟨by rw [HZ.out]; rfl, HB.out⟩
      have e3 : (kk == 3) = false := by simp [h3]
      by_cases h4 : kk = 4
      · subst h4
        rcases Nat.eq_zero_or_pos op.length with h0 | h0
        · obtain rfl := List.length_eq_zero_iff.1 h0
          have HZ := hid (HNo.out step_end_no)
          clear HNo HSome h0
          go_wp2_with fail
          go_ret
          exact ⟨by rw [HZ.out]; rfl, HB.out⟩
        · obtain ⟨q, b1, rfl⟩ := snoc_of h0
          obtain ⟨g, c, hv, hbg, hgl, hcap, r0, f0⟩ := HO.out.last
          have HX := hid (HSome.out _ FrmM.step_end)
          have hlen : (q ++ [b1]).length = q.length + 1 := by simp
          rw [hlen] at hv h6 HO ⊢
          cases hv
          clear hlen
          have HO3 := hid HO.out.pop
          clear HNo HSome HO h0
          go_wp2_with fail
          exact ⟨⟨k + 1, q, some ⟨g, 0, none⟩, c1, by omega, by go_num, HX.out.2, rfl, HO3, HX.out.1, HB⟩, by simp [intOf]; omega⟩
      have e4 : (kk == 4) = false := by simp [h4]
      have HX := hid (HSome.out _ (step_other h2 h3 h4))
      clear HNo HSome
      go_wp2_with fail
      exact ⟨⟨k + 1, op, a1, c1, by omega, by go_num, h6, rfl, HO, HX.out.1, HB⟩, by simp [intOf]; omega⟩
    · obtain rfl : k = ls.length := by omega
      have HZ : Hid (z = decide (op.length = 0)) := by rw [← hz.out]; exact blk_end HK.out
      go_wp2_with fail
      go_ret
      exact ⟨by rw [HZ.out]; exact ret_bool (by rw [Bool.eq_iff_iff]; simp), HB.out⟩
end Go.Proofs.YtaofdckdmffaiaaGreatDoor.FrmS
