/- Texts of ours, laid together: StbSpD. -/
import Derived.Test.YtaofdckdmffaiaaGreatDoorBd41
import Derived.Test.YtaofdckdmffaiaaGreatDoorBd29
import Derived.Test.YtaofdckdmffaiaaGreatDoorBd38
/- DeadChecks of the model. -/
namespace Go.Proofs.YtaofdckdmffaiaaGreatDoor.StbS
open Go.RowKit
open PrtW PrtM PrtS TexM NameW ItmW ItmM FrmM StaM StaS FlsM StbM
open StrW hiding hid
open FrmS (spec_form)
open FlsS (OwnS own_below own_made)

/-- what the model tells of the expression of an item of a right form -/
theorem item_can {ls : List It} (hf : formB ls = true) {k : Nat} (hk : k < ls.length) (hx : ik (ls.getD k it0) = 2 ∨ ik (ls.getD k it0) = 5) (la : Option Addr) (lcap : Nat) (ai : Option Addr) (ci : Nat) (w : World) (hL : Its w la ls) (hP : Parts w ai (iex (ls.getD k it0))) :
    Calls Tryz.prog 39 #[.slice la ls.length lcap, .slice ai (iex (ls.getD k it0)).length ci, .int .i64 0] w fun e w' => e = .returned (.tuple #[.bool (lk ls 6 (iex (ls.getD k it0))).2.1, .bool (lk ls 6 (iex (ls.getD k it0))).2.2, .int .i64 (iex (ls.getD k it0)).length]) ∧ Below w.heap.size w w' := by
  obtain ⟨ht, hr⟩ := expr_in hf hk hx
  obtain ⟨_, hri, hus⟩ := fx_form hr
  obtain ⟨h20, hbh⟩ := right_behind hri
  generalize iex (ls.getD k it0) = ps at *
  have h := spec_can_at ls hf la lcap ai ci ps h20 6 0 [] w (Nat.zero_le _) (by rw [List.drop_zero]; exact hbh) (head_truth (b := true) (by have := ht; unfold truthB at this; exact this) hri) (by rw [List.drop_zero]; exact uses_of hus) hL hP
  rw [List.drop_zero] at h
  exact h

set_option maxRecDepth 10000 in
set_option maxHeartbeats 3200000 in
theorem spec_dead (a : Option Addr) (cap : Nat) (ls : List It) (w : World) (hc : Its w a ls) :
    Calls Tryz.prog 27 #[.slice a ls.length cap] w fun e w' => (∃ a' cap', e = .returned (.slice a' (deadI ls).length cap') ∧ Strs w' a' (deadI ls)) ∧ Below w.heap.size w w' := by
  have HC := hid hc
  have hl := hc.1
  clear hc
  obtain ⟨i0, hi0, hz0, hz1, hz2⟩ := info_parts Tryz.infoS
  unfold deadI
  obtain ⟨r, hr⟩ : ∃ r, Hid (formB ls = r) := ⟨_, rfl⟩
  rw [hr.out]
  have HM := hid (own_made w)
  have HB0 : Hid (Below w.heap.size w (w.alloc (.cells #[] 9))) := (Below.refl _ _).alloc (Nat.le_refl _) _
  cases r
  · rw [if_neg (by decide)]
    by_cases h4 : 400 < ls.length
    · go_enter Tryz.func27, Tryz.ntmps27
      go_wp2_with fail
      go_ret
      refine ⟨?_, HB0.out⟩
      first
        | exact ⟨_, _, rfl, Strs.nil _ _⟩
        | exact ⟨_, ⟨_, rfl⟩, Strs.nil _ _⟩
    · go_enter Tryz.func27, Tryz.ntmps27
      go_wp2_with fail
      refine (spec_form a cap ls _ (HC.out.on HB0.out)).mono ?_
      rintro e w1 ⟨rfl, hB⟩
      rw [hr.out]
      have HB : Hid (Below w.heap.size w w1) := HB0.out.trans (hB.mono HB0.out.size)
      clear hB
      go_wp2_with fail
      go_ret
      refine ⟨?_, HB.out⟩
      first
        | exact ⟨_, _, rfl, Strs.nil _ _⟩
        | exact ⟨_, ⟨_, rfl⟩, Strs.nil _ _⟩
  · rw [if_pos rfl]
    have h24 := (form_at hr.out).1
    go_enter Tryz.func27, Tryz.ntmps27
    go_wp2_with fail
    refine (spec_form a cap ls _ (HC.out.on HB0.out)).mono ?_
    rintro e w1 ⟨rfl, hB⟩
    rw [hr.out]
    have HB : Hid (Below w.heap.size w w1) := HB0.out.trans (hB.mono HB0.out.size)
    have HO : Hid (OwnS w1 w.heap.size (.slice (some ⟨w.heap.size, 0, none⟩) 0 0) []) := own_below HM.out hB
    clear hB HM HB0
    go_wp2_with fail
    go_loopw [3, 4, 5, 6, 7] (fun u i _ _ _ wr => ∃ (k : Nat) (N : List Nm) (a1 : Option Addr) (c1 : Nat), k ≤ ls.length ∧ i = .int .i64 k ∧ u = .slice a1 N.length c1 ∧ Hid (N = deadN ls (ls.take k)) ∧ Hid (OwnS wr w.heap.size u N) ∧ Hid (Below w.heap.size w wr)) (fun _ i _ _ _ _ => ls.length - (intOf i).toNat)
    case atStart => exact ⟨0, [], _, _, Nat.zero_le _, rfl, rfl, rfl, HO, HB⟩
    case round =>
      obtain ⟨k, N, a1, c1, hk, rfl, rfl, HN, HO, HB⟩ := hrel
      by_cases hlt : k < ls.length
      · obtain ⟨_, b, o, ai, ci, rfl, hb, hF, -⟩ := HC.out.at (Below.refl _ _) hlt
        obtain ⟨_, _, _, ai', ci', e1, _, hF', hPr, _⟩ := HC.out.at HB.out hlt
        cases e1
        have e2 : ai' = ai ∧ ci' = ci := by
          have h1 := (hF.on hb HB.out).2.2.2.2.2.2.1
          rw [hF'.2.2.2.2.2.2.1] at h1
          cases h1
          exact ⟨rfl, rfl⟩
        obtain ⟨rfl, rfl⟩ := e2
        have hnl := deadN_len ls (ls.take k)
        rw [← HN.out] at hnl
        have hnl2 : N.length ≤ 24 := by rw [List.length_take] at hnl; omega
        have hfo := deadN_snoc ls (ls.take k) (ls.getD k it0)
        rw [← take_snocI ls k hlt, ← HN.out] at hfo
        have HFO := hid hfo
        have HCan : Hid (ik (ls.getD k it0) = 5 → ∀ W, Below wr.heap.size wr W → Calls Tryz.prog 39 #[.slice (some ⟨b, o, none⟩) ls.length cap, .slice ai' (iex (ls.getD k it0)).length ci', .int .i64 0] W fun e w' => e = .returned (.tuple #[.bool (lk ls 6 (iex (ls.getD k it0))).2.1, .bool (lk ls 6 (iex (ls.getD k it0))).2.2, .int .i64 (iex (ls.getD k it0)).length]) ∧ Below W.heap.size W w') := fun h W hW => item_can hr.out hlt (.inr h) _ cap ai' ci' W ((HC.out.on HB.out).on hW) (hPr.on hW)
        have HF := hid hF
        obtain ⟨c0, c1', c2, c3, c4, c5, c6, c7⟩ := hF.on hb HB.out
        clear hF hF' hPr hnl hfo HC HN
        have HDd : Hid (deadB ls (ls.getD k it0) = ((ik (ls.getD k it0) == 5) && !(lk ls 6 (iex (ls.getD k it0))).2.2)) := rfl
        generalize (lk ls 6 (iex (ls.getD k it0))).2.1 = dy at HCan
        generalize (lk ls 6 (iex (ls.getD k it0))).2.2 = dn at HCan HDd
        generalize deadB ls (ls.getD k it0) = db at HFO HDd
        generalize ls.getD k it0 = p at c0 c1' c2 c3 c4 c5 c6 c7 HFO HCan HDd HF
        obtain ⟨kk, s, ty, lo, hi, t, ps, hd⟩ := p
        dsimp only [ik, inm, ity, ilo, ihi, itx, iex, ihd] at c0 c1' c2 c3 c4 c5 c6 c7 HCan HDd
        by_cases hk5 : kk = 5
        · subst hk5
          have hcan := HCan.out rfl
          have HCn := hid hcan
          clear HCan hcan
          go_wp2_with fail
          refine (HCn.out _ (Below.refl _ _)).mono ?_
          rintro e w2 ⟨rfl, hB2⟩
          have HB2 : Hid (Below w.heap.size w w2) := HB.out.trans (hB2.mono HB.out.size)
          have HO2 := hid (HO.out.on hB2)
          clear c0 c1' c2 c3 c4 c5 c6 c7 hB2 HO HB HCn
          obtain ⟨c0, c1', c2, c3, c4, c5, c6, c7⟩ := HF.out.on hb HB2.out
          dsimp only [ik, inm, ity, ilo, ihi, itx, iex, ihd] at c0 c1' c2 c3 c4 c5 c6 c7
          have hbl := Nat.lt_of_lt_of_le hb HB2.out.size
          cases dn
          · have hd1 : db = true := by rw [HDd.out]; rfl
            rw [hd1, if_pos rfl] at HFO
            have hws := HB2.out.size
            go_wp2_with (first
              | (at_builtin; refine wpList_append_own _ rfl _ _ 38 rfl w.heap.size 9 i0 (.string ByteArray.empty) 1 16 Tryz.underlying38 hi0 hz0 hz1 hz2 rfl (by decide) _ _ _ rfl (HO2.out.alloc _) ⟨w2.heap.size, 0, none⟩ 1 1 [.string s] rfl rfl (cell_one_new _ _ _) (by simp [Value.oneCell']) (by unfold maxLen; omega) (by omega) (by simp; omega) ?_; intro v' w3 hown' hg3 hnil3; go_frame)
              | go_in)
            have HO3 : Hid (OwnS w3 w.heap.size v' (N ++ [s.data.toList])) := by
              show w3.ownsRow _ _ _ _ _ _
              rw [strs_append, show strs [s.data.toList] = [.string s] by unfold strs; rw [List.map_singleton, enc_data], show (N ++ [s.data.toList]).length = N.length + 1 by simp]
              exact hown'
            have HB3 : Hid (Below w.heap.size w w3) := (HB2.out.alloc HB2.out.size _).grown hg3 (by simp; omega) (fun j hj => (HO2.out.lt j hj).1)
            obtain ⟨a3, c3, rfl⟩ := HO3.out.len
            clear hown' hg3 hnil3 HO2
            go_wp2_with fail
            exact ⟨⟨k + 1, N ++ [s.data.toList], a3, c3, by omega, by go_num, rfl, HFO.out.symm, HO3, HB3⟩, by simp [intOf]; omega⟩
          · have hd0 : db = false := by rw [HDd.out]; rfl
            rw [hd0, if_neg (by decide)] at HFO
            go_wp2_with fail
            exact ⟨⟨k + 1, N, a1, c1, by omega, by go_num, rfl, HFO.out.symm, HO2, HB2⟩, by simp [intOf]; omega⟩
        · have hd0 : db = false := by rw [HDd.out, show (kk == 5) = false by simp [hk5]]; rfl
          rw [hd0, if_neg (by decide)] at HFO
          have hk5b : (kk != 5) = true := by simpa using hk5
          go_wp2_with fail
          exact ⟨⟨k + 1, N, a1, c1, by omega, by go_num, rfl, HFO.out.symm, HO, HB⟩, by simp [intOf]; omega⟩
      · obtain rfl : k = ls.length := by omega
        have hN := HN.out
        rw [List.take_length] at hN
        obtain ⟨a2, c2, hv2, hS, -, -⟩ := strs_own HO.out (by rw [hN]; exact Nat.le_trans (deadN_len ls ls) (by omega))
        cases hv2
        have HS := hid hS
        clear hS HO
        go_wp2_with fail
        go_ret
        rw [← hN]
        exact ⟨⟨_, _, rfl, HS.out⟩, HB.out⟩
end Go.Proofs.YtaofdckdmffaiaaGreatDoor.StbS
