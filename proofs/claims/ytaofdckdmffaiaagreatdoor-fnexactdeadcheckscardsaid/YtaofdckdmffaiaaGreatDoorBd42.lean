/- Texts of ours, laid together: StbSpD, StbSpU. -/
import Derived.Test.YtaofdckdmffaiaaGreatDoorBd40
import Derived.Test.YtaofdckdmffaiaaGreatDoorBd33
import Derived.Test.YtaofdckdmffaiaaGreatDoorBd21
/- DeadChecks of the model. -/
namespace Go.Proofs.YtaofdckdmffaiaaGreatDoor.StbS
open Go.RowKit
open PrtW PrtM PrtS TexM NameW ItmW ItmM FrmM StaM StaS FlsM StbM
open StrW hiding hid
open FrmS (spec_form)
open FlsS (OwnS own_below own_made)

/-- what the model tells of the expression of an item of a right form -/
theorem item_can {ls : List It} (hf : formB ls = true) {k : Nat} (hk : k < ls.length) (hx : ik (ls.getD k it0) = 2 ∨ ik (ls.getD k it0) = 5) (la : Option Addr) (lcap : Nat) (ai : Option Addr) (ci : Nat) (w : World) (hL : Its w la ls) (hP : Parts w ai (iex (ls.getD k it0))) :
    Calls Tryz.prog 39 #[.slice la ls.length lcap, .slice ai (iex (ls.getD k it0)).length ci, .int .i64 0] w fun e w' => e = .returned (.tuple #[.bool (lk ls 6 (iex (ls.getD k it0))).2.1, .bool (lk ls 6 (iex (ls.getD k it0))).2.2, .int .i64 (iex (ls.getD k it0)).length]) ∧ Below w.heap.size w w' := by
  obtain ⟨ht, hr⟩ := expr_in hf hk hx
  obtain ⟨_, hri, hus⟩ := fx_form hr
  obtain ⟨h20, hbh⟩ := right_behind hri
  generalize iex (ls.getD k it0) = ps at *
  have h := spec_can_at ls hf la lcap ai ci ps h20 6 0 [] w (Nat.zero_le _) (by rw [List.drop_zero]; exact hbh) (head_truth (b := true) (by have := ht; unfold truthB at this; exact this) hri) (by rw [List.drop_zero]; exact uses_of hus) hL hP
  rw [List.drop_zero] at h
  exact h

set_option maxRecDepth 10000 in
set_option maxHeartbeats 3200000 in
theorem spec_dead (a : Option Addr) (cap : Nat) (ls : List It) (w : World) (hc : Its w a ls) :
    Calls Tryz.prog 27 #[.slice a ls.length cap] w fun e w' => (∃ a' cap', e = .returned (.slice a' (deadI ls).length cap') ∧ Strs w' a' (deadI ls)) ∧ Below w.heap.size w w' := by
  have HC := hid hc
  have hl := hc.1
  clear hc
  obtain ⟨i0, hi0, hz0, hz1, hz2⟩ := info_parts Tryz.infoS
  unfold deadI
  obtain ⟨r, hr⟩ : ∃ r, Hid (formB ls = r) := ⟨_, rfl⟩
  rw [hr.out]
  have HM := hid (own_made w)
  have HB0 : Hid (Below w.heap.size w (w.alloc (.cells #[] 9))) := (Below.refl _ _).alloc (Nat.le_refl _) _
  cases r
  · rw [if_neg (by decide)]
    by_cases h4 : 400 < ls.length
    · go_enter Tryz.func27, Tryz.ntmps27
      go_wp2_with fail
      go_ret
      refine ⟨?_, HB0.out⟩
      first
        | exact ⟨_, _, rfl, Strs.nil _ _⟩
        | exact ⟨_, ⟨_, rfl⟩, Strs.nil _ _⟩
    · go_enter Tryz.func27, Tryz.ntmps27
      go_wp2_with fail
      refine (spec_form a cap ls _ (HC.out.on HB0.out)).mono ?_
      rintro e w1 ⟨rfl, hB⟩
      rw [hr.out]
      have HB : Hid (Below w.heap.size w w1) := HB0.out.trans (hB.mono HB0.out.size)
      clear hB
      go_wp2_with fail
      go_ret
      refine ⟨?_, HB.out⟩
      first
        | exact ⟨_, _, rfl, Strs.nil _ _⟩
        | exact ⟨_, ⟨_, rfl⟩, Strs.nil _ _⟩
  · rw [if_pos rfl]
    have h24 := (form_at hr.out).1
    go_enter Tryz.func27, Tryz.ntmps27
    go_wp2_with fail
    refine (spec_form a cap ls _ (HC.out.on HB0.out)).mono ?_
    rintro e w1 ⟨rfl, hB⟩
    rw [hr.out]
    have HB : Hid (Below w.heap.size w w1) := HB0.out.trans (hB.mono HB0.out.size)
    have HO : Hid (OwnS w1 w.heap.size (.slice (some ⟨w.heap.size, 0, none⟩) 0 0) []) := own_below HM.out hB
    clear hB HM HB0
    go_wp2_with fail
    go_loopw [3, 4, 5, 6, 7] (fun u i _ _ _ wr => ∃ (k : Nat) (N : List Nm) (a1 : Option Addr) (c1 : Nat), k ≤ ls.length ∧ i = .int .i64 k ∧ u = .slice a1 N.length c1 ∧ Hid (N = deadN ls (ls.take k)) ∧ Hid (OwnS wr w.heap.size u N) ∧ Hid (Below w.heap.size w wr)) (fun _ i _ _ _ _ => ls.length - (intOf i).toNat)
    case atStart => exact ⟨0, [], _, _, Nat.zero_le _, rfl, rfl, rfl, HO, HB⟩
    case round =>
      obtain ⟨k, N, a1, c1, hk, rfl, rfl, HN, HO, HB⟩ := hrel
      by_cases hlt : k < ls.length
      · obtain ⟨_, b, o, ai, ci, rfl, hb, hF, -⟩ := HC.out.at (Below.refl _ _) hlt
        obtain ⟨_, _, _, ai', ci', e1, _, hF', hPr, _⟩ := HC.out.at HB.out hlt
        cases e1
        have e2 : ai' = ai ∧ ci' = ci := by
          have h1 := (hF.on hb HB.out).2.2.2.2.2.2.1
          rw [hF'.2.2.2.2.2.2.1] at h1
          cases h1
          exact ⟨rfl, rfl⟩
        obtain ⟨rfl, rfl⟩ := e2
        have hnl := deadN_len ls (ls.take k)
        rw [← HN.out] at hnl
        have hnl2 : N.length ≤ 24 := by rw [List.length_take] at hnl; omega
        have hfo := deadN_snoc ls (ls.take k) (ls.getD k it0)
        rw [← take_snocI ls k hlt, ← HN.out] at hfo
        have HFO := hid hfo
        have HCan : Hid (ik (ls.getD k it0) = 5 → ∀ W, Below wr.heap.size wr W → Calls Tryz.prog 39 #[.slice (some ⟨b, o, none⟩) ls.length cap, .slice ai' (iex (ls.getD k it0)).length ci', .int .i64 0] W fun e w' => e = .returned (.tuple #[.bool (lk ls 6 (iex (ls.getD k it0))).2.1, .bool (lk ls 6 (iex (ls.getD k it0))).2.2, .int .i64 (iex (ls.getD k it0)).length]) ∧ Below W.heap.size W w') := fun h W hW => item_can hr.out hlt (.inr h) _ cap ai' ci' W ((HC.out.on HB.out).on hW) (hPr.on hW)
        have HF := hid hF
        obtain ⟨c0, c1', c2, c3, c4, c5, c6, c7⟩ := hF.on hb HB.out
        clear hF hF' hPr hnl hfo HC HN
        have HDd : Hid (deadB ls (ls.getD k it0) = ((ik (ls.getD k it0) == 5) && !(lk ls 6 (iex (ls.getD k it0))).2.2)) := rfl
        generalize (lk ls 6 (iex (ls.getD k it0))).2.1 = dy at HCan
        generalize (lk ls 6 (iex (ls.getD k it0))).2.2 = dn at HCan HDd
        generalize deadB ls (ls.getD k it0) = db at HFO HDd
        generalize ls.getD k it0 = p at c0 c1' c2 c3 c4 c5 c6 c7 HFO HCan HDd HF
        obtain ⟨kk, s, ty, lo, hi, t, ps, hd⟩ := p
        dsimp only [ik, inm, ity, ilo, ihi, itx, iex, ihd] at c0 c1' c2 c3 c4 c5 c6 c7 HCan HDd
        by_cases hk5 : kk = 5
        · subst hk5
          have hcan := HCan.out rfl
          have HCn := hid hcan
          clear HCan hcan
          go_wp2_with fail
          refine (HCn.out _ (Below.refl _ _)).mono ?_
          rintro e w2 ⟨rfl, hB2⟩
          have HB2 : Hid (Below w.heap.size w w2) := HB.out.trans (hB2.mono HB.out.size)
          have HO2 := hid (HO.out.on hB2)
          clear c0 c1' c2 c3 c4 c5 c6 c7 hB2 HO HB HCn
          obtain ⟨c0, c1', c2, c3, c4, c5, c6, c7⟩ := HF.out.on hb HB2.out
          dsimp only [ik, inm, ity, ilo, ihi, itx, iex, ihd] at c0 c1' c2 c3 c4 c5 c6 c7
          have hbl := Nat.lt_of_lt_of_le hb HB2.out.size
          cases dn
          · have hd1 : db = true := by rw [HDd.out]; rfl
            rw [hd1, if_pos rfl] at HFO
            have hws := HB2.out.size
            go_wp2_with (first
              | (at_builtin; refine wpList_append_own _ rfl _ _ 38 rfl w.heap.size 9 i0 (.string ByteArray.empty) 1 16 Tryz.underlying38 hi0 hz0 hz1 hz2 rfl (by decide) _ _ _ rfl (HO2.out.alloc _) ⟨w2.heap.size, 0, none⟩ 1 1 [.string s] rfl rfl (cell_one_new _ _ _) (by simp [Value.oneCell']) (by unfold maxLen; omega) (by omega) (by simp; omega) ?_; intro v' w3 hown' hg3 hnil3; go_frame)
              | go_in)
            have HO3 : Hid (OwnS w3 w.heap.size v' (N ++ [s.data.toList])) := by
              show w3.ownsRow _ _ _ _ _ _
              rw [strs_append, show strs [s.data.toList] = [.string s] by unfold strs; rw [List.map_singleton, enc_data], show (N ++ [s.data.toList]).length = N.length + 1 by simp]
              exact hown'
            have HB3 : Hid (Below w.heap.size w w3) := (HB2.out.alloc HB2.out.size _).grown hg3 (by simp; omega) (fun j hj => (HO2.out.lt j hj).1)
            obtain ⟨a3, c3, rfl⟩ := HO3.out.len
            clear hown' hg3 hnil3 HO2
            go_wp2_with fail
            exact ⟨⟨k + 1, N ++ [s.data.toList], a3, c3, by omega, by go_num, rfl, HFO.out.symm, HO3, HB3⟩, by simp [intOf]; omega⟩
          · have hd0 : db = false := by rw [HDd.out]; rfl
            rw [hd0, if_neg (by decide)] at HFO
            go_wp2_with fail
            exact ⟨⟨k + 1, N, a1, c1, by omega, by go_num, rfl, HFO.out.symm, HO2, HB2⟩, by simp [intOf]; omega⟩
        · have hd0 : db = false := by rw [HDd.out, show (kk == 5) = false by simp [hk5]]; rfl
          rw [hd0, if_neg (by decide)] at HFO
          have hk5b : (kk != 5) = true := by simpa using hk5
          go_wp2_with fail
          exact ⟨⟨k + 1, N, a1, c1, by omega, by go_num, rfl, HFO.out.symm, HO, HB⟩, by simp [intOf]; omega⟩
      · obtain rfl : k = ls.length := by omega
        have hN := HN.out
        rw [List.take_length] at hN
        obtain ⟨a2, c2, hv2, hS, -, -⟩ := strs_own HO.out (by rw [hN]; exact Nat.le_trans (deadN_len ls ls) (by omega))
        cases hv2
        have HS := hid hS
        clear hS HO
        go_wp2_with fail
        go_ret
        rw [← hN]
        exact ⟨⟨_, _, rfl, HS.out⟩, HB.out⟩
end Go.Proofs.YtaofdckdmffaiaaGreatDoor.StbS
/- Unreachable of the model. -/
namespace Go.Proofs.YtaofdckdmffaiaaGreatDoor.StbS
open Go.RowKit
open PrtW PrtM PrtS TexM NameW ItmW ItmM FrmM StaM StaS FlsM StbM
open StrW hiding hid
open FrmS (spec_form OwnB)
open FlsS (OwnS own_below own_made)

theorem own_at {w : World} {base n : Nat} {e : TypeId} {v : Value} {xs : List Value} (h : w.ownsRow base e 1 v n xs) {b : Nat} (hb : v.ownBlock = some b) : ∃ cs, w.heap[b]? = some (.cells cs e (0, 0)) := by
  rcases h.2 with ⟨rfl, _⟩ | ⟨g, cap, cur, rfl, _, hg, _⟩
  · cases hb
  · cases hb; exact ⟨cur, hg⟩
/-- rows of two types lie apart -/
theorem rows_apart {w : World} {base n base' n' : Nat} {e e' : TypeId} {v v' : Value} {xs xs' : List Value} (h : w.ownsRow base e 1 v n xs) (h' : w.ownsRow base' e' 1 v' n' xs') (he : e ≠ e') : v.ownBlock = none ∨ v.ownBlock ≠ v'.ownBlock := by
  cases hv : v.ownBlock with
  | none => exact .inl rfl
  | some b =>
    refine .inr fun e2 => ?_
    obtain ⟨cs, h1⟩ := own_at h hv
    obtain ⟨cs2, h2⟩ := own_at h' e2.symm
    rw [h1] at h2
    injection h2 with h2
    injection h2 with _ h3
    exact he h3
theorem grown_set (w : World) (b j : Nat) (u : Value) : w.grownBy (w.setCell ⟨b, j, none⟩ u) (some b) := ⟨rfl, rfl, rfl, by simp, fun k _ hn => Below.heap_setCell _ _ _ _ (fun e => hn (by rw [e]))⟩
theorem bool_made (w : World) (base : Nat) (hb : base ≤ w.heap.size) : OwnB (w.alloc (.cells #[] 4)) base (.slice (some ⟨w.heap.size, 0, none⟩) 0 0) [] := World.ownsRow_made (base := base) (e := 4) (size := 1) w #[] 0 hb (by unfold maxLen; omega) rfl
theorem bool_at {w : World} {base : Nat} {a : Option Addr} {n c : Nat} {op : List Bool} (h : OwnB w base (.slice a n c) op) {m : Nat} (hm : m < op.length) : ∃ g, a = some ⟨g, 0, none⟩ ∧ g < w.heap.size ∧ w.cell? ⟨g, m, none⟩ = some (.bool (op.getD m false)) := by
  have h' := h
  unfold OwnB at h'
  rcases h'.2 with ⟨_, h1⟩ | ⟨g, c2, cur, h0, hb, hg, hc, _⟩
  · omega
  · cases h0
    refine ⟨g, rfl, (Array.getElem?_eq_some_iff.1 hg).1, ?_⟩
    rw [h'.cellAt _ (by omega)]
    simp [List.getD, List.getElem?_eq_getElem hm]
theorem any_take {op : List Bool} {m : Nat} (hm : m < op.length) : (op.take (m + 1)).any id = ((op.take m).any id || op.getD m false) := by
  rw [List.take_succ_eq_append_getElem hm, List.any_append]
  congr 1
  simp [List.getD, List.getElem?_eq_getElem hm]

set_option maxRecDepth 10000 in
set_option maxHeartbeats 6400000 in
theorem spec_unr (a : Option Addr) (cap : Nat) (ls : List It) (w : World) (hc : Its w a ls) :
    Calls Tryz.prog 21 #[.slice a ls.length cap] w fun e w' => (∃ a' cap', e = .returned (.slice a' (unrI ls).length cap') ∧ Strs w' a' (unrI ls)) ∧ Below w.heap.size w w' := by
  have HC := hid hc
  have hl := hc.1
  clear hc
  obtain ⟨i0, hi0, hz0, hz1, hz2⟩ := info_parts Tryz.infoS
  obtain ⟨j0, hj0, hy0, hy1, hy2⟩ := info_parts FrmS.Tryz.infoB
  unfold unrI
  obtain ⟨r, hr⟩ : ∃ r, Hid (formB ls = r) := ⟨_, rfl⟩
  rw [hr.out]
  have HM := hid (own_made w)
  have HB0 : Hid (Below w.heap.size w (w.alloc (.cells #[] 9))) := (Below.refl _ _).alloc (Nat.le_refl _) _
  cases r
  · rw [if_neg (by decide)]
    by_cases h4 : 400 < ls.length
    · go_enter Tryz.func21, Tryz.ntmps21
      go_wp2_with fail
      go_ret
      refine ⟨?_, HB0.out⟩
      first
        | exact ⟨_, _, rfl, Strs.nil _ _⟩
        | exact ⟨_, ⟨_, rfl⟩, Strs.nil _ _⟩
    · go_enter Tryz.func21, Tryz.ntmps21
      go_wp2_with fail
      refine (spec_form a cap ls _ (HC.out.on HB0.out)).mono ?_
      rintro e w1 ⟨rfl, hB⟩
      rw [hr.out]
      have HB : Hid (Below w.heap.size w w1) := HB0.out.trans (hB.mono HB0.out.size)
      clear hB
      go_wp2_with fail
      go_ret
      refine ⟨?_, HB.out⟩
      first
        | exact ⟨_, _, rfl, Strs.nil _ _⟩
        | exact ⟨_, ⟨_, rfl⟩, Strs.nil _ _⟩
  · rw [if_pos rfl]
    have h24 := (form_at hr.out).1
    have HBk : Hid (blocksB ls = true) := (form_at hr.out).2.2
    go_enter Tryz.func21, Tryz.ntmps21
    go_wp2_with fail
    refine (spec_form a cap ls _ (HC.out.on HB0.out)).mono ?_
    rintro e w1 ⟨rfl, hB⟩
    rw [hr.out]
    have HB : Hid (Below w.heap.size w w1) := HB0.out.trans (hB.mono HB0.out.size)
    have HO : Hid (OwnS w1 w.heap.size (.slice (some ⟨w.heap.size, 0, none⟩) 0 0) []) := own_below HM.out hB
    have HOB := hid (bool_made w1 w.heap.size HB.out.size)
    have HO1 := hid (HO.out.alloc (.cells #[] 4))
    have HB1 := hid (HB.out.alloc HB.out.size (.cells #[] 4))
    clear hB HM HB0
    go_wp2_with fail
    go_loopw [3, 4, 5, 6, 7, 8, 9, 10, 11] (fun u v i _ _ _ _ _ _ wr => ∃ (k : Nat) (op : List Bool) (N : List Nm) (a1 : Option Addr) (c1 : Nat) (a2 : Option Addr) (c2 : Nat), k ≤ ls.length ∧ i = .int .i64 k ∧ u = .slice a1 N.length c1 ∧ v = .slice a2 op.length c2 ∧ Hid (walkU ls (ls.take k) = (op, N)) ∧ Hid (Bl ls k op) ∧ Hid (OwnS wr w.heap.size u N) ∧ Hid (OwnB wr w.heap.size v op) ∧ Hid (Below w.heap.size w wr)) (fun _ _ i _ _ _ _ _ _ _ => ls.length - (intOf i).toNat)
    case atStart => exact ⟨0, [], [], _, _, _, _, Nat.zero_le _, rfl, rfl, rfl, rfl, Bl.zero ls, HO1.out, HOB.out, HB1.out⟩
    case round =>
      obtain ⟨k, op, N, a1, c1, a2, c2, hk, rfl, rfl, rfl, HN, HBl, HO, HP, HB⟩ := hrel
      by_cases hlt : k < ls.length
      · obtain ⟨_, b, o, ai, ci, rfl, hb, hF, -⟩ := HC.out.at (Below.refl _ _) hlt
        obtain ⟨_, _, _, ai', ci', e1, _, hF', hPr, _⟩ := HC.out.at HB.out hlt
        cases e1
        have e2 : ai' = ai ∧ ci' = ci := by
          have h1 := (hF.on hb HB.out).2.2.2.2.2.2.1
          rw [hF'.2.2.2.2.2.2.1] at h1
          cases h1
          exact ⟨rfl, rfl⟩
        obtain ⟨rfl, rfl⟩ := e2
        have hnl := walkU_len ls (ls.take k)
        rw [HN.out] at hnl
        have hnl2 : N.length ≤ 24 := by rw [List.length_take] at hnl; simp only at hnl; omega
        have hfo := walkU_snoc ls (ls.take k) (ls.getD k it0)
        rw [← take_snocI ls k hlt, HN.out] at hfo
        have HFO := hid hfo
        obtain ⟨hopen, hbn, h6⟩ := HBl.out.next HBk.out hlt
        have HBn := hid hbn
        have HOp := hid hopen
        have HCan : Hid (ik (ls.getD k it0) = 2 → ∀ W, Below wr.heap.size wr W → Calls Tryz.prog 39 #[.slice (some ⟨b, o, none⟩) ls.length cap, .slice ai' (iex (ls.getD k it0)).length ci', .int .i64 0] W fun e w' => e = .returned (.tuple #[.bool (lk ls 6 (iex (ls.getD k it0))).2.1, .bool (lk ls 6 (iex (ls.getD k it0))).2.2, .int .i64 (iex (ls.getD k it0)).length]) ∧ Below W.heap.size W w') := fun h W hW => item_can hr.out hlt (.inl h) _ cap ai' ci' W ((HC.out.on HB.out).on hW) (hPr.on hW)
        have HF := hid hF
        obtain ⟨d0, d1, d2, d3, d4, d5, d6, d7⟩ := hF.on hb HB.out
        clear hF hF' hPr hnl hfo HC HN hopen hbn HBl
        unfold goU at HFO
        dsimp only at HFO
        have HSt : Hid (∀ yes, (lk ls 6 (iex (ls.getD k it0))).2.1 = yes → ik (ls.getD k it0) = 2 → stU ls op (ls.getD k it0) = op ++ [!yes]) := fun yes h1 h2 => by unfold stU; rw [if_pos h2, h1]
        have HSe : Hid (ik (ls.getD k it0) = 3 → stU ls op (ls.getD k it0) = op.dropLast ++ [false]) := fun h => by unfold stU; rw [if_neg (by omega), if_pos h]
        have HSd : Hid (ik (ls.getD k it0) = 4 → stU ls op (ls.getD k it0) = op.dropLast) := fun h => by unfold stU; rw [if_neg (by omega), if_neg (by omega), if_pos h]
        have HSo : Hid (¬ ik (ls.getD k it0) = 2 → ¬ ik (ls.getD k it0) = 3 → ¬ ik (ls.getD k it0) = 4 → stU ls op (ls.getD k it0) = op) := fun h1 h2 h3 => by unfold stU; rw [if_neg h1, if_neg h2, if_neg h3]
        have HNm : Hid (hasNm (ls.getD k it0) = !((ik (ls.getD k it0) == 2) || ((ik (ls.getD k it0) == 3) || (ik (ls.getD k it0) == 4)))) := rfl
        generalize stU ls op (ls.getD k it0) = st at HFO HSt HSe HSd HSo HBn
        generalize hasNm (ls.getD k it0) = nmd at HFO HNm
        generalize (lk ls 6 (iex (ls.getD k it0))).2.1 = dy at HCan HSt
        generalize (lk ls 6 (iex (ls.getD k it0))).2.2 = dn at HCan
        generalize ls.getD k it0 = p at d0 d1 d2 d3 d4 d5 d6 d7 HFO HCan HSt HSe HSd HSo HNm HOp HF
        obtain ⟨kk, s, ty, lo, hi, t, ps, hd⟩ := p
        dsimp only [ik, inm, ity, ilo, ihi, itx, iex, ihd] at d0 d1 d2 d3 d4 d5 d6 d7 HCan HSt HSe HSd HSo HNm HOp
        have hws := HB.out.size
        by_cases h2 : kk = 2
        · subst h2
          obtain rfl := HSt.out _ rfl rfl
          have hn0 : nmd = false := by rw [HNm.out]; rfl
          rw [hn0, Bool.false_and, if_neg (by decide)] at HFO
          have HCn := hid (HCan.out rfl)
          clear HCan HSt HSe HSd HSo HNm HOp
          go_wp2_with fail
          refine (HCn.out _ (Below.refl _ _)).mono ?_
          rintro e w2 ⟨rfl, hB2⟩
          have HB2 : Hid (Below w.heap.size w w2) := HB.out.trans (hB2.mono HB.out.size)
          have HO2 := hid (HO.out.on hB2)
          have HP2 := hid (HP.out.on hB2)
          have hws2 := HB2.out.size
          clear d0 d1 d2 d3 d4 d5 d6 d7 hB2 HO HB HP HCn
          go_wp2_with (first
            | (at_builtin; refine wpList_append_own _ rfl _ _ 66 rfl w.heap.size 4 j0 (.bool false) 1 1 Tryz.underlying66 hj0 hy0 hy1 hy2 rfl (by decide) _ _ _ rfl (HP2.out.alloc _) ⟨w2.heap.size, 0, none⟩ 1 1 [.bool (!dy)] rfl rfl (cell_one_new _ _ _) (by simp [Value.oneCell']) (by unfold maxLen; omega) (by omega) (by simp; omega) ?_; intro v' w3 hown' hg3 hnil3; go_frame)
            | go_in)
          have HP3 : Hid (OwnB w3 w.heap.size v' (op ++ [!dy])) := by
            show w3.ownsRow _ _ _ _ _ _
            rw [List.map_append, show (op ++ [!dy]).length = op.length + 1 by simp]
            exact hown'
          have HO3 : Hid (OwnS w3 w.heap.size (.slice a1 N.length c1) N) := (HO2.out.alloc _).kept hg3 (rows_apart HO2.out HP2.out (by decide))
          have HB3 : Hid (Below w.heap.size w w3) := (HB2.out.alloc HB2.out.size _).grown hg3 (by simp; omega) (fun j hj => (HP2.out.lt j hj).1)
          obtain ⟨a3, c3, rfl⟩ := HP3.out.len
          clear hown' hg3 hnil3 HO2 HP2 HB2
          go_wp2_with fail
          exact ⟨⟨k + 1, op ++ [!dy], N, a1, c1, a3, c3, by omega, by go_num, rfl, rfl, HFO, HBn, HO3, HP3, HB3⟩, by simp [intOf]; omega⟩
        have e2 : (kk == 2) = false := by simp [h2]
        by_cases h3 : kk = 3
        · subst h3
          obtain rfl := HSe.out rfl
          have hn0 : nmd = false := by rw [HNm.out]; rfl
          rw [hn0, Bool.false_and, if_neg (by decide)] at HFO
          obtain ⟨q, b1, rfl⟩ := snoc_of (HOp.out (.inl rfl))
          obtain ⟨g, c, hv, hbg, hgl, hcap, r0, f0⟩ := HP.out.last
          have hlen : (q ++ [b1]).length = q.length + 1 := by simp
          rw [hlen] at hv HP ⊢
          cases hv
          rw [List.dropLast_concat] at HFO HBn
          have HP3 := hid (HP.out.store false)
          have HO3 : Hid (OwnS (wr.setCell ⟨g, q.length, none⟩ (.bool false)) w.heap.size (.slice a1 N.length c1) N) := HO.out.kept (grown_set wr g q.length (.bool false)) (rows_apart HO.out HP.out (by decide))
          have HB3 : Hid (Below w.heap.size w (wr.setCell ⟨g, q.length, none⟩ (.bool false))) := HB.out.setCell hbg _
          clear HCan HSt HSe HSd HSo HNm HOp HO HP HB
          go_wp2_with fail
          exact ⟨⟨k + 1, q ++ [false], N, a1, c1, some ⟨g, 0, none⟩, c2, by omega, by go_num, rfl, by simp, HFO, HBn, HO3, HP3, HB3⟩, by simp [intOf]; omega⟩
        have e3 : (kk == 3) = false := by simp [h3]
        by_cases h4 : kk = 4
        · subst h4
          obtain rfl := HSd.out rfl
          have hn0 : nmd = false := by rw [HNm.out]; rfl
          rw [hn0, Bool.false_and, if_neg (by decide)] at HFO
          obtain ⟨q, b1, rfl⟩ := snoc_of (HOp.out (.inr rfl))
          obtain ⟨g, c, hv, hbg, hgl, hcap, r0, f0⟩ := HP.out.last
          have hlen : (q ++ [b1]).length = q.length + 1 := by simp
          rw [hlen] at hv HP h6 ⊢
          cases hv
          rw [List.dropLast_concat] at HFO HBn
          have HP3 := hid HP.out.pop
          clear HCan HSt HSe HSd HSo HNm HOp HP hlen
          go_wp2_with fail
          exact ⟨⟨k + 1, q, N, a1, c1, some ⟨g, 0, none⟩, c2, by omega, by go_num, rfl, rfl, HFO, HBn, HO, HP3, HB⟩, by simp [intOf]; omega⟩
        have e4 : (kk == 4) = false := by simp [h4]
        obtain rfl := HSo.out h2 h3 h4
        have hn1 : nmd = true := by rw [HNm.out, e2, e3, e4]; rfl
        rw [hn1, Bool.true_and] at HFO
        clear HCan HSt HSe HSd HSo HNm HOp
        go_wp2_with fail
        go_loopw [10, 11] (fun nv i wq => ∃ m : Nat, m ≤ st.length ∧ i = .int .i64 m ∧ nv = .bool ((st.take m).any id) ∧ wq = wr) (fun _ i _ => st.length - (intOf i).toNat)
        case atStart => exact ⟨0, Nat.zero_le _, rfl, rfl, rfl⟩
        case round =>
          obtain ⟨m, hm, rfl, rfl, rfl⟩ := hrel
          by_cases hlm : m < st.length
          · obtain ⟨g, rfl, hgl, hgc⟩ := bool_at HP.out hlm
            have hat := any_take hlm
            have HAt := hid hat
            clear hat
            generalize st.getD m false = bm at hgc HAt
            generalize (st.take m).any id = nv1 at HAt ⊢
            cases nv1
            · have hv := hid (HAt.out.trans (Bool.false_or bm))
              go_wp2_with fail
              exact ⟨⟨m + 1, by omega, by go_num, by rw [hv.out], by trivial⟩, by simp [intOf]; omega⟩
            · have hv := hid (HAt.out.trans (Bool.true_or bm))
              go_wp2_with fail
              exact ⟨⟨m + 1, by omega, by go_num, by rw [hv.out], by trivial⟩, by simp [intOf]; omega⟩
          · obtain rfl : m = st.length := by omega
            rw [List.take_length]
            generalize st.any id = nv at HFO
            cases nv
            · rw [if_neg (by decide)] at HFO
              go_wp2_with fail
              exact ⟨⟨k + 1, st, N, a1, c1, a2, c2, by omega, by go_num, rfl, rfl, HFO, HBn, HO, HP, HB⟩, by simp [intOf]; omega⟩
            · rw [if_pos rfl] at HFO
              go_wp2_with (first
                | (at_builtin; refine wpList_append_own _ rfl _ _ 38 rfl w.heap.size 9 i0 (.string ByteArray.empty) 1 16 Tryz.underlying38 hi0 hz0 hz1 hz2 rfl (by decide) _ _ _ rfl (HO.out.alloc _) ⟨_, 0, none⟩ 1 1 [.string s] rfl rfl (cell_one_new _ _ _) (by simp [Value.oneCell']) (by unfold maxLen; omega) (by omega) (by simp; omega) ?_; intro v' w3 hown' hg3 hnil3; go_frame)
                | go_in)
              have HO3 : Hid (OwnS w3 w.heap.size v' (N ++ [s.data.toList])) := by
                show w3.ownsRow _ _ _ _ _ _
                rw [strs_append, show strs [s.data.toList] = [.string s] by unfold strs; rw [List.map_singleton, enc_data], show (N ++ [s.data.toList]).length = N.length + 1 by simp]
                exact hown'
              have HP3 := hid ((HP.out.on (ItmS.below_one _ _)).kept hg3 (rows_apart HP.out HO.out (by decide)))
              have HB3 : Hid (Below w.heap.size w w3) := (HB.out.alloc HB.out.size _).grown hg3 (by simp; omega) (fun j hj => (HO.out.lt j hj).1)
              obtain ⟨a3, c3, rfl⟩ := HO3.out.len
              clear hown' hg3 hnil3 HO HP
              go_wp2_with fail
              exact ⟨⟨k + 1, st, N ++ [s.data.toList], a3, c3, a2, c2, by omega, by go_num, rfl, rfl, HFO, HBn, HO3, HP3.out, HB3⟩, by simp [intOf]; omega⟩
      · obtain rfl : k = ls.length := by omega
        have hN := HN.out
        rw [List.take_length] at hN
        obtain ⟨a3, c3, hv2, hS, -, -⟩ := strs_own HO.out (by have := walkU_len ls ls; rw [hN] at this; simp only at this; omega)
        cases hv2
        have HS := hid hS
        clear hS HO
        go_wp2_with fail
        go_ret
        rw [hN]
        exact ⟨⟨_, _, rfl, HS.out⟩, HB.out⟩
end Go.Proofs.YtaofdckdmffaiaaGreatDoor.StbS
