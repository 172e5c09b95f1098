/- Texts of ours, laid together: StbImD. -/
import Derived.Test.YtaofdckdmffaiaaGreatDoorBd40
import Derived.Test.YtaofdckdmffaiaaGreatDoorBd43
import Derived.Test.YtaofdckdmffaiaaGreatDoorBd39
/- DeadChecks of the program. -/
namespace Go.Proofs.YtaofdckdmffaiaaGreatDoor.StbI
open Go.RowKit
open PrtW PrtM PrtS PrtI TexM NameW ItmW ItmM FrmM StaM StaS StaI FlsM StbM
open StrW hiding hid
open FlsS (OwnS own_below)
open FrmI (EnvF impl_form Blk)
open FlsI (laid_g)

/-- a check of a right form has a short name -/
theorem dead_size {ls : List It} (h : formB ls = true) {k : Nat} (hk : k < ls.length) (hf : ik (ls.getD k it0) = 5) : (inm (ls.getD k it0)).size ≤ 20 := by
  have h1 := (behind_at ((form_at h).2.1 k hk)).1
  generalize ls.getD k it0 = p at h1 hf
  unfold itemB at h1
  rw [if_neg (by omega), if_neg (by omega), if_neg (by omega), if_pos hf, Bool.and_eq_true] at h1
  exact FlsM.name_size h1.1

set_option maxRecDepth 10000 in
set_option maxHeartbeats 3200000 in
theorem impl_dead (a : Option Addr) (cap : Nat) (ls : List It) (w : World) (hc : Its w a ls) (hcap : ls.length ≤ cap) (hE : EnvF w) :
    Calls Tryz.prog 28 #[.slice a ls.length cap] w fun e w' => (∃ v, e = .returned v ∧ w'.ownsRow w.heap.size 9 1 v (deadI ls).length (strs (deadI ls))) ∧ Below w.heap.size w w' := by
  have HC := hid hc
  have HE := hid hE
  have hl := hc.1
  clear hc hE
  obtain ⟨i0, hi0, hz0, hz1, hz2⟩ := info_parts Tryz.infoS
  unfold deadI
  obtain ⟨r, hr⟩ : ∃ r, Hid (formB ls = r) := ⟨_, rfl⟩
  rw [hr.out]
  cases r
  · rw [if_neg (by decide)]
    go_enter Tryz.func28, Tryz.ntmps28
    go_wp2_with fail
    refine (impl_form a cap ls w HC.out hcap HE.out).mono ?_
    rintro e w1 ⟨rfl, hB⟩
    rw [hr.out]
    have HB := hid hB
    clear hB
    go_wp2_with fail
    go_ret
    exact ⟨⟨_, rfl, ⟨rfl, .inl ⟨rfl, rfl⟩⟩⟩, HB.out⟩
  · rw [if_pos rfl]
    have h24 := (form_at hr.out).1
    go_enter Tryz.func28, Tryz.ntmps28
    go_wp2_with fail
    refine (impl_form a cap ls w HC.out hcap HE.out).mono ?_
    rintro e w1 ⟨rfl, hB⟩
    rw [hr.out]
    have HB := hid hB
    clear hB
    go_wp2_with fail
    go_loopw [3, 11] (fun u i wr => ∃ (k : Nat) (N : List Nm) (a1 : Option Addr) (c1 : Nat), k ≤ ls.length ∧ i = .int .i64 k ∧ u = .slice a1 N.length c1 ∧ Hid (N = deadN ls (ls.take k)) ∧ Hid (OwnS wr w.heap.size u N) ∧ Hid (Below w.heap.size w wr)) (fun _ i _ => ls.length - (intOf i).toNat)
    case atStart => exact ⟨0, [], _, _, Nat.zero_le _, rfl, rfl, rfl, World.ownsRow_nil _ _ _ _, HB⟩
    case round =>
      obtain ⟨k, N, a1, c1, hk, rfl, rfl, HN, HO, HB⟩ := hrel
      by_cases hlt : k < ls.length
      · obtain ⟨_, b, o, ai, ci, rfl, hb, hF, hPr, hpc, _⟩ := HC.out.at HB.out hlt
        have hnl := deadN_len ls (ls.take k)
        rw [← HN.out] at hnl
        have hnl2 : N.length ≤ 24 := by rw [List.length_take] at hnl; omega
        have hfo := deadN_snoc ls (ls.take k) (ls.getD k it0)
        rw [← take_snocI ls k hlt, ← HN.out] at hfo
        have HFO := hid hfo
        have HSk : Hid (ik (ls.getD k it0) = 5 → (inm (ls.getD k it0)).size ≤ 20) := fun h => dead_size hr.out hlt h
        have HCan : Hid (ik (ls.getD k it0) = 5 → ∀ W, Below wr.heap.size wr W → Calls Tryz.prog 20 #[.slice (some ⟨b, o, none⟩) ls.length cap, .slice ai (iex (ls.getD k it0)).length ci] W fun e w' => e = .returned (.bool (lk ls 6 (iex (ls.getD k it0))).2.2) ∧ Below W.heap.size W w') := fun h W hW => by
          rw [← (can_in hr.out hlt (.inr h)).2]
          exact impl_can_not _ cap ls ai ci _ W ((HC.out.on HB.out).on hW) hcap (hPr.on hW) hpc ((HE.out.on HB.out).on hW)
        obtain ⟨c0, c1', c2, c3, c4, c5, c6, c7⟩ := hF
        have hbr := Nat.lt_of_lt_of_le hb HB.out.size
        clear hPr hnl hfo HC HN hpc
        have HDd : Hid (deadB ls (ls.getD k it0) = ((ik (ls.getD k it0) == 5) && !(lk ls 6 (iex (ls.getD k it0))).2.2)) := rfl
        generalize (lk ls 6 (iex (ls.getD k it0))).2.2 = dn at HCan HDd
        generalize deadB ls (ls.getD k it0) = db at HFO HDd
        generalize ls.getD k it0 = p at c0 c1' c2 c3 c4 c5 c6 c7 HFO HCan HDd HSk
        obtain ⟨kk, s, ty, lo, hi, t, ps, hd⟩ := p
        dsimp only [ik, inm, ity, ilo, ihi, itx, iex, ihd] at c0 c1' c2 c3 c4 c5 c6 c7 HCan HDd HSk
        have hBn : Hid (Below wr.heap.size wr (wr.alloc (.cells #[.int .i64 kk, .string s, .int .i64 ty, .int .i64 lo, .int .i64 hi, .string t, .slice ai ps.length ci, .bool hd] 54))) := (Below.refl _ _).alloc (Nat.le_refl _) _
        have HBk := hid (Blk.laid wr (kk, s, ty, lo, hi, t, ps, hd) ai ci)
        unfold Blk at HBk
        dsimp only [ik, inm, ity, ilo, ihi, itx, iex, ihd] at HBk
        go_upto_region 7 with fail
        obtain ⟨W1, hW1⟩ : ∃ W1, Hid (wr.alloc (.cells #[.int .i64 kk, .string s, .int .i64 ty, .int .i64 lo, .int .i64 hi, .string t, .slice ai ps.length ci, .bool hd] 54) = W1) := ⟨_, rfl⟩
        rw [hW1.out] at hBn HBk ⊢
        have HO1 := hid (HO.out.on hBn.out)
        have HB1 : Hid (Below w.heap.size w W1) := HB.out.trans (hBn.out.mono HB.out.size)
        have HK : Hid (Blk W1 wr.heap.size (kk, s, ty, lo, hi, t, ps, hd) ai ci) := HBk.out
        have hcan : kk = 5 → Calls Tryz.prog 20 #[.slice (some ⟨b, o, none⟩) ls.length cap, .slice ai ps.length ci] W1 fun e w' => e = .returned (.bool dn) ∧ Below W1.heap.size W1 w' := fun h => HCan.out h W1 hBn.out
        have HCn := hid hcan
        clear hBn hW1 HO HB c0 c1' c2 c3 c4 c5 c6 c7 HBk HCan hcan hbr
        generalize wr.heap.size = g1 at *
        obtain ⟨⟨c0, c1', c2, c3, c4, c5, c6, c7⟩, -, hgl⟩ := HK.out.all
        dsimp only [ik, inm, ity, ilo, ihi, itx, iex, ihd] at c0 c1' c2 c3 c4 c5 c6 c7
        by_cases hk5 : kk = 5
        · subst hk5
          have hs20 := HSk.out rfl
          have hcx := HCn.out rfl
          have HCx := hid hcx
          clear hcx HCn
          go_wp2_with fail
          refine HCx.out.mono ?_
          rintro e w2 ⟨rfl, hB2⟩
          have HB2 : Hid (Below w.heap.size w w2) := HB1.out.trans (hB2.mono HB1.out.size)
          have HO2 := hid (HO1.out.on hB2)
          have HK2 := hid (HK.out.on hB2)
          clear c0 c1' c2 c3 c4 c5 c6 c7 hB2 HO1 HB1 HCx HK hgl
          obtain ⟨⟨c0, c1', c2, c3, c4, c5, c6, c7⟩, -, hgl⟩ := HK2.out.all
          dsimp only [ik, inm, ity, ilo, ihi, itx, iex, ihd] at c0 c1' c2 c3 c4 c5 c6 c7
          cases dn
          · have hd1 : db = true := by rw [HDd.out]; rfl
            rw [hd1, if_pos rfl] at HFO
            go_wp2_with fail
            refine (laid_g s w2 w2.heap.size rfl (by omega)).mono ?_
            rintro e w4 ⟨rfl, hB4⟩
            have HB4 : Hid (Below w.heap.size w w4) := HB2.out.trans (hB4.mono HB2.out.size)
            have HO4 := hid (HO2.out.on hB4)
            have hws4 := HB4.out.size
            clear hB4 HO2 HB2 c0 c1' c2 c3 c4 c5 c6 c7 HK2 hgl
            go_wp2_with (first
              | (at_builtin; refine wpList_append_own _ rfl _ _ 38 rfl w.heap.size 9 i0 (.string ByteArray.empty) 1 16 Tryz.underlying38 hi0 hz0 hz1 hz2 rfl (by decide) _ _ _ rfl (HO4.out.alloc _) ⟨w4.heap.size, 0, none⟩ 1 1 [.string s] rfl rfl (cell_one_new _ _ _) (by simp [Value.oneCell']) (by unfold maxLen; omega) (by omega) (by simp; omega) ?_; intro v' w3 hown' hg3 hnil3; go_frame)
              | go_in)
            have HO3 : Hid (OwnS w3 w.heap.size v' (N ++ [s.data.toList])) := by
              show w3.ownsRow _ _ _ _ _ _
              rw [strs_append, show strs [s.data.toList] = [.string s] by unfold strs; rw [List.map_singleton, enc_data], show (N ++ [s.data.toList]).length = N.length + 1 by simp]
              exact hown'
            have HB3 : Hid (Below w.heap.size w w3) := (HB4.out.alloc HB4.out.size _).grown hg3 (by simp; omega) (fun j hj => (HO4.out.lt j hj).1)
            obtain ⟨a3, c3, rfl⟩ := HO3.out.len
            clear hown' hg3 hnil3 HO4
            go_wp2_with fail
            exact ⟨⟨k + 1, N ++ [s.data.toList], a3, c3, by omega, by go_num, rfl, HFO.out.symm, HO3, HB3⟩, by simp [intOf]; omega⟩
          · have hd0 : db = false := by rw [HDd.out]; rfl
            rw [hd0, if_neg (by decide)] at HFO
            go_wp2_with fail
            exact ⟨⟨k + 1, N, a1, c1, by omega, by go_num, rfl, HFO.out.symm, HO2, HB2⟩, by simp [intOf]; omega⟩
        · have hd0 : db = false := by rw [HDd.out, show (kk == 5) = false by simp [hk5]]; rfl
          rw [hd0, if_neg (by decide)] at HFO
          have hk5b : (kk == 5) = false := by simpa using hk5
          go_wp2_with fail
          exact ⟨⟨k + 1, N, a1, c1, by omega, by go_num, rfl, HFO.out.symm, HO1, HB1⟩, by simp [intOf]; omega⟩
      · obtain rfl : k = ls.length := by omega
        have hN := HN.out
        rw [List.take_length] at hN
        go_wp2_with fail
        go_ret
        rw [← hN]
        exact ⟨⟨_, rfl, HO.out⟩, HB.out⟩
end Go.Proofs.YtaofdckdmffaiaaGreatDoor.StbI
