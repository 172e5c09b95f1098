/- Texts of ours, laid together: FlsIm. -/
import Derived.Test.YtllknohingfacaaDoorBd40
import Derived.Test.YtllknohingfacaaDoorBd31
import Derived.Test.YtllknohingfacaaDoorBd7
import Derived.Maps.AppendAt
import Derived.Deep.Cut
import Derived.Deep.CutRange
/- FieldsOf of the program. -/
namespace Go.Proofs.YtllknohingfacaaDoor.FlsI
open Go.RowKit
open PrtW PrtM NameW ItmW ItmM FrmM FlsM
open StrW hiding hid
open FlsS (OwnS own_below)
open FrmI (EnvF impl_form)

theorem laid_g (s0 : ByteArray) (w : World) (g : Nat) (hg : w.heap.size = g) (htot : s0.size ≤ 100000) :
    Calls Tryd.prog 31 #[.slice (some ⟨g, 0, none⟩) 1 1] (w.alloc (.cells #[.string s0] 9)) fun e w' =>
      e = .returned (.string s0) ∧ Below w.heap.size w w' := by
  rw [← hg]
  exact LaidW.laid_one s0 w htot
set_option maxRecDepth 10000 in
set_option maxHeartbeats 3200000 in
theorem impl_fields_of (a : Option Addr) (cap : Nat) (ls : List It) (w : World) (hc : Its w a ls) (hcap : ls.length ≤ cap) (hE : EnvF w) :
    Calls Tryd.prog 15 #[.slice a ls.length cap] w fun e w' => (∃ v, e = .returned v ∧ w'.ownsRow w.heap.size 9 1 v (fieldsI ls).length (strs (fieldsI ls))) ∧ Below w.heap.size w w' := by
  have HC := hid hc
  have HE := hid hE
  have hl := hc.1
  clear hc hE
  obtain ⟨i0, hi0, hz0, hz1, hz2⟩ := info_parts Tryd.infoS
  unfold fieldsI
  obtain ⟨r, hr⟩ : ∃ r, Hid (formB ls = r) := ⟨_, rfl⟩
  rw [hr.out]
  cases r
  · rw [if_neg (by decide)]
    go_enter Tryd.func15, Tryd.ntmps15
    go_wp2_with fail
    refine (impl_form a cap ls w HC.out hcap HE.out).mono ?_
    rintro e w1 ⟨rfl, hB⟩
    rw [hr.out]
    have HB := hid hB
    clear hB
    go_wp2_with fail
    go_ret
    exact ⟨⟨_, rfl, ⟨rfl, .inl ⟨rfl, rfl⟩⟩⟩, HB.out⟩
  · rw [if_pos rfl]
    have h24 := (form_at hr.out).1
    have HSz : Hid (∀ k, k < ls.length → fdB (ls.getD k it0) = true → (inm (ls.getD k it0)).size ≤ 20) := fun k hk => field_size hr.out hk
    go_enter Tryd.func15, Tryd.ntmps15
    go_wp2_with fail
    refine (impl_form a cap ls w HC.out hcap HE.out).mono ?_
    rintro e w1 ⟨rfl, hB⟩
    rw [hr.out]
    have HB := hid hB
    clear hB HE
    go_wp2_with fail
    go_loopw [3, 11] (fun u i wr => ∃ (k : Nat) (N : List Nm) (a1 : Option Addr) (c1 : Nat), k ≤ ls.length ∧ i = .int .i64 k ∧ u = .slice a1 N.length c1 ∧ Hid (N = namesI (ls.take k)) ∧ Hid (OwnS wr w.heap.size u N) ∧ Hid (Below w.heap.size w wr)) (fun _ i _ => ls.length - (intOf i).toNat)
    case atStart => exact ⟨0, [], _, _, Nat.zero_le _, rfl, rfl, rfl, World.ownsRow_nil _ _ _ _, HB⟩
    case round =>
      obtain ⟨k, N, a1, c1, hk, rfl, rfl, HN, HO, HB⟩ := hrel
      by_cases hlt : k < ls.length
      · obtain ⟨_, b, o, ai, ci, rfl, hb, hF, _⟩ := HC.out.at (Below.refl _ _) hlt
        have hnl := namesI_len (ls.take k)
        rw [← HN.out] at hnl
        have hnl2 : N.length ≤ 24 := by rw [List.length_take] at hnl; omega
        have hfo := namesI_snoc (ls.take k) (ls.getD k it0)
        rw [← take_snocI ls k hlt, ← HN.out] at hfo
        have HFO := hid hfo
        have HSk : Hid (fdB (ls.getD k it0) = true → (inm (ls.getD k it0)).size ≤ 20) := HSz.out k hlt
        obtain ⟨c0, c1', c2, c3, c4, c5, c6, c7⟩ := hF.on hb HB.out
        clear hF hnl hfo HC HN
        generalize ls.getD k it0 = p at c0 c1' c2 c3 c4 c5 c6 c7 HFO HSk
        obtain ⟨kk, s, ty, lo, hi, t, ps, hd⟩ := p
        dsimp only [ik, inm, ity, ilo, ihi, itx, iex, ihd] at c0 c1' c2 c3 c4 c5 c6 c7 HSk
        have HF1 : Hid (fdB (kk, s, ty, lo, hi, t, ps, hd) = ((kk == 1) || (kk == 6))) := rfl
        have hBn : Hid (Below wr.heap.size wr (wr.alloc (.cells #[.int .i64 kk, .string s, .int .i64 ty, .int .i64 lo, .int .i64 hi, .string t, .slice ai ps.length ci, .bool hd] 26))) := (Below.refl _ _).alloc (Nat.le_refl _) _
        have hq : (wr.alloc (.cells #[.int .i64 kk, .string s, .int .i64 ty, .int .i64 lo, .int .i64 hi, .string t, .slice ai ps.length ci, .bool hd] 26)).cell? ⟨wr.heap.size, 0, none⟩ = some (.int .i64 kk) := by simp
        have hq1 : (wr.alloc (.cells #[.int .i64 kk, .string s, .int .i64 ty, .int .i64 lo, .int .i64 hi, .string t, .slice ai ps.length ci, .bool hd] 26)).cell? ⟨wr.heap.size, 1, none⟩ = some (.string s) := by simp
        go_upto_region 7 with fail
        obtain ⟨W1, hW1⟩ : ∃ W1, Hid (wr.alloc (.cells #[.int .i64 kk, .string s, .int .i64 ty, .int .i64 lo, .int .i64 hi, .string t, .slice ai ps.length ci, .bool hd] 26) = W1) := ⟨_, rfl⟩
        rw [hW1.out] at hBn hq hq1 ⊢
        have HO1 := hid (HO.out.on hBn.out)
        have HB1 : Hid (Below w.heap.size w W1) := HB.out.trans (hBn.out.mono HB.out.size)
        have hwg : wr.heap.size < W1.heap.size := World.block_lt_of_cell? W1 _ hq
        have hws : w.heap.size ≤ W1.heap.size := HB1.out.size
        clear hBn hW1 HO HB c0 c1' c2 c3 c4 c5 c6 c7
        generalize wr.heap.size = g1 at *
        cases hk1 : (kk == 1)
        · cases hk6 : (kk == 6)
          · have hf0 : fdB (kk, s, ty, lo, hi, t, ps, hd) = false := by rw [HF1.out, hk1, hk6]; rfl
            rw [hf0, if_neg (by decide)] at HFO
            go_wp2_with fail
            exact ⟨⟨k + 1, N, a1, c1, by omega, by go_num, rfl, HFO.out.symm, HO1, HB1⟩, by simp [intOf]; omega⟩
          · have hf0 : fdB (kk, s, ty, lo, hi, t, ps, hd) = true := by rw [HF1.out, hk1, hk6]; rfl
            rw [hf0, if_pos rfl] at HFO
            have hs20 := HSk.out hf0
            clear HSk HF1
            go_wp2_with fail
            refine (laid_g s W1 W1.heap.size rfl (by omega)).mono ?_
            rintro e w2 ⟨rfl, hB2⟩
            have HB2 : Hid (Below w.heap.size w w2) := HB1.out.trans (hB2.mono HB1.out.size)
            have HO2 := hid (HO1.out.on hB2)
            have hws2 := HB2.out.size
            clear hB2 HO1 HB1 hq hq1 hwg hws
            go_wp2_with (first
              | (at_builtin; refine wpList_append_own _ rfl _ _ 35 rfl w.heap.size 9 i0 (.string ByteArray.empty) 1 16 Tryd.underlying35 hi0 hz0 hz1 hz2 rfl (by decide) _ _ _ rfl (HO2.out.alloc _) ⟨w2.heap.size, 0, none⟩ 1 1 [.string s] rfl rfl (cell_one_new _ _ _) (by simp [Value.oneCell']) (by unfold maxLen; omega) (by omega) (by simp; omega) ?_; intro v' w3 hown' hg3 hnil3; go_frame)
              | go_in)
            have HO3 : Hid (OwnS w3 w.heap.size v' (N ++ [s.data.toList])) := by
              show w3.ownsRow _ _ _ _ _ _
              rw [strs_append, show strs [s.data.toList] = [.string s] by unfold strs; rw [List.map_singleton, enc_data], show (N ++ [s.data.toList]).length = N.length + 1 by simp]
              exact hown'
            have HB3 : Hid (Below w.heap.size w w3) := (HB2.out.alloc HB2.out.size _).grown hg3 (by simp; omega) (fun j hj => (HO2.out.lt j hj).1)
            obtain ⟨a3, c3, rfl⟩ := HO3.out.len
            clear hown' hg3 hnil3 HO2
            go_wp2_with fail
            exact ⟨⟨k + 1, N ++ [s.data.toList], a3, c3, by omega, by go_num, rfl, HFO.out.symm, HO3, HB3⟩, by simp [intOf]; omega⟩
        · have hf0 : fdB (kk, s, ty, lo, hi, t, ps, hd) = true := by rw [HF1.out, hk1]; rfl
          rw [hf0, if_pos rfl] at HFO
          have hs20 := HSk.out hf0
          clear HSk HF1
          go_wp2_with fail
          refine (laid_g s W1 W1.heap.size rfl (by omega)).mono ?_
          rintro e w2 ⟨rfl, hB2⟩
          have HB2 : Hid (Below w.heap.size w w2) := HB1.out.trans (hB2.mono HB1.out.size)
          have HO2 := hid (HO1.out.on hB2)
          have hws2 := HB2.out.size
          clear hB2 HO1 HB1 hq hq1 hwg hws
          go_wp2_with (first
            | (at_builtin; refine wpList_append_own _ rfl _ _ 35 rfl w.heap.size 9 i0 (.string ByteArray.empty) 1 16 Tryd.underlying35 hi0 hz0 hz1 hz2 rfl (by decide) _ _ _ rfl (HO2.out.alloc _) ⟨w2.heap.size, 0, none⟩ 1 1 [.string s] rfl rfl (cell_one_new _ _ _) (by simp [Value.oneCell']) (by unfold maxLen; omega) (by omega) (by simp; omega) ?_; intro v' w3 hown' hg3 hnil3; go_frame)
            | go_in)
          have HO3 : Hid (OwnS w3 w.heap.size v' (N ++ [s.data.toList])) := by
            show w3.ownsRow _ _ _ _ _ _
            rw [strs_append, show strs [s.data.toList] = [.string s] by unfold strs; rw [List.map_singleton, enc_data], show (N ++ [s.data.toList]).length = N.length + 1 by simp]
            exact hown'
          have HB3 : Hid (Below w.heap.size w w3) := (HB2.out.alloc HB2.out.size _).grown hg3 (by simp; omega) (fun j hj => (HO2.out.lt j hj).1)
          obtain ⟨a3, c3, rfl⟩ := HO3.out.len
          clear hown' hg3 hnil3 HO2
          go_wp2_with fail
          exact ⟨⟨k + 1, N ++ [s.data.toList], a3, c3, by omega, by go_num, rfl, HFO.out.symm, HO3, HB3⟩, by simp [intOf]; omega⟩
      · obtain rfl : k = ls.length := by omega
        have hN := HN.out
        rw [List.take_length] at hN
        go_wp2_with fail
        go_ret
        rw [← hN]
        exact ⟨⟨_, rfl, HO.out⟩, HB.out⟩
end Go.Proofs.YtllknohingfacaaDoor.FlsI
