/- Texts of ours, laid together: FlsSp. -/
import Derived.Test.YtllknohingfacaaDoorBd13
import Derived.Test.YtllknohingfacaaDoorBd21
import Derived.Maps.AppendAt
/- FieldsOf of the model. -/
namespace Go.Proofs.YtllknohingfacaaDoor.FlsS
open Go.RowKit
open PrtW PrtM NameW ItmW ItmM FrmM FlsM
open StrW hiding hid
open FrmS (spec_form)

theorem own_below {w w' : World} {base : Nat} {v : Value} {n : Nat} {xs : List Value} (h : w.ownsRow base 9 1 v n xs) (hB : Below w.heap.size w w') : w'.ownsRow base 9 1 v n xs := by
  obtain ⟨h1, h2⟩ := h
  refine ⟨h1, ?_⟩
  rcases h2 with h2 | ⟨g, cap, cur, hv, hb, hg, r⟩
  · exact .inl h2
  · exact .inr ⟨g, cap, cur, hv, hb, by rw [hB.block g (Array.getElem?_eq_some_iff.1 hg).1]; exact hg, r⟩
theorem own_made (w : World) : (w.alloc (.cells #[] 9)).ownsRow w.heap.size 9 1 (.slice (some ⟨w.heap.size, 0, none⟩) 0 0) 0 [] :=
  World.ownsRow_made (base := w.heap.size) (e := 9) (size := 1) w #[] 0 (Nat.le_refl _) (by unfold maxLen; omega) rfl
/-- a row of texts of one's own -/
def OwnS (w : World) (base : Nat) (v : Value) (ss : List Nm) : Prop := w.ownsRow base 9 1 v ss.length (strs ss)
theorem OwnS.on {w w' : World} {base : Nat} {v : Value} {ss : List Nm} (h : OwnS w base v ss) (hB : Below w.heap.size w w') : OwnS w' base v ss := own_below h hB
theorem OwnS.len {w : World} {base : Nat} {v : Value} {ss : List Nm} (h : OwnS w base v ss) : ∃ a c, v = .slice a ss.length c := by
  obtain ⟨_, h2⟩ := h
  rcases h2 with ⟨rfl, h0⟩ | ⟨g, cap, cur, rfl, _⟩
  · rw [h0]; exact ⟨_, _, rfl⟩
  · exact ⟨_, _, rfl⟩

set_option maxRecDepth 10000 in
set_option maxHeartbeats 3200000 in
theorem spec_fields_of (a : Option Addr) (cap : Nat) (ls : List It) (w : World) (hc : Its w a ls) :
    Calls Tryd.prog 14 #[.slice a ls.length cap] w fun e w' => (∃ a' cap', e = .returned (.slice a' (fieldsI ls).length cap') ∧ Strs w' a' (fieldsI ls)) ∧ Below w.heap.size w w' := by
  have HC := hid hc
  have hl := hc.1
  clear hc
  obtain ⟨i0, hi0, hz0, hz1, hz2⟩ := info_parts Tryd.infoS
  unfold fieldsI
  obtain ⟨r, hr⟩ : ∃ r, Hid (formB ls = r) := ⟨_, rfl⟩
  rw [hr.out]
  have HM := hid (own_made w)
  have HB0 : Hid (Below w.heap.size w (w.alloc (.cells #[] 9))) := (Below.refl _ _).alloc (Nat.le_refl _) _
  cases r
  · rw [if_neg (by decide)]
    by_cases h4 : 400 < ls.length
    · go_enter Tryd.func14, Tryd.ntmps14
      go_wp2_with fail
      go_ret
      refine ⟨?_, HB0.out⟩
      first
        | exact ⟨_, _, rfl, Strs.nil _ _⟩
        | exact ⟨_, ⟨_, rfl⟩, Strs.nil _ _⟩
    · go_enter Tryd.func14, Tryd.ntmps14
      go_wp2_with fail
      refine (spec_form a cap ls _ (HC.out.on HB0.out)).mono ?_
      rintro e w1 ⟨rfl, hB⟩
      rw [hr.out]
      have HB : Hid (Below w.heap.size w w1) := HB0.out.trans (hB.mono HB0.out.size)
      clear hB
      go_wp2_with fail
      go_ret
      refine ⟨?_, HB.out⟩
      first
        | exact ⟨_, _, rfl, Strs.nil _ _⟩
        | exact ⟨_, ⟨_, rfl⟩, Strs.nil _ _⟩
  · rw [if_pos rfl]
    have h24 := (form_at hr.out).1
    go_enter Tryd.func14, Tryd.ntmps14
    go_wp2_with fail
    refine (spec_form a cap ls _ (HC.out.on HB0.out)).mono ?_
    rintro e w1 ⟨rfl, hB⟩
    rw [hr.out]
    have HB : Hid (Below w.heap.size w w1) := HB0.out.trans (hB.mono HB0.out.size)
    have HO : Hid (OwnS w1 w.heap.size (.slice (some ⟨w.heap.size, 0, none⟩) 0 0) []) := own_below HM.out hB
    clear hB HM HB0
    go_wp2_with fail
    go_loopw [3, 4] (fun u i wr => ∃ (k : Nat) (N : List Nm) (a1 : Option Addr) (c1 : Nat), k ≤ ls.length ∧ i = .int .i64 k ∧ u = .slice a1 N.length c1 ∧ Hid (N = namesI (ls.take k)) ∧ Hid (OwnS wr w.heap.size u N) ∧ Hid (Below w.heap.size w wr)) (fun _ i _ => ls.length - (intOf i).toNat)
    case atStart => exact ⟨0, [], _, _, Nat.zero_le _, rfl, rfl, rfl, HO, HB⟩
    case round =>
      obtain ⟨k, N, a1, c1, hk, rfl, rfl, HN, HO, HB⟩ := hrel
      by_cases hlt : k < ls.length
      · obtain ⟨_, b, o, ai, ci, rfl, hb, hF, _⟩ := HC.out.at (Below.refl _ _) hlt
        have hnl := namesI_len (ls.take k)
        rw [← HN.out] at hnl
        have hnl2 : N.length ≤ 24 := by rw [List.length_take] at hnl; omega
        have hfo := namesI_snoc (ls.take k) (ls.getD k it0)
        rw [← take_snocI ls k hlt, ← HN.out] at hfo
        have HFO := hid hfo
        obtain ⟨c0, c1', -⟩ := hF.on hb HB.out
        clear hF hnl hfo HC HN
        generalize ls.getD k it0 = p at c0 c1' HFO
        obtain ⟨kk, s, p2⟩ := p
        dsimp only [ik, inm] at c0 c1'
        have HF1 : Hid (fdB (kk, s, p2) = ((kk == 1) || (kk == 6))) := rfl
        cases hk1 : (kk == 1)
        · cases hk6 : (kk == 6)
          · have hf0 : fdB (kk, s, p2) = false := by rw [HF1.out, hk1, hk6]; rfl
            rw [hf0, if_neg (by decide)] at HFO
            go_wp2_with fail
            exact ⟨⟨k + 1, N, a1, c1, by omega, by go_num, rfl, HFO.out.symm, HO, HB⟩, by simp [intOf]; omega⟩
          · have hf0 : fdB (kk, s, p2) = true := by rw [HF1.out, hk1, hk6]; rfl
            rw [hf0, if_pos rfl] at HFO
            have hws := HB.out.size
            go_wp2_with (first
              | (at_builtin; refine wpList_append_own _ rfl _ _ 35 rfl w.heap.size 9 i0 (.string ByteArray.empty) 1 16 Tryd.underlying35 hi0 hz0 hz1 hz2 rfl (by decide) _ _ _ rfl (HO.out.alloc _) ⟨wr.heap.size, 0, none⟩ 1 1 [.string s] rfl rfl (cell_one_new _ _ _) (by simp [Value.oneCell']) (by unfold maxLen; omega) (by omega) (by simp; omega) ?_; intro v' w3 hown' hg3 hnil3; go_frame)
              | go_in)
            have HO3 : Hid (OwnS w3 w.heap.size v' (N ++ [s.data.toList])) := by
              show w3.ownsRow _ _ _ _ _ _
              rw [strs_append, show strs [s.data.toList] = [.string s] by unfold strs; rw [List.map_singleton, enc_data], show (N ++ [s.data.toList]).length = N.length + 1 by simp]
              exact hown'
            have HB3 : Hid (Below w.heap.size w w3) := (HB.out.alloc HB.out.size _).grown hg3 (by simp; omega) (fun j hj => (HO.out.lt j hj).1)
            obtain ⟨a3, c3, rfl⟩ := HO3.out.len
            clear hown' hg3 hnil3 HO
            go_wp2_with fail
            exact ⟨⟨k + 1, N ++ [s.data.toList], a3, c3, by omega, by go_num, rfl, HFO.out.symm, HO3, HB3⟩, by simp [intOf]; omega⟩
        · have hf0 : fdB (kk, s, p2) = true := by rw [HF1.out, hk1]; rfl
          rw [hf0, if_pos rfl] at HFO
          have hws := HB.out.size
          go_wp2_with (first
            | (at_builtin; refine wpList_append_own _ rfl _ _ 35 rfl w.heap.size 9 i0 (.string ByteArray.empty) 1 16 Tryd.underlying35 hi0 hz0 hz1 hz2 rfl (by decide) _ _ _ rfl (HO.out.alloc _) ⟨wr.heap.size, 0, none⟩ 1 1 [.string s] rfl rfl (cell_one_new _ _ _) (by simp [Value.oneCell']) (by unfold maxLen; omega) (by omega) (by simp; omega) ?_; intro v' w3 hown' hg3 hnil3; go_frame)
            | go_in)
          have HO3 : Hid (OwnS w3 w.heap.size v' (N ++ [s.data.toList])) := by
            show w3.ownsRow _ _ _ _ _ _
            rw [strs_append, show strs [s.data.toList] = [.string s] by unfold strs; rw [List.map_singleton, enc_data], show (N ++ [s.data.toList]).length = N.length + 1 by simp]
            exact hown'
          have HB3 : Hid (Below w.heap.size w w3) := (HB.out.alloc HB.out.size _).grown hg3 (by simp; omega) (fun j hj => (HO.out.lt j hj).1)
          obtain ⟨a3, c3, rfl⟩ := HO3.out.len
          clear hown' hg3 hnil3 HO
          go_wp2_with fail
          exact ⟨⟨k + 1, N ++ [s.data.toList], a3, c3, by omega, by go_num, rfl, HFO.out.symm, HO3, HB3⟩, by simp [intOf]; omega⟩
      · obtain rfl : k = ls.length := by omega
        have hN := HN.out
        rw [List.take_length] at hN
        obtain ⟨a2, c2, hv2, hS, -, -⟩ := strs_own HO.out (by rw [hN]; exact Nat.le_trans (namesI_len ls) (by omega))
        cases hv2
        have HS := hid hS
        clear hS HO
        go_wp2_with fail
        go_ret
        rw [← hN]
        exact ⟨⟨_, _, rfl, HS.out⟩, HB.out⟩
end Go.Proofs.YtllknohingfacaaDoor.FlsS
