/- Texts of ours, laid together. -/
import Derived.Test.YtmbhmknfipdadaaGreatDoorBd15
namespace Go.Proofs.YtmbhmknfipdadaaGreatDoor.FrmS
open Go.RowKit
open PrtW PrtM NameW ItmW ValM ItmM FrmM
set_option maxRecDepth 10000 in
set_option maxHeartbeats 6400000 in
theorem spec_form (a : Option Addr) (cap : Nat) (ls : List It) (w : World) (hc : Its w a ls) :
  Calls Tryz.prog 52 #[.slice a ls.length cap] w fun e w' => e = .returned (.bool (formB ls)) ∧ Below w.heap.size w w' := by
 have HC := hid hc
 have hl := hc.1
 clear hc
 obtain ⟨z, hz⟩ : ∃ z, Hid (formB ls = z) := ⟨_, rfl⟩
 rw [hz.out]
 by_cases h24 : ls.length ≤ 24
 case neg =>
  have HZ : Hid (z = false) := by rw [← hz.out]; exact form_long h24
  go_enter Tryz.func52, Tryz.ntmps52
  go_wp2
  go_ret
  exact ⟨by rw [HZ.out]; rfl, by go_grown⟩
 go_enter Tryz.func52, Tryz.ntmps52
 go_wp2_with fail
 go_loopw [3, 4] (fun i _ wr => ∃ k : Nat, k ≤ ls.length ∧ i = .int .i64 k ∧ Hid (∀ j, j < k → behindB ls j = true) ∧ Hid (Below w.heap.size w wr)) (fun i _ _ => ls.length - (intOf i).toNat)
 case atStart => exact ⟨0, Nat.zero_le _, rfl, fun j hj => absurd hj (Nat.not_lt_zero _), Below.refl _ _⟩
 case round =>
  obtain ⟨k, hk, rfl, HA, HB⟩ := hrel
  by_cases hlt : k < ls.length
  ·have HNo : Hid (behindB ls k = false → z = false) := fun h => by rw [← hz.out]; exact form_no hlt h
   have HNext : Hid (behindB ls k = true → ∀ j, j < k + 1 → behindB ls j = true) := fun h j hj => by
    rcases Nat.lt_succ_iff_lt_or_eq.1 hj with hj' | rfl
    ·exact HA.out j hj'
    ·exact h
   have H1 : Hid (itemB (ls.getD k it0) = false → behindB ls k = false) := fun h => behind_item h
   have H2 : Hid (usesB ls k (iex (ls.getD k it0)) = false → behindB ls k = false) := fun h => behind_uses h
   have H3 : Hid (newB ls k = false → behindB ls k = false) := fun h => behind_new h
   have H4 : Hid (itemB (ls.getD k it0) = true → usesB ls k (iex (ls.getD k it0)) = true → newB ls k = true → behindB ls k = true) := fun h1 h2 h3 => behind_yes h1 h2 h3
   have H5 : Hid ((inm (ls.getD k it0)).toList.isEmpty = true → newB ls k = true) := fun h => new_empty h
   have H6 : Hid ((∀ m, m < k → sameN (inm (ls.getD m it0)) (inm (ls.getD k it0)) = false) → newB ls k = true) := fun h => new_yes h
   have H7 : Hid (∀ m, (inm (ls.getD k it0)).toList.isEmpty = false → m < k → sameN (inm (ls.getD m it0)) (inm (ls.getD k it0)) = true → newB ls k = false) := fun m h1 h2 h3 => new_no h1 h2 h3
   obtain ⟨hfit, b, o, ai, ci, rfl, hb, hF, hcd, _, _⟩ := HC.out.at (Below.refl _ _) hlt
   generalize behindB ls k = bh at HNo HNext H1 H2 H3 H4
   generalize newB ls k = nb at H3 H4 H5 H6 H7
   generalize ls.getD k it0 = p at hF hcd hfit H1 H2 H4 H5 H6 H7
   obtain ⟨kk, s, ty, lo, hi, t, ps, hd⟩ := p
   dsimp only [inm, iex] at hcd H2 H4 H5 H6 H7
   have HS : Hid (s.size ≤ maxLen) := Nat.le_trans hfit.1 (by decide)
   have HT : Hid (t.size ≤ maxLen) := Nat.le_trans hfit.2 (by decide)
   have HF := hid hF
   have HCd := hid hcd
   obtain ⟨v1, hv1⟩ : ∃ v, Hid (itemB (kk, s, ty, lo, hi, t, ps, hd) = v) := ⟨_, rfl⟩
   obtain ⟨v2, hv2⟩ : ∃ v, Hid (usesB ls k ps = v) := ⟨_, rfl⟩
   rw [hv1.out] at H1 H4
   rw [hv2.out] at H2 H4
   obtain ⟨c0, c1, c2, c3, c4, c5, c6, c7⟩ := hF.on hb HB.out
   dsimp only [ik, inm, ity, ilo, ihi, itx, iex, ihd] at c0 c1 c2 c3 c4 c5 c6 c7
   clear hF hcd hfit HA
   go_wp2_with fail
   refine (ItmS.spec_item kk s ty lo hi t ai ci ps hd _ (HCd.out.on HB.out) HS.out HT.out).mono ?_
   rintro e w1 ⟨rfl, hB1⟩
   rw [hv1.out]
   have HB1 : Hid (Below w.heap.size w w1) := HB.out.trans (hB1.mono HB.out.size)
   clear hB1 c0 c1 c2 c3 c4 c5 c6 c7 HB
   obtain ⟨c0, c1, c2, c3, c4, c5, c6, c7⟩ := HF.out.on hb HB1.out
   dsimp only [ik, inm, ity, ilo, ihi, itx, iex, ihd] at c0 c1 c2 c3 c4 c5 c6 c7
   cases v1
   ·have HZ := hid (HNo.out (H1.out rfl))
    go_wp2_with fail
    go_ret
    exact ⟨by rw [HZ.out]; rfl, HB1.out⟩
   have H4a : Hid (v2 = true → nb = true → bh = true) := H4.out rfl
   clear H4
   go_wp2_with fail
   refine (spec_uses _ ai cap ci ls k ps _ (HC.out.on HB1.out) (HCd.out.on HB1.out) hk).mono ?_
   rintro e w9 ⟨h9, h8⟩
   subst h9
   subst h8
   rw [hv2.out]
   cases v2
   ·have HZ := hid (HNo.out (H2.out rfl))
    go_wp2_with fail
    go_ret
    exact ⟨by rw [HZ.out]; rfl, HB1.out⟩
   have H4b : Hid (nb = true → bh = true) := H4a.out rfl
   clear c0 c1 c2 c3 c4 c5 c6 c7 H1 H2 H4a
   go_wp2_with fail
   go_loopw [4] (fun v wq => ∃ m : Nat, m ≤ k ∧ v = .int .i64 m ∧ Hid (s.toList.isEmpty = false → ∀ j, j < m → sameN (inm (ls.getD j it0)) s = false) ∧ Hid (Below w.heap.size w wq)) (fun v _ => k - (intOf v).toNat)
   case atStart => exact ⟨0, Nat.zero_le _, rfl, fun _ j hj => absurd hj (Nat.not_lt_zero _), HB1.out⟩
   case round =>
    obtain ⟨m, hm, rfl, HM, HBq⟩ := hrel
    obtain ⟨-, x1, -⟩ := HF.out.on hb HBq.out
    dsimp only [inm] at x1
    by_cases hmk : m < k
    ·cases hse : s.toList.isEmpty
     ·obtain ⟨_, b', o', ai', ci', e1, hb', hF', _⟩ := HC.out.at (Below.refl _ _) (show m < ls.length by omega)
      cases e1
      obtain ⟨-, d1, -⟩ := hF'.on hb' HBq.out
      have HS1 : Hid (sameN (inm (ls.getD m it0)) s = true → nb = false) := fun h => H7.out m hse hmk h
      have HS0 : Hid (sameN (inm (ls.getD m it0)) s = false → ∀ j, j < m + 1 → sameN (inm (ls.getD j it0)) s = false) := fun h j hj => by
       rcases Nat.lt_succ_iff_lt_or_eq.1 hj with hj' | rfl
       ·exact HM.out hse j hj'
       ·exact h
      have HSd : Hid (sameN (inm (ls.getD m it0)) s = ((inm (ls.getD m it0)).toList == s.toList)) := rfl
      generalize sameN (inm (ls.getD m it0)) s = sm at HS1 HS0 HSd
      generalize inm (ls.getD m it0) = s1 at d1 HSd
      have hsd : (s1.toList == s.toList) = sm := HSd.out.symm
      clear hF' HM HSd
      cases sm
      ·have HX := hid (HS0.out rfl)
       go_wp2_with fail
       go_region
       go_wp2_with fail
       exact ⟨⟨m + 1, by omega, by go_num, fun _ => HX.out, HBq.out.drew⟩, by simp [intOf]; omega⟩
      ·have HZ := hid (HNo.out (H3.out (HS1.out rfl)))
       go_wp2_with fail
       go_region
       go_wp2_with fail
       go_ret
       exact ⟨by rw [HZ.out]; rfl, HBq.out.drew⟩
     ·have HX := hid (HNext.out (H4b.out (H5.out hse)))
      go_wp2_with fail
      exact ⟨⟨k + 1, by omega, by go_num, HX.out, HBq.out⟩, by simp [intOf]; omega⟩
    ·obtain rfl : m = k := by omega
     have HN : Hid (nb = true) := by
      cases hse : s.toList.isEmpty
      ·exact H6.out (HM.out hse)
      ·exact H5.out hse
     have HX := hid (HNext.out (H4b.out HN.out))
     go_wp2_with fail
     exact ⟨⟨m + 1, by omega, by go_num, HX.out, HBq.out⟩, by simp [intOf]; omega⟩
  ·obtain rfl : k = ls.length := by omega
   have HZ : Hid (z = blocksB ls) := by rw [← hz.out]; exact form_yes h24 HA.out
   go_wp2_with fail
   refine (spec_blocks a cap ls _ (HC.out.on HB.out)).mono ?_
   rintro e w1 ⟨rfl, hB1⟩
   rw [← HZ.out]
   have HB1 : Hid (Below w.heap.size w w1) := HB.out.trans (hB1.mono HB.out.size)
   clear hB1 HB
   go_wp2_with fail
   go_ret
   exact ⟨rfl, HB1.out⟩
end Go.Proofs.YtmbhmknfipdadaaGreatDoor.FrmS
