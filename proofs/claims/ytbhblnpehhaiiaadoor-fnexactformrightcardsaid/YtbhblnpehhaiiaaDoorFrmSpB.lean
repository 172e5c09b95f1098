/- The names that an expression uses, by the model. -/
import Derived.Test.YtbhblnpehhaiiaaDoorFrmSpA
namespace Go.Proofs.YtbhblnpehhaiiaaDoor.FrmS
open Go.RowKit
open PrtW PrtM NameW ItmW ValM ItmM FrmM

set_option maxRecDepth 10000 in
set_option maxHeartbeats 6400000 in
theorem spec_uses (a a2 : Option Addr) (cap cap2 : Nat) (ls : List It) (n : Nat) (ps : List Pt) (w : World) (hc : Its w a ls) (hp : Parts w a2 ps) (hn : n ≤ ls.length) :
    Calls Tryd.prog 31 #[.slice a ls.length cap, .int .i64 n, .slice a2 ps.length cap2] w fun e w' => e = .returned (.bool (usesB ls n ps)) ∧ w' = w := by
  have HC := hid hc
  have hl := hc.1
  have HP := hid hp
  have hpl := hp.1
  clear hc hp
  obtain ⟨z, hz⟩ : ∃ z, Hid (usesB ls n ps = z) := ⟨_, rfl⟩
  rw [hz.out]
  go_enter Tryd.func31, Tryd.ntmps31
  go_wp2
  go_loop [7, 8, 9, 10] (fun i _ _ _ => ∃ k : Nat, k ≤ ps.length ∧ i = .int .i64 k ∧ Hid (∀ j, j < k → useB ls n (ps.getD j pt0) = true)) (fun i _ _ _ => ps.length - (intOf i).toNat)
  case atStart => exact ⟨0, Nat.zero_le _, rfl, fun j hj => absurd hj (Nat.not_lt_zero _)⟩
  case round =>
    obtain ⟨k, hk, rfl, hall⟩ := hrel
    by_cases hlt : k < ps.length
    · obtain ⟨b2, o2, rfl, hb2, hcs⟩ := HP.out.2.2 (by omega)
      obtain ⟨d0, -, d2⟩ := hcs k hlt
      have HNo : Hid (useB ls n (ps.getD k pt0) = false → z = false) := fun h => by rw [← hz.out]; exact uses_no hlt h
      have HNext : Hid (useB ls n (ps.getD k pt0) = true → ∀ j, j < k + 1 → useB ls n (ps.getD j pt0) = true) := fun h j hj => by
        rcases Nat.lt_succ_iff_lt_or_eq.1 hj with hj' | rfl
        · exact hall.out j hj'
        · exact h
      have HE : Hid ((ps.getD k pt0).2.2.toList.isEmpty = true → useB ls n (ps.getD k pt0) = true) := fun h => use_empty h
      have HN1 : Hid ((ps.getD k pt0).2.2.toList.isEmpty = false → fieldN ls n (ps.getD k pt0).2.2 = none → useB ls n (ps.getD k pt0) = false) := fun h => use_none h
      have HS1 : Hid (∀ i, (ps.getD k pt0).2.2.toList.isEmpty = false → fieldN ls n (ps.getD k pt0).2.2 = some i → useB ls n (ps.getD k pt0) = servesB (ps.getD k pt0).1 (ls.getD i it0)) := fun i h => use_some h
      generalize useB ls n (ps.getD k pt0) = u at HNo HNext HE HN1 HS1
      generalize ps.getD k pt0 = p at d0 d2 HE HN1 HS1
      obtain ⟨x, m, t⟩ := p
      dsimp only at d0 d2 HE HN1 HS1
      clear hall hcs
      cases ht : t.toList.isEmpty
      · cases hf : fieldN ls n t with
        | none =>
          have hu : u = false := HN1.out ht hf
          subst hu
          have HZ := hid (HNo.out rfl)
          have HFI : Hid (fieldI ls n t = -1) := fieldI_no hf
          clear hf
          go_wp2_with (first | (go_at_call 34; refine (spec_field a cap ls n t _ HC.out hn).mono ?_; rintro e w9 ⟨h9, h8⟩; subst h9; subst h8; rw [HFI.out]))
          go_ret
          exact ⟨by rw [HZ.out]; rfl, rfl⟩
        | some i =>
          have HU := hid (HS1.out i ht hf)
          have hin := (field_at.1 hf).2.1
          have HFI : Hid (fieldI ls n t = i) := fieldI_at hf
          clear hf
          have hil : i < ls.length := by omega
          obtain ⟨_, b, o, ai, ci, rfl, hb, hF, _⟩ := HC.out.at (Below.refl _ _) hil
          obtain ⟨-, -, c2, -⟩ := hF
          generalize ls.getD i it0 = q at c2 HU
          obtain ⟨q0, q1, ty, q3⟩ := q
          have HU2 : Hid (u = !((x == 2 && (ty == 3 || ty == 4)) || (x == 12 && !(ty == 3)))) := HU
          dsimp only [ity] at c2
          clear HU
          cases e3 : (ty == 3)
          all_goals cases e4 : (ty == 4)
          all_goals cases e2 : (x == 2)
          all_goals cases e12 : (x == 12)
          all_goals
            have hu := HU2.out
            rw [e3, e4, e2, e12] at hu
            simp at hu
            subst hu
            first
              | (have HZ := hid (HNo.out rfl)
                 go_wp2_with (first | (go_at_call 34; refine (spec_field _ cap ls n t _ HC.out hn).mono ?_; rintro e w9 ⟨h9, h8⟩; subst h9; subst h8; rw [HFI.out]))
                 go_ret
                 exact ⟨by rw [HZ.out]; rfl, rfl⟩)
              | (have HX := hid (HNext.out rfl)
                 go_wp2_with (first | (go_at_call 34; refine (spec_field _ cap ls n t _ HC.out hn).mono ?_; rintro e w9 ⟨h9, h8⟩; subst h9; subst h8; rw [HFI.out]))
                 exact ⟨⟨k + 1, by omega, by go_num, HX.out⟩, by simp [intOf]; omega⟩)
      · have hu : u = true := HE.out ht
        subst hu
        have HX := hid (HNext.out rfl)
        go_wp2_with fail
        exact ⟨⟨k + 1, by omega, by go_num, HX.out⟩, by simp [intOf]; omega⟩
    · obtain rfl : k = ps.length := by omega
      have HZ : Hid (z = true) := by rw [← hz.out]; exact uses_yes hall.out
      go_wp2
      go_ret
      exact ⟨by rw [HZ.out]; rfl, rfl⟩
end Go.Proofs.YtbhblnpehhaiiaaDoor.FrmS
