/- Fields and what uses them, by the model. -/
import Derived.Test.YtbhblnpehhaiiaaDoorFrmMath
import Derived.Test.YtbhblnpehhaiiaaDoorItmSp
namespace Go.Proofs.YtbhblnpehhaiiaaDoor.FrmS
open Go.RowKit
open PrtW PrtM NameW ItmW ValM ItmM FrmM

set_option maxRecDepth 10000 in
set_option maxHeartbeats 1600000 in
theorem spec_field (a : Option Addr) (cap : Nat) (ls : List It) (n : Nat) (s : ByteArray) (w : World) (hc : Its w a ls) (hn : n ≤ ls.length) :
    Calls Tryd.prog 34 #[.slice a ls.length cap, .int .i64 n, .string s] w fun e w' => e = .returned (.int .i64 (fieldI ls n s)) ∧ w' = w := by
  have HC := hid hc
  have hl := hc.1
  clear hc
  obtain ⟨z, hz⟩ : ∃ z, Hid (fieldI ls n s = z) := ⟨_, rfl⟩
  rw [hz.out]
  go_enter Tryd.func34, Tryd.ntmps34
  go_wp2
  go_loop [7] (fun i => ∃ k : Nat, k ≤ n ∧ i = .int .i64 k ∧ Hid (∀ j, j < k → isF s (ls.getD j it0) = false)) (fun i => n - (intOf i).toNat)
  case atStart => exact ⟨0, Nat.zero_le _, rfl, fun j hj => absurd hj (Nat.not_lt_zero _)⟩
  case round =>
    obtain ⟨k, hk, rfl, hall⟩ := hrel
    by_cases hlt : k < n
    · obtain ⟨_, b, o, ai, ci, rfl, hb, hF, _⟩ := HC.out.at (Below.refl _ _) (show k < ls.length by omega)
      have hkl : k < ls.length := by omega
      have HIs : Hid (∀ v, isF s (ls.getD k it0) = v → isF s (ls.getD k it0) = v) := fun _ h => h
      have HSome : Hid (isF s (ls.getD k it0) = true → z = (k : Int)) := fun h => by rw [← hz.out]; exact fieldI_at (field_at.2 ⟨h, hlt, hall.out⟩)
      have HNext : Hid (isF s (ls.getD k it0) = false → ∀ j, j < k + 1 → isF s (ls.getD j it0) = false) := fun h j hj => by
        rcases Nat.lt_succ_iff_lt_or_eq.1 hj with hj' | rfl
        · exact hall.out j hj'
        · exact h
      obtain ⟨c0, c1, -⟩ := hF
      have HIsd : Hid (isF s (ls.getD k it0) = (((inm (ls.getD k it0)).toList == s.toList) && ((ik (ls.getD k it0) == 1) || (ik (ls.getD k it0) == 6)))) := rfl
      generalize isF s (ls.getD k it0) = bb at HSome HNext HIsd HIs
      generalize ls.getD k it0 = p at c0 c1 HIsd
      obtain ⟨k1, s1, p2⟩ := p
      dsimp only [ik, inm] at c0 c1 HIsd
      clear hall HIs HC
      cases hn1 : (s1.toList == s.toList)
      · have hbb : bb = false := by rw [HIsd.out, hn1]; rfl
        subst hbb
        go_wp2
        exact ⟨⟨k + 1, by omega, by go_num, HNext.out rfl⟩, by simp [intOf]; omega⟩
      · cases hk1 : (k1 == 1)
        · cases hk6 : (k1 == 6)
          · have hbb : bb = false := by rw [HIsd.out, hn1, hk1, hk6]; rfl
            subst hbb
            go_wp2
            exact ⟨⟨k + 1, by omega, by go_num, HNext.out rfl⟩, by simp [intOf]; omega⟩
          · have hbb : bb = true := by rw [HIsd.out, hn1, hk1, hk6]; rfl
            subst hbb
            have HZ := hid (HSome.out rfl)
            go_wp2
            go_ret
            exact ⟨by rw [HZ.out]; rfl, rfl⟩
        · have hbb : bb = true := by rw [HIsd.out, hn1, hk1]; rfl
          subst hbb
          have HZ := hid (HSome.out rfl)
          go_wp2
          go_ret
          exact ⟨by rw [HZ.out]; rfl, rfl⟩
    · obtain rfl : k = n := by omega
      have HZ : Hid (z = -1) := by rw [← hz.out]; exact fieldI_no (field_no.2 hall.out)
      go_wp2
      go_ret
      exact ⟨by rw [HZ.out]; rfl, rfl⟩
end Go.Proofs.YtbhblnpehhaiiaaDoor.FrmS
