/- AnswersRight: what the program says. -/
import Derived.Test.YtfnimiimplphkaaAnsMath
namespace Go.Proofs.Ytfnimiimplphkaa.AnsW
open Go.RowKit
open ValW ValK NameW

def aheadOf (ls : List An) (k : Nat) : ByteArray := if k = 0 then ByteArray.empty else nm (ls.getD (k - 1) an0)
theorem aheadOf_succ (ls : List An) (k : Nat) : aheadOf ls (k + 1) = nm (ls.getD k an0) := by simp [aheadOf]
theorem ahead_no {ls : List An} {k : Nat} (h : (Op.bytesLess (nm (ls.getD k an0)).toList (aheadOf ls k).toList || (nm (ls.getD k an0)).toList == (aheadOf ls k).toList) = true) : okA ls k = false := by
  by_cases hk : k = 0
  · subst hk
    rw [okA_zero]
    have h0 : (aheadOf ls 0).toList = [] := by unfold aheadOf; rw [if_pos rfl]; simp
    rw [h0, less_nil] at h
    have hz : (nm (ls.getD 0 an0)).size = 0 := by
      rw [Bool.false_or] at h
      have h1 := congrArg List.length (eq_of_beq h)
      rw [ByteArray.toList_eq] at h1
      simpa using h1
    rw [name_no _ (.inl (by omega)), Bool.false_and]
  · have e : aheadOf ls k = nm (ls.getD (k - 1) an0) := by unfold aheadOf; rw [if_neg hk]
    rw [e, less_or] at h
    have : lessB (nm (ls.getD (k - 1) an0)) (nm (ls.getD k an0)) = false := by unfold lessB; simpa using h
    unfold okA
    rw [this, decide_eq_false hk]
    simp
theorem ahead_yes {ls : List An} {k : Nat} (h : (Op.bytesLess (nm (ls.getD k an0)).toList (aheadOf ls k).toList || (nm (ls.getD k an0)).toList == (aheadOf ls k).toList) = false) :
    okA ls k = (nameB (nm (ls.getD k an0)) && answeredB (kd (ls.getD k an0)) (nu (ls.getD k an0)) (cd (ls.getD k an0)) (tx (ls.getD k an0))) := by
  by_cases hk : k = 0
  · subst hk
    exact okA_zero ls
  · have e : aheadOf ls k = nm (ls.getD (k - 1) an0) := by unfold aheadOf; rw [if_neg hk]
    rw [e, less_or] at h
    have : lessB (nm (ls.getD (k - 1) an0)) (nm (ls.getD k an0)) = true := by unfold lessB; simpa using h
    unfold okA
    rw [this]
    simp

set_option maxRecDepth 10000 in
set_option maxHeartbeats 3200000 in
theorem impl_answers (a : Option Addr) (cap : Nat) (ls : List An) (w : World) (hc : Ans w a ls) :
    Calls Try.prog 8 #[.slice a ls.length cap] w fun e w' => e = .returned (.bool (rightA ls)) ∧ Below w.heap.size w w' := by
  have HC : Hid (Ans w a ls) := hc
  have hl := hc.1
  obtain ⟨r, hr⟩ : ∃ r, Hid (rightA ls = r) := ⟨_, rfl⟩
  rw [hr.out]
  clear hc
  by_cases hlong : ls.length ≤ 30
  case neg =>
    have hr0 : r = false := by rw [← hr.out]; exact rightA_long hlong
    go_enter Try.func8, Try.ntmps8
    go_wp2
    go_ret
    exact ⟨ret_bool hr0.symm, by go_grown⟩
  go_enter Try.func8, Try.ntmps8
  go_wp2
  go_loopw [3, 11] (fun h i wr => ∃ k : Nat, k ≤ ls.length ∧ i = .int .i64 k ∧ Hid (h = .string (aheadOf ls k)) ∧ Hid (∀ j, j < k → okA ls j = true) ∧ Below w.heap.size w wr) (fun _ i _ => ls.length - (intOf i).toNat)
  case atStart => exact ⟨0, Nat.zero_le _, rfl, rfl, fun _ h => absurd h (Nat.not_lt_zero _), Below.refl _ _⟩
  case round =>
    obtain ⟨k, hk, rfl, hah, hok, hbel⟩ := hrel
    obtain rfl := hah.out
    by_cases hlt : k < ls.length
    · have hno : okA ls k = false → r = false := fun h => by rw [← hr.out]; exact rightA_no hlt h
      have hyes : okA ls k = true → ∀ j, j < k + 1 → okA ls j = true := fun h j hj => by
        by_cases e : j = k
        · rw [e]; exact h
        · exact hok.out j (by omega)
      have hav := aheadOf_succ ls k
      have hvn := ahead_no (ls := ls) (k := k)
      have hvy := ahead_yes (ls := ls) (k := k)
      obtain ⟨hfit, b, o, ai, ci, rfl, hb, hF, hcd⟩ := HC.out.at hbel hlt
      have hB : Below w.heap.size w wr := hbel
      generalize hoo : okA ls k = ok at hno hyes hvn hvy
      generalize ls.getD k an0 = p at hF hcd hfit hav hvn hvy
      obtain ⟨s, x, n, zs, t⟩ := p
      dsimp only [nm, kd, nu, cd, tx] at hcd hav hvn hvy
      generalize aheadOf ls k = ah at hvn hvy
      have HS : Hid (s.size ≤ maxLen) := Nat.le_trans hfit.1 (by decide)
      have HT : Hid (t.size ≤ maxLen) := Nat.le_trans hfit.2 (by decide)
      have HB : Hid (Below w.heap.size w wr) := hbel
      have HCd := hid hcd
      have HA := hid hav
      obtain ⟨c0, c1, c2, c3, c4⟩ := hF
      dsimp only [nm, kd, nu, cd, tx] at c0 c1 c2 c3 c4
      obtain ⟨v, hv⟩ : ∃ v, (Op.bytesLess s.toList ah.toList || s.toList == ah.toList) = v := ⟨_, rfl⟩
      rw [hv] at hvn hvy
      have HN := hid hno
      have HY := hid hyes
      have HVN := hid hvn
      have HVY := hid hvy
      clear hbel hcd hfit hno hyes hok HC hvn hvy hav hah hoo hB
      cases v
      · obtain ⟨m, hnm⟩ : ∃ m, Hid (nameB s = m) := ⟨_, rfl⟩
        obtain ⟨q, hq⟩ : ∃ q, Hid (answeredB x n zs t = q) := ⟨_, rfl⟩
        have hoq : ok = (m && q) := by rw [HVY.out rfl, hnm.out, hq.out]
        have HOQ := hid hoq
        clear HVN HVY hoq
        go_wp2_with fail
        refine (impl_name s _ HS.out).mono ?_
        rintro e w1 ⟨rfl, rfl⟩
        rw [hnm.out]
        cases m
        · go_wp2_with fail
          go_ret
          refine ⟨ret_bool (HN.out (by rw [HOQ.out]; rfl)).symm, ?_⟩
          exact Below.trans HB.out ((show Below wr.heap.size wr _ by go_grown).mono HB.out.size)
        · go_wp2_with fail
          refine (impl_answered x n ai ci zs t _ (HCd.out.on ?hb) HT.out).mono ?_
          case hb => go_grown
          rintro e w1 ⟨rfl, hB1⟩
          rw [hq.out]
          have HB1 : Hid (Below w.heap.size w w1) := Below.trans (Below.trans HB.out ((show Below wr.heap.size wr _ by go_grown).mono HB.out.size)) (hB1.mono (by simp; exact Nat.le_trans HB.out.size (Nat.le_succ _)))
          have hsz := HB.out.size
          obtain ⟨hcl, _⟩ := bcell hB1
          simp only [World.size_alloc] at hcl
          clear hB1
          cases q
          · go_wp2_with fail
            go_ret
            exact ⟨ret_bool (HN.out (by rw [HOQ.out]; rfl)).symm, HB1.out⟩
          · go_wp2_with fail
            refine ⟨⟨k + 1, by omega, by go_num, by show _ = _; rw [HA.out], HY.out (by rw [HOQ.out]; rfl), HB1.out⟩, by simp [intOf]; omega⟩
      · clear HVY
        go_wp2_with fail
        go_ret
        refine ⟨ret_bool (HN.out (HVN.out (by trivial))).symm, ?_⟩
        exact Below.trans HB.out ((show Below wr.heap.size wr _ by go_grown).mono HB.out.size)
    · obtain rfl : k = ls.length := by omega
      have hd : Hid (r = true) := by show r = true; rw [← hr.out]; exact rightA_yes hlong hok.out
      go_wp2
      go_ret
      exact ⟨ret_bool hd.out.symm, hbel⟩
end Go.Proofs.Ytfnimiimplphkaa.AnsW
