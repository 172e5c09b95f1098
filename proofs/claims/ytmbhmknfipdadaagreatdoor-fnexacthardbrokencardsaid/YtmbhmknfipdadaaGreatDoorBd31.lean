/- Texts of ours, laid together. -/
import Derived.Test.YtmbhmknfipdadaaGreatDoorBd27
import Derived.Deep.Cut
import Derived.Deep.CutRange
namespace Go.Proofs.YtmbhmknfipdadaaGreatDoor.AnsW
open Go.RowKit
open ValW ValK NameW
set_option maxRecDepth 10000 in
set_option maxHeartbeats 3200000 in
theorem spec_answers (a : Option Addr) (cap : Nat) (ls : List An) (w : World) (hc : Ans w a ls) :
  Calls Tryz.prog 53 #[.slice a ls.length cap] w fun e w' => e = .returned (.bool (rightA ls)) ∧ Below w.heap.size w w' := by
 have HC : Hid (Ans w a ls) := hc
 have hl := hc.1
 obtain ⟨r, hr⟩ : ∃ r, Hid (rightA ls = r) := ⟨_, rfl⟩
 rw [hr.out]
 clear hc
 go_enter Tryz.func53, Tryz.ntmps53
 go_wp2
 go_loopw [3] (fun i wr => ∃ k : Nat, k ≤ ls.length ∧ i = .int .i64 k ∧ Hid (∀ j, j < k → okA ls j = true) ∧ Below w.heap.size w wr) (fun i _ => ls.length - (intOf i).toNat)
 case atStart => exact ⟨0, Nat.zero_le _, rfl, fun _ h => absurd h (Nat.not_lt_zero _), Below.refl _ _⟩
 case round =>
  obtain ⟨k, hk, rfl, hok, hbel⟩ := hrel
  by_cases hlt : k < ls.length
  ·have hno : okA ls k = false → r = false := fun h => by rw [← hr.out]; exact rightA_no hlt h
   have hyes : okA ls k = true → ∀ j, j < k + 1 → okA ls j = true := fun h j hj => by
    by_cases e : j = k
    ·rw [e]; exact h
    ·exact hok.out j (by omega)
   obtain ⟨hfit, b, o, ai, ci, rfl, hb, hF, hcd⟩ := HC.out.at hbel hlt
   have hbr : b < wr.heap.size := Nat.lt_of_lt_of_le hb hbel.size
   have hB0 : Below wr.heap.size wr wr.drew := (Below.refl _ _).drew
   by_cases hz : k = 0
   ·have e0 : okA ls k = (nameB (nm (ls.getD k an0)) && answeredB (kd (ls.getD k an0)) (nu (ls.getD k an0)) (cd (ls.getD k an0)) (tx (ls.getD k an0))) := by rw [hz]; exact okA_zero ls
    rw [e0] at hno hyes
    have f2 : decide ((0 : Int) < (k : Int)) = false := by simp; omega
    have f4 : decide (0 < k) = false := by simp; omega
    have f5 : ¬ 0 < k := by omega
    clear e0 hz
    generalize ls.getD k an0 = p at hF hcd hno hyes hfit
    obtain ⟨s, x, n, zs, t⟩ := p
    dsimp only [nm, kd, nu, cd, tx] at hcd hno hyes
    have HS : Hid (s.size ≤ maxLen) := Nat.le_trans hfit.1 (by decide)
    have HT : Hid (t.size ≤ maxLen) := Nat.le_trans hfit.2 (by decide)
    have HB : Hid (Below w.heap.size w wr) := hbel
    have HF := hid hF
    have HCd := hid hcd
    obtain ⟨c0, c1, c2, c3, c4⟩ := hF
    dsimp only [nm, kd, nu, cd, tx] at c0 c1 c2 c3 c4
    obtain ⟨m, hnm⟩ : ∃ m, Hid (nameB s = m) := ⟨_, rfl⟩
    obtain ⟨q, hq⟩ : ∃ q, Hid (answeredB x n zs t = q) := ⟨_, rfl⟩
    rw [hnm.out, hq.out] at hno hyes
    have HN := hid hno
    have HY := hid hyes
    clear hbel hcd hfit hno hyes hok HC
    cases m
    ·go_upto_region 4 with fail
     refine wp_region_held_drew (S := (fun w' => Below wr.heap.size wr w' ∧ w'.cell? ⟨b, o + k * 5, none⟩ = some (.string s) ∧ w'.cell? ⟨b, o + k * 5 + 1, none⟩ = some (.int .i64 x) ∧ w'.cell? ⟨b, o + k * 5 + 2, none⟩ = some (.int .i64 n) ∧ w'.cell? ⟨b, o + k * 5 + 3, none⟩ = some (.slice ai zs.length ci) ∧ w'.cell? ⟨b, o + k * 5 + 4, none⟩ = some (.string t))) (by kernel_rfl) ?_ (fun hHeld => ?_)
     ·(try dsimp only) <;> (first | exact keep5 hbr HF.out hBn | exact keep5 hbr HF.out hB0)
     refine tk 0 (some 10) rfl hHeld ?_; (try simp only [Act.put, pA, pB, pC]); refine tk 1 (some 11) rfl hHeld ?_; (try simp only [Act.put, pA, pB, pC]); refine tk 2 (some 12) rfl hHeld ?_; (try simp only [Act.put, pA, pB, pC]); refine tk 3 (some 13) rfl hHeld ?_; (try simp only [Act.put, pA, pB, pC]); refine tk 4 (some 14) rfl hHeld ?_; (try simp only [Act.put, pA, pB, pC])
     refine wpAnyH_ready (rs := [5]) (by kernel_rfl) (by simp) ?_
     refine AllReadyH.cons rfl (fun K hK => ?_) AllReadyH.nil
     go_simp
     go_at_call 83
     have hp := hHeld.1
     refine (spec_name s _ HS.out).mono ?_
     rintro e w' ⟨rfl, rfl⟩
     rw [hnm.out]
     have hBn := hp
     clear hp
     (try go_wp2_with fail)
     refine hK.out _ _ ?_ (fun hHeld2 => ?_)
     ·(try dsimp only) <;> (first | exact keep5 hbr HF.out hBn | exact keep5 hbr HF.out hB0)
     clear hK K hHeld
     have hHeld := hHeld2
     clear hHeld2
     (try simp only [Act.put, pA, pB, pC]); refine tk 6 (some 16) rfl hHeld ?_; (try simp only [Act.put, pA, pB, pC]); refine tk 7 (some 17) rfl hHeld ?_; (try simp only [Act.put, pA, pB, pC]); refine tp 8 (some 18) rfl hHeld ?_; (try simp only [Act.put, pA, pB, pC]); refine tp 9 (some 19) rfl hHeld ?_; (try simp only [Act.put, pA, pB, pC]); refine tp 10 (some 20) rfl hHeld ?_; (try simp only [Act.put, pA, pB, pC]); refine tp 11 (some 21) rfl hHeld ?_; (try simp only [Act.put, pA, pB, pC]); refine tp 12 (some 22) rfl hHeld ?_; (try simp only [Act.put, pA, pB, pC]); refine tp 13 (some 23) rfl hHeld ?_; (try simp only [Act.put, pA, pB, pC]); refine tp 14 (some 24) rfl hHeld ?_; (try simp only [Act.put, pA, pB, pC]); refine tp 15 (some 25) rfl hHeld ?_; (try simp only [Act.put, pA, pB, pC]); refine tp 16 (some 26) rfl hHeld ?_; (try simp only [Act.put, pA, pB, pC]); refine tp 17 (some 27) rfl hHeld ?_
     (try simp only [Act.put, pA, pB, pC]); refine tp 18 (some 28) rfl hHeld ?_; (try simp only [Act.put, pA, pB, pC]); refine tp 19 (some 29) rfl hHeld ?_; (try simp only [Act.put, pA, pB, pC]); refine tp 20 (some 30) rfl hHeld ?_; (try simp only [Act.put, pA, pB, pC]); refine tp 21 (some 31) rfl hHeld ?_; (try simp only [Act.put, pA, pB, pC]); refine tp 22 (some 32) rfl hHeld ?_; (try simp only [Act.put, pA, pB, pC]); refine tp 23 (some 33) rfl hHeld ?_; (try simp only [Act.put, pA, pB, pC]); refine tk 24 (some 34) rfl hHeld ?_; (try simp only [Act.put, pA, pB, pC]); refine tk 25 (some 35) rfl hHeld ?_; (try simp only [Act.put, pA, pB, pC]); refine tp 26 (some 36) rfl hHeld ?_; (try simp only [Act.put, pA, pB, pC]); refine tp 27 (some 37) rfl hHeld ?_; (try simp only [Act.put, pA, pB, pC]); refine tp 28 (some 38) rfl hHeld ?_; (try simp only [Act.put, pA, pB, pC]); refine tp 29 (some 39) rfl hHeld ?_
     (try simp only [Act.put, pA, pB, pC]); refine tp 30 (some 40) rfl hHeld ?_; (try simp only [Act.put, pA, pB, pC]); refine tp 31 (some 41) rfl hHeld ?_; (try simp only [Act.put, pA, pB, pC]); refine tp 32 (some 42) rfl hHeld ?_; (try simp only [Act.put, pA, pB, pC]); refine tk 33 (some 43) rfl hHeld ?_; (try simp only [Act.put, pA, pB, pC])
     refine wpAnyH_done (by kernel_rfl) ?_ _
     have HBL := hid hHeld.1
     clear hHeld hB0 c0 c1 c2 c3 c4 HF
     go_wp2_with fail
     go_ret
     exact ⟨ret_bool (HN.out rfl).symm, HB.out.trans (HBL.out.mono HB.out.size)⟩
    ·go_upto_region 4 with fail
     refine wp_region_held_drew (S := (fun w' => Below wr.heap.size wr w' ∧ w'.cell? ⟨b, o + k * 5, none⟩ = some (.string s) ∧ w'.cell? ⟨b, o + k * 5 + 1, none⟩ = some (.int .i64 x) ∧ w'.cell? ⟨b, o + k * 5 + 2, none⟩ = some (.int .i64 n) ∧ w'.cell? ⟨b, o + k * 5 + 3, none⟩ = some (.slice ai zs.length ci) ∧ w'.cell? ⟨b, o + k * 5 + 4, none⟩ = some (.string t))) (by kernel_rfl) ?_ (fun hHeld => ?_)
     ·(try dsimp only) <;> (first | exact keep5 hbr HF.out hBn | exact keep5 hbr HF.out hB0)
     refine tk 0 (some 10) rfl hHeld ?_; (try simp only [Act.put, pA, pB, pC]); refine tk 1 (some 11) rfl hHeld ?_; (try simp only [Act.put, pA, pB, pC]); refine tk 2 (some 12) rfl hHeld ?_; (try simp only [Act.put, pA, pB, pC]); refine tk 3 (some 13) rfl hHeld ?_; (try simp only [Act.put, pA, pB, pC]); refine tk 4 (some 14) rfl hHeld ?_; (try simp only [Act.put, pA, pB, pC])
     refine wpAnyH_ready (rs := [5]) (by kernel_rfl) (by simp) ?_
     refine AllReadyH.cons rfl (fun K hK => ?_) AllReadyH.nil
     go_simp
     go_at_call 83
     have hp := hHeld.1
     refine (spec_name s _ HS.out).mono ?_
     rintro e w' ⟨rfl, rfl⟩
     rw [hnm.out]
     have hBn := hp
     clear hp
     (try go_wp2_with fail)
     refine hK.out _ _ ?_ (fun hHeld2 => ?_)
     ·(try dsimp only) <;> (first | exact keep5 hbr HF.out hBn | exact keep5 hbr HF.out hB0)
     clear hK K hHeld
     have hHeld := hHeld2
     clear hHeld2
     (try simp only [Act.put, pA, pB, pC]); refine tk 6 (some 16) rfl hHeld ?_; (try simp only [Act.put, pA, pB, pC]); refine tk 7 (some 17) rfl hHeld ?_; (try simp only [Act.put, pA, pB, pC]); refine tk 8 (some 18) rfl hHeld ?_; (try simp only [Act.put, pA, pB, pC]); refine tk 9 (some 19) rfl hHeld ?_; (try simp only [Act.put, pA, pB, pC]); refine tk 10 (some 20) rfl hHeld ?_; (try simp only [Act.put, pA, pB, pC]); refine tp 11 (some 21) rfl hHeld ?_; (try simp only [Act.put, pA, pB, pC]); refine tp 12 (some 22) rfl hHeld ?_; (try simp only [Act.put, pA, pB, pC]); refine tp 13 (some 23) rfl hHeld ?_; (try simp only [Act.put, pA, pB, pC]); refine tp 14 (some 24) rfl hHeld ?_; (try simp only [Act.put, pA, pB, pC]); refine tp 15 (some 25) rfl hHeld ?_; (try simp only [Act.put, pA, pB, pC]); refine tp 16 (some 26) rfl hHeld ?_; (try simp only [Act.put, pA, pB, pC]); refine tp 17 (some 27) rfl hHeld ?_
     (try simp only [Act.put, pA, pB, pC]); refine tp 18 (some 28) rfl hHeld ?_; (try simp only [Act.put, pA, pB, pC]); refine tp 19 (some 29) rfl hHeld ?_; (try simp only [Act.put, pA, pB, pC]); refine tp 20 (some 30) rfl hHeld ?_; (try simp only [Act.put, pA, pB, pC]); refine tp 21 (some 31) rfl hHeld ?_; (try simp only [Act.put, pA, pB, pC]); refine tp 22 (some 32) rfl hHeld ?_; (try simp only [Act.put, pA, pB, pC]); refine tk 23 (some 33) rfl hHeld ?_; (try simp only [Act.put, pA, pB, pC]); refine tk 24 (some 34) rfl hHeld ?_; (try simp only [Act.put, pA, pB, pC]); refine tk 25 (some 35) rfl hHeld ?_; (try simp only [Act.put, pA, pB, pC]); refine tk 26 (some 36) rfl hHeld ?_; (try simp only [Act.put, pA, pB, pC]); refine tk 27 (some 37) rfl hHeld ?_; (try simp only [Act.put, pA, pB, pC]); refine tk 28 (some 38) rfl hHeld ?_; (try simp only [Act.put, pA, pB, pC]); refine tk 29 (some 39) rfl hHeld ?_
     (try simp only [Act.put, pA, pB, pC]); refine tk 30 (some 40) rfl hHeld ?_; (try simp only [Act.put, pA, pB, pC])
     refine wpAnyH_ready (rs := [31]) (by kernel_rfl) (by simp) ?_
     refine AllReadyH.cons rfl (fun K hK => ?_) AllReadyH.nil
     go_simp
     go_at_call 84
     have hp := hHeld.1
     refine (spec_answered x n ai ci zs t _ (HCd.out.on hp) HT.out).mono ?_
     rintro e w' ⟨rfl, hB⟩
     rw [hq.out]
     have hBn := hp.trans (hB.mono hp.size)
     clear hp hB
     (try go_wp2_with fail)
     refine hK.out _ _ ?_ (fun hHeld2 => ?_)
     ·(try dsimp only) <;> (first | exact keep5 hbr HF.out hBn | exact keep5 hbr HF.out hB0)
     clear hK K hHeld
     have hHeld := hHeld2
     clear hHeld2
     (try simp only [Act.put, pA, pB, pC]); refine tk 32 (some 42) rfl hHeld ?_; (try simp only [Act.put, pA, pB, pC]); refine tk 33 (some 43) rfl hHeld ?_; (try simp only [Act.put, pA, pB, pC])
     refine wpAnyH_done (by kernel_rfl) ?_ _
     have HBL := hid hHeld.1
     clear hHeld hB0 c0 c1 c2 c3 c4 HF
     cases q
     ·go_wp2_with fail
      go_ret
      exact ⟨ret_bool (HN.out rfl).symm, HB.out.trans (HBL.out.mono HB.out.size)⟩
     ·go_wp2_with fail
      refine ⟨⟨k + 1, by omega, by go_num, HY.out rfl, HB.out.trans (HBL.out.mono HB.out.size)⟩, by simp [intOf]; omega⟩
   ·obtain ⟨j, hj⟩ : ∃ j, k = j + 1 := ⟨k - 1, by omega⟩
    have e0 : okA ls k = (nameB (nm (ls.getD k an0)) && lessB (nm (ls.getD j an0)) (nm (ls.getD k an0)) && answeredB (kd (ls.getD k an0)) (nu (ls.getD k an0)) (cd (ls.getD k an0)) (tx (ls.getD k an0))) := by rw [hj]; exact okA_succ ls j
    obtain ⟨_, b1, o1, ai1, ci1, e1, hb1, hF1, _⟩ := HC.out.at hbel (k := j) (by omega)
    cases e1
    have d0 := hF1.1
    rw [e0] at hno hyes
    clear e0
    generalize ls.getD k an0 = p at hF hcd hno hyes hfit
    generalize ls.getD j an0 = p1 at d0 hno hyes
    obtain ⟨s, x, n, zs, t⟩ := p
    obtain ⟨s1, x1, n1, zs1, t1⟩ := p1
    dsimp only [nm, kd, nu, cd, tx] at hcd hno hyes d0
    have HS : Hid (s.size ≤ maxLen) := Nat.le_trans hfit.1 (by decide)
    have HT : Hid (t.size ≤ maxLen) := Nat.le_trans hfit.2 (by decide)
    have HB : Hid (Below w.heap.size w wr) := hbel
    have HF := hid hF
    have HCd := hid hcd
    obtain ⟨c0, c1, c2, c3, c4⟩ := hF
    dsimp only [nm, kd, nu, cd, tx] at c0 c1 c2 c3 c4
    obtain ⟨m, hnm⟩ : ∃ m, Hid (nameB s = m) := ⟨_, rfl⟩
    obtain ⟨q, hq⟩ : ∃ q, Hid (answeredB x n zs t = q) := ⟨_, rfl⟩
    obtain ⟨v, hv⟩ : ∃ v, Op.bytesLess s1.toList s.toList = v := ⟨_, rfl⟩
    have hlv : lessB s1 s = v := hv
    rw [hnm.out, hq.out, hlv] at hno hyes
    have HN := hid hno
    have HY := hid hyes
    have f1 : IntKind.i64.wrap ((k : Int) - 1) = (j : Int) := by rw [IntKind.wrap_i64]; omega
    have f2 : decide ((0 : Int) < (k : Int)) = true := by simp; omega
    have f4 : decide (0 < k) = true := by simp; omega
    have f5 : 0 < k := by omega
    have f3 : (k : Int) - 1 = (j : Int) := by omega
    have f6 : IntKind.i64.wrap (j : Int) = (j : Int) := by rw [IntKind.wrap_i64]; omega
    have f7 : j < ls.length := by omega
    clear hbel hcd hfit hno hyes hok HC hF1 hlv hz hj
    cases m
    ·go_upto_region 4 with fail
     refine wp_region_held_drew (S := (fun w' => Below wr.heap.size wr w' ∧ w'.cell? ⟨b, o + k * 5, none⟩ = some (.string s) ∧ w'.cell? ⟨b, o + k * 5 + 1, none⟩ = some (.int .i64 x) ∧ w'.cell? ⟨b, o + k * 5 + 2, none⟩ = some (.int .i64 n) ∧ w'.cell? ⟨b, o + k * 5 + 3, none⟩ = some (.slice ai zs.length ci) ∧ w'.cell? ⟨b, o + k * 5 + 4, none⟩ = some (.string t) ∧ w'.cell? ⟨b, o + j * 5, none⟩ = some (.string s1))) (by kernel_rfl) ?_ (fun hHeld => ?_)
     ·(try dsimp only) <;> (first | exact keep6 hbr HF.out d0 hBn | exact keep6 hbr HF.out d0 hB0)
     refine tk 0 (some 10) rfl hHeld ?_; (try simp only [Act.put, pA, pB, pC]); refine tk 1 (some 11) rfl hHeld ?_; (try simp only [Act.put, pA, pB, pC]); refine tk 2 (some 12) rfl hHeld ?_; (try simp only [Act.put, pA, pB, pC]); refine tk 3 (some 13) rfl hHeld ?_; (try simp only [Act.put, pA, pB, pC]); refine tk 4 (some 14) rfl hHeld ?_; (try simp only [Act.put, pA, pB, pC])
     refine wpAnyH_ready (rs := [5]) (by kernel_rfl) (by simp) ?_
     refine AllReadyH.cons rfl (fun K hK => ?_) AllReadyH.nil
     go_simp
     go_at_call 83
     have hp := hHeld.1
     refine (spec_name s _ HS.out).mono ?_
     rintro e w' ⟨rfl, rfl⟩
     rw [hnm.out]
     have hBn := hp
     clear hp
     (try go_wp2_with fail)
     refine hK.out _ _ ?_ (fun hHeld2 => ?_)
     ·(try dsimp only) <;> (first | exact keep6 hbr HF.out d0 hBn | exact keep6 hbr HF.out d0 hB0)
     clear hK K hHeld
     have hHeld := hHeld2
     clear hHeld2
     (try simp only [Act.put, pA, pB, pC]); refine tk 6 (some 16) rfl hHeld ?_; (try simp only [Act.put, pA, pB, pC]); refine tk 7 (some 17) rfl hHeld ?_; (try simp only [Act.put, pA, pB, pC]); refine tp 8 (some 18) rfl hHeld ?_; (try simp only [Act.put, pA, pB, pC]); refine tp 9 (some 19) rfl hHeld ?_; (try simp only [Act.put, pA, pB, pC]); refine tp 10 (some 20) rfl hHeld ?_; (try simp only [Act.put, pA, pB, pC]); refine tp 11 (some 21) rfl hHeld ?_; (try simp only [Act.put, pA, pB, pC]); refine tp 12 (some 22) rfl hHeld ?_; (try simp only [Act.put, pA, pB, pC]); refine tp 13 (some 23) rfl hHeld ?_; (try simp only [Act.put, pA, pB, pC]); refine tp 14 (some 24) rfl hHeld ?_; (try simp only [Act.put, pA, pB, pC]); refine tp 15 (some 25) rfl hHeld ?_; (try simp only [Act.put, pA, pB, pC]); refine tp 16 (some 26) rfl hHeld ?_; (try simp only [Act.put, pA, pB, pC]); refine tp 17 (some 27) rfl hHeld ?_
     (try simp only [Act.put, pA, pB, pC]); refine tp 18 (some 28) rfl hHeld ?_; (try simp only [Act.put, pA, pB, pC]); refine tp 19 (some 29) rfl hHeld ?_; (try simp only [Act.put, pA, pB, pC]); refine tp 20 (some 30) rfl hHeld ?_; (try simp only [Act.put, pA, pB, pC]); refine tp 21 (some 31) rfl hHeld ?_; (try simp only [Act.put, pA, pB, pC]); refine tp 22 (some 32) rfl hHeld ?_; (try simp only [Act.put, pA, pB, pC]); refine tp 23 (some 33) rfl hHeld ?_; (try simp only [Act.put, pA, pB, pC]); refine tk 24 (some 34) rfl hHeld ?_; (try simp only [Act.put, pA, pB, pC]); refine tk 25 (some 35) rfl hHeld ?_; (try simp only [Act.put, pA, pB, pC]); refine tp 26 (some 36) rfl hHeld ?_; (try simp only [Act.put, pA, pB, pC]); refine tp 27 (some 37) rfl hHeld ?_; (try simp only [Act.put, pA, pB, pC]); refine tp 28 (some 38) rfl hHeld ?_; (try simp only [Act.put, pA, pB, pC]); refine tp 29 (some 39) rfl hHeld ?_
     (try simp only [Act.put, pA, pB, pC]); refine tp 30 (some 40) rfl hHeld ?_; (try simp only [Act.put, pA, pB, pC]); refine tp 31 (some 41) rfl hHeld ?_; (try simp only [Act.put, pA, pB, pC]); refine tp 32 (some 42) rfl hHeld ?_; (try simp only [Act.put, pA, pB, pC]); refine tk 33 (some 43) rfl hHeld ?_; (try simp only [Act.put, pA, pB, pC])
     refine wpAnyH_done (by kernel_rfl) ?_ _
     have HBL := hid hHeld.1
     clear hHeld hB0 c0 c1 c2 c3 c4 HF d0
     go_wp2_with fail
     go_ret
     exact ⟨ret_bool (HN.out rfl).symm, HB.out.trans (HBL.out.mono HB.out.size)⟩
    ·cases v
     ·go_upto_region 4 with fail
      refine wp_region_held_drew (S := (fun w' => Below wr.heap.size wr w' ∧ w'.cell? ⟨b, o + k * 5, none⟩ = some (.string s) ∧ w'.cell? ⟨b, o + k * 5 + 1, none⟩ = some (.int .i64 x) ∧ w'.cell? ⟨b, o + k * 5 + 2, none⟩ = some (.int .i64 n) ∧ w'.cell? ⟨b, o + k * 5 + 3, none⟩ = some (.slice ai zs.length ci) ∧ w'.cell? ⟨b, o + k * 5 + 4, none⟩ = some (.string t) ∧ w'.cell? ⟨b, o + j * 5, none⟩ = some (.string s1))) (by kernel_rfl) ?_ (fun hHeld => ?_)
      ·(try dsimp only) <;> (first | exact keep6 hbr HF.out d0 hBn | exact keep6 hbr HF.out d0 hB0)
      refine tk 0 (some 10) rfl hHeld ?_; (try simp only [Act.put, pA, pB, pC]); refine tk 1 (some 11) rfl hHeld ?_; (try simp only [Act.put, pA, pB, pC]); refine tk 2 (some 12) rfl hHeld ?_; (try simp only [Act.put, pA, pB, pC]); refine tk 3 (some 13) rfl hHeld ?_; (try simp only [Act.put, pA, pB, pC]); refine tk 4 (some 14) rfl hHeld ?_; (try simp only [Act.put, pA, pB, pC])
      refine wpAnyH_ready (rs := [5]) (by kernel_rfl) (by simp) ?_
      refine AllReadyH.cons rfl (fun K hK => ?_) AllReadyH.nil
      go_simp
      go_at_call 83
      have hp := hHeld.1
      refine (spec_name s _ HS.out).mono ?_
      rintro e w' ⟨rfl, rfl⟩
      rw [hnm.out]
      have hBn := hp
      clear hp
      (try go_wp2_with fail)
      refine hK.out _ _ ?_ (fun hHeld2 => ?_)
      ·(try dsimp only) <;> (first | exact keep6 hbr HF.out d0 hBn | exact keep6 hbr HF.out d0 hB0)
      clear hK K hHeld
      have hHeld := hHeld2
      clear hHeld2
      (try simp only [Act.put, pA, pB, pC]); refine tk 6 (some 16) rfl hHeld ?_; (try simp only [Act.put, pA, pB, pC]); refine tk 7 (some 17) rfl hHeld ?_; (try simp only [Act.put, pA, pB, pC]); refine tk 8 (some 18) rfl hHeld ?_; (try simp only [Act.put, pA, pB, pC]); refine tk 9 (some 19) rfl hHeld ?_; (try simp only [Act.put, pA, pB, pC]); refine tk 10 (some 20) rfl hHeld ?_; (try simp only [Act.put, pA, pB, pC]); refine tk 11 (some 21) rfl hHeld ?_; (try simp only [Act.put, pA, pB, pC]); refine tk 12 (some 22) rfl hHeld ?_; (try simp only [Act.put, pA, pB, pC]); refine tk 13 (some 23) rfl hHeld ?_; (try simp only [Act.put, pA, pB, pC]); refine tk 14 (some 24) rfl hHeld ?_; (try simp only [Act.put, pA, pB, pC]); refine tk 15 (some 25) rfl hHeld ?_; (try simp only [Act.put, pA, pB, pC]); refine tk 16 (some 26) rfl hHeld ?_; (try simp only [Act.put, pA, pB, pC]); refine tk 17 (some 27) rfl hHeld ?_
      (try simp only [Act.put, pA, pB, pC]); refine tk 18 (some 28) rfl hHeld ?_; (try simp only [Act.put, pA, pB, pC]); refine tk 19 (some 29) rfl hHeld ?_; (try simp only [Act.put, pA, pB, pC]); refine tk 20 (some 30) rfl hHeld ?_; (try simp only [Act.put, pA, pB, pC]); refine tk 21 (some 31) rfl hHeld ?_; (try simp only [Act.put, pA, pB, pC]); refine tk 22 (some 32) rfl hHeld ?_; (try simp only [Act.put, pA, pB, pC]); refine tk 23 (some 33) rfl hHeld ?_; (try simp only [Act.put, pA, pB, pC]); refine tk 24 (some 34) rfl hHeld ?_; (try simp only [Act.put, pA, pB, pC]); refine tk 25 (some 35) rfl hHeld ?_; (try simp only [Act.put, pA, pB, pC]); refine tp 26 (some 36) rfl hHeld ?_; (try simp only [Act.put, pA, pB, pC]); refine tp 27 (some 37) rfl hHeld ?_; (try simp only [Act.put, pA, pB, pC]); refine tp 28 (some 38) rfl hHeld ?_; (try simp only [Act.put, pA, pB, pC]); refine tp 29 (some 39) rfl hHeld ?_
      (try simp only [Act.put, pA, pB, pC]); refine tp 30 (some 40) rfl hHeld ?_; (try simp only [Act.put, pA, pB, pC]); refine tp 31 (some 41) rfl hHeld ?_; (try simp only [Act.put, pA, pB, pC]); refine tp 32 (some 42) rfl hHeld ?_; (try simp only [Act.put, pA, pB, pC]); refine tk 33 (some 43) rfl hHeld ?_; (try simp only [Act.put, pA, pB, pC])
      refine wpAnyH_done (by kernel_rfl) ?_ _
      have HBL := hid hHeld.1
      clear hHeld hB0 c0 c1 c2 c3 c4 HF d0
      go_wp2_with fail
      go_ret
      exact ⟨ret_bool (HN.out rfl).symm, HB.out.trans (HBL.out.mono HB.out.size)⟩
     ·go_upto_region 4 with fail
      refine wp_region_held_drew (S := (fun w' => Below wr.heap.size wr w' ∧ w'.cell? ⟨b, o + k * 5, none⟩ = some (.string s) ∧ w'.cell? ⟨b, o + k * 5 + 1, none⟩ = some (.int .i64 x) ∧ w'.cell? ⟨b, o + k * 5 + 2, none⟩ = some (.int .i64 n) ∧ w'.cell? ⟨b, o + k * 5 + 3, none⟩ = some (.slice ai zs.length ci) ∧ w'.cell? ⟨b, o + k * 5 + 4, none⟩ = some (.string t) ∧ w'.cell? ⟨b, o + j * 5, none⟩ = some (.string s1))) (by kernel_rfl) ?_ (fun hHeld => ?_)
      ·(try dsimp only) <;> (first | exact keep6 hbr HF.out d0 hBn | exact keep6 hbr HF.out d0 hB0)
      refine tk 0 (some 10) rfl hHeld ?_; (try simp only [Act.put, pA, pB, pC]); refine tk 1 (some 11) rfl hHeld ?_; (try simp only [Act.put, pA, pB, pC]); refine tk 2 (some 12) rfl hHeld ?_; (try simp only [Act.put, pA, pB, pC]); refine tk 3 (some 13) rfl hHeld ?_; (try simp only [Act.put, pA, pB, pC]); refine tk 4 (some 14) rfl hHeld ?_; (try simp only [Act.put, pA, pB, pC])
      refine wpAnyH_ready (rs := [5]) (by kernel_rfl) (by simp) ?_
      refine AllReadyH.cons rfl (fun K hK => ?_) AllReadyH.nil
      go_simp
      go_at_call 83
      have hp := hHeld.1
      refine (spec_name s _ HS.out).mono ?_
      rintro e w' ⟨rfl, rfl⟩
      rw [hnm.out]
      have hBn := hp
      clear hp
      (try go_wp2_with fail)
      refine hK.out _ _ ?_ (fun hHeld2 => ?_)
      ·(try dsimp only) <;> (first | exact keep6 hbr HF.out d0 hBn | exact keep6 hbr HF.out d0 hB0)
      clear hK K hHeld
      have hHeld := hHeld2
      clear hHeld2
      (try simp only [Act.put, pA, pB, pC]); refine tk 6 (some 16) rfl hHeld ?_; (try simp only [Act.put, pA, pB, pC]); refine tk 7 (some 17) rfl hHeld ?_; (try simp only [Act.put, pA, pB, pC]); refine tk 8 (some 18) rfl hHeld ?_; (try simp only [Act.put, pA, pB, pC]); refine tk 9 (some 19) rfl hHeld ?_; (try simp only [Act.put, pA, pB, pC]); refine tk 10 (some 20) rfl hHeld ?_; (try simp only [Act.put, pA, pB, pC]); refine tk 11 (some 21) rfl hHeld ?_; (try simp only [Act.put, pA, pB, pC]); refine tk 12 (some 22) rfl hHeld ?_; (try simp only [Act.put, pA, pB, pC]); refine tk 13 (some 23) rfl hHeld ?_; (try simp only [Act.put, pA, pB, pC]); refine tk 14 (some 24) rfl hHeld ?_; (try simp only [Act.put, pA, pB, pC]); refine tk 15 (some 25) rfl hHeld ?_; (try simp only [Act.put, pA, pB, pC]); refine tk 16 (some 26) rfl hHeld ?_; (try simp only [Act.put, pA, pB, pC]); refine tk 17 (some 27) rfl hHeld ?_
      (try simp only [Act.put, pA, pB, pC]); refine tk 18 (some 28) rfl hHeld ?_; (try simp only [Act.put, pA, pB, pC]); refine tk 19 (some 29) rfl hHeld ?_; (try simp only [Act.put, pA, pB, pC]); refine tk 20 (some 30) rfl hHeld ?_; (try simp only [Act.put, pA, pB, pC]); refine tk 21 (some 31) rfl hHeld ?_; (try simp only [Act.put, pA, pB, pC]); refine tk 22 (some 32) rfl hHeld ?_; (try simp only [Act.put, pA, pB, pC]); refine tk 23 (some 33) rfl hHeld ?_; (try simp only [Act.put, pA, pB, pC]); refine tk 24 (some 34) rfl hHeld ?_; (try simp only [Act.put, pA, pB, pC]); refine tk 25 (some 35) rfl hHeld ?_; (try simp only [Act.put, pA, pB, pC]); refine tk 26 (some 36) rfl hHeld ?_; (try simp only [Act.put, pA, pB, pC]); refine tk 27 (some 37) rfl hHeld ?_; (try simp only [Act.put, pA, pB, pC]); refine tk 28 (some 38) rfl hHeld ?_; (try simp only [Act.put, pA, pB, pC]); refine tk 29 (some 39) rfl hHeld ?_
      (try simp only [Act.put, pA, pB, pC]); refine tk 30 (some 40) rfl hHeld ?_; (try simp only [Act.put, pA, pB, pC])
      refine wpAnyH_ready (rs := [31]) (by kernel_rfl) (by simp) ?_
      refine AllReadyH.cons rfl (fun K hK => ?_) AllReadyH.nil
      go_simp
      go_at_call 84
      have hp := hHeld.1
      refine (spec_answered x n ai ci zs t _ (HCd.out.on hp) HT.out).mono ?_
      rintro e w' ⟨rfl, hB⟩
      rw [hq.out]
      have hBn := hp.trans (hB.mono hp.size)
      clear hp hB
      (try go_wp2_with fail)
      refine hK.out _ _ ?_ (fun hHeld2 => ?_)
      ·(try dsimp only) <;> (first | exact keep6 hbr HF.out d0 hBn | exact keep6 hbr HF.out d0 hB0)
      clear hK K hHeld
      have hHeld := hHeld2
      clear hHeld2
      (try simp only [Act.put, pA, pB, pC]); refine tk 32 (some 42) rfl hHeld ?_; (try simp only [Act.put, pA, pB, pC]); refine tk 33 (some 43) rfl hHeld ?_; (try simp only [Act.put, pA, pB, pC])
      refine wpAnyH_done (by kernel_rfl) ?_ _
      have HBL := hid hHeld.1
      clear hHeld hB0 c0 c1 c2 c3 c4 HF d0
      cases q
      ·go_wp2_with fail
       go_ret
       exact ⟨ret_bool (HN.out rfl).symm, HB.out.trans (HBL.out.mono HB.out.size)⟩
      ·go_wp2_with fail
       refine ⟨⟨k + 1, by omega, by go_num, HY.out rfl, HB.out.trans (HBL.out.mono HB.out.size)⟩, by simp [intOf]; omega⟩
  ·obtain rfl : k = ls.length := by omega
   have hd : r = decide ((ls.length : Int) ≤ 30) := by rw [← hr.out, rightA_all hok.out]; congr 1; exact propext (by omega)
   go_wp2
   go_ret
   exact ⟨ret_bool hd.symm, hbel⟩
end Go.Proofs.YtmbhmknfipdadaaGreatDoor.AnsW
