/- Marks over all answers of a list of the laws' own. -/
import Derived.Test.YtfnimiimplphkaaMarkAns
namespace Go.Proofs.Ytfnimiimplphkaa.AnsW
open Go.RowKit
open ValW

def tot (len : Nat → Nat) : Nat → Nat
  | 0 => 0
  | i + 1 => tot len i + len i
theorem tot_le (len : Nat → Nat) {i j : Nat} (h : i ≤ j) : tot len i ≤ tot len j := by
  induction h with
  | refl => exact Nat.le_refl _
  | step _ ih => exact Nat.le_trans ih (Nat.le_add_right _ _)
theorem tot_bulk (ls : List An) : ∀ k, k ≤ ls.length → tot (fun i => (cd (ls.getD i an0)).length) k ≤ bulk (ls.take k)
  | 0, _ => Nat.zero_le _
  | k + 1, hk => by
    have ih := tot_bulk ls k (by omega)
    have hb := bulk_take ls k (by omega)
    unfold wt at hb
    show tot (fun i => (cd (ls.getD i an0)).length) k + (cd (ls.getD k an0)).length ≤ _
    omega

set_option maxRecDepth 10000 in
set_option maxHeartbeats 3200000 in
theorem mark_answers (g e n cap : Nat) (len : Nat → Nat) (w : World) (hM : MkA w g e n len) (hn : n ≤ 1048576) (ht : tot len n ≤ 1048576) :
    Calls Try.prog 13 #[.slice (some ⟨g, 0, none⟩) n cap, .int .i64 1] w fun r w' => (∃ z : Int, r = .returned (.int .i64 z) ∧ 0 ≤ z) ∧ Within w w' g e := by
  have HM := hid hM
  have hge := hM.1
  clear hM
  go_enter Try.func13, Try.ntmps13
  go_wp2
  go_loopw [1, 5] (fun kv iv wr => ∃ i kk : Nat, i ≤ n ∧ iv = .int .i64 i ∧ kv = .int .i64 kk ∧ 1 ≤ kk ∧ kk ≤ 1 + 4 * i + tot len i ∧ Hid (MkA wr g e n len) ∧ Hid (Within w wr g e)) (fun _ i _ => n - (intOf i).toNat)
  case atStart => exact ⟨0, 1, Nat.zero_le _, rfl, rfl, Nat.le_refl _, by omega, HM, Within.refl _ _ _⟩
  case round =>
    obtain ⟨i, kk, hi, rfl, rfl, hk1, hk2, hA, hW⟩ := hrel
    by_cases hlt : i < n
    · have htl := tot_le len (show i + 1 ≤ n by omega)
      have hts : tot len (i + 1) = tot len i + len i := rfl
      have hkb : kk ≤ 20000000 := by omega
      go_wp2_with fail
      refine (MarkT.mark_text kk wr hk1 (by omega)).mono ?_
      rintro r w1 ⟨rfl, hB1⟩
      have HA1 := hid (hA.out.on hB1)
      have HW1 := hid (hW.out.on hB1)
      obtain ⟨T1, hT1⟩ : ∃ T : ByteArray, Hid ((⟨(MarkT.markL kk).toArray⟩ : ByteArray) = T) := ⟨_, rfl⟩
      rw [hT1.out]
      clear hB1 hA hW
      obtain ⟨⟨v0, r0⟩, f0⟩ := HA1.out.room (j := i * 5) (by omega)
      obtain ⟨⟨v1, r1⟩, f1⟩ := HA1.out.room (j := i * 5 + 1) (by omega)
      obtain ⟨⟨v2, r2⟩, f2⟩ := HA1.out.room (j := i * 5 + 2) (by omega)
      obtain ⟨g', hg1, hg2, r3, zs, hz, hgz⟩ := HA1.out.at hlt
      have HGZ := hid hgz
      have hkw1 : IntKind.i64.wrap ((kk : Int) + 1) = (kk : Int) + 1 := by rw [IntKind.wrap_i64]; omega
      have HA2 : Hid (MkA (((w1.setCell ⟨g, i * 5, none⟩ (.string T1)).setCell ⟨g, i * 5 + 1, none⟩ (.int .i64 ((kk : Int) + 1))).setCell ⟨g, i * 5 + 2, none⟩ (.int .i64 ((kk : Int) + 1 + 1))) g e n len) := ((HA1.out.set _ (fun j _ => by omega) _).set _ (fun j _ => by omega) _).set _ (fun j _ => by omega) _
      have HW2 : Hid (Within w (((w1.setCell ⟨g, i * 5, none⟩ (.string T1)).setCell ⟨g, i * 5 + 1, none⟩ (.int .i64 ((kk : Int) + 1))).setCell ⟨g, i * 5 + 2, none⟩ (.int .i64 ((kk : Int) + 1 + 1))) g e) := ((HW1.out.set hge _ _).set hge _ _).set hge _ _
      have HG2 : Hid ((((w1.setCell ⟨g, i * 5, none⟩ (.string T1)).setCell ⟨g, i * 5 + 1, none⟩ (.int .i64 ((kk : Int) + 1))).setCell ⟨g, i * 5 + 2, none⟩ (.int .i64 ((kk : Int) + 1 + 1))).heap[g']? = some (.cells (cellsI zs).toArray 2 (0, 0))) := blk_other (blk_other (blk_other HGZ.out (by simp only; omega) _) (by simp only; omega) _) (by simp only; omega) _
      clear hgz HGZ HA1 HW1
      go_wp2_with fail
      rw [← hz]
      refine (mark_block g' zs zs.length ((kk : Int) + 1 + 1 + 1) _ HG2.out (by omega) (by omega) (by omega)).mono ?_
      rintro r w2 ⟨rfl, q1, q2, q3, q4, q5, q6⟩
      have HA3 := hid (HA2.out.codes hg1 HG2.out (rowM_len _ _ _) q5 (fun j _ hj => q6 j hj))
      have HW3 : Hid (Within w w2 g e) := HW2.out.trans ⟨q1, q2, q3, by omega, fun j _ hj => q6 j (by omega)⟩
      clear q1 q2 q3 q4 q5 q6 HA2 HW2 HG2 r0 r1 r2 r3 f0 f1 f2
      obtain ⟨kn, hkn⟩ : ∃ kn : Nat, (kk : Int) + 1 + 1 + 1 + (zs.length : Int) = (kn : Int) := ⟨kk + 3 + zs.length, by omega⟩
      rw [hkn]
      have hkn1 : 1 ≤ kn := by omega
      have hkn2 : kn ≤ 4 + 4 * i + tot len (i + 1) := by omega
      have hkn3 : kn ≤ 30000000 := by omega
      clear hkn hkw1
      go_wp2_with fail
      refine (MarkT.mark_text kn w2 hkn1 (by omega)).mono ?_
      rintro r w3 ⟨rfl, hB3⟩
      have HA4 := hid (HA3.out.on hB3)
      have HW4 := hid (HW3.out.on hB3)
      obtain ⟨T2, hT2⟩ : ∃ T : ByteArray, Hid ((⟨(MarkT.markL kn).toArray⟩ : ByteArray) = T) := ⟨_, rfl⟩
      rw [hT2.out]
      clear hB3 HA3 HW3
      obtain ⟨⟨v4, r4⟩, f4⟩ := HA4.out.room (j := i * 5 + 4) (by omega)
      go_wp2_with fail
      refine ⟨⟨i + 1, kn + 1, by omega, by go_num, by go_num, by omega, by omega, HA4.out.set _ (fun j _ => by omega) _, HW4.out.set hge _ _⟩, by simp [intOf]; omega⟩
    · obtain rfl : i = n := by omega
      go_wp2
      go_ret
      exact ⟨⟨_, rfl, by omega⟩, hW.out⟩
end Go.Proofs.Ytfnimiimplphkaa.AnsW
