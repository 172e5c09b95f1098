/- What promise 4 leans on: the product in parts, hundredths of a hundred, a root's square. -/
import Derived.Test.YthplmgjnlhcapaaFixTP
import Derived.Test.YthplmgjnlhcapaaFixRoot
import Derived.Test.YthplmgjnlhcapaaFixPartsTop
import Derived.Test.YthplmgjnlhcapaaFixTimesTop
namespace Go.Proofs.Ythplmgjnlhcapaa.ScaF
open Go.RowKit
open FixS FixM FixQ FixTi FixMu FixSh FixTP FixR

theorem cast_div (a b : Nat) : ((a / b : Nat) : Int) = (a : Int) / (b : Int) := Int.natCast_ediv a b
theorem product_parts (a b c m : Int) (z : Int × Int) (ha : 0 ≤ a) (hb : 0 ≤ b) (hz : timesR a b = z) (hk : z.2 = 0) : timespartsR a b c m = partsR z.1 c m := by
  by_cases hab : (-1000000000000000 ≤ a ∧ a ≤ 1000000000000000) ∧ (-1000000000000000 ≤ b ∧ b ≤ 1000000000000000)
  · rw [times_yes a b hab.1 hab.2] at hz
    by_cases hp : a.natAbs * b.natAbs ≤ 1000000000000000
    · rw [timesF_ok hp] at hz
      subst hz
      obtain ⟨A, rfl⟩ : ∃ A : Nat, a = (A : Int) := ⟨a.toNat, by omega⟩
      obtain ⟨B, rfl⟩ : ∃ A : Nat, b = (A : Int) := ⟨b.toNat, by omega⟩
      simp only [Int.natAbs_natCast] at hp
      show _ = partsR ((A : Int) * (B : Int)) c m
      rw [← Int.natCast_mul]
      by_cases hcm : (1 ≤ c ∧ c ≤ 1000000000000000) ∧ (0 ≤ m ∧ m ≤ 2)
      · obtain ⟨C, rfl⟩ : ∃ A : Nat, c = (A : Int) := ⟨c.toNat, by omega⟩
        rw [tp_yes _ _ _ _ (by omega) (by omega) hcm.1 hcm.2, parts_yes _ _ _ (by omega) hcm.1 hcm.2]
        simp only [Int.toNat_natCast]
        rw [share_ok (Nat.le_trans (Nat.div_le_self _ _) hp)]
        have hb := parts_bounds ((A * B : Nat) : Int) (C : Int) m hcm.1.1 (by omega) (by omega)
        unfold partsQ at hb ⊢
        rw [Int.natCast_ediv, Int.natCast_emod]
        unfold outR
        rw [if_pos ((inM_iff _).2 hb)]
      · rw [tp_no _ _ _ _ (fun h => hcm ⟨h.2.2.1, h.2.2.2⟩), parts_no _ _ _ (fun h => hcm ⟨h.2.1, h.2.2⟩)]
    · rw [timesF_no hp] at hz; subst hz; simp at hk
  · rw [times_no a b hab] at hz; subst hz; simp at hk
theorem hundred (m : Int) (h : 0 ≤ m ∧ m ≤ 1000000000000000) : percentR m 100 = (m, 0) := by
  rw [pc_yes m 100 h (by omega)]
  obtain ⟨A, rfl⟩ : ∃ A : Nat, m = (A : Int) := ⟨m.toNat, by omega⟩
  simp only [Int.toNat_natCast]
  have e : (100 : Int).toNat = 100 := rfl
  rw [e]
  have e1 : A * 100 / 100 = A := by omega
  have e2 : A * 100 % 100 = 0 := by omega
  rw [share_ok (by rw [e1]; omega), e1, e2, round_no (by omega)]
  unfold outR
  rw [if_pos ((inM_iff _).2 (by omega))]
theorem root_facts (n : Int) (r : Int × Int) (hr : rootR n = r) : (r.2 = 1) ∨ (r.2 = 0 ∧ ∃ k x y : Nat, r.1 = (k : Int) ∧ k ≤ 31622776 ∧ k * k = x ∧ (k + 1) * (k + 1) = y ∧ (x : Int) ≤ n ∧ n < (y : Int) ∧ x ≤ 1000000000000000 ∧ y ≤ 10000000000000000) := by
  by_cases h : 0 ≤ n ∧ n ≤ 1000000000000000
  · rw [root_yes n h] at hr
    subst hr
    right
    have h1 := root_le n.toNat
    have h2 := root_lt n.toNat
    have h3 := root_small n.toNat (by omega)
    have h4 : (rootN n.toNat + 1) * (rootN n.toNat + 1) ≤ 31622777 * 31622777 := Nat.mul_le_mul (by omega) (by omega)
    exact ⟨rfl, rootN n.toNat, _, _, rfl, h3, rfl, rfl, by omega, by omega, by omega, by omega⟩
  · rw [root_no n h] at hr
    subst hr
    left; rfl
end Go.Proofs.Ythplmgjnlhcapaa.ScaF
