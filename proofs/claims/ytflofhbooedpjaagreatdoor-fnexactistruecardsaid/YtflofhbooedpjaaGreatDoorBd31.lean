/- Texts of ours, laid together: EvlLaw2. -/
import Derived.Test.YtflofhbooedpjaaGreatDoorBd30
/- The walk of the law FnExactIsTrue. -/
namespace Go.Proofs.YtflofhbooedpjaaGreatDoor.EvlL
open Go.RowKit
open EvlM EvlS EvlI PrtI
open PrtW (Pt Parts toParts eqParts szPartsX)
open AnsW (An Ans toAnsL eqAnsL szAnsL)

def trueB (ls : List An) (ps : List Pt) : Bool := decide ((evalR ls ps).1 = 2) && decide ((evalR ls ps).2 = 1)
set_option maxRecDepth 10000 in
set_option maxHeartbeats 1600000 in
theorem spec_true (a : Option Addr) (cap : Nat) (ps : List Pt) (la : Option Addr) (lcap : Nat) (ls : List An) (w : World) (hP : Parts w a ps) (hL : Ans w la ls) :
    Calls Tryz.prog 14 #[.slice a ps.length cap, .slice la ls.length lcap] w fun e w' => e = .returned (.bool (trueB ls ps)) ∧ Below w.heap.size w w' := by
  have HP := EvlS.hid hP
  have HL := EvlS.hid hL
  clear hP hL
  unfold trueB
  obtain ⟨r, hr⟩ : ∃ r, Hid (evalR ls ps = r) := ⟨_, rfl⟩
  rw [hr.out]
  obtain ⟨r0, r1⟩ := r
  have heq := eq_res r0 r1 2 1
  go_enter Tryz.func14, Tryz.ntmps14
  go_wp2_with fail
  refine (spec_eval a cap ps la lcap ls w HP.out HL.out).mono ?_
  rintro e w1 ⟨rfl, hB1⟩
  rw [hr.out]
  have HB1 := EvlS.hid hB1
  clear hB1
  go_wp2_with fail
  refine (EvlS.spec_truth true w1).mono ?_
  rintro e w2 ⟨rfl, hB2⟩
  rw [show truthR true = (2, 1) from rfl]
  have HB2 : Hid (Below w.heap.size w w2) := HB1.out.trans (hB2.mono HB1.out.size)
  clear hB2 HB1
  go_wp2_with fail
  go_ret
  exact ⟨rfl, HB2.out⟩
set_option maxRecDepth 10000 in
set_option maxHeartbeats 1600000 in
theorem impl_true (a : Option Addr) (cap : Nat) (ps : List Pt) (la : Option Addr) (lcap : Nat) (ls : List An) (w : World) (hP : Parts w a ps) (hcap : ps.length ≤ cap) (hL : Ans w la ls) (hE : EnvS w) :
    Calls Tryz.prog 15 #[.slice a ps.length cap, .slice la ls.length lcap] w fun e w' => e = .returned (.bool (trueB ls ps)) ∧ Below w.heap.size w w' := by
  have HP := EvlS.hid hP
  have HL := EvlS.hid hL
  have HE := EvlS.hid hE
  clear hP hL hE
  unfold trueB
  obtain ⟨r, hr⟩ : ∃ r, Hid (evalR ls ps = r) := ⟨_, rfl⟩
  rw [hr.out]
  obtain ⟨r0, r1⟩ := r
  have heq := eq_res r0 r1 2 1
  go_enter Tryz.func15, Tryz.ntmps15
  go_wp2_with fail
  refine (impl_eval a cap ps la lcap ls w HP.out hcap HL.out HE.out).mono ?_
  rintro e w1 ⟨rfl, hB1⟩
  rw [hr.out]
  have HB1 := EvlS.hid hB1
  clear hB1
  go_wp2_with fail
  refine (EvlS.impl_truth true w1).mono ?_
  rintro e w2 ⟨rfl, hB2⟩
  rw [show truthR true = (2, 1) from rfl]
  have HB2 : Hid (Below w.heap.size w w2) := HB1.out.trans (hB2.mono HB1.out.size)
  clear hB2 HB1
  go_wp2_with fail
  go_ret
  exact ⟨rfl, HB2.out⟩

set_option maxRecDepth 10000 in
set_option maxHeartbeats 3200000 in
theorem law_true (a : Option Addr) (cap : Nat) (ps : List Pt) (la : Option Addr) (lcap : Nat) (ls : List An) (w : World) (hR : PrtW.Raw w a ps) (hS : AnsW.Raw w la ls) (hE : EnvS w) :
    Calls Tryz.prog 4 #[.slice a ps.length cap, .slice la ls.length lcap] w fun e w' => e = .returned (.bool true) ∧ Below w.heap.size w w' := by
  have HR := EvlS.hid hR
  have HS := EvlS.hid hS
  have HE := EvlS.hid hE
  clear hR hS hE
  obtain ⟨r, hr⟩ : ∃ r, Hid (trueB ls ps = r) := ⟨_, rfl⟩
  go_enter Tryz.func4, Tryz.ntmps4
  go_wp2_with fail
  refine (szPartsX a cap ps w HR.out).mono ?_
  rintro e w1 ⟨⟨z, rfl, hz, hzx⟩, hB1⟩
  have HB1 := EvlS.hid hB1
  by_cases hbig : 1048576 < ps.length + PrtW.bulk ps
  · have hz0 : z < 0 := hz.2 hbig
    clear hz hB1 hzx
    go_wp2_with fail
    go_ret
    exact ⟨rfl, HB1.out⟩
  have hz0 : ¬ z < 0 := fun h => hbig (hz.1 h)
  obtain ⟨zn, hzn⟩ : ∃ zn : Nat, z = zn := ⟨z.toNat, by omega⟩
  subst hzn
  have hznl : zn ≤ 1048576 := by have := hzx (by omega); omega
  have HPp := EvlS.hid (HR.out.parts (by omega))
  have hpl : ps.length ≤ 1048576 := by omega
  clear hz hzx hB1 HR hbig
  go_wp2_with fail
  refine (szAnsL la lcap ls zn hznl w1 ?hraw).mono ?_
  case hraw => exact raw_on HS.out HB1.out
  rintro e w2 ⟨⟨y, rfl, hy, _⟩, hB2⟩
  have HB2 : Hid (Below w.heap.size w w2) := HB1.out.trans (hB2.mono HB1.out.size)
  by_cases hbig2 : zn < ls.length + AnsW.bulk ls
  · have hy0 : y < 0 := hy.2 hbig2
    clear hy hB2
    go_wp2_with fail
    go_ret
    exact ⟨rfl, HB2.out⟩
  have hy0 : ¬ y < 0 := fun h => hbig2 (hy.1 h)
  have HAn := EvlS.hid (HS.out.ans (by omega))
  have hll : ls.length ≤ 1048576 := by omega
  clear hy hB2 HS hbig2 HB1
  go_wp2_with fail
  refine (toParts a cap ps w2 (HPp.out.on HB2.out)).mono ?_
  rintro e w3 ⟨rfl, hP3, hB3⟩
  have HB3 : Hid (Below w.heap.size w w3) := HB2.out.trans (hB3.mono HB2.out.size)
  have HP3 := EvlS.hid hP3
  clear hP3 hB3 HB2
  generalize w2.heap.size = g2 at *
  go_wp2_with fail
  refine (toAnsL la lcap ls w3 (HAn.out.on HB3.out)).mono ?_
  rintro e w4 ⟨rfl, hL4, hB4⟩
  have HB4 : Hid (Below w.heap.size w w4) := HB3.out.trans (hB4.mono HB3.out.size)
  have HP4 := EvlS.hid (HP3.out.on hB4)
  have HL4 := EvlS.hid hL4
  clear hL4 hB4 HB3 HP3
  generalize w3.heap.size = g3 at *
  go_wp2_with fail
  refine (spec_true (some ⟨g2, 0, none⟩) ps.length ps (some ⟨g3, 0, none⟩) ls.length ls w4 HP4.out HL4.out).mono ?_
  rintro e w5 ⟨rfl, hB5⟩
  rw [hr.out]
  have HB5 : Hid (Below w.heap.size w w5) := HB4.out.trans (hB5.mono HB4.out.size)
  clear hB5 HB4 HP4 HL4
  go_wp2_with fail
  refine (toParts a cap ps w5 (HPp.out.on HB5.out)).mono ?_
  rintro e w7 ⟨rfl, hP7, hB7⟩
  have HB7 : Hid (Below w.heap.size w w7) := HB5.out.trans (hB7.mono HB5.out.size)
  have HP7 := EvlS.hid hP7
  clear hP7 hB7 HB5
  generalize w5.heap.size = g6 at *
  go_wp2_with fail
  refine (toAnsL la lcap ls w7 (HAn.out.on HB7.out)).mono ?_
  rintro e w8 ⟨rfl, hL8, hB8⟩
  have HB8 : Hid (Below w.heap.size w w8) := HB7.out.trans (hB8.mono HB7.out.size)
  have HP8 := EvlS.hid (HP7.out.on hB8)
  have HL8 := EvlS.hid hL8
  clear hL8 hB8 HB7 HP7
  generalize w7.heap.size = g7 at *
  go_wp2_with fail
  refine (impl_true (some ⟨g6, 0, none⟩) ps.length ps (some ⟨g7, 0, none⟩) ls.length ls w8 HP8.out (Nat.le_refl _) HL8.out (HE.out.on HB8.out)).mono ?_
  rintro e w9 ⟨rfl, hB9⟩
  rw [hr.out]
  have HB9 : Hid (Below w.heap.size w w9) := HB8.out.trans (hB9.mono HB8.out.size)
  have HP9 := EvlS.hid (HP8.out.on hB9)
  have HL9 := EvlS.hid (HL8.out.on hB9)
  clear hB9 HB8 HP8 HL8
  go_wp2_with fail
  refine (toParts a cap ps w9 (HPp.out.on HB9.out)).mono ?_
  rintro e w11 ⟨rfl, hP11, hB11⟩
  have HB11 : Hid (Below w.heap.size w w11) := HB9.out.trans (hB11.mono HB9.out.size)
  have HQ11 := EvlS.hid hP11
  have HP11 := EvlS.hid (HP9.out.on hB11)
  have HL11 := EvlS.hid (HL9.out.on hB11)
  clear hP11 hB11 HB9 HP9 HL9
  generalize w9.heap.size = g10 at *
  go_wp2_with fail
  refine (eqParts (some ⟨g6, 0, none⟩) (some ⟨g10, 0, none⟩) ps.length ps.length ps w11 HP11.out HQ11.out).mono ?_
  rintro e w12 ⟨rfl, hB12⟩
  have HB12 : Hid (Below w.heap.size w w12) := HB11.out.trans (hB12.mono HB11.out.size)
  have HL12 := EvlS.hid (HL11.out.on hB12)
  clear hB12 HB11 HQ11 HP11 HL11
  go_wp2_with fail
  refine (toAnsL la lcap ls w12 (HAn.out.on HB12.out)).mono ?_
  rintro e w13 ⟨rfl, hL13, hB13⟩
  have HB13 : Hid (Below w.heap.size w w13) := HB12.out.trans (hB13.mono HB12.out.size)
  have HM13 := EvlS.hid hL13
  have HL13 := EvlS.hid (HL12.out.on hB13)
  clear hL13 hB13 HB12 HL12
  generalize w12.heap.size = g12 at *
  go_wp2_with fail
  refine (eqAnsL (some ⟨g7, 0, none⟩) (some ⟨g12, 0, none⟩) ls.length ls.length ls w13 HL13.out HM13.out).mono ?_
  rintro e w14 ⟨rfl, hB14⟩
  have HB14 : Hid (Below w.heap.size w w14) := HB13.out.trans (hB14.mono HB13.out.size)
  clear hB14 HB13 HL13 HM13
  go_wp2_with fail
  go_ret
  exact ⟨rfl, HB14.out⟩
end Go.Proofs.YtflofhbooedpjaaGreatDoor.EvlL
