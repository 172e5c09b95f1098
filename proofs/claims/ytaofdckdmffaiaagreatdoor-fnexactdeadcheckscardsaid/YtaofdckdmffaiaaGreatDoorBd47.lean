/- Texts of ours, laid together: StbLawD. -/
import Derived.Test.YtaofdckdmffaiaaGreatDoorBd44
import Derived.Test.YtaofdckdmffaiaaGreatDoorBd42
import Derived.Test.YtaofdckdmffaiaaGreatDoorBd35
/- The walk of FnExactDeadChecks. -/
namespace Go.Proofs.YtaofdckdmffaiaaGreatDoor.StbLD
open Go.RowKit
open PrtW NameW ItmW ItmM FrmM FlsM FldK StbM
open StrW hiding hid
open FrmI (EnvF)
open FlsS (own_below)
open StbS (spec_dead)
open StbI (impl_dead)
open FlsL (strs_grown strs_within own_within)

set_option maxRecDepth 10000 in
set_option maxHeartbeats 3200000 in
theorem law_dead (a : Option Addr) (cap : Nat) (ls : List It) (w : World) (hR : RawI w a ls) (hE : EnvF w) :
    Calls Tryz.prog 7 #[.slice a ls.length cap] w fun e w' => e = .returned (.bool true) ∧ Below w.heap.size w w' := by
  have HR := hid hR
  have HE := hid hE
  clear hR hE
  go_enter Tryz.func7, Tryz.ntmps7
  go_wp2_with fail
  refine (szItsL a cap ls 1048576 (Nat.le_refl _) w HR.out).mono ?_
  rintro e w1 ⟨⟨z, rfl, hz, _⟩, hB1⟩
  have HB1 := hid hB1
  by_cases hbig : 1048576 < ls.length + bulkI ls
  · have hz0 : z < 0 := hz.2 hbig
    clear hz hB1
    go_wp2_with fail
    go_ret
    exact ⟨rfl, HB1.out⟩
  · have hz0 : ¬ z < 0 := fun h => hbig (hz.1 h)
    have hP := HR.out.its (by omega)
    have HP1 := hid (hP.on hB1)
    have hl : ls.length ≤ 1048576 := by omega
    have hfl : (deadI ls).length ≤ 1048576 := Nat.le_trans (deadI_len ls) (by omega)
    have htot : totI (fun i => (iex (ls.getD i it0)).length) ls.length ≤ 1048576 := by
      have h1 := tot_bulkI ls ls.length (Nat.le_refl _)
      rw [List.take_length] at h1
      omega
    obtain ⟨F, hF⟩ : ∃ F, Hid (deadI ls = F) := ⟨_, rfl⟩
    rw [hF.out] at hfl
    clear hz hB1 hP
    go_wp2_with fail
    refine (toItsL a cap ls w1 HP1.out).mono ?_
    rintro e w2 ⟨rfl, hP2, hB2⟩
    have HB2 : Hid (Below w.heap.size w w2) := HB1.out.trans (hB2.mono HB1.out.size)
    have HP2 := hid hP2
    clear hP2 hB2
    generalize w1.heap.size = g1 at *
    go_wp2_with fail
    refine (spec_dead (some ⟨g1, 0, none⟩) ls.length ls w2 HP2.out).mono ?_
    rw [hF.out]
    rintro e w3 ⟨⟨a3, cap3, rfl, hS3⟩, hB3⟩
    have HB3 : Hid (Below w.heap.size w w3) := HB2.out.trans (hB3.mono HB2.out.size)
    have HS3 := hid hS3
    clear hB3 HP2 HB2 hS3
    go_wp2_with fail
    refine (toItsR a cap ls w3 (HR.out.its (by omega) |>.on HB3.out)).mono ?_
    rintro e w4 ⟨rfl, hB4, hR4⟩
    have hP4 : Its w4 (some ⟨w3.heap.size, 0, none⟩) ls := hR4.its hl (HR.out.its (by omega)).2.1 (HR.out.its (by omega)).len
    have HB4 : Hid (Below w.heap.size w w4) := HB3.out.trans (hB4.mono HB3.out.size)
    have HP4 := hid hP4
    have HS4 := hid (HS3.out.on hB4)
    obtain ⟨E4, hE4⟩ : ∃ E4, w4.heap.size = E4 := ⟨_, rfl⟩
    have HX4 : Hid (MkI w4 w3.heap.size E4 ls.length fun i => (iex (ls.getD i it0)).length) := by have h := mkI_of hR4; rw [hE4] at h; exact hid h
    have hg3l : w3.heap.size < w4.heap.size := hR4.lt
    have hg3w : w.heap.size ≤ w3.heap.size := HB3.out.size
    have HS3b : Hid (∀ b o, a3 = some ⟨b, o, none⟩ → 0 < F.length → b < w3.heap.size) := fun b o h hp => by
      obtain ⟨b1, o1, h1, h2, _⟩ := HS3.out.2 hp
      rw [h] at h1; cases h1; exact h2
    clear hP4 hB4 HB3 hR4 HS3
    generalize w3.heap.size = g3 at *
    go_wp2_with fail
    refine (impl_dead (some ⟨g3, 0, none⟩) ls.length ls w4 HP4.out (Nat.le_refl _) (HE.out.on HB4.out)).mono ?_
    rw [hF.out]
    rintro e w5 ⟨⟨v, rfl, hown5⟩, hB5⟩
    have HB5 : Hid (Below w.heap.size w w5) := HB4.out.trans (hB5.mono HB4.out.size)
    have HP5 := hid (HP4.out.on hB5)
    have HS5 := hid (HS4.out.on hB5)
    have HX5 := hid (HX4.out.on hB5)
    have HOWN5 := hid hown5
    have hg35 : g3 < w5.heap.size := Nat.lt_of_lt_of_le hg3l hB5.size
    obtain ⟨av, cv, hv, hSv, hcv, hor⟩ := strs_own hown5 hfl
    have HSv := hid hSv
    have HOR := hid hor
    subst hv
    clear hB5 HB4 HP4 HS4 HX4 hown5 hSv hor
    go_wp2_with fail
    refine (eqStrs av a3 cv cap3 F w5 HSv.out HS5.out).mono ?_
    rintro e w6 ⟨rfl, hB6⟩
    have HB6 : Hid (Below w.heap.size w w6) := HB5.out.trans (hB6.mono HB5.out.size)
    have HP6 := hid (HP5.out.on hB6)
    have HS6 := hid (HS5.out.on hB6)
    have HX6 := hid (HX5.out.on hB6)
    have HOWN6 := hid (own_below HOWN5.out hB6)
    have hg36 : g3 < w6.heap.size := Nat.lt_of_lt_of_le hg35 hB6.size
    clear hB6 HB5 HP5 HS5 HX5 HOWN5 HSv
    go_wp2_with fail
    refine (toItsL a cap ls w6 (HR.out.its (by omega) |>.on HB6.out)).mono ?_
    rintro e w7 ⟨rfl, hP7, hB7⟩
    have HB7 : Hid (Below w.heap.size w w7) := HB6.out.trans (hB7.mono HB6.out.size)
    have HP7 := hid hP7
    have HP67 := hid (HP6.out.on hB7)
    have HS7 := hid (HS6.out.on hB7)
    have HX7 := hid (HX6.out.on hB7)
    have HOWN7 := hid (own_below HOWN6.out hB7)
    have hg37 : g3 < w7.heap.size := Nat.lt_of_lt_of_le hg36 hB7.size
    clear hP7 hB7 HB6 HP6 HS6 HX6 HOWN6
    generalize w6.heap.size = g6 at *
    go_wp2_with fail
    refine (eqItsL (some ⟨g3, 0, none⟩) (some ⟨g6, 0, none⟩) ls.length ls.length ls w7 HP67.out HP7.out).mono ?_
    rintro e w8 ⟨rfl, hB8⟩
    have HB8 : Hid (Below w.heap.size w w8) := HB7.out.trans (hB8.mono HB7.out.size)
    have HS8 := hid (HS7.out.on hB8)
    have HX8 := hid (HX7.out.on hB8)
    have HOWN8 := hid (own_below HOWN7.out hB8)
    have hg38 : g3 < w8.heap.size := Nat.lt_of_lt_of_le hg37 hB8.size
    clear hB8 HB7 HP7 HP67 HS7 HX7 HOWN7
    go_wp2_with fail
    refine (mark_items g3 E4 ls.length ls.length (fun i => (iex (ls.getD i it0)).length) w8 HX8.out hl htot).mono ?_
    rintro e w9 ⟨⟨z9, rfl, hz9⟩, hO9⟩
    have HB9 : Hid (Below w.heap.size w w9) := HB8.out.trans (hO9.below hg3w HB8.out.size)
    have HS9 := hid (strs_within HS8.out hO9 HS3b.out)
    have HOWN9 := hid (own_within HOWN8.out hO9 (by omega))
    have hk0 : ¬ z9 < 0 := by omega
    have hk1 : decide (z9 < 0) = false := by simp; omega
    obtain ⟨av9, cv9, hv9, hSv9, -, -⟩ := strs_own HOWN9.out hfl
    cases hv9
    have HSv9 := hid hSv9
    clear hO9 HB8 HS8 HX8 HOWN8 hSv9
    go_wp2_with fail
    refine (eqStrs av a3 cv cap3 F w9 HSv9.out HS9.out).mono ?_
    rintro e w10 ⟨rfl, hB10⟩
    have HB10 : Hid (Below w.heap.size w w10) := HB9.out.trans (hB10.mono HB9.out.size)
    have HS10 := hid (HS9.out.on hB10)
    have HOWN10 := hid (own_below HOWN9.out hB10)
    clear hB10 HB9 HS9 HOWN9 HSv9
    go_wp2_with fail
    refine (mark_strs _ _ F w10 HOWN10.out hfl).mono ?_
    rintro e w11 ⟨rfl, hown11, hgrow11⟩
    have hrow : ∀ k, (Value.slice av F.length cv).ownBlock = some k → w4.heap.size ≤ k := fun k hk => (HOWN10.out.lt k hk).1
    have hw4 : w.heap.size ≤ w4.heap.size := by omega
    have HB11 : Hid (Below w.heap.size w w11) := HB10.out.grown hgrow11 HB10.out.size (fun k hk => Nat.le_trans hw4 (hrow k hk))
    have HS11 := hid (strs_grown HS10.out hgrow11 (fun b o h hp e => by
      have h1 := HS3b.out b o h hp
      have h2 := hrow b e.symm
      omega))
    obtain ⟨av11, cv11, hv11, hSv11, -, -⟩ := strs_own (ss := marks 1 F.length) (by rw [marks_len]; exact hown11) (by rw [marks_len]; exact hfl)
    rw [marks_len] at hv11
    cases hv11
    have HM11 := hid hSv11
    clear hown11 hgrow11 hrow HB10 HS10 HOWN10 hSv11
    go_wp2_with fail
    refine (held_strs av cv F.length w11 HM11.out hfl).mono ?_
    rintro e w12 ⟨rfl, hB12⟩
    have HB12 : Hid (Below w.heap.size w w12) := HB11.out.trans (hB12.mono HB11.out.size)
    have HS12 := hid (HS11.out.on hB12)
    have HM12 := hid (HM11.out.on hB12)
    have hm0 : ¬ (1 + (F.length : Int)) < 0 := by omega
    clear hB12 HB11 HS11 HM11
    go_wp2_with fail
    refine (toItsL a cap ls w12 (HR.out.its (by omega) |>.on HB12.out)).mono ?_
    rintro e w13 ⟨rfl, hP13, hB13⟩
    have HB13 : Hid (Below w.heap.size w w13) := HB12.out.trans (hB13.mono HB12.out.size)
    have HP13 := hid hP13
    have HS13 := hid (HS12.out.on hB13)
    have HM13 := hid (HM12.out.on hB13)
    clear hP13 hB13 HB12 HS12 HM12
    generalize w12.heap.size = g12 at *
    go_wp2_with fail
    refine (impl_dead (some ⟨g12, 0, none⟩) ls.length ls w13 HP13.out (Nat.le_refl _) (HE.out.on HB13.out)).mono ?_
    rw [hF.out]
    rintro e w14 ⟨⟨v14, rfl, hown14⟩, hB14⟩
    have HB14 : Hid (Below w.heap.size w w14) := HB13.out.trans (hB14.mono HB13.out.size)
    have HS14 := hid (HS13.out.on hB14)
    have HM14 := hid (HM13.out.on hB14)
    obtain ⟨a14, c14, hv14, hSv14, -, -⟩ := strs_own hown14 hfl
    subst hv14
    have HSv14 := hid hSv14
    clear hB14 HB13 HP13 HS13 HM13 hown14 hSv14
    go_wp2_with fail
    refine (eqStrs a14 a3 c14 cap3 F w14 HSv14.out HS14.out).mono ?_
    rintro e w15 ⟨rfl, hB15⟩
    have HB15 : Hid (Below w.heap.size w w15) := HB14.out.trans (hB15.mono HB14.out.size)
    have HM15 := hid (HM14.out.on hB15)
    clear hB15 HB14 HS14 HM14 HSv14
    go_wp2_with fail
    refine (held_strs av cv F.length w15 HM15.out hfl).mono ?_
    rintro e w16 ⟨rfl, hB16⟩
    have HB16 : Hid (Below w.heap.size w w16) := HB15.out.trans (hB16.mono HB15.out.size)
    clear hB16 HB15 HM15
    go_wp2_with fail
    go_ret
    exact ⟨rfl, HB16.out⟩
end Go.Proofs.YtaofdckdmffaiaaGreatDoor.StbLD
