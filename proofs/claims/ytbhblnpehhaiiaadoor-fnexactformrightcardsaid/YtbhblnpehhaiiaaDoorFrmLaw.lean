/- The walk of the law FnExactFormRight. -/
import Derived.Test.YtbhblnpehhaiiaaDoorFrmSpD
import Derived.Test.YtbhblnpehhaiiaaDoorFrmImE
import Derived.Test.YtbhblnpehhaiiaaDoorItmSz
namespace Go.Proofs.YtbhblnpehhaiiaaDoor.FrmL
open Go.RowKit
open PrtW NameW ItmW ItmM FrmM
open FrmI (EnvF impl_form)
open FrmS (spec_form)

set_option maxRecDepth 10000 in
set_option maxHeartbeats 3200000 in
theorem law_form (a : Option Addr) (cap : Nat) (ls : List It) (w : World) (hR : RawI w a ls) (hE : EnvF w) :
    Calls Tryd.prog 3 #[.slice a ls.length cap] w fun e w' => e = .returned (.bool true) ∧ Below w.heap.size w w' := by
  have HR := hid hR
  have HE := hid hE
  clear hR hE
  go_enter Tryd.func3, Tryd.ntmps3
  go_wp2_with fail
  refine (szItsL a cap ls 1048576 (Nat.le_refl _) w HR.out).mono ?_
  rintro e w1 ⟨⟨z, rfl, hz, _⟩, hB1⟩
  have HB1 := hid hB1
  by_cases hbig : 1048576 < ls.length + bulkI ls
  · have hz0 : z < 0 := hz.2 hbig
    clear hz hB1
    go_wp2_with fail
    go_ret
    exact ⟨rfl, HB1.out⟩
  · have hz0 : ¬ z < 0 := fun h => hbig (hz.1 h)
    have hP := HR.out.its (by omega)
    have HP0 := hid hP
    have HP1 := hid (hP.on hB1)
    have hl : ls.length ≤ 1048576 := by omega
    clear hz hB1 hP hbig
    go_wp2_with fail
    refine (toItsL a cap ls w1 HP1.out).mono ?_
    rintro e w2 ⟨rfl, hP2, hB2⟩
    have HB2 : Hid (Below w.heap.size w w2) := HB1.out.trans (hB2.mono HB1.out.size)
    have HP2 := hid hP2
    clear hP2 hB2
    generalize w1.heap.size = g1 at *
    go_wp2_with fail
    refine (spec_form (some ⟨g1, 0, none⟩) ls.length ls w2 HP2.out).mono ?_
    rintro e w3 ⟨rfl, hB3⟩
    have HB3 : Hid (Below w.heap.size w w3) := HB2.out.trans (hB3.mono HB2.out.size)
    obtain ⟨r, hr⟩ : ∃ r, Hid (formB ls = r) := ⟨_, rfl⟩
    rw [hr.out]
    clear hB3 HP2 HB2
    go_wp2_with fail
    refine (toItsL a cap ls w3 (HP0.out.on HB3.out)).mono ?_
    rintro e w4 ⟨rfl, hP4, hB4⟩
    have HB4 : Hid (Below w.heap.size w w4) := HB3.out.trans (hB4.mono HB3.out.size)
    have HP4 := hid hP4
    clear hP4 hB4 HB3
    generalize w3.heap.size = g3 at *
    go_wp2_with fail
    refine (impl_form (some ⟨g3, 0, none⟩) ls.length ls w4 HP4.out (Nat.le_refl _) (HE.out.on HB4.out)).mono ?_
    rintro e w5 ⟨rfl, hB5⟩
    have HB5 : Hid (Below w.heap.size w w5) := HB4.out.trans (hB5.mono HB4.out.size)
    have HP5 := hid (HP4.out.on hB5)
    rw [hr.out]
    clear hB5 HB4 HP4
    go_wp2_with fail
    refine (toItsL a cap ls w5 (HP0.out.on HB5.out)).mono ?_
    rintro e w6 ⟨rfl, hP6, hB6⟩
    have HB6 : Hid (Below w.heap.size w w6) := HB5.out.trans (hB6.mono HB5.out.size)
    have HP6 := hid hP6
    have HP5' := hid (HP5.out.on hB6)
    clear hP6 hB6 HB5 HP5
    generalize w5.heap.size = g5 at *
    go_wp2_with fail
    refine (eqItsL (some ⟨g3, 0, none⟩) (some ⟨g5, 0, none⟩) ls.length ls.length ls w6 HP5'.out HP6.out).mono ?_
    rintro e w7 ⟨rfl, hB7⟩
    have HB7 : Hid (Below w.heap.size w w7) := HB6.out.trans (hB7.mono HB6.out.size)
    clear hB7 HB6 HP6 HP5'
    go_wp2_with fail
    go_ret
    exact ⟨rfl, HB7.out⟩
end Go.Proofs.YtbhblnpehhaiiaaDoor.FrmL
