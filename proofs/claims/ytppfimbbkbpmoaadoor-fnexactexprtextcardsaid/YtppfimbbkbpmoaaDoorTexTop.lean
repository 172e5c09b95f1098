/- ExprText of the program. -/
import Derived.Test.YtppfimbbkbpmoaaDoorTexHead
namespace Go.Proofs.YtppfimbbkbpmoaaDoor.TexI
open Go.RowKit
open PrtW PrtM NameW PrtS PrtI DecM TexM

def EnvX (w : World) : Prop := EnvS w ∧ DecI.Env w
theorem EnvX.on {w w' : World} (h : EnvX w) (hB : Below w.heap.size w w') : EnvX w' := ⟨h.1.on hB, h.2.on hB⟩

set_option maxHeartbeats 800000 in
theorem impl_text (a : Option Addr) (cap : Nat) (ps : List Pt) (w : World) (hP : Parts w a ps) (hcap : ps.length ≤ cap) (hE : EnvX w) :
    Calls Tryd.prog 15 #[.slice a ps.length cap] w fun e w' => e = .returned (.string (textB ps)) ∧ Below w.heap.size w w' := by
  have hl := hP.1
  have HP := hid hP
  have HE := hid hE
  clear hP hE
  unfold textB
  obtain ⟨r, hr⟩ : ∃ r, Hid (rightB ps = r) := ⟨_, rfl⟩
  rw [hr.out]
  cases r
  · rw [if_neg (by decide)]
    go_enter Tryd.func15, Tryd.ntmps15
    go_wp2_with fail
    refine (impl_right a cap ps w HP.out hcap HE.out.1).mono ?_
    rintro e w1 ⟨rfl, hB⟩
    rw [hr.out]
    have HB := hid hB
    clear hB
    go_wp2_with fail
    go_ret
    exact ⟨rfl, HB.out⟩
  · rw [if_pos rfl]
    obtain ⟨h20, hbd⟩ := right_behind hr.out
    obtain ⟨T, hT⟩ : ∃ T : ByteArray, Hid ((⟨(txt 6 ps).toArray⟩ : ByteArray) = T) := ⟨_, rfl⟩
    rw [hT.out]
    have HBD := hid hbd
    clear hbd
    go_enter Tryd.func15, Tryd.ntmps15
    go_wp2_with fail
    refine (impl_right a cap ps w HP.out hcap HE.out.1).mono ?_
    rintro e w1 ⟨rfl, hB⟩
    rw [hr.out]
    have HB := hid hB
    have HP1 := hid (HP.out.on hB)
    have HE1 := hid (HE.out.on hB)
    clear hB
    go_wp2_with fail
    refine (impl_txt 6 ps [] a cap w1 HBD.out h20 HP1.out hcap HE1.out.1 HE1.out.2).mono ?_
    rintro e w2 ⟨⟨a', cap', rfl, -, -⟩, hB2⟩
    have HB2 : Hid (Below w.heap.size w w2) := HB.out.trans (hB2.mono HB.out.size)
    rw [hT.out]
    clear hB2
    go_wp2_with fail
    go_ret
    exact ⟨rfl, HB2.out⟩
end Go.Proofs.YtppfimbbkbpmoaaDoor.TexI
