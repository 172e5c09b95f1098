/- What Seal of the model answers. -/
import Derived.Test.YtcgaeblegiabjaaDoorSealWalks
namespace Go.Proofs.YtcgaeblegiabjaaDoor.SealW
open Go.RowKit

theorem spec_no (s : ByteArray) (w : World) (hm : s.size ≤ maxLen) (h : 7996 < s.size) :
    Calls Tryd.prog 18 #[.string s] w fun e w' => e = .returned (.string ⟨#[]⟩) ∧ w = w' := by
  unfold maxLen at hm
  go_enter Tryd.func18, Tryd.ntmps18
  go_wp2
  go_ret
  exact ⟨rfl, rfl⟩
set_option maxHeartbeats 400000 in
theorem spec_yes (s : ByteArray) (w : World) (h : s.size ≤ 7996) :
    Calls Tryd.prog 18 #[.string s] w fun e w' => e = .returned (.string ⟨(sealL s).toArray⟩) ∧ Below w.heap.size w w' := by
  have hc := CrcM.crcC_lt 0 s.data.toList
  go_enter Tryd.func18, Tryd.ntmps18
  go_wp2_with fail
  refine (CrcW.spec_l01Crc 0 s _ (by omega) (by omega)).mono ?_
  rintro e w' ⟨rfl, rfl⟩
  go_wp2_with fail
  refine (spec_four _ _ hc).mono ?_
  rintro e w1 ⟨rfl, hB⟩
  have hz : (⟨(fourL (CrcM.crcC 0 s.data.toList)).toArray⟩ : ByteArray).size ≤ 4 := Nat.le_refl 4
  go_wp2
  go_ret
  exact ⟨by rw [cat_laid]; rfl, hB⟩

end Go.Proofs.YtcgaeblegiabjaaDoor.SealW
