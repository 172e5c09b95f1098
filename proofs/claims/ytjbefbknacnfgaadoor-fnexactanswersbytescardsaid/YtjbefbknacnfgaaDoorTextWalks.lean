/- What PutText of the program and of the model answers: the bytes of the length, and the text; both make new memory alone. -/
import Derived.Test.YtjbefbknacnfgaaDoorNumWalks
import Derived.Test.YtjbefbknacnfgaaDoorLaidWalks
namespace Go.Proofs.YtjbefbknacnfgaaDoor.TextW
open Go.RowKit

theorem spec_no (s : ByteArray) (w : World) (hm : s.size ≤ maxLen) (h : 8000 < s.size) :
    Calls Tryd.prog 12 #[.string s] w fun e w' => e = .returned (.string ⟨#[]⟩) ∧ w = w' := by
  unfold maxLen at hm
  go_enter Tryd.func12, Tryd.ntmps12
  go_wp2
  go_ret
  exact ⟨rfl, rfl⟩
theorem impl_no (s : ByteArray) (w : World) (hm : s.size ≤ maxLen) (h : 8000 < s.size) :
    Calls Tryd.prog 18 #[.string s] w fun e w' => e = .returned (.string ⟨#[]⟩) ∧ w = w' := by
  unfold maxLen at hm
  go_enter Tryd.func18, Tryd.ntmps18
  go_wp2
  go_ret
  exact ⟨rfl, rfl⟩
def textL (s : ByteArray) : List UInt8 := NumM.putL s.size ++ s.data.toList

theorem size_of (l : List UInt8) : (⟨l.toArray⟩ : ByteArray).size = l.length := rfl
theorem ret_cat (l : List UInt8) (s : ByteArray) : Ending.returned (.string ((⟨l.toArray⟩ : ByteArray) ++ s)) = .returned (.string ⟨(l ++ s.data.toList).toArray⟩) := by
  have : ((⟨l.toArray⟩ : ByteArray) ++ s) = ⟨(l ++ s.data.toList).toArray⟩ := by
    apply ByteArray.ext; simp
  rw [this]
theorem ret_laid (l : List UInt8) (s : ByteArray) : Ending.returned (.string ⟨((⟨l.toArray⟩ : ByteArray).data.toList ++ s.data.toList).toArray⟩) = .returned (.string ⟨(l ++ s.data.toList).toArray⟩) := by
  rfl

set_option maxHeartbeats 400000 in
theorem spec_yes (s : ByteArray) (w : World) (h : s.size ≤ 8000) :
    Calls Tryd.prog 12 #[.string s] w fun e w' => e = .returned (.string ⟨(textL s).toArray⟩) ∧ Below w.heap.size w w' := by
  have hl := NumM.putL_length s.size
  go_enter Tryd.func12, Tryd.ntmps12
  go_wp2_with (go_at_call 11; refine (NumW.spec_put _ _ (by omega) (by omega)).mono ?_; rintro e w1 ⟨rfl, hB1⟩)
  go_ret
  exact ⟨ret_cat _ _, hB1⟩
set_option maxHeartbeats 400000 in
theorem impl_yes (s : ByteArray) (w : World) (h : s.size ≤ 8000) :
    Calls Tryd.prog 18 #[.string s] w fun e w' => e = .returned (.string ⟨(textL s).toArray⟩) ∧ Below w.heap.size w w' := by
  have hl := NumM.putL_length s.size
  go_enter Tryd.func18, Tryd.ntmps18
  go_wp2_with (go_at_call 16; refine (NumW.impl_put _ _ (by omega) (by omega)).mono ?_; rintro e w1 ⟨rfl, hB1⟩)
  refine (LaidW.laid_two _ _ _ (by rw [size_of]; omega)).mono ?_
  rintro e w2 ⟨rfl, hB2⟩
  go_wp2
  go_ret
  exact ⟨ret_laid _ _, hB1.trans (hB2.mono hB1.size)⟩
end Go.Proofs.YtjbefbknacnfgaaDoor.TextW
