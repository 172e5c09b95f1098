/- What the CRC functions of the model's face answer. -/
import Derived.Test.YtcgaeblegiabjaaDoorCrcWalks
namespace Go.Proofs.YtcgaeblegiabjaaDoor.CrcW
open Go.RowKit

theorem spec_CrcMore_no (crc : Int) (s : ByteArray) (w : World) (hs : s.size ≤ maxLen) (h : 8000 < s.size ∨ crc < 0 ∨ 4294967295 < crc) :
    Calls Tryd.prog 23 #[.int .i64 crc, .string s] w fun e w' => e = .returned (.int .i64 0) ∧ w = w' := by
  unfold maxLen at hs
  rcases h with h | h | h
  · go_enter Tryd.func23, Tryd.ntmps23
    go_wp2
    go_ret
    exact ⟨rfl, rfl⟩
  · by_cases h8 : 8000 < s.size
    all_goals
      go_enter Tryd.func23, Tryd.ntmps23
      go_wp2
      go_ret
      exact ⟨rfl, rfl⟩
  · by_cases h8 : 8000 < s.size
    all_goals
      have h0 : ¬ crc < 0 := by omega
      go_enter Tryd.func23, Tryd.ntmps23
      go_wp2
      go_ret
      exact ⟨rfl, rfl⟩

theorem spec_CrcMore (crc : Nat) (s : ByteArray) (w : World) (hc : crc < 4294967296) (hs : s.size ≤ 8000) :
    Calls Tryd.prog 23 #[.int .i64 crc, .string s] w fun e w' => e = .returned (.int .i64 (CrcM.crcC crc s.data.toList)) ∧ w = w' := by
  go_enter Tryd.func23, Tryd.ntmps23
  go_wp2_with (go_at_call 43; refine (spec_l01Crc _ _ _ hc hs).mono ?_; rintro e w' ⟨rfl, rfl⟩)
  go_ret
  exact ⟨rfl, rfl⟩

theorem spec_Crc (s : ByteArray) (w : World) (hs : s.size ≤ 8000) :
    Calls Tryd.prog 46 #[.string s] w fun e w' => e = .returned (.int .i64 (CrcM.crcC 0 s.data.toList)) ∧ w = w' := by
  go_enter Tryd.func46, Tryd.ntmps46
  go_wp2_with (go_at_call 43; refine (spec_l01Crc 0 _ _ (by omega) hs).mono ?_; rintro e w' ⟨rfl, rfl⟩)
  go_ret
  exact ⟨rfl, rfl⟩

theorem spec_Crc_no (s : ByteArray) (w : World) (hm : s.size ≤ maxLen) (hs : 8000 < s.size) :
    Calls Tryd.prog 46 #[.string s] w fun e w' => e = .returned (.int .i64 0) ∧ w = w' := by
  unfold maxLen at hm
  go_enter Tryd.func46, Tryd.ntmps46
  go_wp2
  go_ret
  exact ⟨rfl, rfl⟩

end Go.Proofs.YtcgaeblegiabjaaDoor.CrcW
