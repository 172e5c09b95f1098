/- What Seal of the program and of the model answers: the text and the four bytes of its CRC; both make new memory alone. -/
import Derived.Test.YtcgaeblegiabjaaDoorCrcWalks
import Derived.Test.YtcgaeblegiabjaaDoorLaidWalks
namespace Go.Proofs.YtcgaeblegiabjaaDoor.SealW
open Go.RowKit

def fourL (c : Nat) : List UInt8 := [UInt8.ofNat (c % 256), UInt8.ofNat (c / 256 % 256), UInt8.ofNat (c / 65536 % 256), UInt8.ofNat (c / 16777216 % 256)]

theorem cells_four (c : Nat) (h : c < 4294967296) : #[Value.int IntKind.u8 ((c : Int) % 256), Value.int IntKind.u8 ((c : Int) / 256 % 256), Value.int IntKind.u8 ((c : Int) / 65536 % 256), Value.int IntKind.u8 ((c : Int) / 16777216)] =
    (CopyS.cellsB (fourL c)).toArray := by
  have e : ∀ x : Nat, (UInt8.ofNat (x % 256)).toNat = x % 256 := by intro x; simp
  have e4 : c / 16777216 % 256 = c / 16777216 := by omega
  unfold CopyS.cellsB fourL
  simp only [List.map_cons, List.map_nil, e]
  rw [e4]; simp
theorem conv_four (c : Nat) (w : World) (h : c < 4294967296) (t : TypeId) :
    (convert 22 9 (.slice (some ⟨w.heap.size, 0, none⟩) 4 4)).run Tryd.prog (w.alloc (.cells #[Value.int IntKind.u8 ((c : Int) % 256), Value.int IntKind.u8 ((c : Int) / 256 % 256), Value.int IntKind.u8 ((c : Int) / 65536 % 256), Value.int IntKind.u8 ((c : Int) / 16777216)] t)) =
      .ok (.string ⟨(fourL c).toArray⟩) (w.alloc (.cells #[Value.int IntKind.u8 ((c : Int) % 256), Value.int IntKind.u8 ((c : Int) / 256 % 256), Value.int IntKind.u8 ((c : Int) / 65536 % 256), Value.int IntKind.u8 ((c : Int) / 16777216)] t)) := by
  rw [cells_four c h]
  exact LaidW.conv_row (n := 4) (heap_alloc_new w _) rfl

set_option maxHeartbeats 400000 in
theorem spec_four (c : Nat) (w : World) (h : c < 4294967296) :
    Calls Tryd.prog 42 #[.int .i64 c] w fun e w' => e = .returned (.string ⟨(fourL c).toArray⟩) ∧ Below w.heap.size w w' := by
  have hcv := conv_four c w h 5
  go_enter Tryd.func42, Tryd.ntmps42
  go_wp2
  go_ret
  exact ⟨rfl, (Below.refl _ _).alloc (Nat.le_refl _) _⟩

set_option maxHeartbeats 400000 in
theorem impl_sum (s : ByteArray) (w : World) (h : s.size ≤ 8000) :
    Calls Tryd.prog 41 #[.string s] w fun e w' => e = .returned (.string ⟨(fourL (CrcM.crcC 0 s.data.toList)).toArray⟩) ∧ Below w.heap.size w w' := by
  have hc := CrcM.crcC_lt 0 s.data.toList
  go_enter Tryd.func41, Tryd.ntmps41
  go_wp2_with (go_at_call 24; refine (CrcW.impl_Crc _ _ h).mono ?_; rintro e w' ⟨rfl, rfl⟩)
  generalize hce : CrcM.crcC 0 s.data.toList = c at *
  have HC : Hid (CrcM.crcC 0 s.data.toList = c) := hce
  clear hce
  refine wp_loop_rounds 5 ?_
  rw [rounds_succ]
  go_wp2
  rw [rounds_succ]
  go_wp2
  rw [rounds_succ]
  go_wp2
  rw [rounds_succ]
  go_wp2
  rw [rounds_succ]
  have hcv := conv_four c w hc 73
  go_wp2
  go_ret
  exact ⟨by rw [HC.out]; rfl, (Below.refl _ _).alloc (Nat.le_refl _) _⟩

def sealL (s : ByteArray) : List UInt8 := s.data.toList ++ fourL (CrcM.crcC 0 s.data.toList)
theorem cat_laid (l : List UInt8) (s : ByteArray) : (s ++ (⟨l.toArray⟩ : ByteArray)) = ⟨(s.data.toList ++ l).toArray⟩ := by
  apply ByteArray.ext; simp

theorem impl_no (s : ByteArray) (w : World) (hm : s.size ≤ maxLen) (h : 7996 < s.size) :
    Calls Tryd.prog 17 #[.string s] w fun e w' => e = .returned (.string ⟨#[]⟩) ∧ w = w' := by
  unfold maxLen at hm
  go_enter Tryd.func17, Tryd.ntmps17
  go_wp2
  go_ret
  exact ⟨rfl, rfl⟩

set_option maxHeartbeats 400000 in
theorem impl_yes (s : ByteArray) (w : World) (h : s.size ≤ 7996) :
    Calls Tryd.prog 17 #[.string s] w fun e w' => e = .returned (.string ⟨(sealL s).toArray⟩) ∧ Below w.heap.size w w' := by
  go_enter Tryd.func17, Tryd.ntmps17
  go_wp2_with fail
  refine (impl_sum s _ (by omega)).mono ?_
  rintro e w1 ⟨rfl, hB1⟩
  have hz : (⟨(fourL (CrcM.crcC 0 s.data.toList)).toArray⟩ : ByteArray).size ≤ 4 := Nat.le_refl 4
  go_wp2_with fail
  refine (LaidW.laid_two _ _ _ (by omega)).mono ?_
  rintro e w2 ⟨rfl, hB2⟩
  go_wp2
  go_ret
  exact ⟨rfl, hB1.trans (hB2.mono hB1.size)⟩
end Go.Proofs.YtcgaeblegiabjaaDoor.SealW
