/- What the CRC functions of the program and of the model answer, as one plain function of the text; they leave the world as it is. -/
import Derived.Test.YtcgaeblegiabjaaDoorProg
import Derived.Test.YtcgaeblegiabjaaDoorCrcMath
import Derived.WalkKit
import Derived.WalkSpells
import Derived.WalkLawsBesides
namespace Go.Proofs.YtcgaeblegiabjaaDoor.CrcW
open Go.RowKit

theorem ret_int {k : IntKind} {a b : Int} (h : a = b) : Ending.returned (.int k a) = .returned (.int k b) := by rw [h]
theorem and_one (x : Nat) (hx : x < 4294967296) : bits .and .u32 (x : Int) 1 = ((x % 2 : Nat) : Int) := by
  have := u32_and_nat x 1 hx (by omega)
  rw [nat_mask1] at this; exact this
theorem step_yes (x : Nat) (hx : x < 4294967296) (h : (bits .and .u32 (x : Int) 1 == 1) = true) :
    bits .xor .u32 ((x : Int) / 2) 3988292384 = (CrcM.stepC x : Int) := by
  rw [and_one x hx, beq_iff_eq] at h
  have h2 : x % 2 = 1 := by omega
  have e : ((x : Int) / 2) = ((x / 2 : Nat) : Int) := by omega
  rw [e]
  have := u32_xor_nat (x / 2) 3988292384 (by omega) (by omega)
  rw [show ((3988292384 : Nat) : Int) = 3988292384 from rfl] at this
  rw [this]; unfold CrcM.stepC; rw [if_pos h2]
theorem step_no (x : Nat) (hx : x < 4294967296) (h : (bits .and .u32 (x : Int) 1 == 1) = false) :
    ((x : Int) / 2) = (CrcM.stepC x : Int) := by
  rw [and_one x hx, beq_eq_false_iff_ne] at h
  have h2 : ¬ x % 2 = 1 := by omega
  unfold CrcM.stepC; rw [if_neg h2]; omega
theorem val_u32 {a b : Int} (h : a = b) : Value.int .u32 a = Value.int .u32 b := by rw [h]
theorem xor_val (r b : Nat) (hr : r < 4294967296) (hb : b < 256) : bits .xor .u32 (r : Int) (b : Int) = ((r ^^^ b : Nat) : Int) :=
  u32_xor_nat r b hr (by omega)

set_option maxHeartbeats 400000 in
theorem shifted (r b : Nat) (w : World) (hr : r < 4294967296) (hb : b < 256) :
    Calls Tryd.prog 47 #[.int .u32 r, .int .u8 b] w fun e w' => e = .returned (.int .u32 (CrcM.byteC r b)) ∧ w = w' := by
  go_enter Tryd.func47, Tryd.ntmps47
  go_wp2
  go_loop [0, 5, 10] (fun q _ i => ∃ k : Nat, k ≤ 8 ∧ i = .int .i64 k ∧ q = .int .u32 (CrcM.stepsC k (r ^^^ b))) (fun _ _ i => 8 - (intOf i).toNat)
  case atStart => exact ⟨0, Nat.zero_le _, rfl, val_u32 (xor_val r b hr hb)⟩
  case round =>
    obtain ⟨k, hk, rfl, rfl⟩ := hrel
    have hq := CrcM.stepsC_lt k _ (CrcM.xor_lt r b hr (by omega))
    generalize hx : CrcM.stepsC k (r ^^^ b) = x at *
    have HX : Hid (CrcM.stepsC k (r ^^^ b) = x) := hx
    clear hx
    by_cases hlt : k < 8
    · have HS : Hid (CrcM.stepsC (k + 1) (r ^^^ b) = CrcM.stepC x) := by rw [← HX.out]; rfl
      go_wp2
      · refine ⟨⟨k + 1, by omega, by go_num, ?_⟩, by simp [intOf]; omega⟩
        rw [HS.out]; exact val_u32 (step_yes x hq (by assumption))
      · refine ⟨⟨k + 1, by omega, by go_num, ?_⟩, by simp [intOf]; omega⟩
        rw [HS.out]; exact val_u32 (step_no x hq (by assumption))
    · go_wp2
      go_ret
      refine ⟨ret_int ?_, rfl⟩
      have : k = 8 := by omega
      subst this
      rw [← HX.out]; rfl

theorem wrap_crc (crc : Nat) (l : List UInt8) : wrap64 ((4294967295 - CrcM.fromC (4294967295 - crc) l : Nat) : Int) = (CrcM.crcC crc l : Int) := by
  unfold CrcM.crcC; unfold wrap64; omega
theorem xor_ones (c : Nat) (h : c < 4294967296) : bits .xor .u32 (c : Int) 4294967295 = ((4294967295 - c : Nat) : Int) := by
  have := u32_xor_nat c 4294967295 h (by omega)
  rw [CrcM.xor_ones c h] at this; exact this
theorem ones_xor (c : Nat) (h : c < 4294967296) : bits .xor .u32 IntKind.u32.max (c : Int) = ((4294967295 - c : Nat) : Int) := by
  have := u32_xor_nat 4294967295 c (by omega) h
  rw [Nat.xor_comm, CrcM.xor_ones c h] at this; exact this

set_option maxHeartbeats 400000 in
theorem spec_l01Crc (crc : Nat) (s : ByteArray) (w : World) (hc : crc < 4294967296) (hs : s.size ≤ 8000) :
    Calls Tryd.prog 43 #[.int .i64 crc, .string s] w fun e w' => e = .returned (.int .i64 (CrcM.crcC crc s.data.toList)) ∧ w = w' := by
  go_enter Tryd.func43, Tryd.ntmps43
  go_wp2
  go_loop [5, 6, 7] (fun q i _ => ∃ k : Nat, k ≤ s.size ∧ i = .int .i64 k ∧ q = .int .u32 (CrcM.fromC (4294967295 - crc) (s.data.toList.take k))) (fun _ i _ => s.size - (intOf i).toNat)
  case atStart => exact ⟨0, Nat.zero_le _, rfl, val_u32 (xor_ones crc hc)⟩
  case round =>
    obtain ⟨k, hk, rfl, rfl⟩ := hrel
    have hq := CrcM.fromC_lt (s.data.toList.take k) (4294967295 - crc) (by omega)
    generalize hx : CrcM.fromC (4294967295 - crc) (s.data.toList.take k) = x at *
    have HX : Hid (CrcM.fromC (4294967295 - crc) (s.data.toList.take k) = x) := hx
    clear hx
    by_cases hlt : k < s.size
    · have hb : s[k].toNat < 256 := s[k].toNat_lt
      have HS : Hid (CrcM.fromC (4294967295 - crc) (s.data.toList.take (k + 1)) = CrcM.byteC x s[k].toNat) := by
        rw [CrcM.take_snoc s k hlt, CrcM.fromC_snoc, HX.out]; exact rfl
      go_wp2
      go_loop [5, 7] (fun q i => ∃ j : Nat, j ≤ 8 ∧ i = .int .i64 j ∧ q = .int .u32 (CrcM.stepsC j (x ^^^ s[k].toNat))) (fun _ i => 8 - (intOf i).toNat)
      case atStart => exact ⟨0, Nat.zero_le _, rfl, val_u32 (xor_val x _ hq hb)⟩
      case round =>
        obtain ⟨j, hj, rfl, rfl⟩ := hrel
        have hy := CrcM.stepsC_lt j _ (CrcM.xor_lt x _ hq (by omega : s[k].toNat < 4294967296))
        generalize hz : CrcM.stepsC j (x ^^^ s[k].toNat) = y at *
        have HY : Hid (CrcM.stepsC j (x ^^^ s[k].toNat) = y) := hz
        clear hz
        by_cases hjt : j < 8
        · have HT : Hid (CrcM.stepsC (j + 1) (x ^^^ s[k].toNat) = CrcM.stepC y) := by rw [← HY.out]; exact rfl
          go_wp2
          · refine ⟨⟨j + 1, by omega, by go_num, ?_⟩, by simp [intOf]; omega⟩
            rw [HT.out]; exact val_u32 (step_yes y hy (by assumption))
          · refine ⟨⟨j + 1, by omega, by go_num, ?_⟩, by simp [intOf]; omega⟩
            rw [HT.out]; exact val_u32 (step_no y hy (by assumption))
        · go_wp2
          refine ⟨⟨k + 1, by omega, by go_num, ?_⟩, by simp [intOf]; omega⟩
          rw [HS.out]
          have : j = 8 := by omega
          subst this
          rw [← HY.out]; exact rfl
    · go_wp2
      go_ret
      refine ⟨ret_int ?_, rfl⟩
      have : k = s.size := by omega
      subst this
      rw [xor_ones x hq, ← HX.out, List.take_of_length_le (by simp)]; exact wrap_crc _ _

set_option maxHeartbeats 400000 in
theorem impl_CrcMore (crc : Nat) (s : ByteArray) (w : World) (hc : crc < 4294967296) (hs : s.size ≤ 8000) :
    Calls Tryd.prog 22 #[.int .i64 crc, .string s] w fun e w' => e = .returned (.int .i64 (CrcM.crcC crc s.data.toList)) ∧ w = w' := by
  go_enter Tryd.func22, Tryd.ntmps22
  go_wp2
  go_loop [5, 6] (fun q i => ∃ k : Nat, k ≤ s.size ∧ i = .int .i64 k ∧ q = .int .u32 (CrcM.fromC (4294967295 - crc) (s.data.toList.take k))) (fun _ i => s.size - (intOf i).toNat)
  case atStart => exact ⟨0, Nat.zero_le _, rfl, val_u32 (ones_xor crc hc)⟩
  case round =>
    obtain ⟨k, hk, rfl, rfl⟩ := hrel
    have hq := CrcM.fromC_lt (s.data.toList.take k) (4294967295 - crc) (by omega)
    generalize hx : CrcM.fromC (4294967295 - crc) (s.data.toList.take k) = x at *
    have HX : Hid (CrcM.fromC (4294967295 - crc) (s.data.toList.take k) = x) := hx
    clear hx
    by_cases hlt : k < s.size
    · have hb : s[k].toNat < 256 := s[k].toNat_lt
      have HS : Hid (CrcM.fromC (4294967295 - crc) (s.data.toList.take (k + 1)) = CrcM.byteC x s[k].toNat) := by
        rw [CrcM.take_snoc s k hlt, CrcM.fromC_snoc, HX.out]; exact rfl
      go_wp2_with (go_at_call 47; refine (shifted _ _ _ hq hb).mono ?_; rintro e w' ⟨rfl, rfl⟩)
      refine ⟨⟨k + 1, by omega, by go_num, ?_⟩, by simp [intOf]; omega⟩
      rw [HS.out]
    · go_wp2
      go_ret
      refine ⟨ret_int ?_, rfl⟩
      have : k = s.size := by omega
      subst this
      rw [ones_xor x hq, ← HX.out, List.take_of_length_le (by simp)]; exact wrap_crc _ _

theorem impl_CrcMore_no (crc : Int) (s : ByteArray) (w : World) (hs : s.size ≤ maxLen) (h : 8000 < s.size ∨ crc < 0 ∨ 4294967295 < crc) :
    Calls Tryd.prog 22 #[.int .i64 crc, .string s] w fun e w' => e = .returned (.int .i64 0) ∧ w = w' := by
  unfold maxLen at hs
  rcases h with h | h | h
  · go_enter Tryd.func22, Tryd.ntmps22
    go_wp2
    go_ret
    exact ⟨rfl, rfl⟩
  · by_cases h8 : 8000 < s.size
    all_goals
      go_enter Tryd.func22, Tryd.ntmps22
      go_wp2
      go_ret
      exact ⟨rfl, rfl⟩
  · by_cases h8 : 8000 < s.size
    all_goals
      have h0 : ¬ crc < 0 := by omega
      go_enter Tryd.func22, Tryd.ntmps22
      go_wp2
      go_ret
      exact ⟨rfl, rfl⟩

theorem impl_Crc (s : ByteArray) (w : World) (hs : s.size ≤ 8000) :
    Calls Tryd.prog 24 #[.string s] w fun e w' => e = .returned (.int .i64 (CrcM.crcC 0 s.data.toList)) ∧ w = w' := by
  go_enter Tryd.func24, Tryd.ntmps24
  go_wp2_with (go_at_call 22; refine (impl_CrcMore 0 _ _ (by omega) hs).mono ?_; rintro e w' ⟨rfl, rfl⟩)
  go_ret
  exact ⟨rfl, rfl⟩

theorem impl_Crc_no (s : ByteArray) (w : World) (hm : s.size ≤ maxLen) (hs : 8000 < s.size) :
    Calls Tryd.prog 24 #[.string s] w fun e w' => e = .returned (.int .i64 0) ∧ w = w' := by
  go_enter Tryd.func24, Tryd.ntmps24
  go_wp2_with (go_at_call 22; refine (impl_CrcMore_no 0 _ _ hm (Or.inl hs)).mono ?_; rintro e w' ⟨rfl, rfl⟩)
  go_ret
  exact ⟨rfl, rfl⟩
end Go.Proofs.YtcgaeblegiabjaaDoor.CrcW
