/- A text that is changed a little, as a law draws it: a bound of its length. -/
import Derived.Test.YtmmijhpeinobbaaGreatDoorDrawVal
namespace Go.Proofs.YtmmijhpeinobbaaGreatDoor.DrawV
open Go.RowKit
open ValW ValS ValI DrawW RdS
set_option linter.unusedSimpArgs false

theorem size_one (z : UInt8) : (ByteArray.mk #[z]).size = 1 := rfl
set_option maxRecDepth 10000 in
set_option maxHeartbeats 1000000 in
theorem spoil_any (B : Nat) (t : ByteArray) (w : World) (a : Option Addr) (len cap : Nat) (hd : Dr w B a len cap) (ht : t.size ≤ 1000) :
    Calls Tryz.prog 32 #[.pointer (some ⟨B, 0, none⟩), .string t] w fun e w' =>
      ∃ s : ByteArray, e = .returned (.string s) ∧ s.size ≤ t.size + 1 ∧ Dr w' B a len cap ∧ w.grownBy w' (some B) := by
  have HD : Hid (Dr w B a len cap) := hd
  have hB := hd.lt
  clear hd
  go_enter Tryz.func32, Tryz.ntmps32
  go_wp2_with fail
  refine (n_any B (t.size + 1) _ a len cap HD.out (by omega)).mono ?_
  rintro e w1 ⟨k, rfl, hk, hd1, hg1⟩
  have hk2 : k ≤ t.size := by omega
  have HD1 : Hid (Dr w1 B a len cap) := hd1
  have HG1 : Hid (w.grownBy w1 (some B)) := hg1
  clear hd1 hg1 hk
  go_wp2_with fail
  refine (n_any B 17 _ a len cap HD1.out (by omega)).mono ?_
  rintro e w2 ⟨x, rfl, hx, hd2, hg2⟩
  have hx2 : x < 17 := by omega
  have HD2 : Hid (Dr w2 B a len cap) := hd2
  have HG2 : Hid (w.grownBy w2 (some B)) := grown_trans HG1.out hg2
  have hx3 : (x : Int) < 17 := by omega
  have hcv : ∀ z : UInt8, (convert 22 9 (.slice (some ⟨w2.heap.size, 0, none⟩) 1 1)).run Tryz.prog (w2.alloc (.cells #[.int .u8 (z.toNat : Int)] 5)) = .ok (.string ⟨#[z]⟩) (w2.alloc (.cells #[.int .u8 (z.toNat : Int)] 5)) := fun z =>
    TxtS.conv_own (l := [z]) (World.ownsRow_lit (base := 0) (e := 5) (size := 1) w2 #[.int .u8 (z.toNat : Int)] 1 (Nat.zero_le _) (by unfold maxLen; omega) rfl)
  have HW : Hid (∀ z : UInt8, Dr (w2.alloc (.cells #[.int .u8 (z.toNat : Int)] 5)) B a len cap ∧ w.grownBy (w2.alloc (.cells #[.int .u8 (z.toNat : Int)] 5)) (some B)) := fun z => ⟨HD2.out.alloc _, grown_trans HG2.out (World.grownBy_alloc _ _ _)⟩
  clear hd2 hg2 hx
  by_cases hke : k = t.size
  · have p1 : ((k : Int) == (t.size : Int)) = true := by simp [hke]
    have p2 : (k : Int) = t.size := by omega
    go_wp2_with fail
    generalize (ByteArray.mk #[32, 10, 48, 97, 45, 110, 44, 58, 93, 255, 40, 120, 126, 49, 128, 225, 59])[x]'(show x < 17 from hx2) = z at *
    obtain ⟨hd3, hg3⟩ := HW.out z
    have HD3 : Hid (Dr (w2.alloc (.cells #[.int .u8 (z.toNat : Int)] 5)) B a len cap) := hd3
    have HG3 : Hid (w.grownBy (w2.alloc (.cells #[.int .u8 (z.toNat : Int)] 5)) (some B)) := hg3
    clear hd3 hg3 hcv HW
    generalize w2.alloc (.cells #[.int .u8 (z.toNat : Int)] 5) = W at *
    go_region
    go_wp2
    go_ret
    exact ⟨_, rfl, by simp only [ByteArray.size_append, ByteArray.size_extract, size_one]; omega, HD3.out.kept fun _ _ => rfl, grown_trans HG3.out ⟨rfl, rfl, rfl, Nat.le_refl _, fun _ _ _ => rfl⟩⟩
  · have p1 : ((k : Int) == (t.size : Int)) = false := by simp; omega
    have p2 : ¬ (k : Int) = t.size := by omega
    have p3 : (k : Int) + 1 ≤ t.size := by omega
    go_wp2_with fail
    generalize (ByteArray.mk #[32, 10, 48, 97, 45, 110, 44, 58, 93, 255, 40, 120, 126, 49, 128, 225, 59])[x]'(show x < 17 from hx2) = z at *
    obtain ⟨hd3, hg3⟩ := HW.out z
    have HG3 : Hid (w.grownBy (w2.alloc (.cells #[.int .u8 (z.toNat : Int)] 5)) (some B)) := hg3
    clear hg3 hcv HW
    refine (one_any B 3 _ a len cap hd3 (by omega)).mono ?_
    rintro e w4 ⟨b, rfl, hd4, hg4⟩
    have HD4 : Hid (Dr w4 B a len cap) := hd4
    have HG4 : Hid (w.grownBy w4 (some B)) := grown_trans HG3.out hg4
    clear hd4 hg4 hd3 HG3
    cases b
    · go_wp2_with fail
      refine (one_any B 2 _ a len cap HD4.out (by omega)).mono ?_
      rintro e w5 ⟨b, rfl, hd5, hg5⟩
      have HD5 : Hid (Dr w5 B a len cap) := hd5
      have HG5 : Hid (w.grownBy w5 (some B)) := grown_trans HG4.out hg5
      clear hd5 hg5 HD4 HG4
      cases b
      · go_wp2_with fail
        go_region
        go_wp2
        go_ret
        exact ⟨_, rfl, by simp only [ByteArray.size_append, ByteArray.size_extract, size_one]; omega, HD5.out.kept fun _ _ => rfl, grown_trans HG5.out ⟨rfl, rfl, rfl, Nat.le_refl _, fun _ _ _ => rfl⟩⟩
      · go_wp2_with fail
        go_region
        go_wp2
        go_ret
        exact ⟨_, rfl, by simp only [ByteArray.size_append, ByteArray.size_extract, size_one]; omega, HD5.out.kept fun _ _ => rfl, grown_trans HG5.out ⟨rfl, rfl, rfl, Nat.le_refl _, fun _ _ _ => rfl⟩⟩
    · go_wp2_with fail
      go_region
      go_wp2
      go_ret
      exact ⟨_, rfl, by simp only [ByteArray.size_append, ByteArray.size_extract, size_one]; omega, HD4.out.kept fun _ _ => rfl, grown_trans HG4.out ⟨rfl, rfl, rfl, Nat.le_refl _, fun _ _ _ => rfl⟩⟩
end Go.Proofs.YtmmijhpeinobbaaGreatDoor.DrawV
