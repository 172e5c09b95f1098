/- Draws of promise 2: bounds alone; and the law's own small helper that tells a place below a bound. -/
import Derived.Test.YtcgaeblegiabjaaDoorDrawTexts
import Derived.Test.YtcgaeblegiabjaaDoorDrawAt
import Derived.Test.YtcgaeblegiabjaaDoorCrcTop
namespace Go.Proofs.YtcgaeblegiabjaaDoor.DrawW
open Go.RowKit

set_option maxRecDepth 10000 in
set_option maxHeartbeats 400000 in
theorem drawSeal_any (w : World) (a : Option Addr) (len cap : Nat) (hc : CodeAt w w.heap.size a len) :
    Calls Tryd.prog 16 #[.slice a len cap] w fun e w' => ∃ l : List UInt8, e = .returned (.string ⟨l.toArray⟩) ∧ (l.length ≤ 20 ∨ (19995 ≤ l.length ∧ l.length ≤ 30000)) ∧ Below w.heap.size w w' := by
  have HC : Hid (CodeAt w w.heap.size a len) := hc
  clear hc
  obtain ⟨i0, hi, hz0, hz1, hz2⟩ := info_parts Tryd.infoB
  go_enter Tryd.func16, Tryd.ntmps16
  go_wp2_with fail
  refine (source_any w a len cap HC.out).mono ?_
  rintro e w1 ⟨rfl, hd1, hB1⟩
  have HD1 : Hid (Dr w1 w.heap.size a len cap) := hd1
  have HB1 : Hid (Below w.heap.size w w1) := hB1
  clear hd1 hB1
  go_wp2_with fail
  refine (one_any w.heap.size 30 _ a len cap HD1.out (by omega)).mono ?_
  rintro e w2 ⟨b, rfl, hd2, hg2⟩
  have HD2 : Hid (Dr w2 w.heap.size a len cap) := hd2
  have HB2 : Hid (Below w.heap.size w w2) := HB1.out.trans (grown_below hg2 (Nat.le_refl _) HB1.out.size)
  clear hd2 hg2
  cases b
  · go_wp2_with fail
    refine (n_any w.heap.size 20 _ a len cap HD2.out (by omega)).mono ?_
    rintro e w3 ⟨r, rfl, hr, hd3, hg3⟩
    have hr2 : r < 20 := by omega
    have HD3 : Hid (Dr w3 w.heap.size a len cap) := hd3
    have HB3 : Hid (Below w.heap.size w w3) := HB2.out.trans (grown_below hg3 (Nat.le_refl _) HB2.out.size)
    clear hd3 hg3 hr
    go_wp2_with fail
    refine (bytes_any w.heap.size r _ a len cap HD3.out (by omega)).mono ?_
    rintro e w4 ⟨l, rfl, hl, hd4, hg4⟩
    have HB4 : Hid (Below w.heap.size w w4) := HB3.out.trans (grown_below hg4 (Nat.le_refl _) HB3.out.size)
    have hl2 : l.length ≤ 20 ∨ (19995 ≤ l.length ∧ l.length ≤ 30000) := by omega
    clear hd4 hg4 hl
    go_wp2
    go_ret
    exact ⟨l, rfl, hl2, HB4.out⟩
  · go_wp2_with fail
    refine (n_any w.heap.size 3 _ a len cap HD2.out (by omega)).mono ?_
    rintro e w3 ⟨r, rfl, hr, hd3, hg3⟩
    have hr2 : r < 3 := by omega
    have HB3 : Hid (Below w.heap.size w w3) := HB2.out.trans (grown_below hg3 (Nat.le_refl _) HB2.out.size)
    have hs3 : w.heap.size ≤ w3.heap.size := HB3.out.size
    clear hd3 hg3 hr
    go_wp2_with (first | (at_make; refine wpList_make_full _ rfl _ _ 22 rfl w.heap.size 5 i0 (.int .u8 0) 1 Tryd.underlying22 hi hz0 hz1 _ _ _ _ (19995 + r) rfl rfl (by omega) (by omega) ?m1 ?m2 ?m3 ?_))
    case m1 => rw [hz2]; omega
    case m2 => unfold maxLen; omega
    case m3 => exact hs3
    intro w4 hown hgrow
    have hcv := conv_zero hown
    have HB4 : Hid (Below w.heap.size w w4) := HB3.out.grown hgrow hs3 (fun k hk => by cases hk)
    clear hown hgrow
    go_wp2
    go_ret
    exact ⟨_, rfl, by simp; omega, HB4.out⟩

set_option maxRecDepth 10000 in
set_option maxHeartbeats 400000 in
theorem drawCrcMore_any (w : World) (a : Option Addr) (len cap : Nat) (hc : CodeAt w w.heap.size a len) :
    Calls Tryd.prog 21 #[.slice a len cap] w fun e w' => ∃ (v : Int) (l : List UInt8), e = .returned (.tuple #[.int .i64 v, .string ⟨l.toArray⟩]) ∧ l.length ≤ 9 ∧ -9223372036854775808 ≤ v ∧ v ≤ 9223372036854775807 ∧ Below w.heap.size w w' := by
  have HC : Hid (CodeAt w w.heap.size a len) := hc
  clear hc
  go_enter Tryd.func21, Tryd.ntmps21
  go_wp2_with fail
  refine (source_any w a len cap HC.out).mono ?_
  rintro e w1 ⟨rfl, hd1, hB1⟩
  have HD1 : Hid (Dr w1 w.heap.size a len cap) := hd1
  have HB1 : Hid (Below w.heap.size w w1) := hB1
  clear hd1 hB1
  go_wp2_with fail
  refine (n_any w.heap.size 9 _ a len cap HD1.out (by omega)).mono ?_
  rintro e w2 ⟨r, rfl, hr, hd2, hg2⟩
  have hr2 : r < 9 := by omega
  have HD2 : Hid (Dr w2 w.heap.size a len cap) := hd2
  have HB2 : Hid (Below w.heap.size w w2) := HB1.out.trans (grown_below hg2 (Nat.le_refl _) HB1.out.size)
  clear hd2 hg2 hr
  go_wp2_with fail
  refine (bytes_any w.heap.size r _ a len cap HD2.out (by omega)).mono ?_
  rintro e w3 ⟨l, rfl, hl, hd3, hg3⟩
  have HB3 : Hid (Below w.heap.size w w3) := HB2.out.trans (grown_below hg3 (Nat.le_refl _) HB2.out.size)
  have HD3 : Hid (Dr w3 w.heap.size a len cap) := hd3
  have hl2 : l.length ≤ 9 := by omega
  clear hd3 hg3 hl
  go_wp2_with fail
  refine (one_any w.heap.size 5 _ a len cap HD3.out (by omega)).mono ?_
  rintro e w4 ⟨b, rfl, hd4, hg4⟩
  have HD4 : Hid (Dr w4 w.heap.size a len cap) := hd4
  have HB4 : Hid (Below w.heap.size w w4) := HB3.out.trans (grown_below hg4 (Nat.le_refl _) HB3.out.size)
  clear hd4 hg4
  cases b
  · go_wp2_with fail
    refine (n_any w.heap.size 9 _ a len cap HD4.out (by omega)).mono ?_
    rintro e w5 ⟨r2, rfl, hr3, hd5, hg5⟩
    have hr4 : r2 < 9 := by omega
    have HD5 : Hid (Dr w5 w.heap.size a len cap) := hd5
    have HB5 : Hid (Below w.heap.size w w5) := HB4.out.trans (grown_below hg5 (Nat.le_refl _) HB4.out.size)
    clear hd5 hg5 hr3
    go_wp2_with fail
    refine (bytes_any w.heap.size r2 _ a len cap HD5.out (by omega)).mono ?_
    rintro e w6 ⟨l2, rfl, hl3, hd6, hg6⟩
    have HB6 : Hid (Below w.heap.size w w6) := HB5.out.trans (grown_below hg6 (Nat.le_refl _) HB5.out.size)
    have hl4 : l2.length ≤ 9 := by omega
    clear hd6 hg6 hl3
    have hcl := CrcM.crcC_lt 0 (⟨l2.toArray⟩ : ByteArray).data.toList
    go_wp2_with fail
    refine (CrcW.spec_Crc (⟨l2.toArray⟩ : ByteArray) _ (show l2.length ≤ 8000 by omega)).mono ?_
    rintro e w7 ⟨rfl, rfl⟩
    go_wp2
    go_ret2
    exact ⟨_, l, rfl, hl2, by omega, by omega, HB6.out⟩
  · go_wp2_with fail
    refine (edge_any w.heap.size _ a len cap HD4.out).mono ?_
    rintro e w5 ⟨v, rfl, hv1, hv2, hd5, hg5⟩
    have HB5 : Hid (Below w.heap.size w w5) := HB4.out.trans (grown_below hg5 (Nat.le_refl _) HB4.out.size)
    clear hd5 hg5
    go_wp2
    go_ret2
    exact ⟨v, l, rfl, hl2, hv1, hv2, HB5.out⟩

end Go.Proofs.YtcgaeblegiabjaaDoor.DrawW
