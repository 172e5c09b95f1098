/- Draws of numbers and texts, as promises 1 and 2 take them: bounds alone. And a slice of bytes that came in, as the draws read it. -/
import Derived.Test.YtcgaeblegiabjaaDoorDrawMore
namespace Go.Proofs.YtcgaeblegiabjaaDoor.DrawW
open Go.RowKit

set_option maxHeartbeats 400000 in
theorem drawPutNum_any (w : World) (a : Option Addr) (len cap : Nat) (hc : CodeAt w w.heap.size a len) :
    Calls Tryd.prog 8 #[.slice a len cap] w fun e w' => ∃ v : Int, e = .returned (.int .i64 v) ∧ -9223372036854775808 ≤ v ∧ v ≤ 9223372036854775807 ∧ Below w.heap.size w w' := by
  have HC : Hid (CodeAt w w.heap.size a len) := hc
  clear hc
  go_enter Tryd.func8, Tryd.ntmps8
  go_wp2_with fail
  refine (source_any w a len cap HC.out).mono ?_
  rintro e w1 ⟨rfl, hd1, hB1⟩
  have HD1 : Hid (Dr w1 w.heap.size a len cap) := hd1
  clear hd1
  go_wp2_with fail
  refine (any_any w.heap.size _ a len cap HD1.out).mono ?_
  rintro e w2 ⟨v, rfl, h1, h2, _, hg⟩
  have HB2 : Hid (Below w.heap.size w w2) := hB1.trans (grown_below hg (Nat.le_refl _) hB1.size)
  clear hg hB1
  go_wp2
  go_ret
  exact ⟨v, rfl, h1, h2, HB2.out⟩

/-- a new row of noughts, as a text -/
theorem conv_zero {w : World} {base n : Nat} {v : Value} (h : w.ownsRow base 5 1 v n (madeCells #[Value.int .u8 0] n).toList) :
    (convert 22 9 v).run Tryd.prog w = .ok (.string ⟨(List.replicate n (0 : UInt8)).toArray⟩) w := by
  have e : (madeCells #[Value.int .u8 0] n).toList = CopyS.cellsB (List.replicate n (0 : UInt8)) := by
    rw [CopyS.made_zero]; unfold CopyS.rowB CopyS.cellsB; simp
  rw [e] at h
  exact conv_own h

set_option maxRecDepth 10000 in
set_option maxHeartbeats 400000 in
theorem drawPutText_any (w : World) (a : Option Addr) (len cap : Nat) (hc : CodeAt w w.heap.size a len) :
    Calls Tryd.prog 12 #[.slice a len cap] w fun e w' => ∃ l : List UInt8, e = .returned (.string ⟨l.toArray⟩) ∧ l.length ≤ 30000 ∧ Below w.heap.size w w' := by
  have HC : Hid (CodeAt w w.heap.size a len) := hc
  clear hc
  obtain ⟨i0, hi, hz0, hz1, hz2⟩ := info_parts Tryd.infoB
  go_enter Tryd.func12, Tryd.ntmps12
  go_wp2_with fail
  refine (source_any w a len cap HC.out).mono ?_
  rintro e w1 ⟨rfl, hd1, hB1⟩
  have HD1 : Hid (Dr w1 w.heap.size a len cap) := hd1
  have HB1 : Hid (Below w.heap.size w w1) := hB1
  clear hd1 hB1
  go_wp2_with fail
  refine (one_any w.heap.size 8 _ a len cap HD1.out (by omega)).mono ?_
  rintro e w2 ⟨b, rfl, hd2, hg2⟩
  have HD2 : Hid (Dr w2 w.heap.size a len cap) := hd2
  have HB2 : Hid (Below w.heap.size w w2) := HB1.out.trans (grown_below hg2 (Nat.le_refl _) HB1.out.size)
  clear hd2 hg2
  cases b
  · go_wp2_with fail
    refine (n_any w.heap.size 20 _ a len cap HD2.out (by omega)).mono ?_
    rintro e w3 ⟨r, rfl, hr, hd3, hg3⟩
    have hr2 : r < 20 := by omega
    have HD3 : Hid (Dr w3 w.heap.size a len cap) := hd3
    have HB3 : Hid (Below w.heap.size w w3) := HB2.out.trans (grown_below hg3 (Nat.le_refl _) HB2.out.size)
    clear hd3 hg3 hr
    go_wp2_with fail
    refine (bytes_any w.heap.size r _ a len cap HD3.out (by omega)).mono ?_
    rintro e w4 ⟨l, rfl, hl, hd4, hg4⟩
    have HB4 : Hid (Below w.heap.size w w4) := HB3.out.trans (grown_below hg4 (Nat.le_refl _) HB3.out.size)
    have hl2 : l.length ≤ 30000 := by omega
    clear hd4 hg4 hl
    go_wp2
    go_ret
    exact ⟨l, rfl, hl2, HB4.out⟩
  · go_wp2_with fail
    refine (n_any w.heap.size 3 _ a len cap HD2.out (by omega)).mono ?_
    rintro e w3 ⟨r, rfl, hr, hd3, hg3⟩
    have hr2 : r < 3 := by omega
    have HB3 : Hid (Below w.heap.size w w3) := HB2.out.trans (grown_below hg3 (Nat.le_refl _) HB2.out.size)
    have hs3 : w.heap.size ≤ w3.heap.size := HB3.out.size
    clear hd3 hg3 hr
    go_wp2_with (first | (at_make; refine wpList_make_full _ rfl _ _ 22 rfl w.heap.size 5 i0 (.int .u8 0) 1 Tryd.underlying22 hi hz0 hz1 _ _ _ _ (19999 + r) rfl rfl (by omega) (by omega) ?m1 ?m2 ?m3 ?_))
    case m1 => rw [hz2]; omega
    case m2 => unfold maxLen; omega
    case m3 => exact hs3
    intro w4 hown hgrow
    have hcv := conv_zero hown
    have HB4 : Hid (Below w.heap.size w w4) := HB3.out.grown hgrow hs3 (fun k hk => by cases hk)
    clear hown hgrow
    go_wp2
    go_ret
    exact ⟨_, rfl, by simp; omega, HB4.out⟩
end Go.Proofs.YtcgaeblegiabjaaDoor.DrawW
