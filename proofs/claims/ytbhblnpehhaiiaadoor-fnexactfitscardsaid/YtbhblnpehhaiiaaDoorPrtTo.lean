/- The laws' copies of parts. -/
import Derived.Test.YtbhblnpehhaiiaaDoorPrtCore
namespace Go.Proofs.YtbhblnpehhaiiaaDoor.PrtW
open Go.RowKit

set_option maxHeartbeats 400000 in
theorem toPart (k n : Int) (t : ByteArray) (w : World) :
    Calls Tryd.prog 67 #[.agg #[.int .i64 k, .int .i64 n, .string t]] w fun e w' => e = .returned (.agg #[.int .i64 k, .int .i64 n, .string t]) ∧ Below w.heap.size w w' := by
  go_enter Tryd.func67, Tryd.ntmps67
  go_wp2
  refine bodyPost_ret (v := .agg #[.int .i64 k, .int .i64 n, .string t]) (by simp [results, Tryd.results67, go_sem]) rfl ⟨rfl, ?_⟩
  go_grown

set_option maxHeartbeats 400000 in
theorem szPart_yes (k n : Int) (t : ByteArray) (z : Int) (hz : z ≤ 1048576) (h : ¬ z < t.size) (w : World) :
    Calls Tryd.prog 63 #[.agg #[.int .i64 k, .int .i64 n, .string t], .int .i64 z] w fun e w' => e = .returned (.int .i64 (z - t.size)) ∧ Below w.heap.size w w' := by
  go_enter Tryd.func63, Tryd.ntmps63
  go_wp2
  go_ret
  exact ⟨rfl, by go_grown⟩
set_option maxHeartbeats 400000 in
theorem szPart_no (k n : Int) (t : ByteArray) (z : Int) (h0 : 0 ≤ z) (hz : z ≤ 1048576) (h : z < t.size) (ht : t.size ≤ maxLen) (w : World) :
    Calls Tryd.prog 63 #[.agg #[.int .i64 k, .int .i64 n, .string t], .int .i64 z] w fun e w' => e = .returned (.int .i64 (-1)) ∧ Below w.heap.size w w' := by
  unfold maxLen at ht
  go_enter Tryd.func63, Tryd.ntmps63
  go_wp2
  go_ret
  exact ⟨rfl, by go_grown⟩

set_option maxRecDepth 10000 in
set_option maxHeartbeats 800000 in
theorem toPartsR (a : Option Addr) (cap : Nat) (ps : List Pt) (w : World) (hc : Parts w a ps) :
    Calls Tryd.prog 47 #[.slice a ps.length cap] w fun e w' => e = .returned (.slice (some ⟨w.heap.size, 0, none⟩) ps.length ps.length) ∧ Parts w' (some ⟨w.heap.size, 0, none⟩) ps ∧ Below w.heap.size w w' ∧ Rows3 w' w.heap.size ps.length ps.length ps := by
  obtain ⟨i0, hi, hz0, hz1, hz2⟩ := info_parts Tryd.infoP
  have HC : Hid (Parts w a ps) := hc
  have hl := hc.1
  clear hc
  go_enter Tryd.func47, Tryd.ntmps47
  go_wp2_with (first | (at_make; refine wpList_make_full _ rfl _ _ 29 rfl w.heap.size 75 i0 (.agg #[.int .i64 0, .int .i64 0, .string ByteArray.empty]) 3 Tryd.underlying29 hi hz0 hz1 _ _ _ _ ps.length rfl rfl rfl rfl ?m1 ?m2 ?m3 ?_))
  case m1 => rw [hz2]; omega
  case m2 => unfold maxLen; omega
  case m3 => exact Nat.le_refl _
  intro w1 hown hgrow
  have hrow : Rows3 w1 w.heap.size ps.length 0 ps := by
    obtain ⟨_, hv⟩ := hown
    rcases hv with ⟨h0, _⟩ | ⟨g, cap, cu, h0, _, hg, _, _, hs, ht⟩
    · cases h0
    · cases h0
      exact ⟨cu, hg, hs, fun i hi => absurd hi (Nat.not_lt_zero _)⟩
  have hB1 : Below w.heap.size w w1 := (Below.refl _ _).grown hgrow (Nat.le_refl _) (fun k hk => by cases hk)
  clear hown hgrow
  go_wp2
  go_loopw [4] (fun i wr => ∃ k : Nat, k ≤ ps.length ∧ i = .int .i64 k ∧ Hid (Rows3 wr w.heap.size ps.length k ps) ∧ Below w.heap.size w wr) (fun i _ => ps.length - (intOf i).toNat)
  case atStart => exact ⟨0, Nat.zero_le _, rfl, hrow, hB1⟩
  case round =>
    obtain ⟨k, hk, rfl, hrow, hbel⟩ := hrel
    clear hB1
    by_cases hlt : k < ps.length
    · obtain ⟨_, _, h1⟩ := HC.out
      obtain ⟨b, o, rfl, hb, hcs⟩ := h1 (by omega)
      obtain ⟨c0, c1, c2⟩ := hcs k hlt
      rw [← hbel.cell (p := ⟨b, _, none⟩) hb] at c0 c1 c2
      have HP : Hid (∀ W, Rows3 W w.heap.size ps.length k ps → Rows3 (((W.setCell ⟨w.heap.size, k * 3, none⟩ (.int .i64 (ps.getD k pt0).1)).setCell ⟨w.heap.size, k * 3 + 1, none⟩ (.int .i64 (ps.getD k pt0).2.1)).setCell ⟨w.heap.size, k * 3 + 2, none⟩ (.string (ps.getD k pt0).2.2)) w.heap.size ps.length (k + 1) ps) := fun W h => h.put hlt
      generalize ps.getD k pt0 = p at c0 c1 c2 HP
      obtain ⟨x, n, t⟩ := p
      have HB : Hid (Below w.heap.size w wr) := hbel
      clear hcs h1 hbel
      go_wp2_with fail
      refine (toPart x n t wr).mono ?_
      rintro e w2 ⟨rfl, hB2⟩
      have HR2 := hid (hrow.out.on hB2)
      have HB2 : Hid (Below w.heap.size w w2) := HB.out.trans (hB2.mono HB.out.size)
      obtain ⟨⟨v0, r0⟩, f0⟩ := HR2.out.room (j := k * 3) (by omega)
      obtain ⟨⟨v1, r1⟩, f1⟩ := HR2.out.room (j := k * 3 + 1) (by omega)
      obtain ⟨⟨v2, r2⟩, f2⟩ := HR2.out.room (j := k * 3 + 2) (by omega)
      clear c0 c1 c2 HC hrow hB2 HB
      go_wp2
      refine ⟨⟨k + 1, by omega, by go_num, HP.out _ HR2.out, ?_⟩, by simp [intOf]; omega⟩
      exact ((HB2.out.setCell (Nat.le_refl _) _).setCell (Nat.le_refl _) _).setCell (Nat.le_refl _) _
    · go_wp2
      go_ret
      obtain rfl : k = ps.length := by omega
      exact ⟨rfl, hrow.out.parts hl HC.out.2.1, hbel, hrow.out⟩
theorem toParts (a : Option Addr) (cap : Nat) (ps : List Pt) (w : World) (hc : Parts w a ps) :
    Calls Tryd.prog 47 #[.slice a ps.length cap] w fun e w' => e = .returned (.slice (some ⟨w.heap.size, 0, none⟩) ps.length ps.length) ∧ Parts w' (some ⟨w.heap.size, 0, none⟩) ps ∧ Below w.heap.size w w' :=
  (toPartsR a cap ps w hc).mono fun _ _ ⟨h1, h2, h3, _⟩ => ⟨h1, h2, h3⟩
end Go.Proofs.YtbhblnpehhaiiaaDoor.PrtW
