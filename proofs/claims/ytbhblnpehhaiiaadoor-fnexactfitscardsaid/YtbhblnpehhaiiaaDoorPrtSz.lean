/- How great the parts are together. -/
import Derived.Test.YtbhblnpehhaiiaaDoorPrtTo
namespace Go.Proofs.YtbhblnpehhaiiaaDoor.PrtW
open Go.RowKit

set_option maxRecDepth 10000 in
set_option maxHeartbeats 800000 in
theorem szPartsX (a : Option Addr) (cap : Nat) (ps : List Pt) (w : World) (hc : Raw w a ps) :
    Calls Tryd.prog 43 #[.slice a ps.length cap, .int .i64 1048576] w fun e w' => (∃ r : Int, e = .returned (.int .i64 r) ∧ (r < 0 ↔ 1048576 < ps.length + bulk ps) ∧ (ps.length + bulk ps ≤ 1048576 → r = 1048576 - (ps.length + bulk ps))) ∧ Below w.heap.size w w' := by
  have HC : Hid (Raw w a ps) := hc
  have hl := hc.1
  unfold maxLen at hl
  clear hc
  go_enter Tryd.func43, Tryd.ntmps43
  by_cases hbig : 1048576 < ps.length
  · go_wp2
    go_ret
    exact ⟨⟨_, rfl, by omega, by omega⟩, by go_grown⟩
  go_wp2
  go_loopw [1, 5] (fun l i wr => ∃ k : Nat, k ≤ ps.length ∧ i = .int .i64 k ∧ ps.length + bulk (ps.take k) ≤ 1048576 ∧ l = .int .i64 (1048576 - ps.length - bulk (ps.take k)) ∧ Below w.heap.size w wr) (fun _ i _ => ps.length - (intOf i).toNat)
  case atStart => exact ⟨0, Nat.zero_le _, rfl, by simp [bulk]; omega, by simp [bulk], Below.refl _ _⟩
  case round =>
    obtain ⟨k, hk, rfl, hle, rfl, hbel⟩ := hrel
    by_cases hlt : k < ps.length
    · have hnx := bulk_take ps k hlt
      have hall := bulk_le ps (k + 1)
      have HN : Hid (bulk (ps.take (k + 1)) = bulk (ps.take k) + (ps.getD k pt0).2.2.size) := hnx
      obtain ⟨_, hfit, h1⟩ := HC.out
      have hsz := (hfit k hlt).2.2
      obtain ⟨b, o, rfl, hb, hcs⟩ := h1 (by omega)
      obtain ⟨c0, c1, c2⟩ := hcs k hlt
      rw [← hbel.cell (p := ⟨b, _, none⟩) hb] at c0 c1 c2
      generalize ps.getD k pt0 = p at c0 c1 c2 hnx hsz HN
      obtain ⟨x, n, t⟩ := p
      have HB : Hid (Below w.heap.size w wr) := hbel
      clear hcs h1 hbel hfit HC
      generalize hB' : bulk (List.take (k + 1) ps) = B' at *
      have HB' := hid hB'
      clear hB'
      generalize bulk (List.take k ps) = B at *
      by_cases hyes : ps.length + B + t.size ≤ 1048576
      · go_wp2_with fail
        refine (szPart_yes x n t _ (by omega) (by omega) wr).mono ?_
        rintro e w2 ⟨rfl, hB2⟩
        have HB2 : Hid (Below w.heap.size w w2) := HB.out.trans (hB2.mono HB.out.size)
        clear hB2 HB c0 c1 c2
        go_wp2
        refine ⟨⟨k + 1, by omega, by go_num, by rw [HB'.out]; omega, ?_, HB2.out⟩, by simp [intOf]; omega⟩
        rw [HB'.out, hnx]
        congr 1
        omega
      · go_wp2_with fail
        refine (szPart_no x n t _ (by omega) (by omega) (by omega) hsz wr).mono ?_
        rintro e w2 ⟨rfl, hB2⟩
        have HB2 : Hid (Below w.heap.size w w2) := HB.out.trans (hB2.mono HB.out.size)
        clear hB2 HB c0 c1 c2
        go_wp2
        go_ret
        exact ⟨⟨_, rfl, by omega, by omega⟩, HB2.out⟩
    · go_wp2
      go_ret
      obtain rfl : k = ps.length := by omega
      rw [List.take_length] at *
      exact ⟨⟨_, rfl, by omega, by omega⟩, hbel⟩
theorem szParts (a : Option Addr) (cap : Nat) (ps : List Pt) (w : World) (hc : Raw w a ps) :
    Calls Tryd.prog 43 #[.slice a ps.length cap, .int .i64 1048576] w fun e w' => (∃ r : Int, e = .returned (.int .i64 r) ∧ (r < 0 ↔ 1048576 < ps.length + bulk ps)) ∧ Below w.heap.size w w' :=
  (szPartsX a cap ps w hc).mono fun _ _ ⟨⟨r, h1, h2, _⟩, h3⟩ => ⟨⟨r, h1, h2⟩, h3⟩
end Go.Proofs.YtbhblnpehhaiiaaDoor.PrtW
