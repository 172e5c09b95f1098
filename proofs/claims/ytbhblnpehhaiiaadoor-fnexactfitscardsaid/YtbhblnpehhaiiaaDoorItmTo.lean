/- The laws' copies of items. -/
import Derived.Test.YtbhblnpehhaiiaaDoorItmCore
namespace Go.Proofs.YtbhblnpehhaiiaaDoor.ItmW
open Go.RowKit
open PrtW

theorem parts_of_rows {w : World} {g : Nat} {ps : List Pt} (h : Rows3 w g ps.length ps.length ps) {a : Option Addr} {w0 : World} (hP : Parts w0 a ps) : Parts w (some ⟨g, 0, none⟩) ps := h.parts hP.1 hP.2.1

set_option maxRecDepth 10000 in
set_option maxHeartbeats 4000000 in
theorem toItem8 (k : Int) (s : ByteArray) (ty lo hi : Int) (t : ByteArray) (a : Option Addr) (cap : Nat) (ps : List Pt) (hd : Bool) (w : World) (hc : Parts w a ps) :
    Calls Tryd.prog 26 #[.agg #[.int .i64 k, .string s, .int .i64 ty, .int .i64 lo, .int .i64 hi, .string t, .slice a ps.length cap, .bool hd]] w fun e w' => ∃ g', e = .returned (.agg #[.int .i64 k, .string s, .int .i64 ty, .int .i64 lo, .int .i64 hi, .string t, .slice (some ⟨g', 0, none⟩) ps.length ps.length, .bool hd]) ∧ w.heap.size ≤ g' ∧ Rows3 w' g' ps.length ps.length ps ∧ Below w.heap.size w w' := by
  have HC : Hid (Parts w a ps) := hc
  clear hc
  go_enter Tryd.func26, Tryd.ntmps26
  go_wp2_with fail
  refine (toPartsR a cap ps _ (HC.out.on ?hb)).mono ?_
  case hb => go_grown
  rintro e w1 ⟨rfl, _, hB1, hr⟩
  have HB : Hid (Below w.heap.size w w1) := Below.trans ?hb (hB1.mono (by simp; omega))
  case hb => go_grown
  obtain ⟨hcl, hfz⟩ := bcell hB1
  have hz : w.heap.size + 1 + 1 + 1 < w1.heap.size := by have := hr.lt; simp at this; omega
  simp only [World.size_alloc] at hcl hfz hr
  have HR := hid hr
  clear hr hB1 HC
  go_wp2
  refine bodyPost_ret (v := .agg #[.int .i64 k, .string s, .int .i64 ty, .int .i64 lo, .int .i64 hi, .string t, .slice (some ⟨w.heap.size + 1 + 1 + 1, 0, none⟩) ps.length ps.length, .bool hd]) (by simp [results, Tryd.results26, go_sem, hcl]) rfl ⟨_, rfl, by omega, ?_, ?_⟩
  · repeat (refine rows3_other ?_ (by simp only; omega) _)
    exact HR.out
  · repeat (refine Below.setCell ?_ (show w.heap.size ≤ _ by simp only; omega) _)
    exact HB.out

set_option maxRecDepth 10000 in
set_option maxHeartbeats 1600000 in
theorem toItsR (a : Option Addr) (cap : Nat) (ls : List It) (w : World) (hc : Its w a ls) :
    Calls Tryd.prog 9 #[.slice a ls.length cap] w fun e w' => e = .returned (.slice (some ⟨w.heap.size, 0, none⟩) ls.length ls.length) ∧ Below w.heap.size w w' ∧ RowsI w' w.heap.size ls.length ls.length ls := by
  obtain ⟨i0, hi, hz0, hz1, hz2⟩ := info_parts Tryd.infoI
  have HC : Hid (Its w a ls) := hc
  have hl := hc.1
  clear hc
  go_enter Tryd.func9, Tryd.ntmps9
  go_wp2_with (first | (at_make; refine wpList_make_full _ rfl _ _ 25 rfl w.heap.size 31 i0 (.agg #[.int .i64 0, .string ByteArray.empty, .int .i64 0, .int .i64 0, .int .i64 0, .string ByteArray.empty, .slice none 0 0, .bool false]) 8 Tryd.underlying25 hi hz0 hz1 _ _ _ _ ls.length rfl rfl rfl rfl ?m1 ?m2 ?m3 ?_))
  case m1 => rw [hz2]; omega
  case m2 => unfold maxLen; omega
  case m3 => exact Nat.le_refl _
  intro w1 hown hgrow
  have hrow : RowsI w1 w.heap.size ls.length 0 ls := by
    obtain ⟨_, hv⟩ := hown
    rcases hv with ⟨h0, _⟩ | ⟨g, cap, cu, h0, _, hg, _, _, hs, ht⟩
    · cases h0
    · cases h0
      exact ⟨cu, hg, hs, fun i hi => absurd hi (Nat.not_lt_zero _)⟩
  have hB1 : Below w.heap.size w w1 := (Below.refl _ _).grown hgrow (Nat.le_refl _) (fun k hk => by cases hk)
  clear hown hgrow
  go_wp2
  go_loopw [4] (fun i wr => ∃ k : Nat, k ≤ ls.length ∧ i = .int .i64 k ∧ Hid (RowsI wr w.heap.size ls.length k ls) ∧ Below w.heap.size w wr) (fun i _ => ls.length - (intOf i).toNat)
  case atStart => exact ⟨0, Nat.zero_le _, rfl, hrow, hB1⟩
  case round =>
    obtain ⟨k, hk, rfl, hrow, hbel⟩ := hrel
    clear hB1
    by_cases hlt : k < ls.length
    · obtain ⟨_, b, o, ai, cai, rfl, hb, ⟨c0, c1, c2, c3, c4, c5, c6, c7⟩, hcd, _, _⟩ := HC.out.at hbel hlt
      have HP : Hid (∀ W g1, RowsI W w.heap.size ls.length k ls → w.heap.size < g1 → Rows3 W g1 (iex (ls.getD k it0)).length (iex (ls.getD k it0)).length (iex (ls.getD k it0)) → RowsI (put8 W w.heap.size (k * 8) (.int .i64 (ik (ls.getD k it0))) (.string (inm (ls.getD k it0))) (.int .i64 (ity (ls.getD k it0))) (.int .i64 (ilo (ls.getD k it0))) (.int .i64 (ihi (ls.getD k it0))) (.string (itx (ls.getD k it0))) (.slice (some ⟨g1, 0, none⟩) (iex (ls.getD k it0)).length (iex (ls.getD k it0)).length) (.bool (ihd (ls.getD k it0)))) w.heap.size ls.length (k + 1) ls) := fun W g1 h h1 h2 => h.put hlt h1 h2
      generalize ls.getD k it0 = p at c0 c1 c2 c3 c4 c5 c6 c7 hcd HP
      obtain ⟨kk, s, ty, lo, hi, t, ps, hd⟩ := p
      dsimp only [ik, inm, ity, ilo, ihi, itx, iex, ihd] at c0 c1 c2 c3 c4 c5 c6 c7 hcd HP
      have HB : Hid (Below w.heap.size w wr) := hbel
      have HCd := hid hcd
      clear hbel hcd
      go_wp2_with fail
      refine (toItem8 kk s ty lo hi t ai cai ps hd wr HCd.out).mono ?_
      rintro e w2 ⟨g1, rfl, hg1, hr1, hB2⟩
      have HR2 := hid (hrow.out.on hB2)
      have HB2 : Hid (Below w.heap.size w w2) := HB.out.trans (hB2.mono HB.out.size)
      have HG := hid hr1
      have HL : Hid (w.heap.size < g1) := Nat.lt_of_lt_of_le hrow.out.lt hg1
      obtain ⟨⟨v0, r0⟩, f0⟩ := HR2.out.room (j := k * 8) (by omega)
      obtain ⟨⟨v1, r1⟩, f1⟩ := HR2.out.room (j := k * 8 + 1) (by omega)
      obtain ⟨⟨v2, r2⟩, f2⟩ := HR2.out.room (j := k * 8 + 2) (by omega)
      obtain ⟨⟨v3, r3⟩, f3⟩ := HR2.out.room (j := k * 8 + 3) (by omega)
      obtain ⟨⟨v4, r4⟩, f4⟩ := HR2.out.room (j := k * 8 + 4) (by omega)
      obtain ⟨⟨v5, r5⟩, f5⟩ := HR2.out.room (j := k * 8 + 5) (by omega)
      obtain ⟨⟨v6, r6⟩, f6⟩ := HR2.out.room (j := k * 8 + 6) (by omega)
      obtain ⟨⟨v7, r7⟩, f7⟩ := HR2.out.room (j := k * 8 + 7) (by omega)
      clear c0 c1 c2 c3 c4 c5 c6 c7 HC hrow hB2 HB hg1 hr1 HCd
      go_wp2
      refine ⟨⟨k + 1, by omega, by go_num, HP.out _ g1 HR2.out HL.out HG.out, ?_⟩, by simp [intOf]; omega⟩
      exact (((((((HB2.out.setCell (Nat.le_refl _) _).setCell (Nat.le_refl _) _).setCell (Nat.le_refl _) _).setCell (Nat.le_refl _) _).setCell (Nat.le_refl _) _).setCell (Nat.le_refl _) _).setCell (Nat.le_refl _) _).setCell (Nat.le_refl _) _
    · go_wp2
      go_ret
      obtain rfl : k = ls.length := by omega
      exact ⟨rfl, hbel, hrow.out⟩
theorem toItsL (a : Option Addr) (cap : Nat) (ls : List It) (w : World) (hc : Its w a ls) :
    Calls Tryd.prog 9 #[.slice a ls.length cap] w fun e w' => e = .returned (.slice (some ⟨w.heap.size, 0, none⟩) ls.length ls.length) ∧ Its w' (some ⟨w.heap.size, 0, none⟩) ls ∧ Below w.heap.size w w' :=
  (toItsR a cap ls w hc).mono fun _ _ ⟨h1, h2, h3⟩ => ⟨h1, h3.its hc.1 hc.2.1 hc.len, h2⟩

set_option maxRecDepth 10000 in
set_option maxHeartbeats 1600000 in
theorem eqItem8 (k : Int) (s : ByteArray) (ty lo hi : Int) (t : ByteArray) (a a' : Option Addr) (cap cap' : Nat) (ps : List Pt) (hd : Bool) (w : World) (hc : Parts w a ps) (hc' : Parts w a' ps) :
    Calls Tryd.prog 14 #[.agg #[.int .i64 k, .string s, .int .i64 ty, .int .i64 lo, .int .i64 hi, .string t, .slice a ps.length cap, .bool hd], .agg #[.int .i64 k, .string s, .int .i64 ty, .int .i64 lo, .int .i64 hi, .string t, .slice a' ps.length cap', .bool hd]] w fun e w' => e = .returned (.bool true) ∧ Below w.heap.size w w' := by
  have HC : Hid (Parts w a ps) := hc
  have HC' : Hid (Parts w a' ps) := hc'
  clear hc hc'
  go_enter Tryd.func14, Tryd.ntmps14
  go_wp2_with fail
  refine (eqParts a a' cap cap' ps _ (HC.out.on ?hb) (HC'.out.on ?hb)).mono ?_
  case hb => go_grown
  rintro e w1 ⟨rfl, hB1⟩
  have HB : Hid (Below w.heap.size w w1) := Below.trans ?hb (hB1.mono (by simp; omega))
  case hb => go_grown
  obtain ⟨hcl, hfz⟩ := bcell hB1
  clear hB1 HC HC'
  go_wp2
  go_ret
  exact ⟨rfl, HB.out⟩
end Go.Proofs.YtbhblnpehhaiiaaDoor.ItmW
