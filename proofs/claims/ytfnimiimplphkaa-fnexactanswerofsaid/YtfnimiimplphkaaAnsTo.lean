/- The laws' copies of answers. -/
import Derived.Test.YtfnimiimplphkaaAnsCore
namespace Go.Proofs.Ytfnimiimplphkaa.AnsW
open Go.RowKit
open ValW

set_option maxHeartbeats 4000000 in
theorem toAns5 (s : ByteArray) (k n : Int) (a : Option Addr) (cap : Nat) (zs : List Int) (t : ByteArray) (w : World) (hc : Codes w a zs) :
    Calls Try.prog 19 #[.agg #[.string s, .int .i64 k, .int .i64 n, .slice a zs.length cap, .string t]] w fun e w' => ∃ g', e = .returned (.agg #[.string s, .int .i64 k, .int .i64 n, .slice (some ⟨g', 0, none⟩) zs.length zs.length, .string t]) ∧ w.heap.size ≤ g' ∧ w'.heap[g']? = some (.cells (cellsI zs).toArray 2 (0, 0)) ∧ Below w.heap.size w w' := by
  have HC : Hid (Codes w a zs) := hc
  clear hc
  go_enter Try.func19, Try.ntmps19
  go_wp2_with fail
  refine (toValO k n a cap zs t _ (HC.out.on ?hb)).mono ?_
  case hb => go_grown
  rintro e w1 ⟨g', rfl, hg', hr, hB1⟩
  have HB : Hid (Below w.heap.size w w1) := Below.trans ?hb (hB1.mono (by simp; omega))
  case hb => go_grown
  obtain ⟨hcl, hfz⟩ := bcell hB1
  have hz : w.heap.size + 1 + 1 < w1.heap.size := by have := hB1.size; simp at this; omega
  simp only [World.size_alloc] at hcl hfz hg'
  have HR := hid hr
  clear hr hB1 HC
  go_wp2
  refine bodyPost_ret (v := .agg #[.string s, .int .i64 k, .int .i64 n, .slice (some ⟨g', 0, none⟩) zs.length zs.length, .string t]) (by simp [results, Try.results19, go_sem, hcl]) rfl ⟨_, rfl, by omega, ?_, ?_⟩
  · repeat (refine blk_other ?_ (by simp only; omega) _)
    exact HR.out
  · repeat (refine Below.setCell ?_ (show w.heap.size ≤ _ by simp only; omega) _)
    exact HB.out
theorem toAns (p : An) (a : Option Addr) (cap : Nat) (w : World) (hc : Codes w a (cd p)) :
    Calls Try.prog 19 #[anv p a cap] w fun e w' => ∃ g', e = .returned (anv p (some ⟨g', 0, none⟩) (cd p).length) ∧ w.heap.size ≤ g' ∧ w'.heap[g']? = some (.cells (cellsI (cd p)).toArray 2 (0, 0)) ∧ Below w.heap.size w w' :=
  toAns5 (nm p) (kd p) (nu p) a cap (cd p) (tx p) w hc

theorem szAns_yes (s : ByteArray) (k n : Int) (a : Option Addr) (cap : Nat) (len : Nat) (t : ByteArray) (z : Int) (hz : z ≤ 1048576) (h : ¬ z < s.size + len + t.size) (w : World) :
    Calls Try.prog 16 #[.agg #[.string s, .int .i64 k, .int .i64 n, .slice a len cap, .string t], .int .i64 z] w fun e w' => e = .returned (.int .i64 (z - (s.size + len + t.size))) ∧ Below w.heap.size w w' := by
  go_enter Try.func16, Try.ntmps16
  go_wp2_with fail
  refine (sz_yes k n a len cap t _ _ (by omega) (by omega)).mono ?_
  rintro e w1 ⟨rfl, hB1⟩
  have HB : Hid (Below w.heap.size w w1) := Below.trans ?hb (hB1.mono (by simp))
  case hb => go_grown
  clear hB1
  go_wp2
  go_ret
  exact ⟨by rw [show z - (↑s.size + ↑len + ↑t.size) = z - ↑s.size - ↑len - ↑t.size by omega]; rfl, HB.out⟩
theorem szAns_no (s : ByteArray) (k n : Int) (a : Option Addr) (cap : Nat) (len : Nat) (t : ByteArray) (z : Int) (h0 : 0 ≤ z) (hz : z ≤ 1048576) (h : z < s.size + len + t.size) (hs : s.size ≤ maxLen) (hl : len ≤ maxLen) (ht : t.size ≤ maxLen) (w : World) :
    Calls Try.prog 16 #[.agg #[.string s, .int .i64 k, .int .i64 n, .slice a len cap, .string t], .int .i64 z] w fun e w' => e = .returned (.int .i64 (-1)) ∧ Below w.heap.size w w' := by
  have hs' := hs
  unfold maxLen at hs'
  by_cases hc : z < s.size
  · go_enter Try.func16, Try.ntmps16
    go_wp2
    go_ret
    exact ⟨rfl, by go_grown⟩
  · go_enter Try.func16, Try.ntmps16
    go_wp2_with fail
    refine (sz_no k n a len cap t _ _ (by omega) (by omega) (by omega) hl ht).mono ?_
    rintro e w1 ⟨rfl, hB1⟩
    have HB : Hid (Below w.heap.size w w1) := Below.trans ?hb (hB1.mono (by simp))
    case hb => go_grown
    clear hB1
    go_wp2
    go_ret
    exact ⟨rfl, HB.out⟩

set_option maxHeartbeats 400000 in
theorem eqAns5 (s : ByteArray) (k n : Int) (a a' : Option Addr) (cap cap' : Nat) (zs : List Int) (t : ByteArray) (w : World) (hc : Codes w a zs) (hc' : Codes w a' zs) :
    Calls Try.prog 22 #[.agg #[.string s, .int .i64 k, .int .i64 n, .slice a zs.length cap, .string t], .agg #[.string s, .int .i64 k, .int .i64 n, .slice a' zs.length cap', .string t]] w fun e w' => e = .returned (.bool true) ∧ Below w.heap.size w w' := by
  have HC : Hid (Codes w a zs) := hc
  have HC' : Hid (Codes w a' zs) := hc'
  clear hc hc'
  go_enter Try.func22, Try.ntmps22
  go_wp2_with fail
  refine (eqVal k n a a' cap cap' zs t _ (HC.out.on ?hb) (HC'.out.on ?hb)).mono ?_
  case hb => go_grown
  rintro e w1 ⟨rfl, hB1⟩
  have HB : Hid (Below w.heap.size w w1) := Below.trans ?hb (hB1.mono (by simp; omega))
  case hb => go_grown
  clear hB1 HC HC'
  go_wp2
  go_ret
  exact ⟨rfl, HB.out⟩

set_option maxRecDepth 10000 in
set_option maxHeartbeats 800000 in
theorem toAnsR (a : Option Addr) (cap : Nat) (ls : List An) (w : World) (hc : Ans w a ls) :
    Calls Try.prog 7 #[.slice a ls.length cap] w fun e w' => e = .returned (.slice (some ⟨w.heap.size, 0, none⟩) ls.length ls.length) ∧ Below w.heap.size w w' ∧ RowsA w' w.heap.size ls.length ls.length ls := by
  obtain ⟨i0, hi, hz0, hz1, hz2⟩ := info_parts Try.infoA
  have HC : Hid (Ans w a ls) := hc
  have hl := hc.1
  clear hc
  go_enter Try.func7, Try.ntmps7
  go_wp2_with (first | (at_make; refine wpList_make_full _ rfl _ _ 25 rfl w.heap.size 43 i0 (.agg #[.string ByteArray.empty, .int .i64 0, .int .i64 0, .slice none 0 0, .string ByteArray.empty]) 5 Try.underlying25 hi hz0 hz1 _ _ _ _ ls.length rfl rfl rfl rfl ?m1 ?m2 ?m3 ?_))
  case m1 => rw [hz2]; omega
  case m2 => unfold maxLen; omega
  case m3 => exact Nat.le_refl _
  intro w1 hown hgrow
  have hrow : RowsA w1 w.heap.size ls.length 0 ls := by
    obtain ⟨_, hv⟩ := hown
    rcases hv with ⟨h0, _⟩ | ⟨g, cap, cu, h0, _, hg, _, _, hs, ht⟩
    · cases h0
    · cases h0
      exact ⟨cu, hg, hs, fun i hi => absurd hi (Nat.not_lt_zero _)⟩
  have hB1 : Below w.heap.size w w1 := (Below.refl _ _).grown hgrow (Nat.le_refl _) (fun k hk => by cases hk)
  clear hown hgrow
  go_wp2
  go_loopw [4] (fun i wr => ∃ k : Nat, k ≤ ls.length ∧ i = .int .i64 k ∧ Hid (RowsA wr w.heap.size ls.length k ls) ∧ Below w.heap.size w wr) (fun i _ => ls.length - (intOf i).toNat)
  case atStart => exact ⟨0, Nat.zero_le _, rfl, hrow, hB1⟩
  case round =>
    obtain ⟨k, hk, rfl, hrow, hbel⟩ := hrel
    clear hB1
    by_cases hlt : k < ls.length
    · obtain ⟨_, b, o, ai, cai, rfl, hb, ⟨c0, c1, c2, c3, c4⟩, hcd⟩ := HC.out.at hbel hlt
      have HP : Hid (∀ W g1, RowsA W w.heap.size ls.length k ls → w.heap.size < g1 → W.heap[g1]? = some (.cells (cellsI (cd (ls.getD k an0))).toArray 2 (0, 0)) → RowsA (put5 W w.heap.size (k * 5) (.string (nm (ls.getD k an0))) (.int .i64 (kd (ls.getD k an0))) (.int .i64 (nu (ls.getD k an0))) (.slice (some ⟨g1, 0, none⟩) (cd (ls.getD k an0)).length (cd (ls.getD k an0)).length) (.string (tx (ls.getD k an0)))) w.heap.size ls.length (k + 1) ls) := fun W g1 h h1 h2 => h.put hlt h1 h2
      generalize ls.getD k an0 = p at c0 c1 c2 c3 c4 hcd HP
      obtain ⟨s, kk, n, zs, t⟩ := p
      dsimp only [nm, kd, nu, cd, tx] at c0 c1 c2 c3 c4 hcd HP
      have HB : Hid (Below w.heap.size w wr) := hbel
      have HCd := hid hcd
      clear hbel hcd
      go_wp2_with fail
      refine (toAns5 s kk n ai cai zs t wr HCd.out).mono ?_
      rintro e w2 ⟨g1, rfl, hg1, hr1, hB2⟩
      have HR2 := hid (hrow.out.on hB2)
      have HB2 : Hid (Below w.heap.size w w2) := HB.out.trans (hB2.mono HB.out.size)
      have HG := hid hr1
      have HL : Hid (w.heap.size < g1) := Nat.lt_of_lt_of_le hrow.out.lt hg1
      obtain ⟨⟨v0, r0⟩, f0⟩ := HR2.out.room (j := k * 5) (by omega)
      obtain ⟨⟨v1, r1⟩, f1⟩ := HR2.out.room (j := k * 5 + 1) (by omega)
      obtain ⟨⟨v2, r2⟩, f2⟩ := HR2.out.room (j := k * 5 + 2) (by omega)
      obtain ⟨⟨v3, r3⟩, f3⟩ := HR2.out.room (j := k * 5 + 3) (by omega)
      obtain ⟨⟨v4, r4⟩, f4⟩ := HR2.out.room (j := k * 5 + 4) (by omega)
      clear c0 c1 c2 c3 c4 HC hrow hB2 HB hg1 hr1 HCd
      go_wp2
      refine ⟨⟨k + 1, by omega, by go_num, HP.out _ g1 HR2.out HL.out HG.out, ?_⟩, by simp [intOf]; omega⟩
      exact ((((HB2.out.setCell (Nat.le_refl _) _).setCell (Nat.le_refl _) _).setCell (Nat.le_refl _) _).setCell (Nat.le_refl _) _).setCell (Nat.le_refl _) _
    · go_wp2
      go_ret
      obtain rfl : k = ls.length := by omega
      exact ⟨rfl, hbel, hrow.out⟩
theorem toAnsL (a : Option Addr) (cap : Nat) (ls : List An) (w : World) (hc : Ans w a ls) :
    Calls Try.prog 7 #[.slice a ls.length cap] w fun e w' => e = .returned (.slice (some ⟨w.heap.size, 0, none⟩) ls.length ls.length) ∧ Ans w' (some ⟨w.heap.size, 0, none⟩) ls ∧ Below w.heap.size w w' :=
  (toAnsR a cap ls w hc).mono fun _ _ ⟨h1, h2, h3⟩ => ⟨h1, h3.ans hc.1 hc.2.1 hc.len, h2⟩
end Go.Proofs.Ytfnimiimplphkaa.AnsW
