/- Texts of ours, laid together: RdOut, RdLaw. -/
import Derived.Test.YtecopedjjfimoaaGreatDoorBd21
import Derived.Deep.RegionWith
import Derived.Test.YtecopedjjfimoaaGreatDoorBd19
/- ValueRead of the program, whole. -/
namespace Go.Proofs.YtecopedjjfimoaaGreatDoor.RdI
open Go.RowKit
open ValM ValW ValS ValI TxtM RdM TxtI
open RdS (Fresh fresh_none strs Reads ov codes_set zero_cells zero5)

theorem rv_any (s : ByteArray) (w : World) (hm : s.size ≤ maxLen) (hE : EnvR w) :
    Calls Tryz.prog 53 #[.string s] w fun e w' => ∃ k n zs t a cap c, e = .returned (.tuple #[av k n a zs.length cap t, errC c]) ∧ Below w.heap.size w w' ∧ Codes w' a zs ∧ Free w' a zs ∧ Fresh a w.heap.size ∧ Reads s k n zs t c := by
  by_cases hs : s.size ≤ 8000
  · exact rv_in s w hs hE
  · exact (rv_big s w (by omega) hm).mono fun e w' h => ⟨0, 0, [], ByteArray.empty, none, 0, 2, h.1, h.2, Codes.nil _ _, free_nil _ _, fresh_none _, .inl ⟨by omega, rfl, rfl, rfl, rfl, rfl⟩⟩
theorem code_any (c : Int) (w : World) (hE : EnvR w) : Calls Tryz.prog 54 #[errC c] w fun e w' => e = .returned (.int .i64 c) ∧ Below w.heap.size w w' := by
  unfold errC
  by_cases h : c = 0
  · subst h; rw [if_pos rfl]; exact AsW.code_nil w
  · rw [if_neg h]; exact AsW.code_hit c w hE.2.2.2

set_option maxRecDepth 10000 in
set_option maxHeartbeats 2000000 in
theorem impl_read (s : ByteArray) (w : World) (hm : s.size ≤ maxLen) (hE : EnvR w) :
    Calls Tryz.prog 10 #[.string s] w fun e w' => ∃ k n zs t a cap c, e = .returned (ov k n a zs.length cap t c) ∧ Below w.heap.size w w' ∧ Codes w' a zs ∧ Free w' a zs ∧ Fresh a w.heap.size ∧ Reads s k n zs t c := by
  have HE : Hid (EnvR w) := hE
  clear hE
  go_enter Tryz.func10, Tryz.ntmps10
  go_wp2_with fail
  refine (rv_any s _ hm (HE.out.on (below_one w _))).mono ?_
  rintro e w1 ⟨k, n, zs, t, a, cap, c, rfl, hB1, hcd, hfe, hfr, hrd⟩
  rw [World.size_alloc] at hfr
  have HZ1 : Hid (w1.heap[w.heap.size]? = some (.cells zero5 30 (0, 0))) := by
    show _ = _; rw [hB1.block _ (by simp)]; exact heap_alloc_new w _
  have hlt1 : w.heap.size < w1.heap.size := (Array.getElem?_eq_some_iff.1 HZ1.out).1
  have HB1 : Hid (Below w.heap.size w (w1.alloc (.cells #[.int .i64 k, .int .i64 n, .slice a zs.length cap, .string t] 25))) := ((below_one w _).trans (hB1.mono (by simp))).trans ((below_one w1 _).mono (by omega))
  have HCD : Hid (Codes (w1.alloc (.cells #[.int .i64 k, .int .i64 n, .slice a zs.length cap, .string t] 25)) a zs) := hcd.alloc _
  have HFE : Hid (Free (w1.alloc (.cells #[.int .i64 k, .int .i64 n, .slice a zs.length cap, .string t] 25)) a zs) := hfe.on (below_one _ _)
  have HV1 : Hid (At4 (w1.alloc (.cells #[.int .i64 k, .int .i64 n, .slice a zs.length cap, .string t] 25)) w1.heap.size (.int .i64 k) (.int .i64 n) (.slice a zs.length cap) (.string t)) := At4.laid _ _ _ _ _ _
  have HZ2 : Hid ((w1.alloc (.cells #[.int .i64 k, .int .i64 n, .slice a zs.length cap, .string t] 25)).heap[w.heap.size]? = some (.cells zero5 30 (0, 0))) := by
    show _ = _; rw [Below.heap_alloc _ _ _ hlt1]; exact HZ1.out
  have HFR : Hid (Fresh a (w.heap.size + 1)) := hfr
  have HRD : Hid (Reads s k n zs t c) := hrd
  clear hB1 hcd hfr hfe hrd HZ1
  obtain ⟨ev, hev⟩ : ∃ ev, Hid (errC c = ev) := ⟨_, rfl⟩
  rw [hev.out]
  have hwz : w.heap.size < (w1.alloc (.cells #[.int .i64 k, .int .i64 n, .slice a zs.length cap, .string t] 25)).heap.size := by simp; omega
  go_wp2_with fail
  generalize hW : w1.alloc (.cells #[.int .i64 k, .int .i64 n, .slice a zs.length cap, .string t] 25) = W at *
  have step : Hid (Calls Tryz.prog 54 #[ev] W.drew fun e w' => e = .returned (.int .i64 c) ∧ Below W.heap.size W w') := by
    have := code_any c W.drew ((HE.out.on HB1.out).on (Below.refl _ _).drew)
    rw [hev.out] at this
    exact this.mono fun e w' h => ⟨h.1, (Below.refl _ _).drew.trans h.2⟩
  clear hW
  obtain ⟨c0, c1, c2, c3, hvz⟩ := HV1.out
  go_region_with (first
    | (go_at_call 54
       refine step.out.mono ?_
       rintro e w3 ⟨rfl, hB3⟩
       obtain ⟨d0, d1, d2, d3, hdz⟩ := HV1.out.on hB3
       obtain ⟨z0, z1, z2, z3, z4, zf⟩ := zero_cells ((hB3.block _ hwz).trans HZ2.out)))
  all_goals
    have HB3 : Hid (Below w.heap.size w w3) := HB1.out.trans (hB3.mono HB1.out.size)
    have HCD3 : Hid (Codes w3 a zs) := HCD.out.on hB3
    have HFE3 : Hid (Free w3 a zs) := HFE.out.on hB3
    have hlt3 : w.heap.size < w3.heap.size := Nat.lt_of_lt_of_le hwz hB3.size
    clear hB3
    go_wp2
    refine bodyPost_ret (v := ov k n a zs.length cap t c) (by simp [results, Tryz.results10, go_sem, z0, z1, z2, z3, z4]) rfl ⟨k, n, zs, t, a, cap, c, rfl, ?_, ?_, ?_, fun b o hb => by have := HFR.out b o hb; omega, HRD.out⟩
    · repeat (refine Below.setCell ?_ (show w.heap.size ≤ _ by simp only; omega) _)
      exact HB3.out
    · repeat (refine codes_set ?_ (fun b o hb => by have := HFR.out b o hb; simp only; omega) _)
      exact HCD3.out
    · repeat (refine free_set ?_ _ _)
      exact HFE3.out
end Go.Proofs.YtecopedjjfimoaaGreatDoor.RdI
/- The walk of FnExactValueRead. -/
namespace Go.Proofs.YtecopedjjfimoaaGreatDoor.RdL
open Go.RowKit
open ValM ValW ValS ValI TxtM RdM
open RdS (Fresh ov Reads reads_same reads_codes)
open RdI (Free EnvR)

/-- five cells that lie in a block, as an answer with a code does -/
def Out5 (w : World) (b : Nat) (k n : Int) (a : Option Addr) (len cap : Nat) (t : ByteArray) (c : Int) : Prop := w.heap[b]? = some (.cells #[.int .i64 k, .int .i64 n, .slice a len cap, .string t, .int .i64 c] 30 (0, 0))
theorem Out5.lt {w : World} {b : Nat} {k n : Int} {a : Option Addr} {len cap : Nat} {t : ByteArray} {c : Int} (h : Out5 w b k n a len cap t c) : b < w.heap.size := (Array.getElem?_eq_some_iff.1 h).1
theorem Out5.on {w w' : World} {b : Nat} {k n : Int} {a : Option Addr} {len cap : Nat} {t : ByteArray} {c : Int} (h : Out5 w b k n a len cap t c) (hB : Below w.heap.size w w') : Out5 w' b k n a len cap t c := (hB.block b h.lt).trans h
theorem Out5.laid (w : World) (k n : Int) (a : Option Addr) (len cap : Nat) (t : ByteArray) (c : Int) : Out5 (w.alloc (.cells #[.int .i64 k, .int .i64 n, .slice a len cap, .string t, .int .i64 c] 30)) w.heap.size k n a len cap t c := heap_alloc_new w _
theorem Out5.cells {w : World} {b : Nat} {k n : Int} {a : Option Addr} {len cap : Nat} {t : ByteArray} {c : Int} (h : Out5 w b k n a len cap t c) :
    w.cell? ⟨b, 0, none⟩ = some (.int .i64 k) ∧ w.cell? ⟨b, 1, none⟩ = some (.int .i64 n) ∧ w.cell? ⟨b, 2, none⟩ = some (.slice a len cap) ∧ w.cell? ⟨b, 3, none⟩ = some (.string t) ∧ w.cell? ⟨b, 4, none⟩ = some (.int .i64 c) := by
  unfold Out5 at h
  exact ⟨by simp [World.cell?, h], by simp [World.cell?, h], by simp [World.cell?, h], by simp [World.cell?, h], by simp [World.cell?, h]⟩
theorem codes_marked {w w' : World} {a : Option Addr} {zs : List Int} {k : Int} {a1 : Option Addr} {z1 : List Int} (h : Marked w w' a zs k) (hc : Codes w a1 z1) (hne : ∀ b o b1 o1, a = some ⟨b, o, none⟩ → a1 = some ⟨b1, o1, none⟩ → 0 < z1.length → b1 ≠ b) : Codes w' a1 z1 := by
  refine ⟨hc.1, fun hp => ?_⟩
  obtain ⟨b1, o1, ha, hb, hcs⟩ := hc.2 hp
  refine ⟨b1, o1, ha, Nat.lt_of_lt_of_le hb h.2.2.2.1, fun i hi => ?_⟩
  rw [World.cell?_of_block (a := ⟨b1, o1 + i, none⟩) (h.2.2.2.2.1 b1 hb fun b o hab _ => hne b o b1 o1 hab ha hp)]
  exact hcs i hi
theorem out_marked {w w' : World} {a0 : Option Addr} {zs : List Int} {k0 : Int} {b : Nat} {k n : Int} {a : Option Addr} {len cap : Nat} {t : ByteArray} {c : Int} (h : Marked w w' a0 zs k0) (ho : Out5 w b k n a len cap t c) (hne : ∀ b' o, a0 = some ⟨b', o, none⟩ → 0 < zs.length → b ≠ b') : Out5 w' b k n a len cap t c :=
  (h.2.2.2.2.1 b ho.lt hne).trans ho

set_option maxRecDepth 10000 in
set_option maxHeartbeats 4000000 in
theorem walk_read (s : ByteArray) (w : World) (hm : s.size ≤ maxLen) (hE : EnvR w) :
    Calls Tryz.prog 6 #[.string s] w fun e w' => e = .returned (.bool true) ∧ Below w.heap.size w w' := by
  have HE : Hid (EnvR w) := hE
  have HM : Hid (s.size ≤ maxLen) := hm
  unfold maxLen at hm
  clear hE
  by_cases hbig : 1048576 < s.size
  · go_enter Tryz.func6, Tryz.ntmps6
    go_wp2
    go_ret
    exact ⟨rfl, Below.refl _ _⟩
  go_enter Tryz.func6, Tryz.ntmps6
  go_wp2_with fail
  refine (RdS.spec_read s _ HM.out).mono ?_
  rintro e w1 ⟨k, n, zs, t, a1, cap1, c, rfl, hB1, hc1, hrd1⟩
  have hzl := (reads_codes hrd1).1
  have HRD : Hid (Reads s k n zs t c) := hrd1
  have HA1 : Hid (∀ b o, a1 = some ⟨b, o, none⟩ → 0 < zs.length → b < w1.heap.size) := fun b o ha hp => by
    obtain ⟨b', o', ha', hb', _⟩ := hc1.2 hp
    rw [ha] at ha'; cases ha'; exact hb'
  have HB1 : Hid (Below w.heap.size w (w1.alloc (.cells #[.int .i64 k, .int .i64 n, .slice a1 zs.length cap1, .string t, .int .i64 c] 30))) := hB1.trans ((below_one w1 _).mono hB1.size)
  have HC1 : Hid (Codes (w1.alloc (.cells #[.int .i64 k, .int .i64 n, .slice a1 zs.length cap1, .string t, .int .i64 c] 30)) a1 zs) := hc1.alloc _
  have HO1 : Hid (Out5 (w1.alloc (.cells #[.int .i64 k, .int .i64 n, .slice a1 zs.length cap1, .string t, .int .i64 c] 30)) w1.heap.size k n a1 zs.length cap1 t c) := Out5.laid _ _ _ _ _ _ _ _
  have hw1 := hB1.size
  clear hB1 hc1 hrd1
  go_wp2_with fail
  refine (RdI.impl_read s _ HM.out (HE.out.on HB1.out)).mono ?_
  rintro e w2 ⟨k', n', zs', t', a2, cap2, c', rfl, hB2, hc2, hfe2, hfr2, hrd2⟩
  obtain ⟨rfl, rfl, rfl, rfl, rfl⟩ := reads_same HRD.out hrd2
  rw [World.size_alloc] at hfr2
  have HA2 : Hid (∀ b o, a2 = some ⟨b, o, none⟩ → 0 < zs.length → w1.heap.size + 1 ≤ b ∧ b < w2.heap.size) := fun b o ha hp => by
    obtain ⟨b', o', ha', hb', _⟩ := hc2.2 hp
    have := hfr2 b o ha
    rw [ha] at ha'; cases ha'; exact ⟨this, hb'⟩
  have HFR2 : Hid (Fresh a2 (w1.heap.size + 1)) := hfr2
  have hw2 : w1.heap.size + 1 ≤ w2.heap.size := by have := hB2.size; simpa using this
  have HB2 : Hid (Below w.heap.size w (w2.alloc (.cells #[.int .i64 k, .int .i64 n, .slice a2 zs.length cap2, .string t, .int .i64 c] 30))) := (HB1.out.trans (hB2.mono HB1.out.size)).trans ((below_one w2 _).mono (by omega))
  have HC2 : Hid (Codes (w2.alloc (.cells #[.int .i64 k, .int .i64 n, .slice a2 zs.length cap2, .string t, .int .i64 c] 30)) a1 zs) := (HC1.out.on hB2).alloc _
  have HD2 : Hid (Codes (w2.alloc (.cells #[.int .i64 k, .int .i64 n, .slice a2 zs.length cap2, .string t, .int .i64 c] 30)) a2 zs) := hc2.alloc _
  have HF2 : Hid (Free (w2.alloc (.cells #[.int .i64 k, .int .i64 n, .slice a2 zs.length cap2, .string t, .int .i64 c] 30)) a2 zs) := hfe2.on (below_one _ _)
  have HO2 : Hid (Out5 (w2.alloc (.cells #[.int .i64 k, .int .i64 n, .slice a2 zs.length cap2, .string t, .int .i64 c] 30)) w1.heap.size k n a1 zs.length cap1 t c) := (HO1.out.on hB2).on (below_one _ _)
  have HG2 : Hid (Out5 (w2.alloc (.cells #[.int .i64 k, .int .i64 n, .slice a2 zs.length cap2, .string t, .int .i64 c] 30)) w2.heap.size k n a2 zs.length cap2 t c) := Out5.laid _ _ _ _ _ _ _ _
  obtain ⟨o0, o1, o2, o3, o4⟩ := (HO1.out.on hB2).cells
  have hw2' : w1.heap.size < w2.heap.size := by omega
  clear hB2 hc2 hfe2 hfr2 hrd2 HB1 HC1 HO1
  go_wp2_with fail
  refine (eq_out k n a2 a1 cap2 cap1 zs t c _ HD2.out HC2.out).mono ?_
  rintro e w3 ⟨rfl, hB3⟩
  have HB3 : Hid (Below w.heap.size w w3) := HB2.out.trans (hB3.mono HB2.out.size)
  have HC3 : Hid (Codes w3 a1 zs) := HC2.out.on hB3
  have HD3 : Hid (Codes w3 a2 zs) := HD2.out.on hB3
  have HF3 : Hid (Free w3 a2 zs) := HF2.out.on hB3
  have HO3 : Hid (Out5 w3 w1.heap.size k n a1 zs.length cap1 t c) := HO2.out.on hB3
  have HG3 : Hid (Out5 w3 w2.heap.size k n a2 zs.length cap2 t c) := HG2.out.on hB3
  clear hB3 o0 o1 o2 o3 o4 HB2 HC2 HD2 HF2 HO2 HG2
  obtain ⟨g0, g1, g2, g3, g4⟩ := HG3.out.cells
  go_wp2_with fail
  refine (mark_out k n a2 cap2 zs t c 1 _ HD3.out HF3.out (by omega) (by omega)).mono ?_
  rintro e w4 ⟨rfl, hM4⟩
  have HB4 : Hid (Below w.heap.size w w4) := HB3.out.trans (hM4.below (B := w.heap.size) (fun b o hb => by have := HFR2.out b o hb; omega) HB3.out.size)
  have HC4 : Hid (Codes w4 a1 zs) := codes_marked hM4 HC3.out fun b o b1 o1 h1 h2 hp => by have := HA1.out b1 o1 h2 hp; have := HA2.out b o h1 hp; omega
  have HD4 : Hid (Codes w4 a2 (marks 1 zs.length)) := hM4.2.2.2.2.2
  have HO4 : Hid (Out5 w4 w1.heap.size k n a1 zs.length cap1 t c) := out_marked hM4 HO3.out fun b o h1 hp => by have := HA2.out b o h1 hp; omega
  have HG4 : Hid (Out5 w4 w2.heap.size k n a2 zs.length cap2 t c) := out_marked hM4 HG3.out fun b o h1 hp => by have := HA2.out b o h1 hp; omega
  clear hM4 g0 g1 g2 g3 g4 HB3 HC3 HD3 HF3 HO3 HG3
  obtain ⟨g0, g1, g2, g3, g4⟩ := HG4.out.cells
  go_wp2_with fail
  refine (held_out k n a2 cap2 zs.length t c 1 _ HD4.out (by omega) (by omega) (by omega)).mono ?_
  rintro e w5 ⟨rfl, hB5⟩
  have HB5 : Hid (Below w.heap.size w w5) := HB4.out.trans (hB5.mono HB4.out.size)
  have HC5 : Hid (Codes w5 a1 zs) := HC4.out.on hB5
  have HD5 : Hid (Codes w5 a2 (marks 1 zs.length)) := HD4.out.on hB5
  have HO5 : Hid (Out5 w5 w1.heap.size k n a1 zs.length cap1 t c) := HO4.out.on hB5
  have HG5 : Hid (Out5 w5 w2.heap.size k n a2 zs.length cap2 t c) := HG4.out.on hB5
  clear hB5 g0 g1 g2 g3 g4 HB4 HC4 HD4 HO4 HG4
  go_wp2_with fail
  refine (RdI.impl_read s _ HM.out (HE.out.on HB5.out)).mono ?_
  rintro e w6 ⟨k', n', zs', t', a3, cap3, c', rfl, hB6, hc6, _, _, hrd6⟩
  obtain ⟨rfl, rfl, rfl, rfl, rfl⟩ := reads_same HRD.out hrd6
  have HB6 : Hid (Below w.heap.size w (w6.alloc (.cells #[.int .i64 k, .int .i64 n, .slice a3 zs.length cap3, .string t, .int .i64 c] 30))) := (HB5.out.trans (hB6.mono HB5.out.size)).trans ((below_one w6 _).mono (by have := HB5.out.size; have := hB6.size; omega))
  have HC6 : Hid (Codes (w6.alloc (.cells #[.int .i64 k, .int .i64 n, .slice a3 zs.length cap3, .string t, .int .i64 c] 30)) a1 zs) := (HC5.out.on hB6).alloc _
  have HD6 : Hid (Codes (w6.alloc (.cells #[.int .i64 k, .int .i64 n, .slice a3 zs.length cap3, .string t, .int .i64 c] 30)) a2 (marks 1 zs.length)) := (HD5.out.on hB6).alloc _
  have HE6 : Hid (Codes (w6.alloc (.cells #[.int .i64 k, .int .i64 n, .slice a3 zs.length cap3, .string t, .int .i64 c] 30)) a3 zs) := hc6.alloc _
  have HG6 : Hid (Out5 (w6.alloc (.cells #[.int .i64 k, .int .i64 n, .slice a3 zs.length cap3, .string t, .int .i64 c] 30)) w2.heap.size k n a2 zs.length cap2 t c) := (HG5.out.on hB6).on (below_one _ _)
  obtain ⟨o0, o1, o2, o3, o4⟩ := (HO5.out.on hB6).cells
  have hw6 : w1.heap.size < w6.heap.size := (HO5.out.on hB6).lt
  clear hB6 hc6 hrd6 HB5 HC5 HD5 HO5 HG5
  go_wp2_with fail
  refine (eq_out k n a3 a1 cap3 cap1 zs t c _ HE6.out HC6.out).mono ?_
  rintro e w7 ⟨rfl, hB7⟩
  have HB7 : Hid (Below w.heap.size w w7) := HB6.out.trans (hB7.mono HB6.out.size)
  have HD7 : Hid (Codes w7 a2 (marks 1 zs.length)) := HD6.out.on hB7
  have HG7 : Hid (Out5 w7 w2.heap.size k n a2 zs.length cap2 t c) := HG6.out.on hB7
  clear hB7 o0 o1 o2 o3 o4 HB6 HC6 HD6 HE6 HG6
  obtain ⟨g0, g1, g2, g3, g4⟩ := HG7.out.cells
  go_wp2_with fail
  refine (held_out k n a2 cap2 zs.length t c 1 _ HD7.out (by omega) (by omega) (by omega)).mono ?_
  rintro e w8 ⟨rfl, hB8⟩
  have HB8 : Hid (Below w.heap.size w w8) := HB7.out.trans (hB8.mono HB7.out.size)
  clear hB8 g0 g1 g2 g3 g4 HB7 HD7 HG7
  go_wp2
  go_ret
  exact ⟨rfl, HB8.out⟩
end Go.Proofs.YtecopedjjfimoaaGreatDoor.RdL
