/- Texts of ours, laid together. -/
import Derived.Test.YtmbhmknfipdadaaGreatDoorBd7
import Derived.Test.YtmbhmknfipdadaaGreatDoorBd11
import Derived.Deep.Cut
import Derived.Deep.CutRange
import Derived.Laws.OwnMore
import Derived.OwnWalk
namespace Go.Proofs.YtmbhmknfipdadaaGreatDoor.ItmS
open Go.RowKit
open PrtW PrtM NameW ItmW ValM ItmM
open PrtS (is_any)
open ValS (plain_in)
set_option maxRecDepth 10000 in
set_option maxHeartbeats 800000 in
theorem spec_label (t : ByteArray) (w : World) (ht : t.size ≤ maxLen) :
  Calls Tryz.prog 108 #[.string t] w fun e w' => e = .returned (.bool (labelB t)) ∧ w' = w := by
 have HT := hid ht
 unfold maxLen at ht
 unfold labelB
 by_cases h1 : 1 ≤ t.size
 ·rw [decide_eq_true h1, Bool.true_and]
  obtain ⟨m, hm⟩ : ∃ m, Hid ((plainB t && decide ((t.size : Int) ≤ 60)) = m) := ⟨_, rfl⟩
  rw [hm.out]
  have k0 : chr t 0 = (t[0]'(by omega)).toNat := chr_at (by omega)
  have k1 : chr t (t.size - 1) = (t[t.size - 1]'(by omega)).toNat := chr_at (by omega)
  rw [k0, k1]
  clear k0 k1
  cases m
  ·go_enter Tryz.func108, Tryz.ntmps108
   go_wp2_with (first | (go_at_call 131; refine (plain_in t 60 _ HT.out).mono ?_; rintro e w' ⟨rfl, rfl⟩; rw [hm.out]))
   go_ret
   exact ⟨rfl, rfl⟩
  ·rw [Bool.true_and]
   go_enter Tryz.func108, Tryz.ntmps108
   go_wp2_with (first | (go_at_call 131; refine (plain_in t 60 _ HT.out).mono ?_; rintro e w' ⟨rfl, rfl⟩; rw [hm.out]))
   all_goals
    go_ret
    exact ⟨ret_bool (by rw [Bool.eq_iff_iff]; simp <;> omega), rfl⟩
 ·rw [decide_eq_false h1, Bool.false_and]
  go_enter Tryz.func108, Tryz.ntmps108
  go_wp2
  go_ret
  exact ⟨rfl, rfl⟩
set_option maxRecDepth 10000 in
set_option maxHeartbeats 1600000 in
theorem spec_range (k : Int) (s : ByteArray) (ty lo hi : Int) (t : ByteArray) (a : Option Addr) (len cap : Nat) (hd : Bool) (w : World) :
  Calls Tryz.prog 107 #[.agg #[.int .i64 k, .string s, .int .i64 ty, .int .i64 lo, .int .i64 hi, .string t, .slice a len cap, .bool hd]] w fun e w' => e = .returned (.bool (rangeB ty lo hi)) ∧ Below w.heap.size w w' := by
 rcases (by omega : ty = 1 ∨ ty = 2 ∨ ty = 3 ∨ ty = 4 ∨ (ty ≠ 1 ∧ ty ≠ 2 ∧ ty ≠ 3 ∧ ty ≠ 4)) with rfl | rfl | rfl | rfl | ⟨h1, h2, h3, h4⟩
 ·have e : rangeB 1 lo hi = (inB lo (-1000000) 1000000 && inB hi lo 1000000) := rfl
  rw [e]
  clear e
  obtain ⟨r, hr⟩ : ∃ r, Hid (inB lo (-1000000) 1000000 = r) := ⟨_, rfl⟩
  rw [hr.out]
  cases r
  ·go_enter Tryz.func107, Tryz.ntmps107
   go_wp2_with (first | (go_at_call 60; refine (is_any _ _ _ _).mono ?_; rintro e w' ⟨rfl, rfl⟩; rw [hr.out]))
   go_ret
   exact ⟨rfl, by go_grown⟩
  ·rw [Bool.true_and]
   go_enter Tryz.func107, Tryz.ntmps107
   go_wp2_with (first | (go_at_call 60; refine (is_any _ _ _ _).mono ?_; rintro e w' ⟨rfl, rfl⟩; (try rw [hr.out])))
   go_ret
   exact ⟨rfl, by go_grown⟩
 ·by_cases h0 : lo = 1
  ·subst h0
   have e : rangeB 2 1 hi = inB hi 1 20 := by unfold rangeB inB; simp
   rw [e]
   clear e
   go_enter Tryz.func107, Tryz.ntmps107
   go_wp2_with (first | (go_at_call 60; refine (is_any _ _ _ _).mono ?_; rintro e w' ⟨rfl, rfl⟩))
   go_ret
   exact ⟨rfl, by go_grown⟩
  ·have e : rangeB 2 lo hi = false := by unfold rangeB; simp [h0]
   rw [e]
   have e0 : (lo == 1) = false := by simp [h0]
   go_enter Tryz.func107, Tryz.ntmps107
   go_wp2
   go_ret
   exact ⟨rfl, by go_grown⟩
 ·by_cases h0 : lo = 1
  ·subst h0
   have e : rangeB 3 1 hi = inB hi 1 20 := by unfold rangeB inB; simp
   rw [e]
   clear e
   go_enter Tryz.func107, Tryz.ntmps107
   go_wp2_with (first | (go_at_call 60; refine (is_any _ _ _ _).mono ?_; rintro e w' ⟨rfl, rfl⟩))
   go_ret
   exact ⟨rfl, by go_grown⟩
  ·have e : rangeB 3 lo hi = false := by unfold rangeB; simp [h0]
   rw [e]
   have e0 : (lo == 1) = false := by simp [h0]
   go_enter Tryz.func107, Tryz.ntmps107
   go_wp2
   go_ret
   exact ⟨rfl, by go_grown⟩
 ·by_cases h0 : lo = 0
  ·subst h0
   have e : rangeB 4 0 hi = inB hi 1 40 := by unfold rangeB inB; simp
   rw [e]
   clear e
   go_enter Tryz.func107, Tryz.ntmps107
   go_wp2_with (first | (go_at_call 60; refine (is_any _ _ _ _).mono ?_; rintro e w' ⟨rfl, rfl⟩))
   go_ret
   exact ⟨rfl, by go_grown⟩
  ·have e : rangeB 4 lo hi = false := by unfold rangeB; simp [h0]
   rw [e]
   have e0 : (lo == 0) = false := by simp [h0]
   go_enter Tryz.func107, Tryz.ntmps107
   go_wp2
   go_ret
   exact ⟨rfl, by go_grown⟩
 ·have e : rangeB ty lo hi = false := by unfold rangeB; simp [h1, h2, h3, h4]
  rw [e]
  have e1 : (ty == 1) = false := by simp [h1]
  have e2 : (ty == 2) = false := by simp [h2]
  have e3 : (ty == 3) = false := by simp [h3]
  have e4 : (ty == 4) = false := by simp [h4]
  go_enter Tryz.func107, Tryz.ntmps107
  go_wp2
  go_ret
  exact ⟨rfl, by go_grown⟩
set_option maxHeartbeats 800000 in
theorem spec_bare (k : Int) (s : ByteArray) (ty lo hi : Int) (t : ByteArray) (a : Option Addr) (len cap : Nat) (hd : Bool) (w : World) :
  Calls Tryz.prog 109 #[.agg #[.int .i64 k, .string s, .int .i64 ty, .int .i64 lo, .int .i64 hi, .string t, .slice a len cap, .bool hd]] w fun e w' => e = .returned (.bool (bareB ty lo hi)) ∧ Below w.heap.size w w' := by
 go_enter Tryz.func109, Tryz.ntmps109
 go_wp2
 all_goals
  go_ret
  exact ⟨ret_bool (by unfold bareB; rw [Bool.eq_iff_iff]; simp <;> omega), by go_grown⟩
open Go.RowKit
open PrtW PrtM NameW ItmW ValM ItmM
open PrtS (spec_truth spec_right)
def At8 (w : World) (b : Nat) (v0 v1 v2 v3 v4 v5 v6 v7 : Value) : Prop := (w.cell? ⟨b, 0, none⟩ = some v0 ∧ w.cell? ⟨b, 1, none⟩ = some v1 ∧ w.cell? ⟨b, 2, none⟩ = some v2 ∧ w.cell? ⟨b, 3, none⟩ = some v3 ∧ w.cell? ⟨b, 4, none⟩ = some v4 ∧ w.cell? ⟨b, 5, none⟩ = some v5 ∧ w.cell? ⟨b, 6, none⟩ = some v6 ∧ w.cell? ⟨b, 7, none⟩ = some v7) ∧ b < w.heap.size
theorem At8.on {w w' : World} {b : Nat} {v0 v1 v2 v3 v4 v5 v6 v7 : Value} (h : At8 w b v0 v1 v2 v3 v4 v5 v6 v7) (hB : Below w.heap.size w w') : At8 w' b v0 v1 v2 v3 v4 v5 v6 v7 := by
 obtain ⟨⟨h0, h1, h2, h3, h4, h5, h6, h7⟩, hl⟩ := h
 exact ⟨⟨by rw [hB.cell (p := ⟨b, _, none⟩) hl]; exact h0, by rw [hB.cell (p := ⟨b, _, none⟩) hl]; exact h1, by rw [hB.cell (p := ⟨b, _, none⟩) hl]; exact h2, by rw [hB.cell (p := ⟨b, _, none⟩) hl]; exact h3, by rw [hB.cell (p := ⟨b, _, none⟩) hl]; exact h4, by rw [hB.cell (p := ⟨b, _, none⟩) hl]; exact h5, by rw [hB.cell (p := ⟨b, _, none⟩) hl]; exact h6, by rw [hB.cell (p := ⟨b, _, none⟩) hl]; exact h7⟩, Nat.lt_of_lt_of_le hl hB.size⟩
theorem At8.laid (w : World) (T : TypeId) (v0 v1 v2 v3 v4 v5 v6 v7 : Value) : At8 (w.alloc (.cells #[v0, v1, v2, v3, v4, v5, v6, v7] T)) w.heap.size v0 v1 v2 v3 v4 v5 v6 v7 := ⟨⟨by simp, by simp, by simp, by simp, by simp, by simp, by simp, by simp⟩, by simp⟩
theorem below_one (w : World) (o : Obj) : Below w.heap.size w (w.alloc o) := (Below.refl _ _).alloc (Nat.le_refl _) o
set_option maxRecDepth 10000 in
set_option maxHeartbeats 3200000 in
theorem spec_item_1 (s : ByteArray) (ty lo hi : Int) (t : ByteArray) (a : Option Addr) (cap : Nat) (ps : List Pt) (hd : Bool) (w : World) (hP : Parts w a ps) (hs : s.size ≤ maxLen) (ht : t.size ≤ maxLen) :
  Calls Tryz.prog 80 #[.agg #[.int .i64 1, .string s, .int .i64 ty, .int .i64 lo, .int .i64 hi, .string t, .slice a ps.length cap, .bool hd]] w fun e w' => e = .returned (.bool (itemB (1, s, ty, lo, hi, t, ps, hd))) ∧ Below w.heap.size w w' := by
 have HP := hid hP
 have HS := hid hs
 have HT := hid ht
 have hpl := hP.1
 clear hP hs ht
 obtain ⟨vC, hC⟩ : ∃ v, Hid (nameB s = v) := ⟨_, rfl⟩
 obtain ⟨vR, hR⟩ : ∃ v, Hid (rangeB ty lo hi = v) := ⟨_, rfl⟩
 obtain ⟨vL, hL⟩ : ∃ v, Hid (labelB t = v) := ⟨_, rfl⟩
 obtain ⟨vT, hT⟩ : ∃ v, Hid (truthB ps = v) := ⟨_, rfl⟩
 obtain ⟨vZ, hZ⟩ : ∃ v, decide ((ps.length : Int) = 0) = v := ⟨_, rfl⟩
 have eI : itemB (1, s, ty, lo, hi, t, ps, hd) = (vC && (vR && (vL && (vZ && !hd)))) := by
  rw [← hC.out, ← hR.out, ← hL.out, ← hZ]; rfl
 rw [eI]
 clear eI
 have hZ1 : (((ps.length : Nat) : Int) == 0) = vZ := by rw [← hZ, Bool.eq_iff_iff]; simp
 clear hZ
 go_enter Tryz.func80, Tryz.ntmps80
 go_wp2_with fail
 refine (spec_truth a cap ps _ (HP.out.on (below_one _ _))).mono ?_
 rintro e w1 ⟨rfl, hB1⟩
 rw [hT.out]
 have HB1 : Hid (Below w.heap.size w w1) := (below_one w _).trans (hB1.mono (by simp))
 have HE1 := hid ((At8.laid w 57 (.int .i64 1) (.string s) (.int .i64 ty) (.int .i64 lo) (.int .i64 hi) (.string t) (.slice a ps.length cap) (.bool hd)).on hB1)
 have HP1 := hid ((HP.out.on (below_one _ _)).on hB1)
 clear hB1
 obtain ⟨⟨x0, x1, x2, x3, x4, x5, x6, x7⟩, xl⟩ := HE1.out
 cases vC
 case false =>
  go_wp2_with (first | (go_at_call 83; refine (spec_name s _ HS.out).mono ?_; rintro e w9 ⟨h9, h8⟩; subst h9; subst h8; rw [hC.out]) | (go_at_call 107; refine (spec_range 1 s ty lo hi t a ps.length cap hd _).mono ?_; rintro e w2 ⟨rfl, hB2⟩; rw [hR.out]; have HE2 := hid (HE1.out.on hB2); obtain ⟨⟨y0, y1, y2, y3, y4, y5, y6, y7⟩, yl⟩ := HE2.out; have HB2 := hid (HB1.out.trans (hB2.mono HB1.out.size)); have HP2 := hid (HP1.out.on hB2); clear hB2) | (go_at_call 108; refine (spec_label t _ HT.out).mono ?_; rintro e w9 ⟨h9, h8⟩; subst h9; subst h8; rw [hL.out]))
  go_ret
  first | exact ⟨rfl, HB3.out⟩ | exact ⟨rfl, HB2.out⟩ | exact ⟨rfl, HB1.out⟩
 cases vR
 case false =>
  go_wp2_with (first | (go_at_call 83; refine (spec_name s _ HS.out).mono ?_; rintro e w9 ⟨h9, h8⟩; subst h9; subst h8; rw [hC.out]) | (go_at_call 107; refine (spec_range 1 s ty lo hi t a ps.length cap hd _).mono ?_; rintro e w2 ⟨rfl, hB2⟩; rw [hR.out]; have HE2 := hid (HE1.out.on hB2); obtain ⟨⟨y0, y1, y2, y3, y4, y5, y6, y7⟩, yl⟩ := HE2.out; have HB2 := hid (HB1.out.trans (hB2.mono HB1.out.size)); have HP2 := hid (HP1.out.on hB2); clear hB2) | (go_at_call 108; refine (spec_label t _ HT.out).mono ?_; rintro e w9 ⟨h9, h8⟩; subst h9; subst h8; rw [hL.out]))
  go_ret
  first | exact ⟨rfl, HB3.out⟩ | exact ⟨rfl, HB2.out⟩ | exact ⟨rfl, HB1.out⟩
 cases vL
 case false =>
  go_wp2_with (first | (go_at_call 83; refine (spec_name s _ HS.out).mono ?_; rintro e w9 ⟨h9, h8⟩; subst h9; subst h8; rw [hC.out]) | (go_at_call 107; refine (spec_range 1 s ty lo hi t a ps.length cap hd _).mono ?_; rintro e w2 ⟨rfl, hB2⟩; rw [hR.out]; have HE2 := hid (HE1.out.on hB2); obtain ⟨⟨y0, y1, y2, y3, y4, y5, y6, y7⟩, yl⟩ := HE2.out; have HB2 := hid (HB1.out.trans (hB2.mono HB1.out.size)); have HP2 := hid (HP1.out.on hB2); clear hB2) | (go_at_call 108; refine (spec_label t _ HT.out).mono ?_; rintro e w9 ⟨h9, h8⟩; subst h9; subst h8; rw [hL.out]))
  go_ret
  first | exact ⟨rfl, HB3.out⟩ | exact ⟨rfl, HB2.out⟩ | exact ⟨rfl, HB1.out⟩
 cases vZ
 case false =>
  go_wp2_with (first | (go_at_call 83; refine (spec_name s _ HS.out).mono ?_; rintro e w9 ⟨h9, h8⟩; subst h9; subst h8; rw [hC.out]) | (go_at_call 107; refine (spec_range 1 s ty lo hi t a ps.length cap hd _).mono ?_; rintro e w2 ⟨rfl, hB2⟩; rw [hR.out]; have HE2 := hid (HE1.out.on hB2); obtain ⟨⟨y0, y1, y2, y3, y4, y5, y6, y7⟩, yl⟩ := HE2.out; have HB2 := hid (HB1.out.trans (hB2.mono HB1.out.size)); have HP2 := hid (HP1.out.on hB2); clear hB2) | (go_at_call 108; refine (spec_label t _ HT.out).mono ?_; rintro e w9 ⟨h9, h8⟩; subst h9; subst h8; rw [hL.out]))
  go_ret
  first | exact ⟨rfl, HB3.out⟩ | exact ⟨rfl, HB2.out⟩ | exact ⟨rfl, HB1.out⟩
 go_wp2_with (first | (go_at_call 83; refine (spec_name s _ HS.out).mono ?_; rintro e w9 ⟨h9, h8⟩; subst h9; subst h8; rw [hC.out]) | (go_at_call 107; refine (spec_range 1 s ty lo hi t a ps.length cap hd _).mono ?_; rintro e w2 ⟨rfl, hB2⟩; rw [hR.out]; have HE2 := hid (HE1.out.on hB2); obtain ⟨⟨y0, y1, y2, y3, y4, y5, y6, y7⟩, yl⟩ := HE2.out; have HB2 := hid (HB1.out.trans (hB2.mono HB1.out.size)); have HP2 := hid (HP1.out.on hB2); clear hB2) | (go_at_call 108; refine (spec_label t _ HT.out).mono ?_; rintro e w9 ⟨h9, h8⟩; subst h9; subst h8; rw [hL.out]))
 go_ret
 first | exact ⟨rfl, HB3.out⟩ | exact ⟨rfl, HB2.out⟩ | exact ⟨rfl, HB1.out⟩
set_option maxRecDepth 10000 in
set_option maxHeartbeats 3200000 in
theorem spec_item_2 (s : ByteArray) (ty lo hi : Int) (t : ByteArray) (a : Option Addr) (cap : Nat) (ps : List Pt) (hd : Bool) (w : World) (hP : Parts w a ps) (hs : s.size ≤ maxLen) (ht : t.size ≤ maxLen) :
  Calls Tryz.prog 80 #[.agg #[.int .i64 2, .string s, .int .i64 ty, .int .i64 lo, .int .i64 hi, .string t, .slice a ps.length cap, .bool hd]] w fun e w' => e = .returned (.bool (itemB (2, s, ty, lo, hi, t, ps, hd))) ∧ Below w.heap.size w w' := by
 have HP := hid hP
 have HS := hid hs
 have HT := hid ht
 have hpl := hP.1
 clear hP hs ht
 obtain ⟨vB, hB⟩ : ∃ v, Hid (bareB ty lo hi = v) := ⟨_, rfl⟩
 obtain ⟨vT, hT⟩ : ∃ v, Hid (truthB ps = v) := ⟨_, rfl⟩
 obtain ⟨vEs, hEs⟩ : ∃ v, s.toList.isEmpty = v := ⟨_, rfl⟩
 obtain ⟨vEt, hEt⟩ : ∃ v, t.toList.isEmpty = v := ⟨_, rfl⟩
 have eI : itemB (2, s, ty, lo, hi, t, ps, hd) = (vEs && (vB && (vEt && (vT && !hd)))) := by
  rw [← hEs, ← hB.out, ← hEt, ← hT.out]; rfl
 rw [eI]
 clear eI
 go_enter Tryz.func80, Tryz.ntmps80
 go_wp2_with fail
 refine (spec_truth a cap ps _ (HP.out.on (below_one _ _))).mono ?_
 rintro e w1 ⟨rfl, hB1⟩
 rw [hT.out]
 have HB1 : Hid (Below w.heap.size w w1) := (below_one w _).trans (hB1.mono (by simp))
 have HE1 := hid ((At8.laid w 57 (.int .i64 2) (.string s) (.int .i64 ty) (.int .i64 lo) (.int .i64 hi) (.string t) (.slice a ps.length cap) (.bool hd)).on hB1)
 have HP1 := hid ((HP.out.on (below_one _ _)).on hB1)
 clear hB1
 obtain ⟨⟨x0, x1, x2, x3, x4, x5, x6, x7⟩, xl⟩ := HE1.out
 cases vEs
 case false =>
  go_wp2_with (first | (go_at_call 109; refine (spec_bare 2 s ty lo hi t a ps.length cap hd _).mono ?_; rintro e w2 ⟨rfl, hB2⟩; rw [hB.out]; have HE2 := hid (HE1.out.on hB2); obtain ⟨⟨y0, y1, y2, y3, y4, y5, y6, y7⟩, yl⟩ := HE2.out; have HB2 := hid (HB1.out.trans (hB2.mono HB1.out.size)); have HP2 := hid (HP1.out.on hB2); clear hB2))
  go_ret
  first | exact ⟨rfl, HB3.out⟩ | exact ⟨rfl, HB2.out⟩ | exact ⟨rfl, HB1.out⟩
 cases vB
 case false =>
  go_wp2_with (first | (go_at_call 109; refine (spec_bare 2 s ty lo hi t a ps.length cap hd _).mono ?_; rintro e w2 ⟨rfl, hB2⟩; rw [hB.out]; have HE2 := hid (HE1.out.on hB2); obtain ⟨⟨y0, y1, y2, y3, y4, y5, y6, y7⟩, yl⟩ := HE2.out; have HB2 := hid (HB1.out.trans (hB2.mono HB1.out.size)); have HP2 := hid (HP1.out.on hB2); clear hB2))
  go_ret
  first | exact ⟨rfl, HB3.out⟩ | exact ⟨rfl, HB2.out⟩ | exact ⟨rfl, HB1.out⟩
 cases vEt
 case false =>
  go_wp2_with (first | (go_at_call 109; refine (spec_bare 2 s ty lo hi t a ps.length cap hd _).mono ?_; rintro e w2 ⟨rfl, hB2⟩; rw [hB.out]; have HE2 := hid (HE1.out.on hB2); obtain ⟨⟨y0, y1, y2, y3, y4, y5, y6, y7⟩, yl⟩ := HE2.out; have HB2 := hid (HB1.out.trans (hB2.mono HB1.out.size)); have HP2 := hid (HP1.out.on hB2); clear hB2))
  go_ret
  first | exact ⟨rfl, HB3.out⟩ | exact ⟨rfl, HB2.out⟩ | exact ⟨rfl, HB1.out⟩
 cases vT
 case false =>
  go_wp2_with (first | (go_at_call 109; refine (spec_bare 2 s ty lo hi t a ps.length cap hd _).mono ?_; rintro e w2 ⟨rfl, hB2⟩; rw [hB.out]; have HE2 := hid (HE1.out.on hB2); obtain ⟨⟨y0, y1, y2, y3, y4, y5, y6, y7⟩, yl⟩ := HE2.out; have HB2 := hid (HB1.out.trans (hB2.mono HB1.out.size)); have HP2 := hid (HP1.out.on hB2); clear hB2))
  go_ret
  first | exact ⟨rfl, HB3.out⟩ | exact ⟨rfl, HB2.out⟩ | exact ⟨rfl, HB1.out⟩
 go_wp2_with (first | (go_at_call 109; refine (spec_bare 2 s ty lo hi t a ps.length cap hd _).mono ?_; rintro e w2 ⟨rfl, hB2⟩; rw [hB.out]; have HE2 := hid (HE1.out.on hB2); obtain ⟨⟨y0, y1, y2, y3, y4, y5, y6, y7⟩, yl⟩ := HE2.out; have HB2 := hid (HB1.out.trans (hB2.mono HB1.out.size)); have HP2 := hid (HP1.out.on hB2); clear hB2))
 go_ret
 first | exact ⟨rfl, HB3.out⟩ | exact ⟨rfl, HB2.out⟩ | exact ⟨rfl, HB1.out⟩
set_option maxRecDepth 10000 in
set_option maxHeartbeats 3200000 in
theorem spec_item_3 (s : ByteArray) (ty lo hi : Int) (t : ByteArray) (a : Option Addr) (cap : Nat) (ps : List Pt) (hd : Bool) (w : World) (hP : Parts w a ps) (hs : s.size ≤ maxLen) (ht : t.size ≤ maxLen) :
  Calls Tryz.prog 80 #[.agg #[.int .i64 3, .string s, .int .i64 ty, .int .i64 lo, .int .i64 hi, .string t, .slice a ps.length cap, .bool hd]] w fun e w' => e = .returned (.bool (itemB (3, s, ty, lo, hi, t, ps, hd))) ∧ Below w.heap.size w w' := by
 have HP := hid hP
 have HS := hid hs
 have HT := hid ht
 have hpl := hP.1
 clear hP hs ht
 obtain ⟨vB, hB⟩ : ∃ v, Hid (bareB ty lo hi = v) := ⟨_, rfl⟩
 obtain ⟨vT, hT⟩ : ∃ v, Hid (truthB ps = v) := ⟨_, rfl⟩
 obtain ⟨vEs, hEs⟩ : ∃ v, s.toList.isEmpty = v := ⟨_, rfl⟩
 obtain ⟨vEt, hEt⟩ : ∃ v, t.toList.isEmpty = v := ⟨_, rfl⟩
 obtain ⟨vZ, hZ⟩ : ∃ v, decide ((ps.length : Int) = 0) = v := ⟨_, rfl⟩
 have eI : itemB (3, s, ty, lo, hi, t, ps, hd) = (vEs && (vB && (vEt && (vZ && !hd)))) := by
  rw [← hEs, ← hB.out, ← hEt, ← hZ]; rfl
 rw [eI]
 clear eI
 have hZ1 : (((ps.length : Nat) : Int) == 0) = vZ := by rw [← hZ, Bool.eq_iff_iff]; simp
 clear hZ
 go_enter Tryz.func80, Tryz.ntmps80
 go_wp2_with fail
 refine (spec_truth a cap ps _ (HP.out.on (below_one _ _))).mono ?_
 rintro e w1 ⟨rfl, hB1⟩
 rw [hT.out]
 have HB1 : Hid (Below w.heap.size w w1) := (below_one w _).trans (hB1.mono (by simp))
 have HE1 := hid ((At8.laid w 57 (.int .i64 3) (.string s) (.int .i64 ty) (.int .i64 lo) (.int .i64 hi) (.string t) (.slice a ps.length cap) (.bool hd)).on hB1)
 have HP1 := hid ((HP.out.on (below_one _ _)).on hB1)
 clear hB1
 obtain ⟨⟨x0, x1, x2, x3, x4, x5, x6, x7⟩, xl⟩ := HE1.out
 cases vEs
 case false =>
  go_wp2_with (first | (go_at_call 109; refine (spec_bare 3 s ty lo hi t a ps.length cap hd _).mono ?_; rintro e w2 ⟨rfl, hB2⟩; rw [hB.out]; have HE2 := hid (HE1.out.on hB2); obtain ⟨⟨y0, y1, y2, y3, y4, y5, y6, y7⟩, yl⟩ := HE2.out; have HB2 := hid (HB1.out.trans (hB2.mono HB1.out.size)); have HP2 := hid (HP1.out.on hB2); clear hB2))
  go_ret
  first | exact ⟨rfl, HB3.out⟩ | exact ⟨rfl, HB2.out⟩ | exact ⟨rfl, HB1.out⟩
 cases vB
 case false =>
  go_wp2_with (first | (go_at_call 109; refine (spec_bare 3 s ty lo hi t a ps.length cap hd _).mono ?_; rintro e w2 ⟨rfl, hB2⟩; rw [hB.out]; have HE2 := hid (HE1.out.on hB2); obtain ⟨⟨y0, y1, y2, y3, y4, y5, y6, y7⟩, yl⟩ := HE2.out; have HB2 := hid (HB1.out.trans (hB2.mono HB1.out.size)); have HP2 := hid (HP1.out.on hB2); clear hB2))
  go_ret
  first | exact ⟨rfl, HB3.out⟩ | exact ⟨rfl, HB2.out⟩ | exact ⟨rfl, HB1.out⟩
 cases vEt
 case false =>
  go_wp2_with (first | (go_at_call 109; refine (spec_bare 3 s ty lo hi t a ps.length cap hd _).mono ?_; rintro e w2 ⟨rfl, hB2⟩; rw [hB.out]; have HE2 := hid (HE1.out.on hB2); obtain ⟨⟨y0, y1, y2, y3, y4, y5, y6, y7⟩, yl⟩ := HE2.out; have HB2 := hid (HB1.out.trans (hB2.mono HB1.out.size)); have HP2 := hid (HP1.out.on hB2); clear hB2))
  go_ret
  first | exact ⟨rfl, HB3.out⟩ | exact ⟨rfl, HB2.out⟩ | exact ⟨rfl, HB1.out⟩
 cases vZ
 case false =>
  go_wp2_with (first | (go_at_call 109; refine (spec_bare 3 s ty lo hi t a ps.length cap hd _).mono ?_; rintro e w2 ⟨rfl, hB2⟩; rw [hB.out]; have HE2 := hid (HE1.out.on hB2); obtain ⟨⟨y0, y1, y2, y3, y4, y5, y6, y7⟩, yl⟩ := HE2.out; have HB2 := hid (HB1.out.trans (hB2.mono HB1.out.size)); have HP2 := hid (HP1.out.on hB2); clear hB2))
  go_ret
  first | exact ⟨rfl, HB3.out⟩ | exact ⟨rfl, HB2.out⟩ | exact ⟨rfl, HB1.out⟩
 go_wp2_with (first | (go_at_call 109; refine (spec_bare 3 s ty lo hi t a ps.length cap hd _).mono ?_; rintro e w2 ⟨rfl, hB2⟩; rw [hB.out]; have HE2 := hid (HE1.out.on hB2); obtain ⟨⟨y0, y1, y2, y3, y4, y5, y6, y7⟩, yl⟩ := HE2.out; have HB2 := hid (HB1.out.trans (hB2.mono HB1.out.size)); have HP2 := hid (HP1.out.on hB2); clear hB2))
 go_ret
 first | exact ⟨rfl, HB3.out⟩ | exact ⟨rfl, HB2.out⟩ | exact ⟨rfl, HB1.out⟩
set_option maxRecDepth 10000 in
set_option maxHeartbeats 3200000 in
theorem spec_item_4 (s : ByteArray) (ty lo hi : Int) (t : ByteArray) (a : Option Addr) (cap : Nat) (ps : List Pt) (hd : Bool) (w : World) (hP : Parts w a ps) (hs : s.size ≤ maxLen) (ht : t.size ≤ maxLen) :
  Calls Tryz.prog 80 #[.agg #[.int .i64 4, .string s, .int .i64 ty, .int .i64 lo, .int .i64 hi, .string t, .slice a ps.length cap, .bool hd]] w fun e w' => e = .returned (.bool (itemB (4, s, ty, lo, hi, t, ps, hd))) ∧ Below w.heap.size w w' := by
 have HP := hid hP
 have HS := hid hs
 have HT := hid ht
 have hpl := hP.1
 clear hP hs ht
 obtain ⟨vB, hB⟩ : ∃ v, Hid (bareB ty lo hi = v) := ⟨_, rfl⟩
 obtain ⟨vT, hT⟩ : ∃ v, Hid (truthB ps = v) := ⟨_, rfl⟩
 obtain ⟨vEs, hEs⟩ : ∃ v, s.toList.isEmpty = v := ⟨_, rfl⟩
 obtain ⟨vEt, hEt⟩ : ∃ v, t.toList.isEmpty = v := ⟨_, rfl⟩
 obtain ⟨vZ, hZ⟩ : ∃ v, decide ((ps.length : Int) = 0) = v := ⟨_, rfl⟩
 have eI : itemB (4, s, ty, lo, hi, t, ps, hd) = (vEs && (vB && (vEt && (vZ && !hd)))) := by
  rw [← hEs, ← hB.out, ← hEt, ← hZ]; rfl
 rw [eI]
 clear eI
 have hZ1 : (((ps.length : Nat) : Int) == 0) = vZ := by rw [← hZ, Bool.eq_iff_iff]; simp
 clear hZ
 go_enter Tryz.func80, Tryz.ntmps80
 go_wp2_with fail
 refine (spec_truth a cap ps _ (HP.out.on (below_one _ _))).mono ?_
 rintro e w1 ⟨rfl, hB1⟩
 rw [hT.out]
 have HB1 : Hid (Below w.heap.size w w1) := (below_one w _).trans (hB1.mono (by simp))
 have HE1 := hid ((At8.laid w 57 (.int .i64 4) (.string s) (.int .i64 ty) (.int .i64 lo) (.int .i64 hi) (.string t) (.slice a ps.length cap) (.bool hd)).on hB1)
 have HP1 := hid ((HP.out.on (below_one _ _)).on hB1)
 clear hB1
 obtain ⟨⟨x0, x1, x2, x3, x4, x5, x6, x7⟩, xl⟩ := HE1.out
 cases vEs
 case false =>
  go_wp2_with (first | (go_at_call 109; refine (spec_bare 4 s ty lo hi t a ps.length cap hd _).mono ?_; rintro e w2 ⟨rfl, hB2⟩; rw [hB.out]; have HE2 := hid (HE1.out.on hB2); obtain ⟨⟨y0, y1, y2, y3, y4, y5, y6, y7⟩, yl⟩ := HE2.out; have HB2 := hid (HB1.out.trans (hB2.mono HB1.out.size)); have HP2 := hid (HP1.out.on hB2); clear hB2))
  go_ret
  first | exact ⟨rfl, HB3.out⟩ | exact ⟨rfl, HB2.out⟩ | exact ⟨rfl, HB1.out⟩
 cases vB
 case false =>
  go_wp2_with (first | (go_at_call 109; refine (spec_bare 4 s ty lo hi t a ps.length cap hd _).mono ?_; rintro e w2 ⟨rfl, hB2⟩; rw [hB.out]; have HE2 := hid (HE1.out.on hB2); obtain ⟨⟨y0, y1, y2, y3, y4, y5, y6, y7⟩, yl⟩ := HE2.out; have HB2 := hid (HB1.out.trans (hB2.mono HB1.out.size)); have HP2 := hid (HP1.out.on hB2); clear hB2))
  go_ret
  first | exact ⟨rfl, HB3.out⟩ | exact ⟨rfl, HB2.out⟩ | exact ⟨rfl, HB1.out⟩
 cases vEt
 case false =>
  go_wp2_with (first | (go_at_call 109; refine (spec_bare 4 s ty lo hi t a ps.length cap hd _).mono ?_; rintro e w2 ⟨rfl, hB2⟩; rw [hB.out]; have HE2 := hid (HE1.out.on hB2); obtain ⟨⟨y0, y1, y2, y3, y4, y5, y6, y7⟩, yl⟩ := HE2.out; have HB2 := hid (HB1.out.trans (hB2.mono HB1.out.size)); have HP2 := hid (HP1.out.on hB2); clear hB2))
  go_ret
  first | exact ⟨rfl, HB3.out⟩ | exact ⟨rfl, HB2.out⟩ | exact ⟨rfl, HB1.out⟩
 cases vZ
 case false =>
  go_wp2_with (first | (go_at_call 109; refine (spec_bare 4 s ty lo hi t a ps.length cap hd _).mono ?_; rintro e w2 ⟨rfl, hB2⟩; rw [hB.out]; have HE2 := hid (HE1.out.on hB2); obtain ⟨⟨y0, y1, y2, y3, y4, y5, y6, y7⟩, yl⟩ := HE2.out; have HB2 := hid (HB1.out.trans (hB2.mono HB1.out.size)); have HP2 := hid (HP1.out.on hB2); clear hB2))
  go_ret
  first | exact ⟨rfl, HB3.out⟩ | exact ⟨rfl, HB2.out⟩ | exact ⟨rfl, HB1.out⟩
 go_wp2_with (first | (go_at_call 109; refine (spec_bare 4 s ty lo hi t a ps.length cap hd _).mono ?_; rintro e w2 ⟨rfl, hB2⟩; rw [hB.out]; have HE2 := hid (HE1.out.on hB2); obtain ⟨⟨y0, y1, y2, y3, y4, y5, y6, y7⟩, yl⟩ := HE2.out; have HB2 := hid (HB1.out.trans (hB2.mono HB1.out.size)); have HP2 := hid (HP1.out.on hB2); clear hB2))
 go_ret
 first | exact ⟨rfl, HB3.out⟩ | exact ⟨rfl, HB2.out⟩ | exact ⟨rfl, HB1.out⟩
set_option maxRecDepth 10000 in
set_option maxHeartbeats 3200000 in
theorem spec_item_5 (s : ByteArray) (ty lo hi : Int) (t : ByteArray) (a : Option Addr) (cap : Nat) (ps : List Pt) (hd : Bool) (w : World) (hP : Parts w a ps) (hs : s.size ≤ maxLen) (ht : t.size ≤ maxLen) :
  Calls Tryz.prog 80 #[.agg #[.int .i64 5, .string s, .int .i64 ty, .int .i64 lo, .int .i64 hi, .string t, .slice a ps.length cap, .bool hd]] w fun e w' => e = .returned (.bool (itemB (5, s, ty, lo, hi, t, ps, hd))) ∧ Below w.heap.size w w' := by
 have HP := hid hP
 have HS := hid hs
 have HT := hid ht
 have hpl := hP.1
 clear hP hs ht
 obtain ⟨vC, hC⟩ : ∃ v, Hid (nameB s = v) := ⟨_, rfl⟩
 obtain ⟨vB, hB⟩ : ∃ v, Hid (bareB ty lo hi = v) := ⟨_, rfl⟩
 obtain ⟨vL, hL⟩ : ∃ v, Hid (labelB t = v) := ⟨_, rfl⟩
 obtain ⟨vT, hT⟩ : ∃ v, Hid (truthB ps = v) := ⟨_, rfl⟩
 have eI : itemB (5, s, ty, lo, hi, t, ps, hd) = (vC && (vB && (vL && vT))) := by
  rw [← hC.out, ← hB.out, ← hL.out, ← hT.out]; rfl
 rw [eI]
 clear eI
 go_enter Tryz.func80, Tryz.ntmps80
 go_wp2_with fail
 refine (spec_truth a cap ps _ (HP.out.on (below_one _ _))).mono ?_
 rintro e w1 ⟨rfl, hB1⟩
 rw [hT.out]
 have HB1 : Hid (Below w.heap.size w w1) := (below_one w _).trans (hB1.mono (by simp))
 have HE1 := hid ((At8.laid w 57 (.int .i64 5) (.string s) (.int .i64 ty) (.int .i64 lo) (.int .i64 hi) (.string t) (.slice a ps.length cap) (.bool hd)).on hB1)
 have HP1 := hid ((HP.out.on (below_one _ _)).on hB1)
 clear hB1
 obtain ⟨⟨x0, x1, x2, x3, x4, x5, x6, x7⟩, xl⟩ := HE1.out
 cases vC
 case false =>
  go_wp2_with (first | (go_at_call 83; refine (spec_name s _ HS.out).mono ?_; rintro e w9 ⟨h9, h8⟩; subst h9; subst h8; rw [hC.out]) | (go_at_call 109; refine (spec_bare 5 s ty lo hi t a ps.length cap hd _).mono ?_; rintro e w2 ⟨rfl, hB2⟩; rw [hB.out]; have HE2 := hid (HE1.out.on hB2); obtain ⟨⟨y0, y1, y2, y3, y4, y5, y6, y7⟩, yl⟩ := HE2.out; have HB2 := hid (HB1.out.trans (hB2.mono HB1.out.size)); have HP2 := hid (HP1.out.on hB2); clear hB2) | (go_at_call 108; refine (spec_label t _ HT.out).mono ?_; rintro e w9 ⟨h9, h8⟩; subst h9; subst h8; rw [hL.out]))
  go_ret
  first | exact ⟨rfl, HB3.out⟩ | exact ⟨rfl, HB2.out⟩ | exact ⟨rfl, HB1.out⟩
 cases vB
 case false =>
  go_wp2_with (first | (go_at_call 83; refine (spec_name s _ HS.out).mono ?_; rintro e w9 ⟨h9, h8⟩; subst h9; subst h8; rw [hC.out]) | (go_at_call 109; refine (spec_bare 5 s ty lo hi t a ps.length cap hd _).mono ?_; rintro e w2 ⟨rfl, hB2⟩; rw [hB.out]; have HE2 := hid (HE1.out.on hB2); obtain ⟨⟨y0, y1, y2, y3, y4, y5, y6, y7⟩, yl⟩ := HE2.out; have HB2 := hid (HB1.out.trans (hB2.mono HB1.out.size)); have HP2 := hid (HP1.out.on hB2); clear hB2) | (go_at_call 108; refine (spec_label t _ HT.out).mono ?_; rintro e w9 ⟨h9, h8⟩; subst h9; subst h8; rw [hL.out]))
  go_ret
  first | exact ⟨rfl, HB3.out⟩ | exact ⟨rfl, HB2.out⟩ | exact ⟨rfl, HB1.out⟩
 cases vL
 case false =>
  go_wp2_with (first | (go_at_call 83; refine (spec_name s _ HS.out).mono ?_; rintro e w9 ⟨h9, h8⟩; subst h9; subst h8; rw [hC.out]) | (go_at_call 109; refine (spec_bare 5 s ty lo hi t a ps.length cap hd _).mono ?_; rintro e w2 ⟨rfl, hB2⟩; rw [hB.out]; have HE2 := hid (HE1.out.on hB2); obtain ⟨⟨y0, y1, y2, y3, y4, y5, y6, y7⟩, yl⟩ := HE2.out; have HB2 := hid (HB1.out.trans (hB2.mono HB1.out.size)); have HP2 := hid (HP1.out.on hB2); clear hB2) | (go_at_call 108; refine (spec_label t _ HT.out).mono ?_; rintro e w9 ⟨h9, h8⟩; subst h9; subst h8; rw [hL.out]))
  go_ret
  first | exact ⟨rfl, HB3.out⟩ | exact ⟨rfl, HB2.out⟩ | exact ⟨rfl, HB1.out⟩
 cases vT
 case false =>
  go_wp2_with (first | (go_at_call 83; refine (spec_name s _ HS.out).mono ?_; rintro e w9 ⟨h9, h8⟩; subst h9; subst h8; rw [hC.out]) | (go_at_call 109; refine (spec_bare 5 s ty lo hi t a ps.length cap hd _).mono ?_; rintro e w2 ⟨rfl, hB2⟩; rw [hB.out]; have HE2 := hid (HE1.out.on hB2); obtain ⟨⟨y0, y1, y2, y3, y4, y5, y6, y7⟩, yl⟩ := HE2.out; have HB2 := hid (HB1.out.trans (hB2.mono HB1.out.size)); have HP2 := hid (HP1.out.on hB2); clear hB2) | (go_at_call 108; refine (spec_label t _ HT.out).mono ?_; rintro e w9 ⟨h9, h8⟩; subst h9; subst h8; rw [hL.out]))
  go_ret
  first | exact ⟨rfl, HB3.out⟩ | exact ⟨rfl, HB2.out⟩ | exact ⟨rfl, HB1.out⟩
 go_wp2_with (first | (go_at_call 83; refine (spec_name s _ HS.out).mono ?_; rintro e w9 ⟨h9, h8⟩; subst h9; subst h8; rw [hC.out]) | (go_at_call 109; refine (spec_bare 5 s ty lo hi t a ps.length cap hd _).mono ?_; rintro e w2 ⟨rfl, hB2⟩; rw [hB.out]; have HE2 := hid (HE1.out.on hB2); obtain ⟨⟨y0, y1, y2, y3, y4, y5, y6, y7⟩, yl⟩ := HE2.out; have HB2 := hid (HB1.out.trans (hB2.mono HB1.out.size)); have HP2 := hid (HP1.out.on hB2); clear hB2) | (go_at_call 108; refine (spec_label t _ HT.out).mono ?_; rintro e w9 ⟨h9, h8⟩; subst h9; subst h8; rw [hL.out]))
 go_ret
 first | exact ⟨rfl, HB3.out⟩ | exact ⟨rfl, HB2.out⟩ | exact ⟨rfl, HB1.out⟩
set_option maxRecDepth 10000 in
set_option maxHeartbeats 3200000 in
theorem spec_item_6 (s : ByteArray) (ty lo hi : Int) (t : ByteArray) (a : Option Addr) (cap : Nat) (ps : List Pt) (hd : Bool) (w : World) (hP : Parts w a ps) (hs : s.size ≤ maxLen) (ht : t.size ≤ maxLen) :
  Calls Tryz.prog 80 #[.agg #[.int .i64 6, .string s, .int .i64 ty, .int .i64 lo, .int .i64 hi, .string t, .slice a ps.length cap, .bool hd]] w fun e w' => e = .returned (.bool (itemB (6, s, ty, lo, hi, t, ps, hd))) ∧ Below w.heap.size w w' := by
 have HP := hid hP
 have HS := hid hs
 have HT := hid ht
 have hpl := hP.1
 clear hP hs ht
 obtain ⟨vC, hC⟩ : ∃ v, Hid (nameB s = v) := ⟨_, rfl⟩
 obtain ⟨vB, hB⟩ : ∃ v, Hid (bareB ty lo hi = v) := ⟨_, rfl⟩
 obtain ⟨vX, hX⟩ : ∃ v, Hid (rightB ps = v) := ⟨_, rfl⟩
 obtain ⟨vT, hT⟩ : ∃ v, Hid (truthB ps = v) := ⟨_, rfl⟩
 obtain ⟨vEt, hEt⟩ : ∃ v, t.toList.isEmpty = v := ⟨_, rfl⟩
 have eI : itemB (6, s, ty, lo, hi, t, ps, hd) = (vC && (vB && (vEt && (vX && (!vT && !hd))))) := by
  rw [← hC.out, ← hB.out, ← hEt, ← hX.out, ← hT.out]; rfl
 rw [eI]
 clear eI
 go_enter Tryz.func80, Tryz.ntmps80
 go_wp2_with fail
 refine (spec_truth a cap ps _ (HP.out.on (below_one _ _))).mono ?_
 rintro e w1 ⟨rfl, hB1⟩
 rw [hT.out]
 have HB1 : Hid (Below w.heap.size w w1) := (below_one w _).trans (hB1.mono (by simp))
 have HE1 := hid ((At8.laid w 57 (.int .i64 6) (.string s) (.int .i64 ty) (.int .i64 lo) (.int .i64 hi) (.string t) (.slice a ps.length cap) (.bool hd)).on hB1)
 have HP1 := hid ((HP.out.on (below_one _ _)).on hB1)
 clear hB1
 obtain ⟨⟨x0, x1, x2, x3, x4, x5, x6, x7⟩, xl⟩ := HE1.out
 cases vC
 case false =>
  go_wp2_with (first | (go_at_call 83; refine (spec_name s _ HS.out).mono ?_; rintro e w9 ⟨h9, h8⟩; subst h9; subst h8; rw [hC.out]) | (go_at_call 109; refine (spec_bare 6 s ty lo hi t a ps.length cap hd _).mono ?_; rintro e w2 ⟨rfl, hB2⟩; rw [hB.out]; have HE2 := hid (HE1.out.on hB2); obtain ⟨⟨y0, y1, y2, y3, y4, y5, y6, y7⟩, yl⟩ := HE2.out; have HB2 := hid (HB1.out.trans (hB2.mono HB1.out.size)); have HP2 := hid (HP1.out.on hB2); clear hB2) | (go_at_call 110; refine (spec_right a cap ps _ HP2.out).mono ?_; rintro e w3 ⟨rfl, hB3⟩; rw [hX.out]; have HE3 := hid (HE2.out.on hB3); obtain ⟨⟨z0, z1, z2, z3, z4, z5, z6, z7⟩, zl⟩ := HE3.out; have HB3 := hid (HB2.out.trans (hB3.mono HB2.out.size)); clear hB3))
  go_ret
  first | exact ⟨rfl, HB3.out⟩ | exact ⟨rfl, HB2.out⟩ | exact ⟨rfl, HB1.out⟩
 cases vB
 case false =>
  go_wp2_with (first | (go_at_call 83; refine (spec_name s _ HS.out).mono ?_; rintro e w9 ⟨h9, h8⟩; subst h9; subst h8; rw [hC.out]) | (go_at_call 109; refine (spec_bare 6 s ty lo hi t a ps.length cap hd _).mono ?_; rintro e w2 ⟨rfl, hB2⟩; rw [hB.out]; have HE2 := hid (HE1.out.on hB2); obtain ⟨⟨y0, y1, y2, y3, y4, y5, y6, y7⟩, yl⟩ := HE2.out; have HB2 := hid (HB1.out.trans (hB2.mono HB1.out.size)); have HP2 := hid (HP1.out.on hB2); clear hB2) | (go_at_call 110; refine (spec_right a cap ps _ HP2.out).mono ?_; rintro e w3 ⟨rfl, hB3⟩; rw [hX.out]; have HE3 := hid (HE2.out.on hB3); obtain ⟨⟨z0, z1, z2, z3, z4, z5, z6, z7⟩, zl⟩ := HE3.out; have HB3 := hid (HB2.out.trans (hB3.mono HB2.out.size)); clear hB3))
  go_ret
  first | exact ⟨rfl, HB3.out⟩ | exact ⟨rfl, HB2.out⟩ | exact ⟨rfl, HB1.out⟩
 cases vEt
 case false =>
  go_wp2_with (first | (go_at_call 83; refine (spec_name s _ HS.out).mono ?_; rintro e w9 ⟨h9, h8⟩; subst h9; subst h8; rw [hC.out]) | (go_at_call 109; refine (spec_bare 6 s ty lo hi t a ps.length cap hd _).mono ?_; rintro e w2 ⟨rfl, hB2⟩; rw [hB.out]; have HE2 := hid (HE1.out.on hB2); obtain ⟨⟨y0, y1, y2, y3, y4, y5, y6, y7⟩, yl⟩ := HE2.out; have HB2 := hid (HB1.out.trans (hB2.mono HB1.out.size)); have HP2 := hid (HP1.out.on hB2); clear hB2) | (go_at_call 110; refine (spec_right a cap ps _ HP2.out).mono ?_; rintro e w3 ⟨rfl, hB3⟩; rw [hX.out]; have HE3 := hid (HE2.out.on hB3); obtain ⟨⟨z0, z1, z2, z3, z4, z5, z6, z7⟩, zl⟩ := HE3.out; have HB3 := hid (HB2.out.trans (hB3.mono HB2.out.size)); clear hB3))
  go_ret
  first | exact ⟨rfl, HB3.out⟩ | exact ⟨rfl, HB2.out⟩ | exact ⟨rfl, HB1.out⟩
 cases vX
 case false =>
  go_wp2_with (first | (go_at_call 83; refine (spec_name s _ HS.out).mono ?_; rintro e w9 ⟨h9, h8⟩; subst h9; subst h8; rw [hC.out]) | (go_at_call 109; refine (spec_bare 6 s ty lo hi t a ps.length cap hd _).mono ?_; rintro e w2 ⟨rfl, hB2⟩; rw [hB.out]; have HE2 := hid (HE1.out.on hB2); obtain ⟨⟨y0, y1, y2, y3, y4, y5, y6, y7⟩, yl⟩ := HE2.out; have HB2 := hid (HB1.out.trans (hB2.mono HB1.out.size)); have HP2 := hid (HP1.out.on hB2); clear hB2) | (go_at_call 110; refine (spec_right a cap ps _ HP2.out).mono ?_; rintro e w3 ⟨rfl, hB3⟩; rw [hX.out]; have HE3 := hid (HE2.out.on hB3); obtain ⟨⟨z0, z1, z2, z3, z4, z5, z6, z7⟩, zl⟩ := HE3.out; have HB3 := hid (HB2.out.trans (hB3.mono HB2.out.size)); clear hB3))
  go_ret
  first | exact ⟨rfl, HB3.out⟩ | exact ⟨rfl, HB2.out⟩ | exact ⟨rfl, HB1.out⟩
 cases vT
 case true =>
  go_wp2_with (first | (go_at_call 83; refine (spec_name s _ HS.out).mono ?_; rintro e w9 ⟨h9, h8⟩; subst h9; subst h8; rw [hC.out]) | (go_at_call 109; refine (spec_bare 6 s ty lo hi t a ps.length cap hd _).mono ?_; rintro e w2 ⟨rfl, hB2⟩; rw [hB.out]; have HE2 := hid (HE1.out.on hB2); obtain ⟨⟨y0, y1, y2, y3, y4, y5, y6, y7⟩, yl⟩ := HE2.out; have HB2 := hid (HB1.out.trans (hB2.mono HB1.out.size)); have HP2 := hid (HP1.out.on hB2); clear hB2) | (go_at_call 110; refine (spec_right a cap ps _ HP2.out).mono ?_; rintro e w3 ⟨rfl, hB3⟩; rw [hX.out]; have HE3 := hid (HE2.out.on hB3); obtain ⟨⟨z0, z1, z2, z3, z4, z5, z6, z7⟩, zl⟩ := HE3.out; have HB3 := hid (HB2.out.trans (hB3.mono HB2.out.size)); clear hB3))
  go_ret
  first | exact ⟨rfl, HB3.out⟩ | exact ⟨rfl, HB2.out⟩ | exact ⟨rfl, HB1.out⟩
 go_wp2_with (first | (go_at_call 83; refine (spec_name s _ HS.out).mono ?_; rintro e w9 ⟨h9, h8⟩; subst h9; subst h8; rw [hC.out]) | (go_at_call 109; refine (spec_bare 6 s ty lo hi t a ps.length cap hd _).mono ?_; rintro e w2 ⟨rfl, hB2⟩; rw [hB.out]; have HE2 := hid (HE1.out.on hB2); obtain ⟨⟨y0, y1, y2, y3, y4, y5, y6, y7⟩, yl⟩ := HE2.out; have HB2 := hid (HB1.out.trans (hB2.mono HB1.out.size)); have HP2 := hid (HP1.out.on hB2); clear hB2) | (go_at_call 110; refine (spec_right a cap ps _ HP2.out).mono ?_; rintro e w3 ⟨rfl, hB3⟩; rw [hX.out]; have HE3 := hid (HE2.out.on hB3); obtain ⟨⟨z0, z1, z2, z3, z4, z5, z6, z7⟩, zl⟩ := HE3.out; have HB3 := hid (HB2.out.trans (hB3.mono HB2.out.size)); clear hB3))
 go_ret
 first | exact ⟨rfl, HB3.out⟩ | exact ⟨rfl, HB2.out⟩ | exact ⟨rfl, HB1.out⟩
set_option maxHeartbeats 1600000 in
theorem spec_item_no (k : Int) (hk : ¬ (1 ≤ k ∧ k ≤ 6)) (s : ByteArray) (ty lo hi : Int) (t : ByteArray) (a : Option Addr) (cap : Nat) (ps : List Pt) (hd : Bool) (w : World) (hP : Parts w a ps) :
  Calls Tryz.prog 80 #[.agg #[.int .i64 k, .string s, .int .i64 ty, .int .i64 lo, .int .i64 hi, .string t, .slice a ps.length cap, .bool hd]] w fun e w' => e = .returned (.bool (itemB (k, s, ty, lo, hi, t, ps, hd))) ∧ Below w.heap.size w w' := by
 have HP := hid hP
 clear hP
 have h1 : ¬ k = 1 := by omega
 have h2 : ¬ k = 2 := by omega
 have h3 : ¬ k = 3 := by omega
 have h4 : ¬ k = 4 := by omega
 have h5 : ¬ k = 5 := by omega
 have h6 : ¬ k = 6 := by omega
 have eI : itemB (k, s, ty, lo, hi, t, ps, hd) = false := by unfold itemB; simp only [h1, h2, h3, h4, h5, h6, if_false, or_self]
 rw [eI]
 have e1 : (k == 1) = false := by simp [h1]
 have e2 : (k == 2) = false := by simp [h2]
 have e3 : (k == 3) = false := by simp [h3]
 have e4 : (k == 4) = false := by simp [h4]
 have e5 : (k == 5) = false := by simp [h5]
 have e6 : (k == 6) = false := by simp [h6]
 clear h1 h2 h3 h4 h5 h6 hk eI
 go_enter Tryz.func80, Tryz.ntmps80
 go_wp2_with fail
 refine (spec_truth a cap ps _ (HP.out.on (below_one _ _))).mono ?_
 rintro e w1 ⟨rfl, hB1⟩
 have HB1 : Hid (Below w.heap.size w w1) := (below_one w _).trans (hB1.mono (by simp))
 have HE1 := hid ((At8.laid w 57 (.int .i64 k) (.string s) (.int .i64 ty) (.int .i64 lo) (.int .i64 hi) (.string t) (.slice a ps.length cap) (.bool hd)).on hB1)
 clear hB1
 obtain ⟨⟨x0, x1, x2, x3, x4, x5, x6, x7⟩, xl⟩ := HE1.out
 go_wp2
 go_ret
 exact ⟨rfl, HB1.out⟩
theorem spec_item (k : Int) (s : ByteArray) (ty lo hi : Int) (t : ByteArray) (a : Option Addr) (cap : Nat) (ps : List Pt) (hd : Bool) (w : World) (hP : Parts w a ps) (hs : s.size ≤ maxLen) (ht : t.size ≤ maxLen) :
  Calls Tryz.prog 80 #[.agg #[.int .i64 k, .string s, .int .i64 ty, .int .i64 lo, .int .i64 hi, .string t, .slice a ps.length cap, .bool hd]] w fun e w' => e = .returned (.bool (itemB (k, s, ty, lo, hi, t, ps, hd))) ∧ Below w.heap.size w w' := by
 by_cases hk : 1 ≤ k ∧ k ≤ 6
 ·rcases (by omega : k = 1 ∨ k = 2 ∨ k = 3 ∨ k = 4 ∨ k = 5 ∨ k = 6) with rfl | rfl | rfl | rfl | rfl | rfl
  ·exact spec_item_1 s ty lo hi t a cap ps hd w hP hs ht
  ·exact spec_item_2 s ty lo hi t a cap ps hd w hP hs ht
  ·exact spec_item_3 s ty lo hi t a cap ps hd w hP hs ht
  ·exact spec_item_4 s ty lo hi t a cap ps hd w hP hs ht
  ·exact spec_item_5 s ty lo hi t a cap ps hd w hP hs ht
  ·exact spec_item_6 s ty lo hi t a cap ps hd w hP hs ht
 ·exact spec_item_no k hk s ty lo hi t a cap ps hd w hP
end Go.Proofs.YtmbhmknfipdadaaGreatDoor.ItmS
namespace Go.Proofs.YtmbhmknfipdadaaGreatDoor.FitW
open Go.RowKit
open PrtW PrtM ItmW ItmM ValW
open ItmS (At8 At8.laid below_one)
open ValI (At4 At4.laid)
def lastI (zs : List Int) : Int := zs.getD (zs.length - 1) 0
def fitB (ty lo hi : Int) (vk vn : Int) (zs : List Int) (vt : ByteArray) : Bool :=
 if vk = 5 ∨ vk = 6 then true
 else if vk = 1 then (ty == 1) && inB vn lo hi
 else if vk = 2 then (ty == 2) && decide (vn ≤ hi)
 else if vk = 3 then (ty == 3) && ((((zs.length : Nat) : Int) == 0) || decide (lastI zs ≤ hi))
 else if vk = 4 then (ty == 4) && decide ((vt.size : Int) ≤ hi)
 else false
def Pair (w0 w : World) (k : Int) (s : ByteArray) (ty lo hi : Int) (t : ByteArray) (a : Option Addr) (len cap : Nat) (hd : Bool) (vk vn : Int) (va : Option Addr) (vc : Nat) (zl : Nat) (vt : ByteArray) : Prop :=
 At8 w w0.heap.size (.int .i64 k) (.string s) (.int .i64 ty) (.int .i64 lo) (.int .i64 hi) (.string t) (.slice a len cap) (.bool hd) ∧ At4 w (w0.heap.size + 1) (.int .i64 vk) (.int .i64 vn) (.slice va zl vc) (.string vt) ∧ Below w0.heap.size w0 w
section
variable {k : Int} {s : ByteArray} {ty lo hi : Int} {t : ByteArray} {a : Option Addr} {len cap : Nat} {hd : Bool} {vk vn : Int} {va : Option Addr} {vc : Nat} {zl : Nat} {vt : ByteArray}
theorem Pair.on {w0 w w' : World} (h : Pair w0 w k s ty lo hi t a len cap hd vk vn va vc zl vt) (hB : Below w.heap.size w w') : Pair w0 w' k s ty lo hi t a len cap hd vk vn va vc zl vt :=
 ⟨h.1.on hB, h.2.1.on hB, h.2.2.trans (hB.mono h.2.2.size)⟩
theorem Pair.laid (w : World) (T1 T2 : TypeId) : Pair w ((w.alloc (.cells #[.int .i64 k, .string s, .int .i64 ty, .int .i64 lo, .int .i64 hi, .string t, .slice a len cap, .bool hd] T1)).alloc (.cells #[.int .i64 vk, .int .i64 vn, .slice va zl vc, .string vt] T2)) k s ty lo hi t a len cap hd vk vn va vc zl vt := by
 refine ⟨(At8.laid w T1 _ _ _ _ _ _ _ _).on (below_one _ _), ?_, (below_one _ _).trans ((below_one _ _).mono (by simp))⟩
 have := At4.laid (w.alloc (.cells #[.int .i64 k, .string s, .int .i64 ty, .int .i64 lo, .int .i64 hi, .string t, .slice a len cap, .bool hd] T1)) T2 (.int .i64 vk) (.int .i64 vn) (.slice va zl vc) (.string vt)
 rw [World.size_alloc] at this
 exact this
theorem Pair.all {w0 w : World} (h : Pair w0 w k s ty lo hi t a len cap hd vk vn va vc zl vt) :
  (w.cell? ⟨w0.heap.size, 0, none⟩ = some (.int .i64 k) ∧ w.cell? ⟨w0.heap.size, 1, none⟩ = some (.string s) ∧ w.cell? ⟨w0.heap.size, 2, none⟩ = some (.int .i64 ty) ∧ w.cell? ⟨w0.heap.size, 3, none⟩ = some (.int .i64 lo) ∧ w.cell? ⟨w0.heap.size, 4, none⟩ = some (.int .i64 hi) ∧ w.cell? ⟨w0.heap.size, 5, none⟩ = some (.string t) ∧ w.cell? ⟨w0.heap.size, 6, none⟩ = some (.slice a len cap) ∧ w.cell? ⟨w0.heap.size, 7, none⟩ = some (.bool hd)) ∧
  (w.cell? ⟨w0.heap.size + 1, 0, none⟩ = some (.int .i64 vk) ∧ w.cell? ⟨w0.heap.size + 1, 1, none⟩ = some (.int .i64 vn) ∧ w.cell? ⟨w0.heap.size + 1, 2, none⟩ = some (.slice va zl vc) ∧ w.cell? ⟨w0.heap.size + 1, 3, none⟩ = some (.string vt)) ∧ w0.heap.size + 1 < w.heap.size := by
 obtain ⟨h1, ⟨d0, d1, d2, d3, hl⟩, _⟩ := h
 exact ⟨h1.1, ⟨d0, d1, d2, d3⟩, hl⟩
end
end Go.Proofs.YtmbhmknfipdadaaGreatDoor.FitW
namespace Go.Proofs.YtmbhmknfipdadaaGreatDoor.FitS
open Go.RowKit
open PrtW PrtM ItmW ItmM ValW FitW
set_option maxRecDepth 10000 in
set_option maxHeartbeats 3200000 in
theorem spec_fits_in (k : Int) (s : ByteArray) (ty lo hi : Int) (t : ByteArray) (a : Option Addr) (len cap : Nat) (hd : Bool) (vk vn : Int) (va : Option Addr) (vc : Nat) (zs : List Int) (vt : ByteArray) (w : World) (hc : Codes w va zs) :
  Calls Tryz.prog 55 #[.agg #[.int .i64 k, .string s, .int .i64 ty, .int .i64 lo, .int .i64 hi, .string t, .slice a len cap, .bool hd], av vk vn va zs.length vc vt] w fun e w' => e = .returned (.bool (fitB ty lo hi vk vn zs vt)) ∧ Below w.heap.size w w' := by
 have HC := hid hc
 have hzl := hc.1
 clear hc
 by_cases h5 : vk = 5
 ·subst h5
  have e : fitB ty lo hi 5 vn zs vt = true := rfl
  rw [e]
  go_enter Tryz.func55, Tryz.ntmps55
  go_wp2
  go_ret
  exact ⟨rfl, by go_grown⟩
 have e5 : (vk == 5) = false := by simp [h5]
 by_cases h6 : vk = 6
 ·subst h6
  have e : fitB ty lo hi 6 vn zs vt = true := rfl
  rw [e]
  go_enter Tryz.func55, Tryz.ntmps55
  go_wp2
  go_ret
  exact ⟨rfl, by go_grown⟩
 have e6 : (vk == 6) = false := by simp [h6]
 by_cases h1 : vk = 1
 ·subst h1
  have e : fitB ty lo hi 1 vn zs vt = ((ty == 1) && inB vn lo hi) := rfl
  rw [e]
  cases et : (ty == 1)
  ·go_enter Tryz.func55, Tryz.ntmps55
   go_wp2
   go_ret
   exact ⟨rfl, by go_grown⟩
  ·rw [Bool.true_and]
   go_enter Tryz.func55, Tryz.ntmps55
   go_wp2_with (first | (go_at_call 60; refine (PrtS.is_any _ _ _ _).mono ?_; rintro e w' ⟨rfl, rfl⟩))
   go_ret
   exact ⟨rfl, by go_grown⟩
 have e1 : (vk == 1) = false := by simp [h1]
 by_cases h2 : vk = 2
 ·subst h2
  have e : fitB ty lo hi 2 vn zs vt = ((ty == 2) && decide (vn ≤ hi)) := rfl
  rw [e]
  cases et : (ty == 2)
  all_goals
   go_enter Tryz.func55, Tryz.ntmps55
   go_wp2
   go_ret
   exact ⟨rfl, by go_grown⟩
 have e2 : (vk == 2) = false := by simp [h2]
 by_cases h3 : vk = 3
 ·subst h3
  have e : fitB ty lo hi 3 vn zs vt = ((ty == 3) && ((((zs.length : Nat) : Int) == 0) || decide (lastI zs ≤ hi))) := rfl
  rw [e]
  cases et : (ty == 3)
  ·go_enter Tryz.func55, Tryz.ntmps55
   go_wp2_with fail
   go_region
   all_goals
    go_wp2_with fail
    go_ret
    exact ⟨rfl, by go_grown⟩
  ·rw [Bool.true_and]
   rcases Nat.eq_zero_or_pos zs.length with hz | hz
   ·obtain rfl := List.length_eq_zero_iff.1 hz
    go_enter Tryz.func55, Tryz.ntmps55
    go_wp2_with fail
    go_region
    all_goals
     go_wp2_with fail
     go_ret
     exact ⟨rfl, by go_grown⟩
   ·obtain ⟨b, o, rfl, hb, hcs⟩ := HC.out.2 hz
    obtain ⟨m, hm⟩ : ∃ m, zs.length = m + 1 := ⟨zs.length - 1, by omega⟩
    have hcm := hcs m (by omega)
    have el : lastI zs = zs.getD m 0 := by unfold lastI; rw [hm]; rfl
    rw [el, hm]
    rw [hm] at hzl
    generalize zs.getD m 0 = lz at hcm
    have en : ((((m + 1 : Nat) : Int)) == 0) = false := by simp; omega
    have en2 : ((m : Int) + 1 == 0) = false := by simp; omega
    rw [en, Bool.false_or]
    clear hcs hz el HC
    go_enter Tryz.func55, Tryz.ntmps55
    go_wp2_with fail
    go_region
    all_goals
     go_wp2_with fail
     go_ret
     exact ⟨rfl, by go_grown⟩
 have e3 : (vk == 3) = false := by simp [h3]
 by_cases h4 : vk = 4
 ·subst h4
  have e : fitB ty lo hi 4 vn zs vt = ((ty == 4) && decide ((vt.size : Int) ≤ hi)) := rfl
  rw [e]
  cases et : (ty == 4)
  all_goals
   go_enter Tryz.func55, Tryz.ntmps55
   go_wp2
   go_ret
   exact ⟨rfl, by go_grown⟩
 have e4 : (vk == 4) = false := by simp [h4]
 have e : fitB ty lo hi vk vn zs vt = false := by unfold fitB; simp only [h1, h2, h3, h4, h5, h6, if_false, or_self]
 rw [e]
 go_enter Tryz.func55, Tryz.ntmps55
 go_wp2
 go_ret
 exact ⟨rfl, by go_grown⟩
end Go.Proofs.YtmbhmknfipdadaaGreatDoor.FitS
namespace Go.Proofs.YtmbhmknfipdadaaGreatDoor.FitW
open Go.RowKit
open PrtW PrtM ItmW ItmM ValW
def fitsB (p : It) (vk vn : Int) (zs : List Int) (vt : ByteArray) : Bool := (ik p == 1) && (itemB p && (ValM.right vk vn zs vt && fitB (ity p) (ilo p) (ihi p) vk vn zs vt))
end Go.Proofs.YtmbhmknfipdadaaGreatDoor.FitW
namespace Go.Proofs.YtmbhmknfipdadaaGreatDoor.FrmS
open Go.RowKit
open PrtW PrtM NameW ItmW ValM ItmM FrmM
set_option maxRecDepth 10000 in
set_option maxHeartbeats 1600000 in
theorem spec_field (a : Option Addr) (cap : Nat) (ls : List It) (n : Nat) (s : ByteArray) (w : World) (hc : Its w a ls) (hn : n ≤ ls.length) :
  Calls Tryz.prog 111 #[.slice a ls.length cap, .int .i64 n, .string s] w fun e w' => e = .returned (.int .i64 (fieldI ls n s)) ∧ w' = w := by
 have HC := hid hc
 have hl := hc.1
 clear hc
 obtain ⟨z, hz⟩ : ∃ z, Hid (fieldI ls n s = z) := ⟨_, rfl⟩
 rw [hz.out]
 go_enter Tryz.func111, Tryz.ntmps111
 go_wp2
 go_loop [7] (fun i => ∃ k : Nat, k ≤ n ∧ i = .int .i64 k ∧ Hid (∀ j, j < k → isF s (ls.getD j it0) = false)) (fun i => n - (intOf i).toNat)
 case atStart => exact ⟨0, Nat.zero_le _, rfl, fun j hj => absurd hj (Nat.not_lt_zero _)⟩
 case round =>
  obtain ⟨k, hk, rfl, hall⟩ := hrel
  by_cases hlt : k < n
  ·obtain ⟨_, b, o, ai, ci, rfl, hb, hF, _⟩ := HC.out.at (Below.refl _ _) (show k < ls.length by omega)
   have hkl : k < ls.length := by omega
   have HIs : Hid (∀ v, isF s (ls.getD k it0) = v → isF s (ls.getD k it0) = v) := fun _ h => h
   have HSome : Hid (isF s (ls.getD k it0) = true → z = (k : Int)) := fun h => by rw [← hz.out]; exact fieldI_at (field_at.2 ⟨h, hlt, hall.out⟩)
   have HNext : Hid (isF s (ls.getD k it0) = false → ∀ j, j < k + 1 → isF s (ls.getD j it0) = false) := fun h j hj => by
    rcases Nat.lt_succ_iff_lt_or_eq.1 hj with hj' | rfl
    ·exact hall.out j hj'
    ·exact h
   obtain ⟨c0, c1, -⟩ := hF
   have HIsd : Hid (isF s (ls.getD k it0) = (((inm (ls.getD k it0)).toList == s.toList) && ((ik (ls.getD k it0) == 1) || (ik (ls.getD k it0) == 6)))) := rfl
   generalize isF s (ls.getD k it0) = bb at HSome HNext HIsd HIs
   generalize ls.getD k it0 = p at c0 c1 HIsd
   obtain ⟨k1, s1, p2⟩ := p
   dsimp only [ik, inm] at c0 c1 HIsd
   clear hall HIs HC
   cases hn1 : (s1.toList == s.toList)
   ·have hbb : bb = false := by rw [HIsd.out, hn1]; rfl
    subst hbb
    go_wp2
    exact ⟨⟨k + 1, by omega, by go_num, HNext.out rfl⟩, by simp [intOf]; omega⟩
   ·cases hk1 : (k1 == 1)
    ·cases hk6 : (k1 == 6)
     ·have hbb : bb = false := by rw [HIsd.out, hn1, hk1, hk6]; rfl
      subst hbb
      go_wp2
      exact ⟨⟨k + 1, by omega, by go_num, HNext.out rfl⟩, by simp [intOf]; omega⟩
     ·have hbb : bb = true := by rw [HIsd.out, hn1, hk1, hk6]; rfl
      subst hbb
      have HZ := hid (HSome.out rfl)
      go_wp2
      go_ret
      exact ⟨by rw [HZ.out]; rfl, rfl⟩
    ·have hbb : bb = true := by rw [HIsd.out, hn1, hk1]; rfl
     subst hbb
     have HZ := hid (HSome.out rfl)
     go_wp2
     go_ret
     exact ⟨by rw [HZ.out]; rfl, rfl⟩
  ·obtain rfl : k = n := by omega
   have HZ : Hid (z = -1) := by rw [← hz.out]; exact fieldI_no (field_no.2 hall.out)
   go_wp2
   go_ret
   exact ⟨by rw [HZ.out]; rfl, rfl⟩
open Go.RowKit
open PrtW PrtM NameW ItmW ValM ItmM FrmM
set_option maxRecDepth 10000 in
set_option maxHeartbeats 6400000 in
theorem spec_uses (a a2 : Option Addr) (cap cap2 : Nat) (ls : List It) (n : Nat) (ps : List Pt) (w : World) (hc : Its w a ls) (hp : Parts w a2 ps) (hn : n ≤ ls.length) :
    Calls Tryz.prog 81 #[.slice a ls.length cap, .int .i64 n, .slice a2 ps.length cap2] w fun e w' => e = .returned (.bool (usesB ls n ps)) ∧ w' = w := by
  have HC := hid hc
  have hl := hc.1
  have HP := hid hp
  have hpl := hp.1
  clear hc hp
  obtain ⟨z, hz⟩ : ∃ z, Hid (usesB ls n ps = z) := ⟨_, rfl⟩
  rw [hz.out]
  go_enter Tryz.func81, Tryz.ntmps81
  go_wp2
  go_loop [7, 8, 9, 10] (fun i _ _ _ => ∃ k : Nat, k ≤ ps.length ∧ i = .int .i64 k ∧ Hid (∀ j, j < k → useB ls n (ps.getD j pt0) = true)) (fun i _ _ _ => ps.length - (intOf i).toNat)
  case atStart => exact ⟨0, Nat.zero_le _, rfl, fun j hj => absurd hj (Nat.not_lt_zero _)⟩
  case round =>
    obtain ⟨k, hk, rfl, hall⟩ := hrel
    by_cases hlt : k < ps.length
    · obtain ⟨b2, o2, rfl, hb2, hcs⟩ := HP.out.2.2 (by omega)
      obtain ⟨d0, -, d2⟩ := hcs k hlt
      have HNo : Hid (useB ls n (ps.getD k pt0) = false → z = false) := fun h => by rw [← hz.out]; exact uses_no hlt h
      have HNext : Hid (useB ls n (ps.getD k pt0) = true → ∀ j, j < k + 1 → useB ls n (ps.getD j pt0) = true) := fun h j hj => by
        rcases Nat.lt_succ_iff_lt_or_eq.1 hj with hj' | rfl
        · exact hall.out j hj'
        · exact h
      have HE : Hid ((ps.getD k pt0).2.2.toList.isEmpty = true → useB ls n (ps.getD k pt0) = true) := fun h => use_empty h
      have HN1 : Hid ((ps.getD k pt0).2.2.toList.isEmpty = false → fieldN ls n (ps.getD k pt0).2.2 = none → useB ls n (ps.getD k pt0) = false) := fun h => use_none h
      have HS1 : Hid (∀ i, (ps.getD k pt0).2.2.toList.isEmpty = false → fieldN ls n (ps.getD k pt0).2.2 = some i → useB ls n (ps.getD k pt0) = servesB (ps.getD k pt0).1 (ls.getD i it0)) := fun i h => use_some h
      generalize useB ls n (ps.getD k pt0) = u at HNo HNext HE HN1 HS1
      generalize ps.getD k pt0 = p at d0 d2 HE HN1 HS1
      obtain ⟨x, m, t⟩ := p
      dsimp only at d0 d2 HE HN1 HS1
      clear hall hcs
      cases ht : t.toList.isEmpty
      · cases hf : fieldN ls n t with
        | none =>
          have hu : u = false := HN1.out ht hf
          subst hu
          have HZ := hid (HNo.out rfl)
          have HFI : Hid (fieldI ls n t = -1) := fieldI_no hf
          clear hf
          go_wp2_with (first | (go_at_call 111; refine (spec_field a cap ls n t _ HC.out hn).mono ?_; rintro e w9 ⟨h9, h8⟩; subst h9; subst h8; rw [HFI.out]))
          go_ret
          exact ⟨by rw [HZ.out]; rfl, rfl⟩
        | some i =>
          have HU := hid (HS1.out i ht hf)
          have hin := (field_at.1 hf).2.1
          have HFI : Hid (fieldI ls n t = i) := fieldI_at hf
          clear hf
          have hil : i < ls.length := by omega
          obtain ⟨_, b, o, ai, ci, rfl, hb, hF, _⟩ := HC.out.at (Below.refl _ _) hil
          obtain ⟨-, -, c2, -⟩ := hF
          generalize ls.getD i it0 = q at c2 HU
          obtain ⟨q0, q1, ty, q3⟩ := q
          have HU2 : Hid (u = !((x == 2 && (ty == 3 || ty == 4)) || (x == 12 && !(ty == 3)))) := HU
          dsimp only [ity] at c2
          clear HU
          cases e3 : (ty == 3)
          all_goals cases e4 : (ty == 4)
          all_goals cases e2 : (x == 2)
          all_goals cases e12 : (x == 12)
          all_goals
            have hu := HU2.out
            rw [e3, e4, e2, e12] at hu
            simp at hu
            subst hu
            first
              | (have HZ := hid (HNo.out rfl)
                 go_wp2_with (first | (go_at_call 111; refine (spec_field _ cap ls n t _ HC.out hn).mono ?_; rintro e w9 ⟨h9, h8⟩; subst h9; subst h8; rw [HFI.out]))
                 go_ret
                 exact ⟨by rw [HZ.out]; rfl, rfl⟩)
              | (have HX := hid (HNext.out rfl)
                 go_wp2_with (first | (go_at_call 111; refine (spec_field _ cap ls n t _ HC.out hn).mono ?_; rintro e w9 ⟨h9, h8⟩; subst h9; subst h8; rw [HFI.out]))
                 exact ⟨⟨k + 1, by omega, by go_num, HX.out⟩, by simp [intOf]; omega⟩)
      · have hu : u = true := HE.out ht
        subst hu
        have HX := hid (HNext.out rfl)
        go_wp2_with fail
        exact ⟨⟨k + 1, by omega, by go_num, HX.out⟩, by simp [intOf]; omega⟩
    · obtain rfl : k = ps.length := by omega
      have HZ : Hid (z = true) := by rw [← hz.out]; exact uses_yes hall.out
      go_wp2
      go_ret
      exact ⟨by rw [HZ.out]; rfl, rfl⟩
end Go.Proofs.YtmbhmknfipdadaaGreatDoor.FrmS
namespace Go.Proofs.YtmbhmknfipdadaaGreatDoor.PrtI
open Go.RowKit
open PrtW PrtM NameW PrtS
theorem num_truth (k : Nat) (h1 : 1 ≤ k) (h2 : k ≤ 13) : numB (k : Int) = !truthF k := by
 rcases (by omega : k = 1 ∨ k = 2 ∨ k = 3 ∨ k = 4 ∨ k = 5 ∨ k = 6 ∨ k = 7 ∨ k = 8 ∨ k = 9 ∨ k = 10 ∨ k = 11 ∨ k = 12 ∨ k = 13) with rfl | rfl | rfl | rfl | rfl | rfl | rfl | rfl | rfl | rfl | rfl | rfl | rfl <;> decide
theorem many_inner (k : Nat) (h1 : 1 ≤ k) (h2 : k ≤ 13) : many (k : Int) = innerF k := by
 rcases (by omega : k = 1 ∨ k = 2 ∨ k = 3 ∨ k = 4 ∨ k = 5 ∨ k = 6 ∨ k = 7 ∨ k = 8 ∨ k = 9 ∨ k = 10 ∨ k = 11 ∨ k = 12 ∨ k = 13) with rfl | rfl | rfl | rfl | rfl | rfl | rfl | rfl | rfl | rfl | rfl | rfl | rfl <;> decide
theorem wants_truths (k : Nat) (h1 : 1 ≤ k) (h2 : k ≤ 13) (h3 : 0 < innerF k) : wantsB (k : Int) = !truthsF k := by
 rcases (by omega : k = 1 ∨ k = 2 ∨ k = 3 ∨ k = 4 ∨ k = 5 ∨ k = 6 ∨ k = 7 ∨ k = 8 ∨ k = 9 ∨ k = 10 ∨ k = 11 ∨ k = 12 ∨ k = 13) with rfl | rfl | rfl | rfl | rfl | rfl | rfl | rfl | rfl | rfl | rfl | rfl | rfl <;> first | decide | (revert h3; decide)
theorem behind_head {d : Nat} {l r : List Pt} (h : behind d l = some r) : 0 < l.length ∧ 1 ≤ (l.headD pt0).1 ∧ (l.headD pt0).1 ≤ 13 := by
 cases d with
 | zero => cases h
 | succ d =>
  cases l with
  | nil => cases h
  | cons p q =>
   rw [behind_succ] at h
   by_cases hp : partB p = true
   ·exact ⟨by simp, part_in (x := p.1) (n := p.2.1) (t := p.2.2) hp⟩
   ·rw [if_neg hp] at h; cases h
theorem child_by (d k : Nat) (l : List Pt) (h1 : 1 ≤ k) (h2 : k ≤ 13) (h3 : 0 < innerF k) :
  (behind d l = none → child d k l = none) ∧ ∀ r j, behind d l = some r → (l.headD pt0).1 = ((j : Nat) : Int) → child d k l = if truthF j = truthsF k then some r else none := by
 constructor
 ·intro h; unfold child; rw [h]; split <;> rfl
 ·intro r j h hj
  obtain ⟨_, hl, hh⟩ := behind_head h
  unfold child
  rw [h, hj, num_truth j (by omega) (by omega), wants_truths k h1 h2 h3]
  cases truthF j <;> cases truthsF k <;> rfl
theorem below_one (w : World) (o : Obj) : Below w.heap.size w (w.alloc o) := (Below.refl _ _).alloc (Nat.le_refl _) o
theorem parts_tail {w : World} {a : Option Addr} {p : Pt} {r : List Pt} (h : Parts w a (p :: r)) : ∀ b o, a = some ⟨b, o, none⟩ → Parts w (some ⟨b, o + 3, none⟩) r := by
 intro b o ha
 refine ⟨by have := h.1; simp at this; omega, fun i hi => ?_, fun hp => ?_⟩
 ·have := h.2.1 (i + 1) (by simp; omega)
  simpa using this
 ·obtain ⟨b1, o1, ha1, hb, hc⟩ := h.2.2 (by simp)
  rw [ha] at ha1
  cases ha1
  refine ⟨b, o + 3, rfl, hb, fun i hi => ?_⟩
  have := hc (i + 1) (by simp; omega)
  simp only [List.getD_cons_succ] at this
  rw [show o + (i + 1) * 3 = o + 3 + i * 3 by omega] at this
  exact this
set_option maxRecDepth 10000 in
set_option maxHeartbeats 1600000 in
theorem impl_behind : ∀ (d : Nat), d ≤ 6 → ∀ (a : Option Addr) (cap : Nat) (ps : List Pt) (w : World), Parts w a ps → ps.length ≤ cap → EnvS w →
  Calls Tryz.prog 208 #[.slice a ps.length cap, .int .i64 d] w fun e w' => (match behind d ps with
   | none => e = .returned (.tuple #[.slice none 0 0, .bool false])
   | some r => ∃ a' cap', e = .returned (.tuple #[.slice a' r.length cap', .bool true]) ∧ Parts w' a' r ∧ r.length ≤ cap') ∧ Below w.heap.size w w' := by
 intro d
 induction d with
 | zero =>
  intro _ a cap ps w hP hcap hE
  have hl := hP.1
  have e : behind 0 ps = none := rfl
  rw [e]
  clear e
  by_cases h0 : ps.length = 0
  ·go_enter Tryz.func208, Tryz.ntmps208
   go_wp2_with fail
   go_ret2
   exact ⟨rfl, by go_grown⟩
  ·have h0' : (((ps.length : Nat) : Int) == 0) = false := by rw [beq_eq_false_iff_ne]; omega
   go_enter Tryz.func208, Tryz.ntmps208
   go_wp2_with fail
   go_ret2
   exact ⟨rfl, by go_grown⟩
 | succ d ih =>
  intro hd a cap ps w hP hcap hE
  have HI := hid ih
  have HE := hid hE
  clear ih hE
  cases ps with
  | nil =>
   rw [behind_nil]
   go_enter Tryz.func208, Tryz.ntmps208
   go_wp2_with fail
   go_ret2
   exact ⟨rfl, by go_grown⟩
  | cons p r =>
   have HP := hid hP
   have hl := hP.1
   clear hP
   obtain ⟨b, o, x, n, t, rfl, hb, hg, hf, c0, c1, c2⟩ := parts_at HP.out (show 0 < (p :: r).length by simp)
   have hp : p = (x, n, t) := hg
   subst hp
   rw [behind_succ]
   simp only [Nat.zero_mul, Nat.add_zero] at c0 c1 c2
   have hsz := hf.2.2
   obtain ⟨q, hq⟩ : ∃ q, Hid (partB (x, n, t) = q) := ⟨_, rfl⟩
   rw [hq.out]
   have h0 : ((((x, n, t) :: r).length : Nat) : Int) = (r.length : Int) + 1 := by simp
   have h0' : (((r.length : Int) + 1) == 0) = false := by rw [beq_eq_false_iff_ne]; omega
   have h0'' : (((d : Int) + 1) == 0) = false := by rw [beq_eq_false_iff_ne]; omega
   cases q
   ·rw [if_neg (by decide)]
    go_enter Tryz.func208, Tryz.ntmps208
    go_wp2_with fail
    refine (impl_part x n t (by unfold maxLen; omega) w HE.out).mono ?_
    rintro e w1 ⟨rfl, hB1⟩
    rw [hq.out]
    have HB1 := hid hB1
    clear hB1 c0 c1 c2 HI
    go_wp2_with fail
    go_ret2
    exact ⟨rfl, HB1.out⟩
   ·rw [if_pos rfl]
    have hx := part_in hq.out
    obtain ⟨k, rfl⟩ : ∃ k : Nat, x = k := ⟨x.toNat, by omega⟩
    have hk13 : k < 14 := by omega
    rw [many_inner k (by omega) (by omega)]
    obtain ⟨F, HF⟩ : ∃ F, Hid (iter (child d (k : Int)) (innerF k) (some r) = F) := ⟨_, rfl⟩
    rw [HF.out]
    have hin2 : innerF k ≤ 2 := by rw [← many_inner k (by omega) (by omega)]; exact many_le _
    go_enter Tryz.func208, Tryz.ntmps208
    go_wp2_with fail
    refine (impl_part k n t (by unfold maxLen; omega) w HE.out).mono ?_
    rintro e w1 ⟨rfl, hB1⟩
    rw [hq.out]
    have HB1 := hid hB1
    rw [← hB1.cell (p := ⟨b, _, none⟩) hb] at c0
    have HE1 := hid (HE.out.on hB1)
    have hg1 := HE1.out.1
    obtain ⟨e0, e1, e2, e3, e4, e5, e6⟩ := HE1.out.2 k (by omega)
    have HP1 := hid (parts_tail (HP.out.on hB1) b o rfl)
    obtain ⟨s1, hs1⟩ : ∃ s1, innerF k = s1 := ⟨_, rfl⟩
    obtain ⟨s2, hs2⟩ : ∃ s2, truthsF k = s2 := ⟨_, rfl⟩
    rw [hs1] at e1 hin2
    rw [hs2] at e2
    have HS1 := hid hs1
    have HS2 := hid hs2
    rw [hs1] at HF
    generalize truthF k = s0 at *
    generalize namedF k = s3 at *
    generalize lowF k = s4 at *
    generalize highF k = s5 at *
    generalize signF k = s6 at *
    clear hB1 c1 c2 hs1 hs2 HP
    have hbr : b < w1.heap.size := Nat.lt_of_lt_of_le hb HB1.out.size
    go_upto_region 4 with fail
    go_cut [7] from 30 to 31 (fun s wx => ∃ (a' : Option Addr) (cap' : Nat), s = .slice a' r.length cap' ∧ r.length ≤ cap' ∧ Parts w1 a' r ∧ wx = w1.alloc (.cells #[.bool s0, .int .i64 s1, .bool s2, .bool s3, .int .i64 s4, .int .i64 s5, .string s6] 152))
    case first =>
     by_cases hc1 : cap = 1
     ·subst hc1
      go_wp2_with fail
      go_meet
      obtain rfl : r = [] := List.length_eq_zero_iff.1 (by have h := hcap; simp only [List.length_cons] at h; omega)
      exact ⟨_, _, rfl, Nat.le_refl _, Parts.nil _ _, rfl⟩
     ·go_wp2_with fail
      go_meet
      exact ⟨_, _, rfl, by have h := hcap; simp only [List.length_cons] at h; omega, HP1.out, rfl⟩
    case rest =>
     obtain ⟨a', cap', rfl, hcap', hP', rfl⟩ := hcut
     have HP' := hid (hP'.alloc (.cells #[.bool s0, .int .i64 s1, .bool s2, .bool s3, .int .i64 s4, .int .i64 s5, .string s6] 152))
     have HE2 := hid (HE1.out.on (below_one w1 (.cells #[.bool s0, .int .i64 s1, .bool s2, .bool s3, .int .i64 s4, .int .i64 s5, .string s6] 152)))
     have HB2 : Hid (Below w.heap.size w (w1.alloc (.cells #[.bool s0, .int .i64 s1, .bool s2, .bool s3, .int .i64 s4, .int .i64 s5, .string s6] 152))) := HB1.out.trans ((below_one w1 _).mono HB1.out.size)
     have k1 : (w1.alloc (.cells #[.bool s0, .int .i64 s1, .bool s2, .bool s3, .int .i64 s4, .int .i64 s5, .string s6] 152)).cell? ⟨w1.heap.size, 1, none⟩ = some (.int .i64 s1) := by go_simp
     have k2 : (w1.alloc (.cells #[.bool s0, .int .i64 s1, .bool s2, .bool s3, .int .i64 s4, .int .i64 s5, .string s6] 152)).cell? ⟨w1.heap.size, 2, none⟩ = some (.bool s2) := by go_simp
     have hlt6 : w1.heap.size < (w1.alloc (.cells #[.bool s0, .int .i64 s1, .bool s2, .bool s3, .int .i64 s4, .int .i64 s5, .string s6] 152)).heap.size := by simp
     clear hP' HP1 e0 e1 e2 e3 e4 e5 e6 c0 HB1 HE1
     generalize w1.alloc (.cells #[.bool s0, .int .i64 s1, .bool s2, .bool s3, .int .i64 s4, .int .i64 s5, .string s6] 152) = W2 at *
     generalize w1.heap.size = g6 at *
     go_wp2_with fail
     clear k1
     go_loopw [7, 34] (fun left cnt wr => ∃ (i : Nat) (l : List Pt) (al : Option Addr) (cl : Nat), i ≤ s1 ∧ cnt = .int .i64 i ∧ left = .slice al l.length cl ∧ Hid (Parts wr al l) ∧ l.length ≤ cl ∧ l.length ≤ 1048576 ∧ Hid (iter (child d (k : Int)) (s1 - i) (some l) = F) ∧ Below W2.heap.size W2 wr) (fun _ cnt _ => s1 - (intOf cnt).toNat)
     case atStart => exact ⟨0, r, a', cap', Nat.zero_le _, rfl, rfl, HP', hcap', by have h := hl; simp only [List.length_cons] at h; omega, HF, Below.refl _ _⟩
     case round =>
      obtain ⟨i, l, al, cl, hi, rfl, rfl, hPl, hcl, hll, hit, hbel⟩ := hrel
      by_cases hlt : i < s1
      ·have hk1 : 1 ≤ k := by omega
       have hk2 : k ≤ 13 := by omega
       have h3 : 0 < innerF k := by rw [HS1.out]; omega
       obtain ⟨hno, hyes⟩ := child_by d k l hk1 hk2 h3
       rw [show s1 - i = (s1 - (i + 1)) + 1 by omega] at hit
       have hit2 : Hid (iter (child d (k : Int)) (s1 - (i + 1)) (child d (k : Int) l) = F) := hit.out
       have HN := hid hno
       have HY := hid hyes
       have HBL := hid hbel
       rw [← hbel.cell (p := ⟨g6, _, none⟩) hlt6] at k2
       clear hno hyes hit hbel h3
       go_wp2_with fail
       refine (HI.out (by omega) al cl l wr hPl.out hcl (HE2.out.on HBL.out)).mono ?_
       rintro e w3 ⟨hcase, hB3⟩
       have HBL3 : Hid (Below W2.heap.size W2 w3) := HBL.out.trans (hB3.mono HBL.out.size)
       cases hbd : behind d l with
       | none =>
        rw [hbd] at hcase
        obtain rfl := hcase
        rw [HN.out hbd, iter_none] at hit2
        obtain rfl := hit2.out
        clear hbd hB3 HN HY hit2
        go_wp2_with fail
        refine wp_region_held_drew (S := (fun _ => True)) (by kernel_rfl) ?_ (fun hHeld => ?_)
        ·(try dsimp only) <;> (trivial)
        refine tk 0 (some 43) rfl hHeld ?_; (try simp only [Act.put, pA, pB, pC]); refine tk 1 (some 44) rfl hHeld ?_; (try simp only [Act.put, pA, pB, pC]); refine tk 2 (some 45) rfl hHeld ?_; (try simp only [Act.put, pA, pB, pC]); refine tp 3 (some 46) rfl hHeld ?_; (try simp only [Act.put, pA, pB, pC]); refine tp 4 (some 47) rfl hHeld ?_; (try simp only [Act.put, pA, pB, pC]); refine tp 5 (some 48) rfl hHeld ?_; (try simp only [Act.put, pA, pB, pC]); refine tp 6 (some 49) rfl hHeld ?_; (try simp only [Act.put, pA, pB, pC]); refine tp 7 (some 50) rfl hHeld ?_; (try simp only [Act.put, pA, pB, pC]); refine tp 8 (some 51) rfl hHeld ?_; (try simp only [Act.put, pA, pB, pC]); refine tp 9 (some 52) rfl hHeld ?_; (try simp only [Act.put, pA, pB, pC]); refine tp 10 (some 53) rfl hHeld ?_; (try simp only [Act.put, pA, pB, pC]); refine tp 11 (some 54) rfl hHeld ?_; (try simp only [Act.put, pA, pB, pC])
        refine tp 12 (some 55) rfl hHeld ?_; (try simp only [Act.put, pA, pB, pC]); refine tk 13 (some 56) rfl hHeld ?_; (try simp only [Act.put, pA, pB, pC])
        refine wpAnyH_done (by kernel_rfl) ?_ _
        go_wp2_with fail
        go_ret2
        exact ⟨rfl, (HB2.out.trans (HBL3.out.mono HB2.out.size)).drew⟩
       | some l' =>
        rw [hbd] at hcase
        obtain ⟨a3, c3, rfl, hP3, hc3⟩ := hcase
        obtain ⟨hlp, hj1, hj2⟩ := behind_head hbd
        obtain ⟨b4, o4, x4, n4, t4, rfl, hb4, hg4, hf4, d0, d1, d2⟩ := parts_at hPl.out hlp
        have hx4 : (l.headD pt0).1 = x4 := by
         have e := drop_at l 0 hlp
         rw [List.drop_zero] at e
         rw [e, hg4]; rfl
        rw [hx4] at hj1 hj2
        obtain ⟨j, rfl⟩ : ∃ j : Nat, x4 = j := ⟨x4.toNat, by omega⟩
        have hch := HY.out l' j hbd hx4
        rw [HS2.out] at hch
        have HC := hid hch
        have hl' := (behind_suffix _ _ _ hbd).2
        rw [Nat.zero_mul, Nat.add_zero] at d0
        rw [← hB3.cell (p := ⟨b4, _, none⟩) hb4] at d0
        have hlt63 : g6 < wr.heap.size := Nat.lt_of_lt_of_le hlt6 HBL.out.size
        rw [← hB3.cell (p := ⟨g6, _, none⟩) hlt63] at k2
        have hj14 : j < 14 := by omega
        have hj14' : (j : Int) < 14 := by omega
        obtain ⟨e0, -⟩ := (HE2.out.on HBL3.out).2 j hj14
        have HP3 := hid hP3
        obtain ⟨tj, htj⟩ : ∃ tj, truthF j = tj := ⟨_, rfl⟩
        rw [htj] at e0 HC
        clear hbd hB3 HN HY hch hP3 htj d1 d2 hg4 hx4 HI HBL hPl hf4 HS1 HS2 HE2 HE
        go_wp2_with fail
        by_cases htt : tj = s2
        ·subst htt
         rw [HC.out, if_pos rfl] at hit2
         clear HC
         refine wp_region_held_drew (S := (fun w' => w'.cell? ⟨b4, o4, none⟩ = some (.int .i64 j) ∧ w'.cell? ⟨2, j * 7, none⟩ = some (.bool tj) ∧ w'.cell? ⟨g6, 2, none⟩ = some (.bool tj))) (by kernel_rfl) ?_ (fun hHeld => ?_)
         ·(try dsimp only) <;> (exact ⟨d0, e0, k2⟩)
         refine tk 0 (some 43) rfl hHeld ?_; (try simp only [Act.put, pA, pB, pC]); refine tk 1 (some 44) rfl hHeld ?_; (try simp only [Act.put, pA, pB, pC]); refine tk 2 (some 45) rfl hHeld ?_; (try simp only [Act.put, pA, pB, pC]); refine tk 3 (some 46) rfl hHeld ?_; (try simp only [Act.put, pA, pB, pC]); refine tk 4 (some 47) rfl hHeld ?_; (try simp only [Act.put, pA, pB, pC]); refine tk 5 (some 48) rfl hHeld ?_; (try simp only [Act.put, pA, pB, pC]); refine tk 6 (some 49) rfl hHeld ?_; (try simp only [Act.put, pA, pB, pC]); refine tk 7 (some 50) rfl hHeld ?_; (try simp only [Act.put, pA, pB, pC]); refine tk 8 (some 51) rfl hHeld ?_; (try simp only [Act.put, pA, pB, pC]); refine tk 9 (some 52) rfl hHeld ?_; (try simp only [Act.put, pA, pB, pC]); refine tk 10 (some 53) rfl hHeld ?_; (try simp only [Act.put, pA, pB, pC]); refine tk 11 (some 54) rfl hHeld ?_; (try simp only [Act.put, pA, pB, pC])
         refine tk 12 (some 55) rfl hHeld ?_; (try simp only [Act.put, pA, pB, pC]); refine tk 13 (some 56) rfl hHeld ?_; (try simp only [Act.put, pA, pB, pC])
         refine wpAnyH_done (by kernel_rfl) ?_ _
         clear d0 e0 hHeld
         go_wp2_with fail
         exact ⟨⟨i + 1, l', a3, c3, by omega, by go_num, rfl, HP3.out.on (Below.refl _ _).drew, hc3, by omega, hit2, HBL3.out.drew⟩, by simp [intOf]; omega⟩
        ·rw [HC.out, if_neg htt, iter_none] at hit2
         obtain rfl := hit2.out
         have hne : (tj == s2) = false := by simp [htt]
         clear HC hit2
         refine wp_region_held_drew (S := (fun w' => w'.cell? ⟨b4, o4, none⟩ = some (.int .i64 j) ∧ w'.cell? ⟨2, j * 7, none⟩ = some (.bool tj) ∧ w'.cell? ⟨g6, 2, none⟩ = some (.bool s2))) (by kernel_rfl) ?_ (fun hHeld => ?_)
         ·(try dsimp only) <;> (exact ⟨d0, e0, k2⟩)
         refine tk 0 (some 43) rfl hHeld ?_; (try simp only [Act.put, pA, pB, pC]); refine tk 1 (some 44) rfl hHeld ?_; (try simp only [Act.put, pA, pB, pC]); refine tk 2 (some 45) rfl hHeld ?_; (try simp only [Act.put, pA, pB, pC]); refine tk 3 (some 46) rfl hHeld ?_; (try simp only [Act.put, pA, pB, pC]); refine tk 4 (some 47) rfl hHeld ?_; (try simp only [Act.put, pA, pB, pC]); refine tk 5 (some 48) rfl hHeld ?_; (try simp only [Act.put, pA, pB, pC]); refine tk 6 (some 49) rfl hHeld ?_; (try simp only [Act.put, pA, pB, pC]); refine tk 7 (some 50) rfl hHeld ?_; (try simp only [Act.put, pA, pB, pC]); refine tk 8 (some 51) rfl hHeld ?_; (try simp only [Act.put, pA, pB, pC]); refine tk 9 (some 52) rfl hHeld ?_; (try simp only [Act.put, pA, pB, pC]); refine tk 10 (some 53) rfl hHeld ?_; (try simp only [Act.put, pA, pB, pC]); refine tk 11 (some 54) rfl hHeld ?_; (try simp only [Act.put, pA, pB, pC])
         refine tk 12 (some 55) rfl hHeld ?_; (try simp only [Act.put, pA, pB, pC]); refine tk 13 (some 56) rfl hHeld ?_; (try simp only [Act.put, pA, pB, pC])
         refine wpAnyH_done (by kernel_rfl) ?_ _
         clear d0 e0 hHeld
         go_wp2_with fail
         go_ret2
         exact ⟨rfl, (HB2.out.trans (HBL3.out.mono HB2.out.size)).drew⟩
      ·obtain rfl : i = s1 := by omega
       rw [Nat.sub_self] at hit
       obtain rfl : some l = F := hit.out
       go_wp2_with fail
       go_ret2
       exact ⟨⟨_, _, rfl, hPl.out, hcl⟩, HB2.out.trans (hbel.mono HB2.out.size)⟩
open Go.RowKit
open PrtW PrtM NameW PrtS
set_option maxHeartbeats 800000 in
theorem impl_right (a : Option Addr) (cap : Nat) (ps : List Pt) (w : World) (hP : Parts w a ps) (hcap : ps.length ≤ cap) (hE : EnvS w) :
  Calls Tryz.prog 176 #[.slice a ps.length cap] w fun e w' => e = .returned (.bool (rightB ps)) ∧ Below w.heap.size w w' := by
 have hl := hP.1
 have HP := hid hP
 have HE := hid hE
 clear hP hE
 unfold rightB
 by_cases h : ps.length ≤ 20
 ·rw [decide_eq_true h, Bool.true_and]
  cases hbd : behind 6 ps with
  | none =>
   rw [decide_eq_false (by simp)]
   have HBD := hid hbd
   clear hbd
   go_enter Tryz.func176, Tryz.ntmps176
   go_wp2_with fail
   refine (impl_behind 6 (by decide) a cap ps w HP.out hcap HE.out).mono ?_
   rintro e w1 ⟨hc, hB⟩
   rw [HBD.out] at hc
   obtain rfl := hc
   have HB := hid hB
   clear hB
   go_wp2_with fail
   go_ret
   exact ⟨rfl, HB.out⟩
  | some r =>
   have HBD := hid hbd
   have hrl := (behind_suffix _ _ _ hbd).2
   rw [show decide (some r = some ([] : List Pt)) = (((r.length : Nat) : Int) == 0) by cases r <;> simp; omega]
   clear hbd
   go_enter Tryz.func176, Tryz.ntmps176
   go_wp2_with fail
   refine (impl_behind 6 (by decide) a cap ps w HP.out hcap HE.out).mono ?_
   rintro e w1 ⟨hc, hB⟩
   rw [HBD.out] at hc
   obtain ⟨a', cap', rfl, _, _⟩ := hc
   have HB := hid hB
   clear hB
   go_wp2_with fail
   go_ret
   exact ⟨rfl, HB.out⟩
 ·rw [decide_eq_false h, Bool.false_and]
  go_enter Tryz.func176, Tryz.ntmps176
  go_wp2_with fail
  go_ret
  exact ⟨rfl, Below.refl _ _⟩
open Go.RowKit
open PrtW PrtM NameW PrtS
set_option maxHeartbeats 800000 in
theorem impl_truth (a : Option Addr) (cap : Nat) (ps : List Pt) (w : World) (hP : Parts w a ps) (hcap : ps.length ≤ cap) (hE : EnvS w) :
  Calls Tryz.prog 175 #[.slice a ps.length cap] w fun e w' => e = .returned (.bool (truthB ps)) ∧ Below w.heap.size w w' := by
 have hl := hP.1
 have HP := hid hP
 have HE := hid hE
 clear hP hE
 unfold truthB
 obtain ⟨r, hr⟩ : ∃ r, Hid (rightB ps = r) := ⟨_, rfl⟩
 rw [hr.out]
 cases r
 ·rw [Bool.false_and]
  go_enter Tryz.func175, Tryz.ntmps175
  go_wp2_with fail
  refine (impl_right a cap ps w HP.out hcap HE.out).mono ?_
  rintro e w1 ⟨rfl, hB⟩
  rw [hr.out]
  have HB := hid hB
  clear hB
  go_wp2_with fail
  go_ret
  exact ⟨rfl, HB.out⟩
 ·rw [Bool.true_and]
  have hpos := right_pos hr.out
  have hbd : behind 6 ps = some [] := by
   have h := hr.out
   unfold rightB at h
   rw [Bool.and_eq_true, decide_eq_true_iff, decide_eq_true_iff] at h
   exact h.2
  obtain ⟨_, hj1, hj2⟩ := behind_head hbd
  obtain ⟨b, o, x, n, t, rfl, hb, hg, hf, c0, c1, c2⟩ := parts_at HP.out hpos
  have hh : (ps.headD pt0).1 = x := by
   have e := drop_at ps 0 hpos
   rw [List.drop_zero] at e
   rw [e, hg]; rfl
  rw [hh] at hj1 hj2 ⊢
  obtain ⟨j, rfl⟩ : ∃ j : Nat, x = j := ⟨x.toNat, by omega⟩
  rw [num_truth j (by omega) (by omega), Bool.not_not]
  have hj14 : j < 14 := by omega
  have hj14' : (j : Int) < 14 := by omega
  clear hh hg hf c1 c2 hbd
  rw [Nat.zero_mul, Nat.add_zero] at c0
  obtain ⟨tj, htj⟩ : ∃ tj, truthF j = tj := ⟨_, rfl⟩
  rw [htj]
  have HTJ := hid htj
  clear htj
  go_enter Tryz.func175, Tryz.ntmps175
  go_wp2_with fail
  refine (impl_right _ cap ps w HP.out hcap HE.out).mono ?_
  rintro e w1 ⟨rfl, hB⟩
  rw [hr.out]
  have HB := hid hB
  rw [← hB.cell (p := ⟨b, _, none⟩) hb] at c0
  obtain ⟨e0, -⟩ := (HE.out.on hB).2 j hj14
  rw [HTJ.out] at e0
  clear hB
  go_wp2_with fail
  go_ret
  exact ⟨rfl, HB.out⟩
end Go.Proofs.YtmbhmknfipdadaaGreatDoor.PrtI
namespace Go.Proofs.YtmbhmknfipdadaaGreatDoor.RdL
open Go.RowKit
open ValW ValS
open RdS (Fresh)
open RdI (Free)
def marks (k : Int) (n : Nat) : List Int := (List.range n).map fun (i : Nat) => k + (i : Int)
theorem marks_len (k : Int) (n : Nat) : (marks k n).length = n := by simp [marks]
theorem marks_at (k : Int) (n i : Nat) (h : i < n) : (marks k n).getD i 0 = k + i := by simp [marks, List.getD, h]
def Marked (w w' : World) (a : Option Addr) (zs : List Int) (k : Int) : Prop := w'.os = w.os ∧ w'.tape = w.tape ∧ w'.output = w.output ∧ w.heap.size ≤ w'.heap.size ∧
 (∀ j, j < w.heap.size → (∀ b o, a = some ⟨b, o, none⟩ → 0 < zs.length → j ≠ b) → w'.heap[j]? = w.heap[j]?) ∧ Codes w' a (marks k zs.length)
theorem Marked.below {w w' : World} {a : Option Addr} {zs : List Int} {k : Int} {B : Nat} (h : Marked w w' a zs k) (hf : Fresh a B) (hB : B ≤ w.heap.size) : Below B w w' := by
 obtain ⟨h1, h2, h3, h4, h5, _⟩ := h
 exact ⟨h1, h2, h3, by omega, fun j hj => h5 j (by omega) fun b o ha _ => by have := hf b o ha; omega⟩
theorem Marked.after {w0 w w' : World} {a : Option Addr} {zs : List Int} {k : Int} (h : Marked w w' a zs k) (hB : Below w0.heap.size w0 w) : Marked w0 w' a zs k := by
 obtain ⟨h1, h2, h3, h4, h5, h6⟩ := h
 exact ⟨h1.trans hB.os, h2.trans hB.tape, h3.trans hB.output, Nat.le_trans hB.size h4, fun j hj hn => (h5 j (Nat.lt_of_lt_of_le hj hB.size) hn).trans (hB.block j hj), h6⟩
def MInv (w : World) (b o : Nat) (zs : List Int) (k : Int) (kv iv : Value) (wr : World) : Prop := ∃ j : Nat, j ≤ zs.length ∧ iv = .int .i64 j ∧ kv = .int .i64 (k + j) ∧ wr.os = w.os ∧ wr.tape = w.tape ∧ wr.output = w.output ∧ wr.heap.size = w.heap.size ∧
 (∀ x, x ≠ b → wr.heap[x]? = w.heap[x]?) ∧ (∀ i, i < j → wr.cell? ⟨b, o + i, none⟩ = some (.int .i64 (k + i))) ∧ (∀ i, j ≤ i → i < zs.length → wr.cell? ⟨b, o + i, none⟩ = some (.int .i64 (zs.getD i 0))) ∧ (∀ i, i < zs.length → wr.frozen? ⟨b, o + i, none⟩ = false)
set_option maxRecDepth 10000 in
set_option maxHeartbeats 1000000 in
theorem mark_ints (a : Option Addr) (cap : Nat) (zs : List Int) (k : Int) (w : World) (hc : Codes w a zs) (hf : Free w a zs) (hk0 : 0 ≤ k) (hk1 : k ≤ 100000000) :
  Calls Tryz.prog 38 #[.slice a zs.length cap, .int .i64 k] w fun e w' => e = .returned (.int .i64 (k + zs.length)) ∧ Marked w w' a zs k := by
 have hl := hc.1
 by_cases h0 : zs.length = 0
 ·have HM : Hid (Marked w w a zs k) := ⟨rfl, rfl, rfl, Nat.le_refl _, fun _ _ _ => rfl, by rw [h0]; exact Codes.nil _ _⟩
  rw [h0]
  clear hc hf hl
  go_enter Tryz.func38, Tryz.ntmps38
  go_wp2
  go_loop [1, 5] (fun kv iv => kv = .int .i64 k ∧ iv = .int .i64 0) (fun _ _ => 0)
  case atStart => exact ⟨rfl, rfl⟩
  case round =>
   obtain ⟨rfl, rfl⟩ := hrel
   go_wp2
   go_ret
   exact ⟨by simp, HM.out⟩
 obtain ⟨b, o, rfl, hb, hcs⟩ := hc.2 (by omega)
 have HF : Hid (∀ i, i < zs.length → w.frozen? ⟨b, o + i, none⟩ = false) := fun i hi => (hf b o rfl i hi).2
 have HCS : Hid (∀ i, i < zs.length → w.cell? ⟨b, o + i, none⟩ = some (.int .i64 (zs.getD i 0))) := hcs
 clear hc hf hcs
 go_enter Tryz.func38, Tryz.ntmps38
 go_wp2
 go_loopw [1, 5] (MInv w b o zs k) (fun _ iv _ => zs.length - (intOf iv).toNat)
 case atStart => exact ⟨0, Nat.zero_le _, rfl, by simp, rfl, rfl, rfl, rfl, fun _ _ => rfl, fun i hi => absurd hi (Nat.not_lt_zero i), fun i _ hi => HCS.out i hi, HF.out⟩
 case round =>
  obtain ⟨j, hj, rfl, rfl, i1, i2, i3, i4, i5, i6, i7, i8⟩ := hrel
  by_cases hlt : j < zs.length
  ·have c := i7 j (Nat.le_refl _) hlt
   have f := i8 j hlt
   obtain ⟨m, hm⟩ : ∃ m : Int, k + j = m := ⟨_, rfl⟩
   have HN : Hid (MInv w b o zs k (.int .i64 (k + ((j + 1 : Nat) : Int))) (.int .i64 ((j + 1 : Nat) : Int)) (wr.setCell ⟨b, o + j, none⟩ (.int .i64 m))) := by
    refine ⟨j + 1, by omega, rfl, rfl, i1, i2, i3, by simpa using i4, fun x hx => (heap_setCell_other wr ⟨b, o + j, none⟩ x _ hx).trans (i5 x hx), fun i hi => ?_, fun i hi1 hi2 => ?_, fun i hi => by rw [World.frozen?_setCell]; exact i8 i hi⟩
    ·by_cases e : i = j
     ·subst e; rw [World.cell?_setCell_same _ _ _ c, hm]
     ·rw [World.cell?_setCell_other wr ⟨b, o + j, none⟩ ⟨b, o + i, none⟩ _ (by intro h; injection h; omega)]; exact i6 i (by omega)
    ·rw [World.cell?_setCell_other wr ⟨b, o + j, none⟩ ⟨b, o + i, none⟩ _ (by intro h; injection h; omega)]; exact i7 i (by omega) hi2
   have hk2 : k + ((j + 1 : Nat) : Int) = m + 1 := by omega
   rw [hk2] at HN
   clear i5 i6 i7 i8
   rw [hm]
   have hm1 : m ≤ 200000000 := by omega
   have hm0 : 0 ≤ m := by omega
   generalize zs.getD j 0 = y at c
   clear hm hk2
   go_wp2
   go_roundw
   case rel =>
    have e : ((j + 1 : Nat) : Int) = (j : Int) + 1 := by omega
    rw [e] at HN; exact HN.out
   case measure => simp [intOf]; omega
  ·have hj2 : j = zs.length := by omega
   subst hj2
   have HM : Hid (Marked w wr (some ⟨b, o, none⟩) zs k) := ⟨i1, i2, i3, by omega, fun x _ hx => i5 x (hx b o rfl (by omega)), by
    refine ⟨by rw [marks_len]; exact hl, fun _ => ⟨b, o, rfl, by omega, fun i hi => ?_⟩⟩
    rw [marks_len] at hi
    rw [marks_at k _ i hi]; exact i6 i hi⟩
   clear i5 i6 i7 i8
   go_wp2
   go_ret
   exact ⟨rfl, HM.out⟩
set_option maxRecDepth 10000 in
set_option maxHeartbeats 1000000 in
theorem held_ints (a : Option Addr) (cap n : Nat) (k : Int) (w : World) (hc : Codes w a (marks k n)) (hk0 : 0 ≤ k) (hk1 : k ≤ 100000000) :
  Calls Tryz.prog 73 #[.slice a n cap, .int .i64 k] w fun e w' => e = .returned (.int .i64 (k + n)) ∧ w' = w := by
 have hl := hc.1
 rw [marks_len] at hl
 have HC : Hid (0 < n → ∃ b o, a = some ⟨b, o, none⟩ ∧ ∀ i, i < n → w.cell? ⟨b, o + i, none⟩ = some (.int .i64 (k + i))) := fun hp => by
  obtain ⟨b, o, ha, _, hcs⟩ := hc.2 (by rw [marks_len]; exact hp)
  exact ⟨b, o, ha, fun i hi => by rw [hcs i (by rw [marks_len]; exact hi), marks_at k n i hi]⟩
 clear hc
 go_enter Tryz.func73, Tryz.ntmps73
 go_wp2
 go_loop [1, 5] (fun kv iv => ∃ j : Nat, j ≤ n ∧ iv = .int .i64 j ∧ kv = .int .i64 (k + j)) (fun _ iv => n - (intOf iv).toNat)
 case atStart => exact ⟨0, Nat.zero_le _, rfl, by simp⟩
 case round =>
  obtain ⟨j, hj, rfl, rfl⟩ := hrel
  by_cases hlt : j < n
  ·obtain ⟨b, o, rfl, hcs⟩ := HC.out (by omega)
   have c := hcs j hlt
   clear hcs HC
   go_wp2
   refine ⟨⟨j + 1, by omega, by go_num, by go_num⟩, by simp [intOf]; omega⟩
  ·have hj2 : j = n := by omega
   subst hj2
   go_wp2
   go_ret
   exact ⟨rfl, rfl⟩
end Go.Proofs.YtmbhmknfipdadaaGreatDoor.RdL
namespace Go.Proofs.YtmbhmknfipdadaaGreatDoor.FrmS
open Go.RowKit
open PrtW PrtM NameW ItmW ValM ItmM FrmM
theorem Tryz.infoB : (Tryz.prog.info? 4).map (fun i => (i.zero, i.size, i.bytes)) = some (some (.bool false), 1, 1) := by kernel_rfl
def OwnB (w : World) (base : Nat) (v : Value) (op : List Bool) : Prop := w.ownsRow base 4 1 v op.length (op.map Value.bool)
theorem OwnB.len {w : World} {base : Nat} {v : Value} {op : List Bool} (h : OwnB w base v op) : ∃ a c, v = .slice a op.length c := by
 rcases h.2 with ⟨h0, h1⟩ | ⟨g, c, cur, h0, _⟩
 ·exact ⟨none, 0, by rw [h0, h1]⟩
 ·exact ⟨_, c, h0⟩
theorem OwnB.on {w w' : World} {base : Nat} {v : Value} {op : List Bool} (h : OwnB w base v op) (hB : Below w.heap.size w w') : OwnB w' base v op := by
 obtain ⟨h0, hv⟩ := h
 rcases hv with h1 | ⟨g, c, cur, h1, hb, hg, hr⟩
 ·exact ⟨h0, .inl h1⟩
 ·exact ⟨h0, .inr ⟨g, c, cur, h1, hb, by rw [hB.block g (Array.getElem?_eq_some_iff.1 hg).1]; exact hg, hr⟩⟩
theorem OwnB.made (w : World) : OwnB (w.alloc (.cells #[] 4)) w.heap.size (.slice (some ⟨w.heap.size, 0, none⟩) 0 0) [] := World.ownsRow_made (base := w.heap.size) (e := 4) (size := 1) w #[] 0 (Nat.le_refl _) (by unfold maxLen; omega) rfl
theorem OwnB.last {w : World} {base : Nat} {v : Value} {q : List Bool} {b : Bool} (h : OwnB w base v (q ++ [b])) : ∃ g c, v = .slice (some ⟨g, 0, none⟩) (q.length + 1) c ∧ base ≤ g ∧ g < w.heap.size ∧ q.length + 1 ≤ c ∧ w.cell? ⟨g, q.length, none⟩ = some (.bool b) ∧ w.frozen? ⟨g, q.length, none⟩ = false := by
 have hl : (q ++ [b]).length = q.length + 1 := by simp
 have h' := h
 unfold OwnB at h'
 rw [hl] at h'
 rcases h'.2 with ⟨_, h1⟩ | ⟨g, c, cur, h0, hb, hg, hc, _⟩
 ·omega
 ·subst h0
  refine ⟨g, c, rfl, hb, (Array.getElem?_eq_some_iff.1 hg).1, hc, ?_, h'.frozenAt _⟩
  rw [h'.cellAt _ (by omega)]
  simp
theorem OwnB.pop {w : World} {base g c : Nat} {q : List Bool} {b : Bool} (h : OwnB w base (.slice (some ⟨g, 0, none⟩) (q.length + 1) c) (q ++ [b])) : OwnB w base (.slice (some ⟨g, 0, none⟩) q.length c) q := by
 unfold OwnB at h
 rw [List.map_append, show (q ++ [b]).length = q.length + 1 by simp] at h
 exact ownsRow_pop (by simp) h
theorem OwnB.store {w : World} {base g c : Nat} {q : List Bool} {b : Bool} (h : OwnB w base (.slice (some ⟨g, 0, none⟩) (q.length + 1) c) (q ++ [b])) (u : Bool) : OwnB (w.setCell ⟨g, q.length, none⟩ (.bool u)) base (.slice (some ⟨g, 0, none⟩) (q.length + 1) c) (q ++ [u]) := by
 unfold OwnB at h ⊢
 rw [show (q ++ [b]).length = q.length + 1 by simp] at h
 rw [show (q ++ [u]).length = q.length + 1 by simp]
 have h1 := (h.stored q.length (.bool u)).1
 have h2 : ((q ++ [b]).map Value.bool).set q.length (.bool u) = (q ++ [u]).map Value.bool := by
  rw [List.map_append, List.set_append_right _ _ (by simp)]
  simp
 rw [h2] at h1
 exact h1
set_option maxRecDepth 10000 in
set_option maxHeartbeats 6400000 in
theorem spec_blocks (a : Option Addr) (cap : Nat) (ls : List It) (w : World) (hc : Its w a ls) :
  Calls Tryz.prog 82 #[.slice a ls.length cap] w fun e w' => e = .returned (.bool (blocksB ls)) ∧ Below w.heap.size w w' := by
 have HC := hid hc
 have hl := hc.1
 clear hc
 obtain ⟨i0, hi0, hz0, hz1, hz2⟩ := info_parts Tryz.infoB
 obtain ⟨z, hz⟩ : ∃ z, Hid (blocksB ls = z) := ⟨_, rfl⟩
 rw [hz.out]
 go_enter Tryz.func82, Tryz.ntmps82
 go_wp2_with fail
 go_loopw [3, 4, 5] (fun v i _ wr => ∃ (k : Nat) (op : List Bool) (a1 : Option Addr) (c1 : Nat), k ≤ ls.length ∧ i = .int .i64 k ∧ op.length ≤ 6 ∧ v = .slice a1 op.length c1 ∧ Hid (OwnB wr w.heap.size v op) ∧ Hid (blkF ls [] = blkF (ls.drop k) op) ∧ Hid (Below w.heap.size w wr)) (fun _ i _ _ => ls.length - (intOf i).toNat)
 case atStart => exact ⟨0, [], _, 0, Nat.zero_le _, rfl, Nat.zero_le _, rfl, OwnB.made w, rfl, (Below.refl _ _).alloc (Nat.le_refl _) _⟩
 case round =>
  obtain ⟨k, op, a1, c1, hk, rfl, h6, rfl, HO, HK, HB⟩ := hrel
  by_cases hlt : k < ls.length
  ·obtain ⟨_, b, o, ai, ci, rfl, hb, hF, _⟩ := HC.out.at (Below.refl _ _) hlt
   have hF2 := hF.on hb HB.out
   obtain ⟨c0, -⟩ := hF2
   have HNo : Hid (stepB (ik (ls.getD k it0)) op = none → z = false) := fun h => by rw [← hz.out]; exact blk_none HK.out hlt h
   have HSome : Hid (∀ op', stepB (ik (ls.getD k it0)) op = some op' → blkF ls [] = blkF (ls.drop (k + 1)) op' ∧ op'.length ≤ 6) := fun op' h => ⟨blk_some HK.out hlt h, step_len h h6⟩
   generalize ls.getD k it0 = p at c0 HNo HSome
   obtain ⟨kk, p2⟩ := p
   dsimp only [ik] at c0 HNo HSome
   clear hF HK HC
   by_cases h2 : kk = 2
   ·subst h2
    by_cases hd : 6 ≤ op.length
    ·have HZ := hid (HNo.out (step_deep hd))
     go_wp2_with fail
     go_ret
     exact ⟨by rw [HZ.out]; rfl, HB.out⟩
    ·have HX := hid (HSome.out _ (step_if hd))
     clear HNo HSome
     go_wp2_with (first
      | (at_builtin; refine wpList_append_own _ rfl _ _ 145 rfl w.heap.size 4 i0 (.bool false) 1 1 Tryz.underlying145 hi0 hz0 hz1 hz2 rfl (by decide) _ _ _ rfl (HO.out.alloc _) ⟨wr.heap.size, 0, none⟩ 1 1 [.bool false] rfl rfl (cell_one_new _ _ _) (by simp [Value.oneCell']) (by unfold maxLen; omega) (by omega) (by have := HB.out.size; simp; omega) ?_; intro v' w3 hown' hg3 hnil3; go_frame)
      | go_in)
     have HO3 : Hid (OwnB w3 w.heap.size v' (op ++ [false])) := by
      show w3.ownsRow _ _ _ _ _ _
      rw [List.map_append, show (op ++ [false]).length = op.length + 1 by simp]
      exact hown'
     have HB3 : Hid (Below w.heap.size w w3) := (HB.out.alloc HB.out.size _).grown hg3 (by have := HB.out.size; simp; omega) (fun j hj => (HO.out.lt j hj).1)
     obtain ⟨a3, c3, rfl⟩ := HO3.out.len
     clear hown' hg3 hnil3 HO
     go_wp2_with fail
     exact ⟨⟨k + 1, op ++ [false], a3, c3, by omega, by go_num, HX.out.2, rfl, HO3, HX.out.1, HB3⟩, by simp [intOf]; omega⟩
   have e2 : (kk == 2) = false := by simp [h2]
   by_cases h3 : kk = 3
   ·subst h3
    rcases Nat.eq_zero_or_pos op.length with h0 | h0
    ·obtain rfl := List.length_eq_zero_iff.1 h0
     have HZ := hid (HNo.out step_else_no)
     clear HNo HSome h0
     go_wp2_with fail
     go_ret
     exact ⟨by rw [HZ.out]; rfl, HB.out⟩
    ·obtain ⟨q, b1, rfl⟩ := snoc_of h0
     obtain ⟨g, c, hv, hbg, hgl, hcap, r0, f0⟩ := HO.out.last
     have hlen : (q ++ [b1]).length = q.length + 1 := by simp
     rw [hlen] at hv h6 HO ⊢
     cases hv
     clear hlen
     clear h0
     cases b1
     ·have HX := hid (HSome.out _ step_else)
      have HO3 := hid (HO.out.store true)
      have HB3 : Hid (Below w.heap.size w (wr.setCell ⟨g, q.length, none⟩ (.bool true))) := HB.out.setCell hbg _
      clear HNo HSome HO
      go_wp2_with fail
      exact ⟨⟨k + 1, q ++ [true], some ⟨g, 0, none⟩, c1, by omega, by go_num, HX.out.2, by simp, HO3, HX.out.1, HB3⟩, by simp [intOf]; omega⟩
     ·have HZ := hid (HNo.out step_else_two)
      clear HNo HSome HO
      go_wp2_with fail
      go_ret
      exact ⟨by rw [HZ.out]; rfl, HB.out⟩
   have e3 : (kk == 3) = false := by simp [h3]
   by_cases h4 : kk = 4
   ·subst h4
    rcases Nat.eq_zero_or_pos op.length with h0 | h0
    ·obtain rfl := List.length_eq_zero_iff.1 h0
     have HZ := hid (HNo.out step_end_no)
     clear HNo HSome h0
     go_wp2_with fail
     go_ret
     exact ⟨by rw [HZ.out]; rfl, HB.out⟩
    ·obtain ⟨q, b1, rfl⟩ := snoc_of h0
     obtain ⟨g, c, hv, hbg, hgl, hcap, r0, f0⟩ := HO.out.last
     have HX := hid (HSome.out _ FrmM.step_end)
     have hlen : (q ++ [b1]).length = q.length + 1 := by simp
     rw [hlen] at hv h6 HO ⊢
     cases hv
     clear hlen
     have HO3 := hid HO.out.pop
     clear HNo HSome HO h0
     go_wp2_with fail
     exact ⟨⟨k + 1, q, some ⟨g, 0, none⟩, c1, by omega, by go_num, HX.out.2, rfl, HO3, HX.out.1, HB⟩, by simp [intOf]; omega⟩
   have e4 : (kk == 4) = false := by simp [h4]
   have HX := hid (HSome.out _ (step_other h2 h3 h4))
   clear HNo HSome
   go_wp2_with fail
   exact ⟨⟨k + 1, op, a1, c1, by omega, by go_num, h6, rfl, HO, HX.out.1, HB⟩, by simp [intOf]; omega⟩
  ·obtain rfl : k = ls.length := by omega
   have HZ : Hid (z = decide (op.length = 0)) := by rw [← hz.out]; exact blk_end HK.out
   go_wp2_with fail
   go_ret
   exact ⟨by rw [HZ.out]; exact ret_bool (by rw [Bool.eq_iff_iff]; simp), HB.out⟩
end Go.Proofs.YtmbhmknfipdadaaGreatDoor.FrmS
