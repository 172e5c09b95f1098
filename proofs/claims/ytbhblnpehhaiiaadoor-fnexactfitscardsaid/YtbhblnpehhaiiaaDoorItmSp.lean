/- What the model says of an item. -/
import Derived.Test.YtbhblnpehhaiiaaDoorItmSpA
namespace Go.Proofs.YtbhblnpehhaiiaaDoor.ItmS
open Go.RowKit
open PrtW PrtM NameW ItmW ValM ItmM
open PrtS (spec_truth spec_right)

/-- eight cells at a block's beginning -/
def At8 (w : World) (b : Nat) (v0 v1 v2 v3 v4 v5 v6 v7 : Value) : Prop := (w.cell? ⟨b, 0, none⟩ = some v0 ∧ w.cell? ⟨b, 1, none⟩ = some v1 ∧ w.cell? ⟨b, 2, none⟩ = some v2 ∧ w.cell? ⟨b, 3, none⟩ = some v3 ∧ w.cell? ⟨b, 4, none⟩ = some v4 ∧ w.cell? ⟨b, 5, none⟩ = some v5 ∧ w.cell? ⟨b, 6, none⟩ = some v6 ∧ w.cell? ⟨b, 7, none⟩ = some v7) ∧ b < w.heap.size
theorem At8.on {w w' : World} {b : Nat} {v0 v1 v2 v3 v4 v5 v6 v7 : Value} (h : At8 w b v0 v1 v2 v3 v4 v5 v6 v7) (hB : Below w.heap.size w w') : At8 w' b v0 v1 v2 v3 v4 v5 v6 v7 := by
  obtain ⟨⟨h0, h1, h2, h3, h4, h5, h6, h7⟩, hl⟩ := h
  exact ⟨⟨by rw [hB.cell (p := ⟨b, _, none⟩) hl]; exact h0, by rw [hB.cell (p := ⟨b, _, none⟩) hl]; exact h1, by rw [hB.cell (p := ⟨b, _, none⟩) hl]; exact h2, by rw [hB.cell (p := ⟨b, _, none⟩) hl]; exact h3, by rw [hB.cell (p := ⟨b, _, none⟩) hl]; exact h4, by rw [hB.cell (p := ⟨b, _, none⟩) hl]; exact h5, by rw [hB.cell (p := ⟨b, _, none⟩) hl]; exact h6, by rw [hB.cell (p := ⟨b, _, none⟩) hl]; exact h7⟩, Nat.lt_of_lt_of_le hl hB.size⟩
theorem At8.laid (w : World) (T : TypeId) (v0 v1 v2 v3 v4 v5 v6 v7 : Value) : At8 (w.alloc (.cells #[v0, v1, v2, v3, v4, v5, v6, v7] T)) w.heap.size v0 v1 v2 v3 v4 v5 v6 v7 := ⟨⟨by simp, by simp, by simp, by simp, by simp, by simp, by simp, by simp⟩, by simp⟩
theorem below_one (w : World) (o : Obj) : Below w.heap.size w (w.alloc o) := (Below.refl _ _).alloc (Nat.le_refl _) o

set_option maxRecDepth 10000 in
set_option maxHeartbeats 3200000 in
theorem spec_item_1 (s : ByteArray) (ty lo hi : Int) (t : ByteArray) (a : Option Addr) (cap : Nat) (ps : List Pt) (hd : Bool) (w : World) (hP : Parts w a ps) (hs : s.size ≤ maxLen) (ht : t.size ≤ maxLen) :
    Calls Tryd.prog 30 #[.agg #[.int .i64 1, .string s, .int .i64 ty, .int .i64 lo, .int .i64 hi, .string t, .slice a ps.length cap, .bool hd]] w fun e w' => e = .returned (.bool (itemB (1, s, ty, lo, hi, t, ps, hd))) ∧ Below w.heap.size w w' := by
  have HP := hid hP
  have HS := hid hs
  have HT := hid ht
  have hpl := hP.1
  clear hP hs ht
  obtain ⟨vC, hC⟩ : ∃ v, Hid (nameB s = v) := ⟨_, rfl⟩
  obtain ⟨vR, hR⟩ : ∃ v, Hid (rangeB ty lo hi = v) := ⟨_, rfl⟩
  obtain ⟨vL, hL⟩ : ∃ v, Hid (labelB t = v) := ⟨_, rfl⟩
  obtain ⟨vT, hT⟩ : ∃ v, Hid (truthB ps = v) := ⟨_, rfl⟩
  obtain ⟨vZ, hZ⟩ : ∃ v, decide ((ps.length : Int) = 0) = v := ⟨_, rfl⟩
  have eI : itemB (1, s, ty, lo, hi, t, ps, hd) = (vC && (vR && (vL && (vZ && !hd)))) := by
    rw [← hC.out, ← hR.out, ← hL.out, ← hZ]; rfl
  rw [eI]
  clear eI
  have hZ1 : (((ps.length : Nat) : Int) == 0) = vZ := by rw [← hZ, Bool.eq_iff_iff]; simp
  clear hZ
  go_enter Tryd.func30, Tryd.ntmps30
  go_wp2_with fail
  refine (spec_truth a cap ps _ (HP.out.on (below_one _ _))).mono ?_
  rintro e w1 ⟨rfl, hB1⟩
  rw [hT.out]
  have HB1 : Hid (Below w.heap.size w w1) := (below_one w _).trans (hB1.mono (by simp))
  have HE1 := hid ((At8.laid w 31 (.int .i64 1) (.string s) (.int .i64 ty) (.int .i64 lo) (.int .i64 hi) (.string t) (.slice a ps.length cap) (.bool hd)).on hB1)
  have HP1 := hid ((HP.out.on (below_one _ _)).on hB1)
  clear hB1
  obtain ⟨⟨x0, x1, x2, x3, x4, x5, x6, x7⟩, xl⟩ := HE1.out
  cases vC
  case false =>
    go_wp2_with (first | (go_at_call 54; refine (spec_name s _ HS.out).mono ?_; rintro e w9 ⟨h9, h8⟩; subst h9; subst h8; rw [hC.out]) | (go_at_call 55; refine (spec_range 1 s ty lo hi t a ps.length cap hd _).mono ?_; rintro e w2 ⟨rfl, hB2⟩; rw [hR.out]; have HE2 := hid (HE1.out.on hB2); obtain ⟨⟨y0, y1, y2, y3, y4, y5, y6, y7⟩, yl⟩ := HE2.out; have HB2 := hid (HB1.out.trans (hB2.mono HB1.out.size)); have HP2 := hid (HP1.out.on hB2); clear hB2) | (go_at_call 56; refine (spec_label t _ HT.out).mono ?_; rintro e w9 ⟨h9, h8⟩; subst h9; subst h8; rw [hL.out]))
    go_ret
    first | exact ⟨rfl, HB3.out⟩ | exact ⟨rfl, HB2.out⟩ | exact ⟨rfl, HB1.out⟩
  cases vR
  case false =>
    go_wp2_with (first | (go_at_call 54; refine (spec_name s _ HS.out).mono ?_; rintro e w9 ⟨h9, h8⟩; subst h9; subst h8; rw [hC.out]) | (go_at_call 55; refine (spec_range 1 s ty lo hi t a ps.length cap hd _).mono ?_; rintro e w2 ⟨rfl, hB2⟩; rw [hR.out]; have HE2 := hid (HE1.out.on hB2); obtain ⟨⟨y0, y1, y2, y3, y4, y5, y6, y7⟩, yl⟩ := HE2.out; have HB2 := hid (HB1.out.trans (hB2.mono HB1.out.size)); have HP2 := hid (HP1.out.on hB2); clear hB2) | (go_at_call 56; refine (spec_label t _ HT.out).mono ?_; rintro e w9 ⟨h9, h8⟩; subst h9; subst h8; rw [hL.out]))
    go_ret
    first | exact ⟨rfl, HB3.out⟩ | exact ⟨rfl, HB2.out⟩ | exact ⟨rfl, HB1.out⟩
  cases vL
  case false =>
    go_wp2_with (first | (go_at_call 54; refine (spec_name s _ HS.out).mono ?_; rintro e w9 ⟨h9, h8⟩; subst h9; subst h8; rw [hC.out]) | (go_at_call 55; refine (spec_range 1 s ty lo hi t a ps.length cap hd _).mono ?_; rintro e w2 ⟨rfl, hB2⟩; rw [hR.out]; have HE2 := hid (HE1.out.on hB2); obtain ⟨⟨y0, y1, y2, y3, y4, y5, y6, y7⟩, yl⟩ := HE2.out; have HB2 := hid (HB1.out.trans (hB2.mono HB1.out.size)); have HP2 := hid (HP1.out.on hB2); clear hB2) | (go_at_call 56; refine (spec_label t _ HT.out).mono ?_; rintro e w9 ⟨h9, h8⟩; subst h9; subst h8; rw [hL.out]))
    go_ret
    first | exact ⟨rfl, HB3.out⟩ | exact ⟨rfl, HB2.out⟩ | exact ⟨rfl, HB1.out⟩
  cases vZ
  case false =>
    go_wp2_with (first | (go_at_call 54; refine (spec_name s _ HS.out).mono ?_; rintro e w9 ⟨h9, h8⟩; subst h9; subst h8; rw [hC.out]) | (go_at_call 55; refine (spec_range 1 s ty lo hi t a ps.length cap hd _).mono ?_; rintro e w2 ⟨rfl, hB2⟩; rw [hR.out]; have HE2 := hid (HE1.out.on hB2); obtain ⟨⟨y0, y1, y2, y3, y4, y5, y6, y7⟩, yl⟩ := HE2.out; have HB2 := hid (HB1.out.trans (hB2.mono HB1.out.size)); have HP2 := hid (HP1.out.on hB2); clear hB2) | (go_at_call 56; refine (spec_label t _ HT.out).mono ?_; rintro e w9 ⟨h9, h8⟩; subst h9; subst h8; rw [hL.out]))
    go_ret
    first | exact ⟨rfl, HB3.out⟩ | exact ⟨rfl, HB2.out⟩ | exact ⟨rfl, HB1.out⟩
  go_wp2_with (first | (go_at_call 54; refine (spec_name s _ HS.out).mono ?_; rintro e w9 ⟨h9, h8⟩; subst h9; subst h8; rw [hC.out]) | (go_at_call 55; refine (spec_range 1 s ty lo hi t a ps.length cap hd _).mono ?_; rintro e w2 ⟨rfl, hB2⟩; rw [hR.out]; have HE2 := hid (HE1.out.on hB2); obtain ⟨⟨y0, y1, y2, y3, y4, y5, y6, y7⟩, yl⟩ := HE2.out; have HB2 := hid (HB1.out.trans (hB2.mono HB1.out.size)); have HP2 := hid (HP1.out.on hB2); clear hB2) | (go_at_call 56; refine (spec_label t _ HT.out).mono ?_; rintro e w9 ⟨h9, h8⟩; subst h9; subst h8; rw [hL.out]))
  go_ret
  first | exact ⟨rfl, HB3.out⟩ | exact ⟨rfl, HB2.out⟩ | exact ⟨rfl, HB1.out⟩

set_option maxRecDepth 10000 in
set_option maxHeartbeats 3200000 in
theorem spec_item_2 (s : ByteArray) (ty lo hi : Int) (t : ByteArray) (a : Option Addr) (cap : Nat) (ps : List Pt) (hd : Bool) (w : World) (hP : Parts w a ps) (hs : s.size ≤ maxLen) (ht : t.size ≤ maxLen) :
    Calls Tryd.prog 30 #[.agg #[.int .i64 2, .string s, .int .i64 ty, .int .i64 lo, .int .i64 hi, .string t, .slice a ps.length cap, .bool hd]] w fun e w' => e = .returned (.bool (itemB (2, s, ty, lo, hi, t, ps, hd))) ∧ Below w.heap.size w w' := by
  have HP := hid hP
  have HS := hid hs
  have HT := hid ht
  have hpl := hP.1
  clear hP hs ht
  obtain ⟨vB, hB⟩ : ∃ v, Hid (bareB ty lo hi = v) := ⟨_, rfl⟩
  obtain ⟨vT, hT⟩ : ∃ v, Hid (truthB ps = v) := ⟨_, rfl⟩
  obtain ⟨vEs, hEs⟩ : ∃ v, s.toList.isEmpty = v := ⟨_, rfl⟩
  obtain ⟨vEt, hEt⟩ : ∃ v, t.toList.isEmpty = v := ⟨_, rfl⟩
  have eI : itemB (2, s, ty, lo, hi, t, ps, hd) = (vEs && (vB && (vEt && (vT && !hd)))) := by
    rw [← hEs, ← hB.out, ← hEt, ← hT.out]; rfl
  rw [eI]
  clear eI
  go_enter Tryd.func30, Tryd.ntmps30
  go_wp2_with fail
  refine (spec_truth a cap ps _ (HP.out.on (below_one _ _))).mono ?_
  rintro e w1 ⟨rfl, hB1⟩
  rw [hT.out]
  have HB1 : Hid (Below w.heap.size w w1) := (below_one w _).trans (hB1.mono (by simp))
  have HE1 := hid ((At8.laid w 31 (.int .i64 2) (.string s) (.int .i64 ty) (.int .i64 lo) (.int .i64 hi) (.string t) (.slice a ps.length cap) (.bool hd)).on hB1)
  have HP1 := hid ((HP.out.on (below_one _ _)).on hB1)
  clear hB1
  obtain ⟨⟨x0, x1, x2, x3, x4, x5, x6, x7⟩, xl⟩ := HE1.out
  cases vEs
  case false =>
    go_wp2_with (first | (go_at_call 57; refine (spec_bare 2 s ty lo hi t a ps.length cap hd _).mono ?_; rintro e w2 ⟨rfl, hB2⟩; rw [hB.out]; have HE2 := hid (HE1.out.on hB2); obtain ⟨⟨y0, y1, y2, y3, y4, y5, y6, y7⟩, yl⟩ := HE2.out; have HB2 := hid (HB1.out.trans (hB2.mono HB1.out.size)); have HP2 := hid (HP1.out.on hB2); clear hB2))
    go_ret
    first | exact ⟨rfl, HB3.out⟩ | exact ⟨rfl, HB2.out⟩ | exact ⟨rfl, HB1.out⟩
  cases vB
  case false =>
    go_wp2_with (first | (go_at_call 57; refine (spec_bare 2 s ty lo hi t a ps.length cap hd _).mono ?_; rintro e w2 ⟨rfl, hB2⟩; rw [hB.out]; have HE2 := hid (HE1.out.on hB2); obtain ⟨⟨y0, y1, y2, y3, y4, y5, y6, y7⟩, yl⟩ := HE2.out; have HB2 := hid (HB1.out.trans (hB2.mono HB1.out.size)); have HP2 := hid (HP1.out.on hB2); clear hB2))
    go_ret
    first | exact ⟨rfl, HB3.out⟩ | exact ⟨rfl, HB2.out⟩ | exact ⟨rfl, HB1.out⟩
  cases vEt
  case false =>
    go_wp2_with (first | (go_at_call 57; refine (spec_bare 2 s ty lo hi t a ps.length cap hd _).mono ?_; rintro e w2 ⟨rfl, hB2⟩; rw [hB.out]; have HE2 := hid (HE1.out.on hB2); obtain ⟨⟨y0, y1, y2, y3, y4, y5, y6, y7⟩, yl⟩ := HE2.out; have HB2 := hid (HB1.out.trans (hB2.mono HB1.out.size)); have HP2 := hid (HP1.out.on hB2); clear hB2))
    go_ret
    first | exact ⟨rfl, HB3.out⟩ | exact ⟨rfl, HB2.out⟩ | exact ⟨rfl, HB1.out⟩
  cases vT
  case false =>
    go_wp2_with (first | (go_at_call 57; refine (spec_bare 2 s ty lo hi t a ps.length cap hd _).mono ?_; rintro e w2 ⟨rfl, hB2⟩; rw [hB.out]; have HE2 := hid (HE1.out.on hB2); obtain ⟨⟨y0, y1, y2, y3, y4, y5, y6, y7⟩, yl⟩ := HE2.out; have HB2 := hid (HB1.out.trans (hB2.mono HB1.out.size)); have HP2 := hid (HP1.out.on hB2); clear hB2))
    go_ret
    first | exact ⟨rfl, HB3.out⟩ | exact ⟨rfl, HB2.out⟩ | exact ⟨rfl, HB1.out⟩
  go_wp2_with (first | (go_at_call 57; refine (spec_bare 2 s ty lo hi t a ps.length cap hd _).mono ?_; rintro e w2 ⟨rfl, hB2⟩; rw [hB.out]; have HE2 := hid (HE1.out.on hB2); obtain ⟨⟨y0, y1, y2, y3, y4, y5, y6, y7⟩, yl⟩ := HE2.out; have HB2 := hid (HB1.out.trans (hB2.mono HB1.out.size)); have HP2 := hid (HP1.out.on hB2); clear hB2))
  go_ret
  first | exact ⟨rfl, HB3.out⟩ | exact ⟨rfl, HB2.out⟩ | exact ⟨rfl, HB1.out⟩

set_option maxRecDepth 10000 in
set_option maxHeartbeats 3200000 in
theorem spec_item_3 (s : ByteArray) (ty lo hi : Int) (t : ByteArray) (a : Option Addr) (cap : Nat) (ps : List Pt) (hd : Bool) (w : World) (hP : Parts w a ps) (hs : s.size ≤ maxLen) (ht : t.size ≤ maxLen) :
    Calls Tryd.prog 30 #[.agg #[.int .i64 3, .string s, .int .i64 ty, .int .i64 lo, .int .i64 hi, .string t, .slice a ps.length cap, .bool hd]] w fun e w' => e = .returned (.bool (itemB (3, s, ty, lo, hi, t, ps, hd))) ∧ Below w.heap.size w w' := by
  have HP := hid hP
  have HS := hid hs
  have HT := hid ht
  have hpl := hP.1
  clear hP hs ht
  obtain ⟨vB, hB⟩ : ∃ v, Hid (bareB ty lo hi = v) := ⟨_, rfl⟩
  obtain ⟨vT, hT⟩ : ∃ v, Hid (truthB ps = v) := ⟨_, rfl⟩
  obtain ⟨vEs, hEs⟩ : ∃ v, s.toList.isEmpty = v := ⟨_, rfl⟩
  obtain ⟨vEt, hEt⟩ : ∃ v, t.toList.isEmpty = v := ⟨_, rfl⟩
  obtain ⟨vZ, hZ⟩ : ∃ v, decide ((ps.length : Int) = 0) = v := ⟨_, rfl⟩
  have eI : itemB (3, s, ty, lo, hi, t, ps, hd) = (vEs && (vB && (vEt && (vZ && !hd)))) := by
    rw [← hEs, ← hB.out, ← hEt, ← hZ]; rfl
  rw [eI]
  clear eI
  have hZ1 : (((ps.length : Nat) : Int) == 0) = vZ := by rw [← hZ, Bool.eq_iff_iff]; simp
  clear hZ
  go_enter Tryd.func30, Tryd.ntmps30
  go_wp2_with fail
  refine (spec_truth a cap ps _ (HP.out.on (below_one _ _))).mono ?_
  rintro e w1 ⟨rfl, hB1⟩
  rw [hT.out]
  have HB1 : Hid (Below w.heap.size w w1) := (below_one w _).trans (hB1.mono (by simp))
  have HE1 := hid ((At8.laid w 31 (.int .i64 3) (.string s) (.int .i64 ty) (.int .i64 lo) (.int .i64 hi) (.string t) (.slice a ps.length cap) (.bool hd)).on hB1)
  have HP1 := hid ((HP.out.on (below_one _ _)).on hB1)
  clear hB1
  obtain ⟨⟨x0, x1, x2, x3, x4, x5, x6, x7⟩, xl⟩ := HE1.out
  cases vEs
  case false =>
    go_wp2_with (first | (go_at_call 57; refine (spec_bare 3 s ty lo hi t a ps.length cap hd _).mono ?_; rintro e w2 ⟨rfl, hB2⟩; rw [hB.out]; have HE2 := hid (HE1.out.on hB2); obtain ⟨⟨y0, y1, y2, y3, y4, y5, y6, y7⟩, yl⟩ := HE2.out; have HB2 := hid (HB1.out.trans (hB2.mono HB1.out.size)); have HP2 := hid (HP1.out.on hB2); clear hB2))
    go_ret
    first | exact ⟨rfl, HB3.out⟩ | exact ⟨rfl, HB2.out⟩ | exact ⟨rfl, HB1.out⟩
  cases vB
  case false =>
    go_wp2_with (first | (go_at_call 57; refine (spec_bare 3 s ty lo hi t a ps.length cap hd _).mono ?_; rintro e w2 ⟨rfl, hB2⟩; rw [hB.out]; have HE2 := hid (HE1.out.on hB2); obtain ⟨⟨y0, y1, y2, y3, y4, y5, y6, y7⟩, yl⟩ := HE2.out; have HB2 := hid (HB1.out.trans (hB2.mono HB1.out.size)); have HP2 := hid (HP1.out.on hB2); clear hB2))
    go_ret
    first | exact ⟨rfl, HB3.out⟩ | exact ⟨rfl, HB2.out⟩ | exact ⟨rfl, HB1.out⟩
  cases vEt
  case false =>
    go_wp2_with (first | (go_at_call 57; refine (spec_bare 3 s ty lo hi t a ps.length cap hd _).mono ?_; rintro e w2 ⟨rfl, hB2⟩; rw [hB.out]; have HE2 := hid (HE1.out.on hB2); obtain ⟨⟨y0, y1, y2, y3, y4, y5, y6, y7⟩, yl⟩ := HE2.out; have HB2 := hid (HB1.out.trans (hB2.mono HB1.out.size)); have HP2 := hid (HP1.out.on hB2); clear hB2))
    go_ret
    first | exact ⟨rfl, HB3.out⟩ | exact ⟨rfl, HB2.out⟩ | exact ⟨rfl, HB1.out⟩
  cases vZ
  case false =>
    go_wp2_with (first | (go_at_call 57; refine (spec_bare 3 s ty lo hi t a ps.length cap hd _).mono ?_; rintro e w2 ⟨rfl, hB2⟩; rw [hB.out]; have HE2 := hid (HE1.out.on hB2); obtain ⟨⟨y0, y1, y2, y3, y4, y5, y6, y7⟩, yl⟩ := HE2.out; have HB2 := hid (HB1.out.trans (hB2.mono HB1.out.size)); have HP2 := hid (HP1.out.on hB2); clear hB2))
    go_ret
    first | exact ⟨rfl, HB3.out⟩ | exact ⟨rfl, HB2.out⟩ | exact ⟨rfl, HB1.out⟩
  go_wp2_with (first | (go_at_call 57; refine (spec_bare 3 s ty lo hi t a ps.length cap hd _).mono ?_; rintro e w2 ⟨rfl, hB2⟩; rw [hB.out]; have HE2 := hid (HE1.out.on hB2); obtain ⟨⟨y0, y1, y2, y3, y4, y5, y6, y7⟩, yl⟩ := HE2.out; have HB2 := hid (HB1.out.trans (hB2.mono HB1.out.size)); have HP2 := hid (HP1.out.on hB2); clear hB2))
  go_ret
  first | exact ⟨rfl, HB3.out⟩ | exact ⟨rfl, HB2.out⟩ | exact ⟨rfl, HB1.out⟩

set_option maxRecDepth 10000 in
set_option maxHeartbeats 3200000 in
theorem spec_item_4 (s : ByteArray) (ty lo hi : Int) (t : ByteArray) (a : Option Addr) (cap : Nat) (ps : List Pt) (hd : Bool) (w : World) (hP : Parts w a ps) (hs : s.size ≤ maxLen) (ht : t.size ≤ maxLen) :
    Calls Tryd.prog 30 #[.agg #[.int .i64 4, .string s, .int .i64 ty, .int .i64 lo, .int .i64 hi, .string t, .slice a ps.length cap, .bool hd]] w fun e w' => e = .returned (.bool (itemB (4, s, ty, lo, hi, t, ps, hd))) ∧ Below w.heap.size w w' := by
  have HP := hid hP
  have HS := hid hs
  have HT := hid ht
  have hpl := hP.1
  clear hP hs ht
  obtain ⟨vB, hB⟩ : ∃ v, Hid (bareB ty lo hi = v) := ⟨_, rfl⟩
  obtain ⟨vT, hT⟩ : ∃ v, Hid (truthB ps = v) := ⟨_, rfl⟩
  obtain ⟨vEs, hEs⟩ : ∃ v, s.toList.isEmpty = v := ⟨_, rfl⟩
  obtain ⟨vEt, hEt⟩ : ∃ v, t.toList.isEmpty = v := ⟨_, rfl⟩
  obtain ⟨vZ, hZ⟩ : ∃ v, decide ((ps.length : Int) = 0) = v := ⟨_, rfl⟩
  have eI : itemB (4, s, ty, lo, hi, t, ps, hd) = (vEs && (vB && (vEt && (vZ && !hd)))) := by
    rw [← hEs, ← hB.out, ← hEt, ← hZ]; rfl
  rw [eI]
  clear eI
  have hZ1 : (((ps.length : Nat) : Int) == 0) = vZ := by rw [← hZ, Bool.eq_iff_iff]; simp
  clear hZ
  go_enter Tryd.func30, Tryd.ntmps30
  go_wp2_with fail
  refine (spec_truth a cap ps _ (HP.out.on (below_one _ _))).mono ?_
  rintro e w1 ⟨rfl, hB1⟩
  rw [hT.out]
  have HB1 : Hid (Below w.heap.size w w1) := (below_one w _).trans (hB1.mono (by simp))
  have HE1 := hid ((At8.laid w 31 (.int .i64 4) (.string s) (.int .i64 ty) (.int .i64 lo) (.int .i64 hi) (.string t) (.slice a ps.length cap) (.bool hd)).on hB1)
  have HP1 := hid ((HP.out.on (below_one _ _)).on hB1)
  clear hB1
  obtain ⟨⟨x0, x1, x2, x3, x4, x5, x6, x7⟩, xl⟩ := HE1.out
  cases vEs
  case false =>
    go_wp2_with (first | (go_at_call 57; refine (spec_bare 4 s ty lo hi t a ps.length cap hd _).mono ?_; rintro e w2 ⟨rfl, hB2⟩; rw [hB.out]; have HE2 := hid (HE1.out.on hB2); obtain ⟨⟨y0, y1, y2, y3, y4, y5, y6, y7⟩, yl⟩ := HE2.out; have HB2 := hid (HB1.out.trans (hB2.mono HB1.out.size)); have HP2 := hid (HP1.out.on hB2); clear hB2))
    go_ret
    first | exact ⟨rfl, HB3.out⟩ | exact ⟨rfl, HB2.out⟩ | exact ⟨rfl, HB1.out⟩
  cases vB
  case false =>
    go_wp2_with (first | (go_at_call 57; refine (spec_bare 4 s ty lo hi t a ps.length cap hd _).mono ?_; rintro e w2 ⟨rfl, hB2⟩; rw [hB.out]; have HE2 := hid (HE1.out.on hB2); obtain ⟨⟨y0, y1, y2, y3, y4, y5, y6, y7⟩, yl⟩ := HE2.out; have HB2 := hid (HB1.out.trans (hB2.mono HB1.out.size)); have HP2 := hid (HP1.out.on hB2); clear hB2))
    go_ret
    first | exact ⟨rfl, HB3.out⟩ | exact ⟨rfl, HB2.out⟩ | exact ⟨rfl, HB1.out⟩
  cases vEt
  case false =>
    go_wp2_with (first | (go_at_call 57; refine (spec_bare 4 s ty lo hi t a ps.length cap hd _).mono ?_; rintro e w2 ⟨rfl, hB2⟩; rw [hB.out]; have HE2 := hid (HE1.out.on hB2); obtain ⟨⟨y0, y1, y2, y3, y4, y5, y6, y7⟩, yl⟩ := HE2.out; have HB2 := hid (HB1.out.trans (hB2.mono HB1.out.size)); have HP2 := hid (HP1.out.on hB2); clear hB2))
    go_ret
    first | exact ⟨rfl, HB3.out⟩ | exact ⟨rfl, HB2.out⟩ | exact ⟨rfl, HB1.out⟩
  cases vZ
  case false =>
    go_wp2_with (first | (go_at_call 57; refine (spec_bare 4 s ty lo hi t a ps.length cap hd _).mono ?_; rintro e w2 ⟨rfl, hB2⟩; rw [hB.out]; have HE2 := hid (HE1.out.on hB2); obtain ⟨⟨y0, y1, y2, y3, y4, y5, y6, y7⟩, yl⟩ := HE2.out; have HB2 := hid (HB1.out.trans (hB2.mono HB1.out.size)); have HP2 := hid (HP1.out.on hB2); clear hB2))
    go_ret
    first | exact ⟨rfl, HB3.out⟩ | exact ⟨rfl, HB2.out⟩ | exact ⟨rfl, HB1.out⟩
  go_wp2_with (first | (go_at_call 57; refine (spec_bare 4 s ty lo hi t a ps.length cap hd _).mono ?_; rintro e w2 ⟨rfl, hB2⟩; rw [hB.out]; have HE2 := hid (HE1.out.on hB2); obtain ⟨⟨y0, y1, y2, y3, y4, y5, y6, y7⟩, yl⟩ := HE2.out; have HB2 := hid (HB1.out.trans (hB2.mono HB1.out.size)); have HP2 := hid (HP1.out.on hB2); clear hB2))
  go_ret
  first | exact ⟨rfl, HB3.out⟩ | exact ⟨rfl, HB2.out⟩ | exact ⟨rfl, HB1.out⟩

set_option maxRecDepth 10000 in
set_option maxHeartbeats 3200000 in
theorem spec_item_5 (s : ByteArray) (ty lo hi : Int) (t : ByteArray) (a : Option Addr) (cap : Nat) (ps : List Pt) (hd : Bool) (w : World) (hP : Parts w a ps) (hs : s.size ≤ maxLen) (ht : t.size ≤ maxLen) :
    Calls Tryd.prog 30 #[.agg #[.int .i64 5, .string s, .int .i64 ty, .int .i64 lo, .int .i64 hi, .string t, .slice a ps.length cap, .bool hd]] w fun e w' => e = .returned (.bool (itemB (5, s, ty, lo, hi, t, ps, hd))) ∧ Below w.heap.size w w' := by
  have HP := hid hP
  have HS := hid hs
  have HT := hid ht
  have hpl := hP.1
  clear hP hs ht
  obtain ⟨vC, hC⟩ : ∃ v, Hid (nameB s = v) := ⟨_, rfl⟩
  obtain ⟨vB, hB⟩ : ∃ v, Hid (bareB ty lo hi = v) := ⟨_, rfl⟩
  obtain ⟨vL, hL⟩ : ∃ v, Hid (labelB t = v) := ⟨_, rfl⟩
  obtain ⟨vT, hT⟩ : ∃ v, Hid (truthB ps = v) := ⟨_, rfl⟩
  have eI : itemB (5, s, ty, lo, hi, t, ps, hd) = (vC && (vB && (vL && vT))) := by
    rw [← hC.out, ← hB.out, ← hL.out, ← hT.out]; rfl
  rw [eI]
  clear eI
  go_enter Tryd.func30, Tryd.ntmps30
  go_wp2_with fail
  refine (spec_truth a cap ps _ (HP.out.on (below_one _ _))).mono ?_
  rintro e w1 ⟨rfl, hB1⟩
  rw [hT.out]
  have HB1 : Hid (Below w.heap.size w w1) := (below_one w _).trans (hB1.mono (by simp))
  have HE1 := hid ((At8.laid w 31 (.int .i64 5) (.string s) (.int .i64 ty) (.int .i64 lo) (.int .i64 hi) (.string t) (.slice a ps.length cap) (.bool hd)).on hB1)
  have HP1 := hid ((HP.out.on (below_one _ _)).on hB1)
  clear hB1
  obtain ⟨⟨x0, x1, x2, x3, x4, x5, x6, x7⟩, xl⟩ := HE1.out
  cases vC
  case false =>
    go_wp2_with (first | (go_at_call 54; refine (spec_name s _ HS.out).mono ?_; rintro e w9 ⟨h9, h8⟩; subst h9; subst h8; rw [hC.out]) | (go_at_call 57; refine (spec_bare 5 s ty lo hi t a ps.length cap hd _).mono ?_; rintro e w2 ⟨rfl, hB2⟩; rw [hB.out]; have HE2 := hid (HE1.out.on hB2); obtain ⟨⟨y0, y1, y2, y3, y4, y5, y6, y7⟩, yl⟩ := HE2.out; have HB2 := hid (HB1.out.trans (hB2.mono HB1.out.size)); have HP2 := hid (HP1.out.on hB2); clear hB2) | (go_at_call 56; refine (spec_label t _ HT.out).mono ?_; rintro e w9 ⟨h9, h8⟩; subst h9; subst h8; rw [hL.out]))
    go_ret
    first | exact ⟨rfl, HB3.out⟩ | exact ⟨rfl, HB2.out⟩ | exact ⟨rfl, HB1.out⟩
  cases vB
  case false =>
    go_wp2_with (first | (go_at_call 54; refine (spec_name s _ HS.out).mono ?_; rintro e w9 ⟨h9, h8⟩; subst h9; subst h8; rw [hC.out]) | (go_at_call 57; refine (spec_bare 5 s ty lo hi t a ps.length cap hd _).mono ?_; rintro e w2 ⟨rfl, hB2⟩; rw [hB.out]; have HE2 := hid (HE1.out.on hB2); obtain ⟨⟨y0, y1, y2, y3, y4, y5, y6, y7⟩, yl⟩ := HE2.out; have HB2 := hid (HB1.out.trans (hB2.mono HB1.out.size)); have HP2 := hid (HP1.out.on hB2); clear hB2) | (go_at_call 56; refine (spec_label t _ HT.out).mono ?_; rintro e w9 ⟨h9, h8⟩; subst h9; subst h8; rw [hL.out]))
    go_ret
    first | exact ⟨rfl, HB3.out⟩ | exact ⟨rfl, HB2.out⟩ | exact ⟨rfl, HB1.out⟩
  cases vL
  case false =>
    go_wp2_with (first | (go_at_call 54; refine (spec_name s _ HS.out).mono ?_; rintro e w9 ⟨h9, h8⟩; subst h9; subst h8; rw [hC.out]) | (go_at_call 57; refine (spec_bare 5 s ty lo hi t a ps.length cap hd _).mono ?_; rintro e w2 ⟨rfl, hB2⟩; rw [hB.out]; have HE2 := hid (HE1.out.on hB2); obtain ⟨⟨y0, y1, y2, y3, y4, y5, y6, y7⟩, yl⟩ := HE2.out; have HB2 := hid (HB1.out.trans (hB2.mono HB1.out.size)); have HP2 := hid (HP1.out.on hB2); clear hB2) | (go_at_call 56; refine (spec_label t _ HT.out).mono ?_; rintro e w9 ⟨h9, h8⟩; subst h9; subst h8; rw [hL.out]))
    go_ret
    first | exact ⟨rfl, HB3.out⟩ | exact ⟨rfl, HB2.out⟩ | exact ⟨rfl, HB1.out⟩
  cases vT
  case false =>
    go_wp2_with (first | (go_at_call 54; refine (spec_name s _ HS.out).mono ?_; rintro e w9 ⟨h9, h8⟩; subst h9; subst h8; rw [hC.out]) | (go_at_call 57; refine (spec_bare 5 s ty lo hi t a ps.length cap hd _).mono ?_; rintro e w2 ⟨rfl, hB2⟩; rw [hB.out]; have HE2 := hid (HE1.out.on hB2); obtain ⟨⟨y0, y1, y2, y3, y4, y5, y6, y7⟩, yl⟩ := HE2.out; have HB2 := hid (HB1.out.trans (hB2.mono HB1.out.size)); have HP2 := hid (HP1.out.on hB2); clear hB2) | (go_at_call 56; refine (spec_label t _ HT.out).mono ?_; rintro e w9 ⟨h9, h8⟩; subst h9; subst h8; rw [hL.out]))
    go_ret
    first | exact ⟨rfl, HB3.out⟩ | exact ⟨rfl, HB2.out⟩ | exact ⟨rfl, HB1.out⟩
  go_wp2_with (first | (go_at_call 54; refine (spec_name s _ HS.out).mono ?_; rintro e w9 ⟨h9, h8⟩; subst h9; subst h8; rw [hC.out]) | (go_at_call 57; refine (spec_bare 5 s ty lo hi t a ps.length cap hd _).mono ?_; rintro e w2 ⟨rfl, hB2⟩; rw [hB.out]; have HE2 := hid (HE1.out.on hB2); obtain ⟨⟨y0, y1, y2, y3, y4, y5, y6, y7⟩, yl⟩ := HE2.out; have HB2 := hid (HB1.out.trans (hB2.mono HB1.out.size)); have HP2 := hid (HP1.out.on hB2); clear hB2) | (go_at_call 56; refine (spec_label t _ HT.out).mono ?_; rintro e w9 ⟨h9, h8⟩; subst h9; subst h8; rw [hL.out]))
  go_ret
  first | exact ⟨rfl, HB3.out⟩ | exact ⟨rfl, HB2.out⟩ | exact ⟨rfl, HB1.out⟩

set_option maxRecDepth 10000 in
set_option maxHeartbeats 3200000 in
theorem spec_item_6 (s : ByteArray) (ty lo hi : Int) (t : ByteArray) (a : Option Addr) (cap : Nat) (ps : List Pt) (hd : Bool) (w : World) (hP : Parts w a ps) (hs : s.size ≤ maxLen) (ht : t.size ≤ maxLen) :
    Calls Tryd.prog 30 #[.agg #[.int .i64 6, .string s, .int .i64 ty, .int .i64 lo, .int .i64 hi, .string t, .slice a ps.length cap, .bool hd]] w fun e w' => e = .returned (.bool (itemB (6, s, ty, lo, hi, t, ps, hd))) ∧ Below w.heap.size w w' := by
  have HP := hid hP
  have HS := hid hs
  have HT := hid ht
  have hpl := hP.1
  clear hP hs ht
  obtain ⟨vC, hC⟩ : ∃ v, Hid (nameB s = v) := ⟨_, rfl⟩
  obtain ⟨vB, hB⟩ : ∃ v, Hid (bareB ty lo hi = v) := ⟨_, rfl⟩
  obtain ⟨vX, hX⟩ : ∃ v, Hid (rightB ps = v) := ⟨_, rfl⟩
  obtain ⟨vT, hT⟩ : ∃ v, Hid (truthB ps = v) := ⟨_, rfl⟩
  obtain ⟨vEt, hEt⟩ : ∃ v, t.toList.isEmpty = v := ⟨_, rfl⟩
  have eI : itemB (6, s, ty, lo, hi, t, ps, hd) = (vC && (vB && (vEt && (vX && (!vT && !hd))))) := by
    rw [← hC.out, ← hB.out, ← hEt, ← hX.out, ← hT.out]; rfl
  rw [eI]
  clear eI
  go_enter Tryd.func30, Tryd.ntmps30
  go_wp2_with fail
  refine (spec_truth a cap ps _ (HP.out.on (below_one _ _))).mono ?_
  rintro e w1 ⟨rfl, hB1⟩
  rw [hT.out]
  have HB1 : Hid (Below w.heap.size w w1) := (below_one w _).trans (hB1.mono (by simp))
  have HE1 := hid ((At8.laid w 31 (.int .i64 6) (.string s) (.int .i64 ty) (.int .i64 lo) (.int .i64 hi) (.string t) (.slice a ps.length cap) (.bool hd)).on hB1)
  have HP1 := hid ((HP.out.on (below_one _ _)).on hB1)
  clear hB1
  obtain ⟨⟨x0, x1, x2, x3, x4, x5, x6, x7⟩, xl⟩ := HE1.out
  cases vC
  case false =>
    go_wp2_with (first | (go_at_call 54; refine (spec_name s _ HS.out).mono ?_; rintro e w9 ⟨h9, h8⟩; subst h9; subst h8; rw [hC.out]) | (go_at_call 57; refine (spec_bare 6 s ty lo hi t a ps.length cap hd _).mono ?_; rintro e w2 ⟨rfl, hB2⟩; rw [hB.out]; have HE2 := hid (HE1.out.on hB2); obtain ⟨⟨y0, y1, y2, y3, y4, y5, y6, y7⟩, yl⟩ := HE2.out; have HB2 := hid (HB1.out.trans (hB2.mono HB1.out.size)); have HP2 := hid (HP1.out.on hB2); clear hB2) | (go_at_call 58; refine (spec_right a cap ps _ HP2.out).mono ?_; rintro e w3 ⟨rfl, hB3⟩; rw [hX.out]; have HE3 := hid (HE2.out.on hB3); obtain ⟨⟨z0, z1, z2, z3, z4, z5, z6, z7⟩, zl⟩ := HE3.out; have HB3 := hid (HB2.out.trans (hB3.mono HB2.out.size)); clear hB3))
    go_ret
    first | exact ⟨rfl, HB3.out⟩ | exact ⟨rfl, HB2.out⟩ | exact ⟨rfl, HB1.out⟩
  cases vB
  case false =>
    go_wp2_with (first | (go_at_call 54; refine (spec_name s _ HS.out).mono ?_; rintro e w9 ⟨h9, h8⟩; subst h9; subst h8; rw [hC.out]) | (go_at_call 57; refine (spec_bare 6 s ty lo hi t a ps.length cap hd _).mono ?_; rintro e w2 ⟨rfl, hB2⟩; rw [hB.out]; have HE2 := hid (HE1.out.on hB2); obtain ⟨⟨y0, y1, y2, y3, y4, y5, y6, y7⟩, yl⟩ := HE2.out; have HB2 := hid (HB1.out.trans (hB2.mono HB1.out.size)); have HP2 := hid (HP1.out.on hB2); clear hB2) | (go_at_call 58; refine (spec_right a cap ps _ HP2.out).mono ?_; rintro e w3 ⟨rfl, hB3⟩; rw [hX.out]; have HE3 := hid (HE2.out.on hB3); obtain ⟨⟨z0, z1, z2, z3, z4, z5, z6, z7⟩, zl⟩ := HE3.out; have HB3 := hid (HB2.out.trans (hB3.mono HB2.out.size)); clear hB3))
    go_ret
    first | exact ⟨rfl, HB3.out⟩ | exact ⟨rfl, HB2.out⟩ | exact ⟨rfl, HB1.out⟩
  cases vEt
  case false =>
    go_wp2_with (first | (go_at_call 54; refine (spec_name s _ HS.out).mono ?_; rintro e w9 ⟨h9, h8⟩; subst h9; subst h8; rw [hC.out]) | (go_at_call 57; refine (spec_bare 6 s ty lo hi t a ps.length cap hd _).mono ?_; rintro e w2 ⟨rfl, hB2⟩; rw [hB.out]; have HE2 := hid (HE1.out.on hB2); obtain ⟨⟨y0, y1, y2, y3, y4, y5, y6, y7⟩, yl⟩ := HE2.out; have HB2 := hid (HB1.out.trans (hB2.mono HB1.out.size)); have HP2 := hid (HP1.out.on hB2); clear hB2) | (go_at_call 58; refine (spec_right a cap ps _ HP2.out).mono ?_; rintro e w3 ⟨rfl, hB3⟩; rw [hX.out]; have HE3 := hid (HE2.out.on hB3); obtain ⟨⟨z0, z1, z2, z3, z4, z5, z6, z7⟩, zl⟩ := HE3.out; have HB3 := hid (HB2.out.trans (hB3.mono HB2.out.size)); clear hB3))
    go_ret
    first | exact ⟨rfl, HB3.out⟩ | exact ⟨rfl, HB2.out⟩ | exact ⟨rfl, HB1.out⟩
  cases vX
  case false =>
    go_wp2_with (first | (go_at_call 54; refine (spec_name s _ HS.out).mono ?_; rintro e w9 ⟨h9, h8⟩; subst h9; subst h8; rw [hC.out]) | (go_at_call 57; refine (spec_bare 6 s ty lo hi t a ps.length cap hd _).mono ?_; rintro e w2 ⟨rfl, hB2⟩; rw [hB.out]; have HE2 := hid (HE1.out.on hB2); obtain ⟨⟨y0, y1, y2, y3, y4, y5, y6, y7⟩, yl⟩ := HE2.out; have HB2 := hid (HB1.out.trans (hB2.mono HB1.out.size)); have HP2 := hid (HP1.out.on hB2); clear hB2) | (go_at_call 58; refine (spec_right a cap ps _ HP2.out).mono ?_; rintro e w3 ⟨rfl, hB3⟩; rw [hX.out]; have HE3 := hid (HE2.out.on hB3); obtain ⟨⟨z0, z1, z2, z3, z4, z5, z6, z7⟩, zl⟩ := HE3.out; have HB3 := hid (HB2.out.trans (hB3.mono HB2.out.size)); clear hB3))
    go_ret
    first | exact ⟨rfl, HB3.out⟩ | exact ⟨rfl, HB2.out⟩ | exact ⟨rfl, HB1.out⟩
  cases vT
  case true =>
    go_wp2_with (first | (go_at_call 54; refine (spec_name s _ HS.out).mono ?_; rintro e w9 ⟨h9, h8⟩; subst h9; subst h8; rw [hC.out]) | (go_at_call 57; refine (spec_bare 6 s ty lo hi t a ps.length cap hd _).mono ?_; rintro e w2 ⟨rfl, hB2⟩; rw [hB.out]; have HE2 := hid (HE1.out.on hB2); obtain ⟨⟨y0, y1, y2, y3, y4, y5, y6, y7⟩, yl⟩ := HE2.out; have HB2 := hid (HB1.out.trans (hB2.mono HB1.out.size)); have HP2 := hid (HP1.out.on hB2); clear hB2) | (go_at_call 58; refine (spec_right a cap ps _ HP2.out).mono ?_; rintro e w3 ⟨rfl, hB3⟩; rw [hX.out]; have HE3 := hid (HE2.out.on hB3); obtain ⟨⟨z0, z1, z2, z3, z4, z5, z6, z7⟩, zl⟩ := HE3.out; have HB3 := hid (HB2.out.trans (hB3.mono HB2.out.size)); clear hB3))
    go_ret
    first | exact ⟨rfl, HB3.out⟩ | exact ⟨rfl, HB2.out⟩ | exact ⟨rfl, HB1.out⟩
  go_wp2_with (first | (go_at_call 54; refine (spec_name s _ HS.out).mono ?_; rintro e w9 ⟨h9, h8⟩; subst h9; subst h8; rw [hC.out]) | (go_at_call 57; refine (spec_bare 6 s ty lo hi t a ps.length cap hd _).mono ?_; rintro e w2 ⟨rfl, hB2⟩; rw [hB.out]; have HE2 := hid (HE1.out.on hB2); obtain ⟨⟨y0, y1, y2, y3, y4, y5, y6, y7⟩, yl⟩ := HE2.out; have HB2 := hid (HB1.out.trans (hB2.mono HB1.out.size)); have HP2 := hid (HP1.out.on hB2); clear hB2) | (go_at_call 58; refine (spec_right a cap ps _ HP2.out).mono ?_; rintro e w3 ⟨rfl, hB3⟩; rw [hX.out]; have HE3 := hid (HE2.out.on hB3); obtain ⟨⟨z0, z1, z2, z3, z4, z5, z6, z7⟩, zl⟩ := HE3.out; have HB3 := hid (HB2.out.trans (hB3.mono HB2.out.size)); clear hB3))
  go_ret
  first | exact ⟨rfl, HB3.out⟩ | exact ⟨rfl, HB2.out⟩ | exact ⟨rfl, HB1.out⟩

set_option maxHeartbeats 1600000 in
theorem spec_item_no (k : Int) (hk : ¬ (1 ≤ k ∧ k ≤ 6)) (s : ByteArray) (ty lo hi : Int) (t : ByteArray) (a : Option Addr) (cap : Nat) (ps : List Pt) (hd : Bool) (w : World) (hP : Parts w a ps) :
    Calls Tryd.prog 30 #[.agg #[.int .i64 k, .string s, .int .i64 ty, .int .i64 lo, .int .i64 hi, .string t, .slice a ps.length cap, .bool hd]] w fun e w' => e = .returned (.bool (itemB (k, s, ty, lo, hi, t, ps, hd))) ∧ Below w.heap.size w w' := by
  have HP := hid hP
  clear hP
  have h1 : ¬ k = 1 := by omega
  have h2 : ¬ k = 2 := by omega
  have h3 : ¬ k = 3 := by omega
  have h4 : ¬ k = 4 := by omega
  have h5 : ¬ k = 5 := by omega
  have h6 : ¬ k = 6 := by omega
  have eI : itemB (k, s, ty, lo, hi, t, ps, hd) = false := by unfold itemB; simp only [h1, h2, h3, h4, h5, h6, if_false, or_self]
  rw [eI]
  have e1 : (k == 1) = false := by simp [h1]
  have e2 : (k == 2) = false := by simp [h2]
  have e3 : (k == 3) = false := by simp [h3]
  have e4 : (k == 4) = false := by simp [h4]
  have e5 : (k == 5) = false := by simp [h5]
  have e6 : (k == 6) = false := by simp [h6]
  clear h1 h2 h3 h4 h5 h6 hk eI
  go_enter Tryd.func30, Tryd.ntmps30
  go_wp2_with fail
  refine (spec_truth a cap ps _ (HP.out.on (below_one _ _))).mono ?_
  rintro e w1 ⟨rfl, hB1⟩
  have HB1 : Hid (Below w.heap.size w w1) := (below_one w _).trans (hB1.mono (by simp))
  have HE1 := hid ((At8.laid w 31 (.int .i64 k) (.string s) (.int .i64 ty) (.int .i64 lo) (.int .i64 hi) (.string t) (.slice a ps.length cap) (.bool hd)).on hB1)
  clear hB1
  obtain ⟨⟨x0, x1, x2, x3, x4, x5, x6, x7⟩, xl⟩ := HE1.out
  go_wp2
  go_ret
  exact ⟨rfl, HB1.out⟩
theorem spec_item (k : Int) (s : ByteArray) (ty lo hi : Int) (t : ByteArray) (a : Option Addr) (cap : Nat) (ps : List Pt) (hd : Bool) (w : World) (hP : Parts w a ps) (hs : s.size ≤ maxLen) (ht : t.size ≤ maxLen) :
    Calls Tryd.prog 30 #[.agg #[.int .i64 k, .string s, .int .i64 ty, .int .i64 lo, .int .i64 hi, .string t, .slice a ps.length cap, .bool hd]] w fun e w' => e = .returned (.bool (itemB (k, s, ty, lo, hi, t, ps, hd))) ∧ Below w.heap.size w w' := by
  by_cases hk : 1 ≤ k ∧ k ≤ 6
  · rcases (by omega : k = 1 ∨ k = 2 ∨ k = 3 ∨ k = 4 ∨ k = 5 ∨ k = 6) with rfl | rfl | rfl | rfl | rfl | rfl
    · exact spec_item_1 s ty lo hi t a cap ps hd w hP hs ht
    · exact spec_item_2 s ty lo hi t a cap ps hd w hP hs ht
    · exact spec_item_3 s ty lo hi t a cap ps hd w hP hs ht
    · exact spec_item_4 s ty lo hi t a cap ps hd w hP hs ht
    · exact spec_item_5 s ty lo hi t a cap ps hd w hP hs ht
    · exact spec_item_6 s ty lo hi t a cap ps hd w hP hs ht
  · exact spec_item_no k hk s ty lo hi t a cap ps hd w hP
end Go.Proofs.YtbhblnpehhaiiaaDoor.ItmS
