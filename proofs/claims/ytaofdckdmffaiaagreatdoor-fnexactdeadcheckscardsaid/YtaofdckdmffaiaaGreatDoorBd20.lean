/- Texts of ours, laid together: ItmSpA, ItmSp, FrmSpA, FrmSpB. -/
import Derived.Test.YtaofdckdmffaiaaGreatDoorBd11
import Derived.Test.YtaofdckdmffaiaaGreatDoorBd16
/- What the model says of an item's parts: its text, its bounds. -/
namespace Go.Proofs.YtaofdckdmffaiaaGreatDoor.ItmS
open Go.RowKit
open PrtW PrtM NameW ItmW ValM ItmM
open PrtS (is_any)
open ValS (plain_in)

theorem inB_eq (n lo hi : Int) : inB n lo hi = decide (lo ≤ n ∧ n ≤ hi) := rfl
set_option maxRecDepth 10000 in
set_option maxHeartbeats 800000 in
theorem spec_label (t : ByteArray) (w : World) (ht : t.size ≤ maxLen) :
    Calls Tryz.prog 74 #[.string t] w fun e w' => e = .returned (.bool (labelB t)) ∧ w' = w := by
  have HT := hid ht
  unfold maxLen at ht
  unfold labelB
  by_cases h1 : 1 ≤ t.size
  · rw [decide_eq_true h1, Bool.true_and]
    obtain ⟨m, hm⟩ : ∃ m, Hid ((plainB t && decide ((t.size : Int) ≤ 60)) = m) := ⟨_, rfl⟩
    rw [hm.out]
    have k0 : chr t 0 = (t[0]'(by omega)).toNat := chr_at (by omega)
    have k1 : chr t (t.size - 1) = (t[t.size - 1]'(by omega)).toNat := chr_at (by omega)
    rw [k0, k1]
    clear k0 k1
    cases m
    · go_enter Tryz.func74, Tryz.ntmps74
      go_wp2_with (first | (go_at_call 89; refine (plain_in t 60 _ HT.out).mono ?_; rintro e w' ⟨rfl, rfl⟩; rw [hm.out]))
      go_ret
      exact ⟨rfl, rfl⟩
    · rw [Bool.true_and]
      go_enter Tryz.func74, Tryz.ntmps74
      go_wp2_with (first | (go_at_call 89; refine (plain_in t 60 _ HT.out).mono ?_; rintro e w' ⟨rfl, rfl⟩; rw [hm.out]))
      all_goals
        go_ret
        exact ⟨ret_bool (by rw [Bool.eq_iff_iff]; simp <;> omega), rfl⟩
  · rw [decide_eq_false h1, Bool.false_and]
    go_enter Tryz.func74, Tryz.ntmps74
    go_wp2
    go_ret
    exact ⟨rfl, rfl⟩

set_option maxRecDepth 10000 in
set_option maxHeartbeats 1600000 in
theorem spec_range (k : Int) (s : ByteArray) (ty lo hi : Int) (t : ByteArray) (a : Option Addr) (len cap : Nat) (hd : Bool) (w : World) :
    Calls Tryz.prog 73 #[.agg #[.int .i64 k, .string s, .int .i64 ty, .int .i64 lo, .int .i64 hi, .string t, .slice a len cap, .bool hd]] w fun e w' => e = .returned (.bool (rangeB ty lo hi)) ∧ Below w.heap.size w w' := by
  rcases (by omega : ty = 1 ∨ ty = 2 ∨ ty = 3 ∨ ty = 4 ∨ (ty ≠ 1 ∧ ty ≠ 2 ∧ ty ≠ 3 ∧ ty ≠ 4)) with rfl | rfl | rfl | rfl | ⟨h1, h2, h3, h4⟩
  · have e : rangeB 1 lo hi = (inB lo (-1000000) 1000000 && inB hi lo 1000000) := rfl
    rw [e]
    clear e
    obtain ⟨r, hr⟩ : ∃ r, Hid (inB lo (-1000000) 1000000 = r) := ⟨_, rfl⟩
    rw [hr.out]
    cases r
    · go_enter Tryz.func73, Tryz.ntmps73
      go_wp2_with (first | (go_at_call 88; refine (is_any _ _ _ _).mono ?_; rintro e w' ⟨rfl, rfl⟩; rw [hr.out]))
      go_ret
      exact ⟨rfl, by go_grown⟩
    · rw [Bool.true_and]
      go_enter Tryz.func73, Tryz.ntmps73
      go_wp2_with (first | (go_at_call 88; refine (is_any _ _ _ _).mono ?_; rintro e w' ⟨rfl, rfl⟩; (try rw [hr.out])))
      go_ret
      exact ⟨rfl, by go_grown⟩
  · by_cases h0 : lo = 1
    · subst h0
      have e : rangeB 2 1 hi = inB hi 1 20 := by unfold rangeB inB; simp
      rw [e]
      clear e
      go_enter Tryz.func73, Tryz.ntmps73
      go_wp2_with (first | (go_at_call 88; refine (is_any _ _ _ _).mono ?_; rintro e w' ⟨rfl, rfl⟩))
      go_ret
      exact ⟨rfl, by go_grown⟩
    · have e : rangeB 2 lo hi = false := by unfold rangeB; simp [h0]
      rw [e]
      have e0 : (lo == 1) = false := by simp [h0]
      go_enter Tryz.func73, Tryz.ntmps73
      go_wp2
      go_ret
      exact ⟨rfl, by go_grown⟩
  · by_cases h0 : lo = 1
    · subst h0
      have e : rangeB 3 1 hi = inB hi 1 20 := by unfold rangeB inB; simp
      rw [e]
      clear e
      go_enter Tryz.func73, Tryz.ntmps73
      go_wp2_with (first | (go_at_call 88; refine (is_any _ _ _ _).mono ?_; rintro e w' ⟨rfl, rfl⟩))
      go_ret
      exact ⟨rfl, by go_grown⟩
    · have e : rangeB 3 lo hi = false := by unfold rangeB; simp [h0]
      rw [e]
      have e0 : (lo == 1) = false := by simp [h0]
      go_enter Tryz.func73, Tryz.ntmps73
      go_wp2
      go_ret
      exact ⟨rfl, by go_grown⟩
  · by_cases h0 : lo = 0
    · subst h0
      have e : rangeB 4 0 hi = inB hi 1 40 := by unfold rangeB inB; simp
      rw [e]
      clear e
      go_enter Tryz.func73, Tryz.ntmps73
      go_wp2_with (first | (go_at_call 88; refine (is_any _ _ _ _).mono ?_; rintro e w' ⟨rfl, rfl⟩))
      go_ret
      exact ⟨rfl, by go_grown⟩
    · have e : rangeB 4 lo hi = false := by unfold rangeB; simp [h0]
      rw [e]
      have e0 : (lo == 0) = false := by simp [h0]
      go_enter Tryz.func73, Tryz.ntmps73
      go_wp2
      go_ret
      exact ⟨rfl, by go_grown⟩
  · have e : rangeB ty lo hi = false := by unfold rangeB; simp [h1, h2, h3, h4]
    rw [e]
    have e1 : (ty == 1) = false := by simp [h1]
    have e2 : (ty == 2) = false := by simp [h2]
    have e3 : (ty == 3) = false := by simp [h3]
    have e4 : (ty == 4) = false := by simp [h4]
    go_enter Tryz.func73, Tryz.ntmps73
    go_wp2
    go_ret
    exact ⟨rfl, by go_grown⟩
set_option maxHeartbeats 800000 in
theorem spec_bare (k : Int) (s : ByteArray) (ty lo hi : Int) (t : ByteArray) (a : Option Addr) (len cap : Nat) (hd : Bool) (w : World) :
    Calls Tryz.prog 75 #[.agg #[.int .i64 k, .string s, .int .i64 ty, .int .i64 lo, .int .i64 hi, .string t, .slice a len cap, .bool hd]] w fun e w' => e = .returned (.bool (bareB ty lo hi)) ∧ Below w.heap.size w w' := by
  go_enter Tryz.func75, Tryz.ntmps75
  go_wp2
  all_goals
    go_ret
    exact ⟨ret_bool (by unfold bareB; rw [Bool.eq_iff_iff]; simp <;> omega), by go_grown⟩
end Go.Proofs.YtaofdckdmffaiaaGreatDoor.ItmS
/- What the model says of an item. -/
namespace Go.Proofs.YtaofdckdmffaiaaGreatDoor.ItmS
open Go.RowKit
open PrtW PrtM NameW ItmW ValM ItmM
open PrtS (spec_truth spec_right)

/-- eight cells at a block's beginning -/
def At8 (w : World) (b : Nat) (v0 v1 v2 v3 v4 v5 v6 v7 : Value) : Prop := (w.cell? ⟨b, 0, none⟩ = some v0 ∧ w.cell? ⟨b, 1, none⟩ = some v1 ∧ w.cell? ⟨b, 2, none⟩ = some v2 ∧ w.cell? ⟨b, 3, none⟩ = some v3 ∧ w.cell? ⟨b, 4, none⟩ = some v4 ∧ w.cell? ⟨b, 5, none⟩ = some v5 ∧ w.cell? ⟨b, 6, none⟩ = some v6 ∧ w.cell? ⟨b, 7, none⟩ = some v7) ∧ b < w.heap.size
theorem At8.on {w w' : World} {b : Nat} {v0 v1 v2 v3 v4 v5 v6 v7 : Value} (h : At8 w b v0 v1 v2 v3 v4 v5 v6 v7) (hB : Below w.heap.size w w') : At8 w' b v0 v1 v2 v3 v4 v5 v6 v7 := by
  obtain ⟨⟨h0, h1, h2, h3, h4, h5, h6, h7⟩, hl⟩ := h
  exact ⟨⟨by rw [hB.cell (p := ⟨b, _, none⟩) hl]; exact h0, by rw [hB.cell (p := ⟨b, _, none⟩) hl]; exact h1, by rw [hB.cell (p := ⟨b, _, none⟩) hl]; exact h2, by rw [hB.cell (p := ⟨b, _, none⟩) hl]; exact h3, by rw [hB.cell (p := ⟨b, _, none⟩) hl]; exact h4, by rw [hB.cell (p := ⟨b, _, none⟩) hl]; exact h5, by rw [hB.cell (p := ⟨b, _, none⟩) hl]; exact h6, by rw [hB.cell (p := ⟨b, _, none⟩) hl]; exact h7⟩, Nat.lt_of_lt_of_le hl hB.size⟩
theorem At8.laid (w : World) (T : TypeId) (v0 v1 v2 v3 v4 v5 v6 v7 : Value) : At8 (w.alloc (.cells #[v0, v1, v2, v3, v4, v5, v6, v7] T)) w.heap.size v0 v1 v2 v3 v4 v5 v6 v7 := ⟨⟨by simp, by simp, by simp, by simp, by simp, by simp, by simp, by simp⟩, by simp⟩
theorem below_one (w : World) (o : Obj) : Below w.heap.size w (w.alloc o) := (Below.refl _ _).alloc (Nat.le_refl _) o

set_option maxRecDepth 10000 in
set_option maxHeartbeats 3200000 in
theorem spec_item_1 (s : ByteArray) (ty lo hi : Int) (t : ByteArray) (a : Option Addr) (cap : Nat) (ps : List Pt) (hd : Bool) (w : World) (hP : Parts w a ps) (hs : s.size ≤ maxLen) (ht : t.size ≤ maxLen) :
    Calls Tryz.prog 58 #[.agg #[.int .i64 1, .string s, .int .i64 ty, .int .i64 lo, .int .i64 hi, .string t, .slice a ps.length cap, .bool hd]] w fun e w' => e = .returned (.bool (itemB (1, s, ty, lo, hi, t, ps, hd))) ∧ Below w.heap.size w w' := by
  have HP := hid hP
  have HS := hid hs
  have HT := hid ht
  have hpl := hP.1
  clear hP hs ht
  obtain ⟨vC, hC⟩ : ∃ v, Hid (nameB s = v) := ⟨_, rfl⟩
  obtain ⟨vR, hR⟩ : ∃ v, Hid (rangeB ty lo hi = v) := ⟨_, rfl⟩
  obtain ⟨vL, hL⟩ : ∃ v, Hid (labelB t = v) := ⟨_, rfl⟩
  obtain ⟨vT, hT⟩ : ∃ v, Hid (truthB ps = v) := ⟨_, rfl⟩
  obtain ⟨vZ, hZ⟩ : ∃ v, decide ((ps.length : Int) = 0) = v := ⟨_, rfl⟩
  have eI : itemB (1, s, ty, lo, hi, t, ps, hd) = (vC && (vR && (vL && (vZ && !hd)))) := by
    rw [← hC.out, ← hR.out, ← hL.out, ← hZ]; rfl
  rw [eI]
  clear eI
  have hZ1 : (((ps.length : Nat) : Int) == 0) = vZ := by rw [← hZ, Bool.eq_iff_iff]; simp
  clear hZ
  go_enter Tryz.func58, Tryz.ntmps58
  go_wp2_with fail
  refine (spec_truth a cap ps _ (HP.out.on (below_one _ _))).mono ?_
  rintro e w1 ⟨rfl, hB1⟩
  rw [hT.out]
  have HB1 : Hid (Below w.heap.size w w1) := (below_one w _).trans (hB1.mono (by simp))
  have HE1 := hid ((At8.laid w 54 (.int .i64 1) (.string s) (.int .i64 ty) (.int .i64 lo) (.int .i64 hi) (.string t) (.slice a ps.length cap) (.bool hd)).on hB1)
  have HP1 := hid ((HP.out.on (below_one _ _)).on hB1)
  clear hB1
  obtain ⟨⟨x0, x1, x2, x3, x4, x5, x6, x7⟩, xl⟩ := HE1.out
  cases vC
  case false =>
    go_wp2_with (first | (go_at_call 72; refine (spec_name s _ HS.out).mono ?_; rintro e w9 ⟨h9, h8⟩; subst h9; subst h8; rw [hC.out]) | (go_at_call 73; refine (spec_range 1 s ty lo hi t a ps.length cap hd _).mono ?_; rintro e w2 ⟨rfl, hB2⟩; rw [hR.out]; have HE2 := hid (HE1.out.on hB2); obtain ⟨⟨y0, y1, y2, y3, y4, y5, y6, y7⟩, yl⟩ := HE2.out; have HB2 := hid (HB1.out.trans (hB2.mono HB1.out.size)); have HP2 := hid (HP1.out.on hB2); clear hB2) | (go_at_call 74; refine (spec_label t _ HT.out).mono ?_; rintro e w9 ⟨h9, h8⟩; subst h9; subst h8; rw [hL.out]))
    go_ret
    first | exact ⟨rfl, HB3.out⟩ | exact ⟨rfl, HB2.out⟩ | exact ⟨rfl, HB1.out⟩
  cases vR
  case false =>
    go_wp2_with (first | (go_at_call 72; refine (spec_name s _ HS.out).mono ?_; rintro e w9 ⟨h9, h8⟩; subst h9; subst h8; rw [hC.out]) | (go_at_call 73; refine (spec_range 1 s ty lo hi t a ps.length cap hd _).mono ?_; rintro e w2 ⟨rfl, hB2⟩; rw [hR.out]; have HE2 := hid (HE1.out.on hB2); obtain ⟨⟨y0, y1, y2, y3, y4, y5, y6, y7⟩, yl⟩ := HE2.out; have HB2 := hid (HB1.out.trans (hB2.mono HB1.out.size)); have HP2 := hid (HP1.out.on hB2); clear hB2) | (go_at_call 74; refine (spec_label t _ HT.out).mono ?_; rintro e w9 ⟨h9, h8⟩; subst h9; subst h8; rw [hL.out]))
    go_ret
    first | exact ⟨rfl, HB3.out⟩ | exact ⟨rfl, HB2.out⟩ | exact ⟨rfl, HB1.out⟩
  cases vL
  case false =>
    go_wp2_with (first | (go_at_call 72; refine (spec_name s _ HS.out).mono ?_; rintro e w9 ⟨h9, h8⟩; subst h9; subst h8; rw [hC.out]) | (go_at_call 73; refine (spec_range 1 s ty lo hi t a ps.length cap hd _).mono ?_; rintro e w2 ⟨rfl, hB2⟩; rw [hR.out]; have HE2 := hid (HE1.out.on hB2); obtain ⟨⟨y0, y1, y2, y3, y4, y5, y6, y7⟩, yl⟩ := HE2.out; have HB2 := hid (HB1.out.trans (hB2.mono HB1.out.size)); have HP2 := hid (HP1.out.on hB2); clear hB2) | (go_at_call 74; refine (spec_label t _ HT.out).mono ?_; rintro e w9 ⟨h9, h8⟩; subst h9; subst h8; rw [hL.out]))
    go_ret
    first | exact ⟨rfl, HB3.out⟩ | exact ⟨rfl, HB2.out⟩ | exact ⟨rfl, HB1.out⟩
  cases vZ
  case false =>
    go_wp2_with (first | (go_at_call 72; refine (spec_name s _ HS.out).mono ?_; rintro e w9 ⟨h9, h8⟩; subst h9; subst h8; rw [hC.out]) | (go_at_call 73; refine (spec_range 1 s ty lo hi t a ps.length cap hd _).mono ?_; rintro e w2 ⟨rfl, hB2⟩; rw [hR.out]; have HE2 := hid (HE1.out.on hB2); obtain ⟨⟨y0, y1, y2, y3, y4, y5, y6, y7⟩, yl⟩ := HE2.out; have HB2 := hid (HB1.out.trans (hB2.mono HB1.out.size)); have HP2 := hid (HP1.out.on hB2); clear hB2) | (go_at_call 74; refine (spec_label t _ HT.out).mono ?_; rintro e w9 ⟨h9, h8⟩; subst h9; subst h8; rw [hL.out]))
    go_ret
    first | exact ⟨rfl, HB3.out⟩ | exact ⟨rfl, HB2.out⟩ | exact ⟨rfl, HB1.out⟩
  go_wp2_with (first | (go_at_call 72; refine (spec_name s _ HS.out).mono ?_; rintro e w9 ⟨h9, h8⟩; subst h9; subst h8; rw [hC.out]) | (go_at_call 73; refine (spec_range 1 s ty lo hi t a ps.length cap hd _).mono ?_; rintro e w2 ⟨rfl, hB2⟩; rw [hR.out]; have HE2 := hid (HE1.out.on hB2); obtain ⟨⟨y0, y1, y2, y3, y4, y5, y6, y7⟩, yl⟩ := HE2.out; have HB2 := hid (HB1.out.trans (hB2.mono HB1.out.size)); have HP2 := hid (HP1.out.on hB2); clear hB2) | (go_at_call 74; refine (spec_label t _ HT.out).mono ?_; rintro e w9 ⟨h9, h8⟩; subst h9; subst h8; rw [hL.out]))
  go_ret
  first | exact ⟨rfl, HB3.out⟩ | exact ⟨rfl, HB2.out⟩ | exact ⟨rfl, HB1.out⟩

set_option maxRecDepth 10000 in
set_option maxHeartbeats 3200000 in
theorem spec_item_2 (s : ByteArray) (ty lo hi : Int) (t : ByteArray) (a : Option Addr) (cap : Nat) (ps : List Pt) (hd : Bool) (w : World) (hP : Parts w a ps) (hs : s.size ≤ maxLen) (ht : t.size ≤ maxLen) :
    Calls Tryz.prog 58 #[.agg #[.int .i64 2, .string s, .int .i64 ty, .int .i64 lo, .int .i64 hi, .string t, .slice a ps.length cap, .bool hd]] w fun e w' => e = .returned (.bool (itemB (2, s, ty, lo, hi, t, ps, hd))) ∧ Below w.heap.size w w' := by
  have HP := hid hP
  have HS := hid hs
  have HT := hid ht
  have hpl := hP.1
  clear hP hs ht
  obtain ⟨vB, hB⟩ : ∃ v, Hid (bareB ty lo hi = v) := ⟨_, rfl⟩
  obtain ⟨vT, hT⟩ : ∃ v, Hid (truthB ps = v) := ⟨_, rfl⟩
  obtain ⟨vEs, hEs⟩ : ∃ v, s.toList.isEmpty = v := ⟨_, rfl⟩
  obtain ⟨vEt, hEt⟩ : ∃ v, t.toList.isEmpty = v := ⟨_, rfl⟩
  have eI : itemB (2, s, ty, lo, hi, t, ps, hd) = (vEs && (vB && (vEt && (vT && !hd)))) := by
    rw [← hEs, ← hB.out, ← hEt, ← hT.out]; rfl
  rw [eI]
  clear eI
  go_enter Tryz.func58, Tryz.ntmps58
  go_wp2_with fail
  refine (spec_truth a cap ps _ (HP.out.on (below_one _ _))).mono ?_
  rintro e w1 ⟨rfl, hB1⟩
  rw [hT.out]
  have HB1 : Hid (Below w.heap.size w w1) := (below_one w _).trans (hB1.mono (by simp))
  have HE1 := hid ((At8.laid w 54 (.int .i64 2) (.string s) (.int .i64 ty) (.int .i64 lo) (.int .i64 hi) (.string t) (.slice a ps.length cap) (.bool hd)).on hB1)
  have HP1 := hid ((HP.out.on (below_one _ _)).on hB1)
  clear hB1
  obtain ⟨⟨x0, x1, x2, x3, x4, x5, x6, x7⟩, xl⟩ := HE1.out
  cases vEs
  case false =>
    go_wp2_with (first | (go_at_call 75; refine (spec_bare 2 s ty lo hi t a ps.length cap hd _).mono ?_; rintro e w2 ⟨rfl, hB2⟩; rw [hB.out]; have HE2 := hid (HE1.out.on hB2); obtain ⟨⟨y0, y1, y2, y3, y4, y5, y6, y7⟩, yl⟩ := HE2.out; have HB2 := hid (HB1.out.trans (hB2.mono HB1.out.size)); have HP2 := hid (HP1.out.on hB2); clear hB2))
    go_ret
    first | exact ⟨rfl, HB3.out⟩ | exact ⟨rfl, HB2.out⟩ | exact ⟨rfl, HB1.out⟩
  cases vB
  case false =>
    go_wp2_with (first | (go_at_call 75; refine (spec_bare 2 s ty lo hi t a ps.length cap hd _).mono ?_; rintro e w2 ⟨rfl, hB2⟩; rw [hB.out]; have HE2 := hid (HE1.out.on hB2); obtain ⟨⟨y0, y1, y2, y3, y4, y5, y6, y7⟩, yl⟩ := HE2.out; have HB2 := hid (HB1.out.trans (hB2.mono HB1.out.size)); have HP2 := hid (HP1.out.on hB2); clear hB2))
    go_ret
    first | exact ⟨rfl, HB3.out⟩ | exact ⟨rfl, HB2.out⟩ | exact ⟨rfl, HB1.out⟩
  cases vEt
  case false =>
    go_wp2_with (first | (go_at_call 75; refine (spec_bare 2 s ty lo hi t a ps.length cap hd _).mono ?_; rintro e w2 ⟨rfl, hB2⟩; rw [hB.out]; have HE2 := hid (HE1.out.on hB2); obtain ⟨⟨y0, y1, y2, y3, y4, y5, y6, y7⟩, yl⟩ := HE2.out; have HB2 := hid (HB1.out.trans (hB2.mono HB1.out.size)); have HP2 := hid (HP1.out.on hB2); clear hB2))
    go_ret
    first | exact ⟨rfl, HB3.out⟩ | exact ⟨rfl, HB2.out⟩ | exact ⟨rfl, HB1.out⟩
  cases vT
  case false =>
    go_wp2_with (first | (go_at_call 75; refine (spec_bare 2 s ty lo hi t a ps.length cap hd _).mono ?_; rintro e w2 ⟨rfl, hB2⟩; rw [hB.out]; have HE2 := hid (HE1.out.on hB2); obtain ⟨⟨y0, y1, y2, y3, y4, y5, y6, y7⟩, yl⟩ := HE2.out; have HB2 := hid (HB1.out.trans (hB2.mono HB1.out.size)); have HP2 := hid (HP1.out.on hB2); clear hB2))
    go_ret
    first | exact ⟨rfl, HB3.out⟩ | exact ⟨rfl, HB2.out⟩ | exact ⟨rfl, HB1.out⟩
  go_wp2_with (first | (go_at_call 75; refine (spec_bare 2 s ty lo hi t a ps.length cap hd _).mono ?_; rintro e w2 ⟨rfl, hB2⟩; rw [hB.out]; have HE2 := hid (HE1.out.on hB2); obtain ⟨⟨y0, y1, y2, y3, y4, y5, y6, y7⟩, yl⟩ := HE2.out; have HB2 := hid (HB1.out.trans (hB2.mono HB1.out.size)); have HP2 := hid (HP1.out.on hB2); clear hB2))
  go_ret
  first | exact ⟨rfl, HB3.out⟩ | exact ⟨rfl, HB2.out⟩ | exact ⟨rfl, HB1.out⟩

set_option maxRecDepth 10000 in
set_option maxHeartbeats 3200000 in
theorem spec_item_3 (s : ByteArray) (ty lo hi : Int) (t : ByteArray) (a : Option Addr) (cap : Nat) (ps : List Pt) (hd : Bool) (w : World) (hP : Parts w a ps) (hs : s.size ≤ maxLen) (ht : t.size ≤ maxLen) :
    Calls Tryz.prog 58 #[.agg #[.int .i64 3, .string s, .int .i64 ty, .int .i64 lo, .int .i64 hi, .string t, .slice a ps.length cap, .bool hd]] w fun e w' => e = .returned (.bool (itemB (3, s, ty, lo, hi, t, ps, hd))) ∧ Below w.heap.size w w' := by
  have HP := hid hP
  have HS := hid hs
  have HT := hid ht
  have hpl := hP.1
  clear hP hs ht
  obtain ⟨vB, hB⟩ : ∃ v, Hid (bareB ty lo hi = v) := ⟨_, rfl⟩
  obtain ⟨vT, hT⟩ : ∃ v, Hid (truthB ps = v) := ⟨_, rfl⟩
  obtain ⟨vEs, hEs⟩ : ∃ v, s.toList.isEmpty = v := ⟨_, rfl⟩
  obtain ⟨vEt, hEt⟩ : ∃ v, t.toList.isEmpty = v := ⟨_, rfl⟩
  obtain ⟨vZ, hZ⟩ : ∃ v, decide ((ps.length : Int) = 0) = v := ⟨_, rfl⟩
  have eI : itemB (3, s, ty, lo, hi, t, ps, hd) = (vEs && (vB && (vEt && (vZ && !hd)))) := by
    rw [← hEs, ← hB.out, ← hEt, ← hZ]; rfl
  rw [eI]
  clear eI
  have hZ1 : (((ps.length : Nat) : Int) == 0) = vZ := by rw [← hZ, Bool.eq_iff_iff]; simp
  clear hZ
  go_enter Tryz.func58, Tryz.ntmps58
  go_wp2_with fail
  refine (spec_truth a cap ps _ (HP.out.on (below_one _ _))).mono ?_
  rintro e w1 ⟨rfl, hB1⟩
  rw [hT.out]
  have HB1 : Hid (Below w.heap.size w w1) := (below_one w _).trans (hB1.mono (by simp))
  have HE1 := hid ((At8.laid w 54 (.int .i64 3) (.string s) (.int .i64 ty) (.int .i64 lo) (.int .i64 hi) (.string t) (.slice a ps.length cap) (.bool hd)).on hB1)
  have HP1 := hid ((HP.out.on (below_one _ _)).on hB1)
  clear hB1
  obtain ⟨⟨x0, x1, x2, x3, x4, x5, x6, x7⟩, xl⟩ := HE1.out
  cases vEs
  case false =>
    go_wp2_with (first | (go_at_call 75; refine (spec_bare 3 s ty lo hi t a ps.length cap hd _).mono ?_; rintro e w2 ⟨rfl, hB2⟩; rw [hB.out]; have HE2 := hid (HE1.out.on hB2); obtain ⟨⟨y0, y1, y2, y3, y4, y5, y6, y7⟩, yl⟩ := HE2.out; have HB2 := hid (HB1.out.trans (hB2.mono HB1.out.size)); have HP2 := hid (HP1.out.on hB2); clear hB2))
    go_ret
    first | exact ⟨rfl, HB3.out⟩ | exact ⟨rfl, HB2.out⟩ | exact ⟨rfl, HB1.out⟩
  cases vB
  case false =>
    go_wp2_with (first | (go_at_call 75; refine (spec_bare 3 s ty lo hi t a ps.length cap hd _).mono ?_; rintro e w2 ⟨rfl, hB2⟩; rw [hB.out]; have HE2 := hid (HE1.out.on hB2); obtain ⟨⟨y0, y1, y2, y3, y4, y5, y6, y7⟩, yl⟩ := HE2.out; have HB2 := hid (HB1.out.trans (hB2.mono HB1.out.size)); have HP2 := hid (HP1.out.on hB2); clear hB2))
    go_ret
    first | exact ⟨rfl, HB3.out⟩ | exact ⟨rfl, HB2.out⟩ | exact ⟨rfl, HB1.out⟩
  cases vEt
  case false =>
    go_wp2_with (first | (go_at_call 75; refine (spec_bare 3 s ty lo hi t a ps.length cap hd _).mono ?_; rintro e w2 ⟨rfl, hB2⟩; rw [hB.out]; have HE2 := hid (HE1.out.on hB2); obtain ⟨⟨y0, y1, y2, y3, y4, y5, y6, y7⟩, yl⟩ := HE2.out; have HB2 := hid (HB1.out.trans (hB2.mono HB1.out.size)); have HP2 := hid (HP1.out.on hB2); clear hB2))
    go_ret
    first | exact ⟨rfl, HB3.out⟩ | exact ⟨rfl, HB2.out⟩ | exact ⟨rfl, HB1.out⟩
  cases vZ
  case false =>
    go_wp2_with (first | (go_at_call 75; refine (spec_bare 3 s ty lo hi t a ps.length cap hd _).mono ?_; rintro e w2 ⟨rfl, hB2⟩; rw [hB.out]; have HE2 := hid (HE1.out.on hB2); obtain ⟨⟨y0, y1, y2, y3, y4, y5, y6, y7⟩, yl⟩ := HE2.out; have HB2 := hid (HB1.out.trans (hB2.mono HB1.out.size)); have HP2 := hid (HP1.out.on hB2); clear hB2))
    go_ret
    first | exact ⟨rfl, HB3.out⟩ | exact ⟨rfl, HB2.out⟩ | exact ⟨rfl, HB1.out⟩
  go_wp2_with (first | (go_at_call 75; refine (spec_bare 3 s ty lo hi t a ps.length cap hd _).mono ?_; rintro e w2 ⟨rfl, hB2⟩; rw [hB.out]; have HE2 := hid (HE1.out.on hB2); obtain ⟨⟨y0, y1, y2, y3, y4, y5, y6, y7⟩, yl⟩ := HE2.out; have HB2 := hid (HB1.out.trans (hB2.mono HB1.out.size)); have HP2 := hid (HP1.out.on hB2); clear hB2))
  go_ret
  first | exact ⟨rfl, HB3.out⟩ | exact ⟨rfl, HB2.out⟩ | exact ⟨rfl, HB1.out⟩

set_option maxRecDepth 10000 in
set_option maxHeartbeats 3200000 in
theorem spec_item_4 (s : ByteArray) (ty lo hi : Int) (t : ByteArray) (a : Option Addr) (cap : Nat) (ps : List Pt) (hd : Bool) (w : World) (hP : Parts w a ps) (hs : s.size ≤ maxLen) (ht : t.size ≤ maxLen) :
    Calls Tryz.prog 58 #[.agg #[.int .i64 4, .string s, .int .i64 ty, .int .i64 lo, .int .i64 hi, .string t, .slice a ps.length cap, .bool hd]] w fun e w' => e = .returned (.bool (itemB (4, s, ty, lo, hi, t, ps, hd))) ∧ Below w.heap.size w w' := by
  have HP := hid hP
  have HS := hid hs
  have HT := hid ht
  have hpl := hP.1
  clear hP hs ht
  obtain ⟨vB, hB⟩ : ∃ v, Hid (bareB ty lo hi = v) := ⟨_, rfl⟩
  obtain ⟨vT, hT⟩ : ∃ v, Hid (truthB ps = v) := ⟨_, rfl⟩
  obtain ⟨vEs, hEs⟩ : ∃ v, s.toList.isEmpty = v := ⟨_, rfl⟩
  obtain ⟨vEt, hEt⟩ : ∃ v, t.toList.isEmpty = v := ⟨_, rfl⟩
  obtain ⟨vZ, hZ⟩ : ∃ v, decide ((ps.length : Int) = 0) = v := ⟨_, rfl⟩
  have eI : itemB (4, s, ty, lo, hi, t, ps, hd) = (vEs && (vB && (vEt && (vZ && !hd)))) := by
    rw [← hEs, ← hB.out, ← hEt, ← hZ]; rfl
  rw [eI]
  clear eI
  have hZ1 : (((ps.length : Nat) : Int) == 0) = vZ := by rw [← hZ, Bool.eq_iff_iff]; simp
  clear hZ
  go_enter Tryz.func58, Tryz.ntmps58
  go_wp2_with fail
  refine (spec_truth a cap ps _ (HP.out.on (below_one _ _))).mono ?_
  rintro e w1 ⟨rfl, hB1⟩
  rw [hT.out]
  have HB1 : Hid (Below w.heap.size w w1) := (below_one w _).trans (hB1.mono (by simp))
  have HE1 := hid ((At8.laid w 54 (.int .i64 4) (.string s) (.int .i64 ty) (.int .i64 lo) (.int .i64 hi) (.string t) (.slice a ps.length cap) (.bool hd)).on hB1)
  have HP1 := hid ((HP.out.on (below_one _ _)).on hB1)
  clear hB1
  obtain ⟨⟨x0, x1, x2, x3, x4, x5, x6, x7⟩, xl⟩ := HE1.out
  cases vEs
  case false =>
    go_wp2_with (first | (go_at_call 75; refine (spec_bare 4 s ty lo hi t a ps.length cap hd _).mono ?_; rintro e w2 ⟨rfl, hB2⟩; rw [hB.out]; have HE2 := hid (HE1.out.on hB2); obtain ⟨⟨y0, y1, y2, y3, y4, y5, y6, y7⟩, yl⟩ := HE2.out; have HB2 := hid (HB1.out.trans (hB2.mono HB1.out.size)); have HP2 := hid (HP1.out.on hB2); clear hB2))
    go_ret
    first | exact ⟨rfl, HB3.out⟩ | exact ⟨rfl, HB2.out⟩ | exact ⟨rfl, HB1.out⟩
  cases vB
  case false =>
    go_wp2_with (first | (go_at_call 75; refine (spec_bare 4 s ty lo hi t a ps.length cap hd _).mono ?_; rintro e w2 ⟨rfl, hB2⟩; rw [hB.out]; have HE2 := hid (HE1.out.on hB2); obtain ⟨⟨y0, y1, y2, y3, y4, y5, y6, y7⟩, yl⟩ := HE2.out; have HB2 := hid (HB1.out.trans (hB2.mono HB1.out.size)); have HP2 := hid (HP1.out.on hB2); clear hB2))
    go_ret
    first | exact ⟨rfl, HB3.out⟩ | exact ⟨rfl, HB2.out⟩ | exact ⟨rfl, HB1.out⟩
  cases vEt
  case false =>
    go_wp2_with (first | (go_at_call 75; refine (spec_bare 4 s ty lo hi t a ps.length cap hd _).mono ?_; rintro e w2 ⟨rfl, hB2⟩; rw [hB.out]; have HE2 := hid (HE1.out.on hB2); obtain ⟨⟨y0, y1, y2, y3, y4, y5, y6, y7⟩, yl⟩ := HE2.out; have HB2 := hid (HB1.out.trans (hB2.mono HB1.out.size)); have HP2 := hid (HP1.out.on hB2); clear hB2))
    go_ret
    first | exact ⟨rfl, HB3.out⟩ | exact ⟨rfl, HB2.out⟩ | exact ⟨rfl, HB1.out⟩
  cases vZ
  case false =>
    go_wp2_with (first | (go_at_call 75; refine (spec_bare 4 s ty lo hi t a ps.length cap hd _).mono ?_; rintro e w2 ⟨rfl, hB2⟩; rw [hB.out]; have HE2 := hid (HE1.out.on hB2); obtain ⟨⟨y0, y1, y2, y3, y4, y5, y6, y7⟩, yl⟩ := HE2.out; have HB2 := hid (HB1.out.trans (hB2.mono HB1.out.size)); have HP2 := hid (HP1.out.on hB2); clear hB2))
    go_ret
    first | exact ⟨rfl, HB3.out⟩ | exact ⟨rfl, HB2.out⟩ | exact ⟨rfl, HB1.out⟩
  go_wp2_with (first | (go_at_call 75; refine (spec_bare 4 s ty lo hi t a ps.length cap hd _).mono ?_; rintro e w2 ⟨rfl, hB2⟩; rw [hB.out]; have HE2 := hid (HE1.out.on hB2); obtain ⟨⟨y0, y1, y2, y3, y4, y5, y6, y7⟩, yl⟩ := HE2.out; have HB2 := hid (HB1.out.trans (hB2.mono HB1.out.size)); have HP2 := hid (HP1.out.on hB2); clear hB2))
  go_ret
  first | exact ⟨rfl, HB3.out⟩ | exact ⟨rfl, HB2.out⟩ | exact ⟨rfl, HB1.out⟩

set_option maxRecDepth 10000 in
set_option maxHeartbeats 3200000 in
theorem spec_item_5 (s : ByteArray) (ty lo hi : Int) (t : ByteArray) (a : Option Addr) (cap : Nat) (ps : List Pt) (hd : Bool) (w : World) (hP : Parts w a ps) (hs : s.size ≤ maxLen) (ht : t.size ≤ maxLen) :
    Calls Tryz.prog 58 #[.agg #[.int .i64 5, .string s, .int .i64 ty, .int .i64 lo, .int .i64 hi, .string t, .slice a ps.length cap, .bool hd]] w fun e w' => e = .returned (.bool (itemB (5, s, ty, lo, hi, t, ps, hd))) ∧ Below w.heap.size w w' := by
  have HP := hid hP
  have HS := hid hs
  have HT := hid ht
  have hpl := hP.1
  clear hP hs ht
  obtain ⟨vC, hC⟩ : ∃ v, Hid (nameB s = v) := ⟨_, rfl⟩
  obtain ⟨vB, hB⟩ : ∃ v, Hid (bareB ty lo hi = v) := ⟨_, rfl⟩
  obtain ⟨vL, hL⟩ : ∃ v, Hid (labelB t = v) := ⟨_, rfl⟩
  obtain ⟨vT, hT⟩ : ∃ v, Hid (truthB ps = v) := ⟨_, rfl⟩
  have eI : itemB (5, s, ty, lo, hi, t, ps, hd) = (vC && (vB && (vL && vT))) := by
    rw [← hC.out, ← hB.out, ← hL.out, ← hT.out]; rfl
  rw [eI]
  clear eI
  go_enter Tryz.func58, Tryz.ntmps58
  go_wp2_with fail
  refine (spec_truth a cap ps _ (HP.out.on (below_one _ _))).mono ?_
  rintro e w1 ⟨rfl, hB1⟩
  rw [hT.out]
  have HB1 : Hid (Below w.heap.size w w1) := (below_one w _).trans (hB1.mono (by simp))
  have HE1 := hid ((At8.laid w 54 (.int .i64 5) (.string s) (.int .i64 ty) (.int .i64 lo) (.int .i64 hi) (.string t) (.slice a ps.length cap) (.bool hd)).on hB1)
  have HP1 := hid ((HP.out.on (below_one _ _)).on hB1)
  clear hB1
  obtain ⟨⟨x0, x1, x2, x3, x4, x5, x6, x7⟩, xl⟩ := HE1.out
  cases vC
  case false =>
    go_wp2_with (first | (go_at_call 72; refine (spec_name s _ HS.out).mono ?_; rintro e w9 ⟨h9, h8⟩; subst h9; subst h8; rw [hC.out]) | (go_at_call 75; refine (spec_bare 5 s ty lo hi t a ps.length cap hd _).mono ?_; rintro e w2 ⟨rfl, hB2⟩; rw [hB.out]; have HE2 := hid (HE1.out.on hB2); obtain ⟨⟨y0, y1, y2, y3, y4, y5, y6, y7⟩, yl⟩ := HE2.out; have HB2 := hid (HB1.out.trans (hB2.mono HB1.out.size)); have HP2 := hid (HP1.out.on hB2); clear hB2) | (go_at_call 74; refine (spec_label t _ HT.out).mono ?_; rintro e w9 ⟨h9, h8⟩; subst h9; subst h8; rw [hL.out]))
    go_ret
    first | exact ⟨rfl, HB3.out⟩ | exact ⟨rfl, HB2.out⟩ | exact ⟨rfl, HB1.out⟩
  cases vB
  case false =>
    go_wp2_with (first | (go_at_call 72; refine (spec_name s _ HS.out).mono ?_; rintro e w9 ⟨h9, h8⟩; subst h9; subst h8; rw [hC.out]) | (go_at_call 75; refine (spec_bare 5 s ty lo hi t a ps.length cap hd _).mono ?_; rintro e w2 ⟨rfl, hB2⟩; rw [hB.out]; have HE2 := hid (HE1.out.on hB2); obtain ⟨⟨y0, y1, y2, y3, y4, y5, y6, y7⟩, yl⟩ := HE2.out; have HB2 := hid (HB1.out.trans (hB2.mono HB1.out.size)); have HP2 := hid (HP1.out.on hB2); clear hB2) | (go_at_call 74; refine (spec_label t _ HT.out).mono ?_; rintro e w9 ⟨h9, h8⟩; subst h9; subst h8; rw [hL.out]))
    go_ret
    first | exact ⟨rfl, HB3.out⟩ | exact ⟨rfl, HB2.out⟩ | exact ⟨rfl, HB1.out⟩
  cases vL
  case false =>
    go_wp2_with (first | (go_at_call 72; refine (spec_name s _ HS.out).mono ?_; rintro e w9 ⟨h9, h8⟩; subst h9; subst h8; rw [hC.out]) | (go_at_call 75; refine (spec_bare 5 s ty lo hi t a ps.length cap hd _).mono ?_; rintro e w2 ⟨rfl, hB2⟩; rw [hB.out]; have HE2 := hid (HE1.out.on hB2); obtain ⟨⟨y0, y1, y2, y3, y4, y5, y6, y7⟩, yl⟩ := HE2.out; have HB2 := hid (HB1.out.trans (hB2.mono HB1.out.size)); have HP2 := hid (HP1.out.on hB2); clear hB2) | (go_at_call 74; refine (spec_label t _ HT.out).mono ?_; rintro e w9 ⟨h9, h8⟩; subst h9; subst h8; rw [hL.out]))
    go_ret
    first | exact ⟨rfl, HB3.out⟩ | exact ⟨rfl, HB2.out⟩ | exact ⟨rfl, HB1.out⟩
  cases vT
  case false =>
    go_wp2_with (first | (go_at_call 72; refine (spec_name s _ HS.out).mono ?_; rintro e w9 ⟨h9, h8⟩; subst h9; subst h8; rw [hC.out]) | (go_at_call 75; refine (spec_bare 5 s ty lo hi t a ps.length cap hd _).mono ?_; rintro e w2 ⟨rfl, hB2⟩; rw [hB.out]; have HE2 := hid (HE1.out.on hB2); obtain ⟨⟨y0, y1, y2, y3, y4, y5, y6, y7⟩, yl⟩ := HE2.out; have HB2 := hid (HB1.out.trans (hB2.mono HB1.out.size)); have HP2 := hid (HP1.out.on hB2); clear hB2) | (go_at_call 74; refine (spec_label t _ HT.out).mono ?_; rintro e w9 ⟨h9, h8⟩; subst h9; subst h8; rw [hL.out]))
    go_ret
    first | exact ⟨rfl, HB3.out⟩ | exact ⟨rfl, HB2.out⟩ | exact ⟨rfl, HB1.out⟩
  go_wp2_with (first | (go_at_call 72; refine (spec_name s _ HS.out).mono ?_; rintro e w9 ⟨h9, h8⟩; subst h9; subst h8; rw [hC.out]) | (go_at_call 75; refine (spec_bare 5 s ty lo hi t a ps.length cap hd _).mono ?_; rintro e w2 ⟨rfl, hB2⟩; rw [hB.out]; have HE2 := hid (HE1.out.on hB2); obtain ⟨⟨y0, y1, y2, y3, y4, y5, y6, y7⟩, yl⟩ := HE2.out; have HB2 := hid (HB1.out.trans (hB2.mono HB1.out.size)); have HP2 := hid (HP1.out.on hB2); clear hB2) | (go_at_call 74; refine (spec_label t _ HT.out).mono ?_; rintro e w9 ⟨h9, h8⟩; subst h9; subst h8; rw [hL.out]))
  go_ret
  first | exact ⟨rfl, HB3.out⟩ | exact ⟨rfl, HB2.out⟩ | exact ⟨rfl, HB1.out⟩

set_option maxRecDepth 10000 in
set_option maxHeartbeats 3200000 in
theorem spec_item_6 (s : ByteArray) (ty lo hi : Int) (t : ByteArray) (a : Option Addr) (cap : Nat) (ps : List Pt) (hd : Bool) (w : World) (hP : Parts w a ps) (hs : s.size ≤ maxLen) (ht : t.size ≤ maxLen) :
    Calls Tryz.prog 58 #[.agg #[.int .i64 6, .string s, .int .i64 ty, .int .i64 lo, .int .i64 hi, .string t, .slice a ps.length cap, .bool hd]] w fun e w' => e = .returned (.bool (itemB (6, s, ty, lo, hi, t, ps, hd))) ∧ Below w.heap.size w w' := by
  have HP := hid hP
  have HS := hid hs
  have HT := hid ht
  have hpl := hP.1
  clear hP hs ht
  obtain ⟨vC, hC⟩ : ∃ v, Hid (nameB s = v) := ⟨_, rfl⟩
  obtain ⟨vB, hB⟩ : ∃ v, Hid (bareB ty lo hi = v) := ⟨_, rfl⟩
  obtain ⟨vX, hX⟩ : ∃ v, Hid (rightB ps = v) := ⟨_, rfl⟩
  obtain ⟨vT, hT⟩ : ∃ v, Hid (truthB ps = v) := ⟨_, rfl⟩
  obtain ⟨vEt, hEt⟩ : ∃ v, t.toList.isEmpty = v := ⟨_, rfl⟩
  have eI : itemB (6, s, ty, lo, hi, t, ps, hd) = (vC && (vB && (vEt && (vX && (!vT && !hd))))) := by
    rw [← hC.out, ← hB.out, ← hEt, ← hX.out, ← hT.out]; rfl
  rw [eI]
  clear eI
  go_enter Tryz.func58, Tryz.ntmps58
  go_wp2_with fail
  refine (spec_truth a cap ps _ (HP.out.on (below_one _ _))).mono ?_
  rintro e w1 ⟨rfl, hB1⟩
  rw [hT.out]
  have HB1 : Hid (Below w.heap.size w w1) := (below_one w _).trans (hB1.mono (by simp))
  have HE1 := hid ((At8.laid w 54 (.int .i64 6) (.string s) (.int .i64 ty) (.int .i64 lo) (.int .i64 hi) (.string t) (.slice a ps.length cap) (.bool hd)).on hB1)
  have HP1 := hid ((HP.out.on (below_one _ _)).on hB1)
  clear hB1
  obtain ⟨⟨x0, x1, x2, x3, x4, x5, x6, x7⟩, xl⟩ := HE1.out
  cases vC
  case false =>
    go_wp2_with (first | (go_at_call 72; refine (spec_name s _ HS.out).mono ?_; rintro e w9 ⟨h9, h8⟩; subst h9; subst h8; rw [hC.out]) | (go_at_call 75; refine (spec_bare 6 s ty lo hi t a ps.length cap hd _).mono ?_; rintro e w2 ⟨rfl, hB2⟩; rw [hB.out]; have HE2 := hid (HE1.out.on hB2); obtain ⟨⟨y0, y1, y2, y3, y4, y5, y6, y7⟩, yl⟩ := HE2.out; have HB2 := hid (HB1.out.trans (hB2.mono HB1.out.size)); have HP2 := hid (HP1.out.on hB2); clear hB2) | (go_at_call 48; refine (spec_right a cap ps _ HP2.out).mono ?_; rintro e w3 ⟨rfl, hB3⟩; rw [hX.out]; have HE3 := hid (HE2.out.on hB3); obtain ⟨⟨z0, z1, z2, z3, z4, z5, z6, z7⟩, zl⟩ := HE3.out; have HB3 := hid (HB2.out.trans (hB3.mono HB2.out.size)); clear hB3))
    go_ret
    first | exact ⟨rfl, HB3.out⟩ | exact ⟨rfl, HB2.out⟩ | exact ⟨rfl, HB1.out⟩
  cases vB
  case false =>
    go_wp2_with (first | (go_at_call 72; refine (spec_name s _ HS.out).mono ?_; rintro e w9 ⟨h9, h8⟩; subst h9; subst h8; rw [hC.out]) | (go_at_call 75; refine (spec_bare 6 s ty lo hi t a ps.length cap hd _).mono ?_; rintro e w2 ⟨rfl, hB2⟩; rw [hB.out]; have HE2 := hid (HE1.out.on hB2); obtain ⟨⟨y0, y1, y2, y3, y4, y5, y6, y7⟩, yl⟩ := HE2.out; have HB2 := hid (HB1.out.trans (hB2.mono HB1.out.size)); have HP2 := hid (HP1.out.on hB2); clear hB2) | (go_at_call 48; refine (spec_right a cap ps _ HP2.out).mono ?_; rintro e w3 ⟨rfl, hB3⟩; rw [hX.out]; have HE3 := hid (HE2.out.on hB3); obtain ⟨⟨z0, z1, z2, z3, z4, z5, z6, z7⟩, zl⟩ := HE3.out; have HB3 := hid (HB2.out.trans (hB3.mono HB2.out.size)); clear hB3))
    go_ret
    first | exact ⟨rfl, HB3.out⟩ | exact ⟨rfl, HB2.out⟩ | exact ⟨rfl, HB1.out⟩
  cases vEt
  case false =>
    go_wp2_with (first | (go_at_call 72; refine (spec_name s _ HS.out).mono ?_; rintro e w9 ⟨h9, h8⟩; subst h9; subst h8; rw [hC.out]) | (go_at_call 75; refine (spec_bare 6 s ty lo hi t a ps.length cap hd _).mono ?_; rintro e w2 ⟨rfl, hB2⟩; rw [hB.out]; have HE2 := hid (HE1.out.on hB2); obtain ⟨⟨y0, y1, y2, y3, y4, y5, y6, y7⟩, yl⟩ := HE2.out; have HB2 := hid (HB1.out.trans (hB2.mono HB1.out.size)); have HP2 := hid (HP1.out.on hB2); clear hB2) | (go_at_call 48; refine (spec_right a cap ps _ HP2.out).mono ?_; rintro e w3 ⟨rfl, hB3⟩; rw [hX.out]; have HE3 := hid (HE2.out.on hB3); obtain ⟨⟨z0, z1, z2, z3, z4, z5, z6, z7⟩, zl⟩ := HE3.out; have HB3 := hid (HB2.out.trans (hB3.mono HB2.out.size)); clear hB3))
    go_ret
    first | exact ⟨rfl, HB3.out⟩ | exact ⟨rfl, HB2.out⟩ | exact ⟨rfl, HB1.out⟩
  cases vX
  case false =>
    go_wp2_with (first | (go_at_call 72; refine (spec_name s _ HS.out).mono ?_; rintro e w9 ⟨h9, h8⟩; subst h9; subst h8; rw [hC.out]) | (go_at_call 75; refine (spec_bare 6 s ty lo hi t a ps.length cap hd _).mono ?_; rintro e w2 ⟨rfl, hB2⟩; rw [hB.out]; have HE2 := hid (HE1.out.on hB2); obtain ⟨⟨y0, y1, y2, y3, y4, y5, y6, y7⟩, yl⟩ := HE2.out; have HB2 := hid (HB1.out.trans (hB2.mono HB1.out.size)); have HP2 := hid (HP1.out.on hB2); clear hB2) | (go_at_call 48; refine (spec_right a cap ps _ HP2.out).mono ?_; rintro e w3 ⟨rfl, hB3⟩; rw [hX.out]; have HE3 := hid (HE2.out.on hB3); obtain ⟨⟨z0, z1, z2, z3, z4, z5, z6, z7⟩, zl⟩ := HE3.out; have HB3 := hid (HB2.out.trans (hB3.mono HB2.out.size)); clear hB3))
    go_ret
    first | exact ⟨rfl, HB3.out⟩ | exact ⟨rfl, HB2.out⟩ | exact ⟨rfl, HB1.out⟩
  cases vT
  case true =>
    go_wp2_with (first | (go_at_call 72; refine (spec_name s _ HS.out).mono ?_; rintro e w9 ⟨h9, h8⟩; subst h9; subst h8; rw [hC.out]) | (go_at_call 75; refine (spec_bare 6 s ty lo hi t a ps.length cap hd _).mono ?_; rintro e w2 ⟨rfl, hB2⟩; rw [hB.out]; have HE2 := hid (HE1.out.on hB2); obtain ⟨⟨y0, y1, y2, y3, y4, y5, y6, y7⟩, yl⟩ := HE2.out; have HB2 := hid (HB1.out.trans (hB2.mono HB1.out.size)); have HP2 := hid (HP1.out.on hB2); clear hB2) | (go_at_call 48; refine (spec_right a cap ps _ HP2.out).mono ?_; rintro e w3 ⟨rfl, hB3⟩; rw [hX.out]; have HE3 := hid (HE2.out.on hB3); obtain ⟨⟨z0, z1, z2, z3, z4, z5, z6, z7⟩, zl⟩ := HE3.out; have HB3 := hid (HB2.out.trans (hB3.mono HB2.out.size)); clear hB3))
    go_ret
    first | exact ⟨rfl, HB3.out⟩ | exact ⟨rfl, HB2.out⟩ | exact ⟨rfl, HB1.out⟩
  go_wp2_with (first | (go_at_call 72; refine (spec_name s _ HS.out).mono ?_; rintro e w9 ⟨h9, h8⟩; subst h9; subst h8; rw [hC.out]) | (go_at_call 75; refine (spec_bare 6 s ty lo hi t a ps.length cap hd _).mono ?_; rintro e w2 ⟨rfl, hB2⟩; rw [hB.out]; have HE2 := hid (HE1.out.on hB2); obtain ⟨⟨y0, y1, y2, y3, y4, y5, y6, y7⟩, yl⟩ := HE2.out; have HB2 := hid (HB1.out.trans (hB2.mono HB1.out.size)); have HP2 := hid (HP1.out.on hB2); clear hB2) | (go_at_call 48; refine (spec_right a cap ps _ HP2.out).mono ?_; rintro e w3 ⟨rfl, hB3⟩; rw [hX.out]; have HE3 := hid (HE2.out.on hB3); obtain ⟨⟨z0, z1, z2, z3, z4, z5, z6, z7⟩, zl⟩ := HE3.out; have HB3 := hid (HB2.out.trans (hB3.mono HB2.out.size)); clear hB3))
  go_ret
  first | exact ⟨rfl, HB3.out⟩ | exact ⟨rfl, HB2.out⟩ | exact ⟨rfl, HB1.out⟩

set_option maxHeartbeats 1600000 in
theorem spec_item_no (k : Int) (hk : ¬ (1 ≤ k ∧ k ≤ 6)) (s : ByteArray) (ty lo hi : Int) (t : ByteArray) (a : Option Addr) (cap : Nat) (ps : List Pt) (hd : Bool) (w : World) (hP : Parts w a ps) :
    Calls Tryz.prog 58 #[.agg #[.int .i64 k, .string s, .int .i64 ty, .int .i64 lo, .int .i64 hi, .string t, .slice a ps.length cap, .bool hd]] w fun e w' => e = .returned (.bool (itemB (k, s, ty, lo, hi, t, ps, hd))) ∧ Below w.heap.size w w' := by
  have HP := hid hP
  clear hP
  have h1 : ¬ k = 1 := by omega
  have h2 : ¬ k = 2 := by omega
  have h3 : ¬ k = 3 := by omega
  have h4 : ¬ k = 4 := by omega
  have h5 : ¬ k = 5 := by omega
  have h6 : ¬ k = 6 := by omega
  have eI : itemB (k, s, ty, lo, hi, t, ps, hd) = false := by unfold itemB; simp only [h1, h2, h3, h4, h5, h6, if_false, or_self]
  rw [eI]
  have e1 : (k == 1) = false := by simp [h1]
  have e2 : (k == 2) = false := by simp [h2]
  have e3 : (k == 3) = false := by simp [h3]
  have e4 : (k == 4) = false := by simp [h4]
  have e5 : (k == 5) = false := by simp [h5]
  have e6 : (k == 6) = false := by simp [h6]
  clear h1 h2 h3 h4 h5 h6 hk eI
  go_enter Tryz.func58, Tryz.ntmps58
  go_wp2_with fail
  refine (spec_truth a cap ps _ (HP.out.on (below_one _ _))).mono ?_
  rintro e w1 ⟨rfl, hB1⟩
  have HB1 : Hid (Below w.heap.size w w1) := (below_one w _).trans (hB1.mono (by simp))
  have HE1 := hid ((At8.laid w 54 (.int .i64 k) (.string s) (.int .i64 ty) (.int .i64 lo) (.int .i64 hi) (.string t) (.slice a ps.length cap) (.bool hd)).on hB1)
  clear hB1
  obtain ⟨⟨x0, x1, x2, x3, x4, x5, x6, x7⟩, xl⟩ := HE1.out
  go_wp2
  go_ret
  exact ⟨rfl, HB1.out⟩
theorem spec_item (k : Int) (s : ByteArray) (ty lo hi : Int) (t : ByteArray) (a : Option Addr) (cap : Nat) (ps : List Pt) (hd : Bool) (w : World) (hP : Parts w a ps) (hs : s.size ≤ maxLen) (ht : t.size ≤ maxLen) :
    Calls Tryz.prog 58 #[.agg #[.int .i64 k, .string s, .int .i64 ty, .int .i64 lo, .int .i64 hi, .string t, .slice a ps.length cap, .bool hd]] w fun e w' => e = .returned (.bool (itemB (k, s, ty, lo, hi, t, ps, hd))) ∧ Below w.heap.size w w' := by
  by_cases hk : 1 ≤ k ∧ k ≤ 6
  · rcases (by omega : k = 1 ∨ k = 2 ∨ k = 3 ∨ k = 4 ∨ k = 5 ∨ k = 6) with rfl | rfl | rfl | rfl | rfl | rfl
    · exact spec_item_1 s ty lo hi t a cap ps hd w hP hs ht
    · exact spec_item_2 s ty lo hi t a cap ps hd w hP hs ht
    · exact spec_item_3 s ty lo hi t a cap ps hd w hP hs ht
    · exact spec_item_4 s ty lo hi t a cap ps hd w hP hs ht
    · exact spec_item_5 s ty lo hi t a cap ps hd w hP hs ht
    · exact spec_item_6 s ty lo hi t a cap ps hd w hP hs ht
  · exact spec_item_no k hk s ty lo hi t a cap ps hd w hP
end Go.Proofs.YtaofdckdmffaiaaGreatDoor.ItmS
/- Fields and what uses them, by the model. -/
namespace Go.Proofs.YtaofdckdmffaiaaGreatDoor.FrmS
open Go.RowKit
open PrtW PrtM NameW ItmW ValM ItmM FrmM

set_option maxRecDepth 10000 in
set_option maxHeartbeats 1600000 in
theorem spec_field (a : Option Addr) (cap : Nat) (ls : List It) (n : Nat) (s : ByteArray) (w : World) (hc : Its w a ls) (hn : n ≤ ls.length) :
    Calls Tryz.prog 52 #[.slice a ls.length cap, .int .i64 n, .string s] w fun e w' => e = .returned (.int .i64 (fieldI ls n s)) ∧ w' = w := by
  have HC := hid hc
  have hl := hc.1
  clear hc
  obtain ⟨z, hz⟩ : ∃ z, Hid (fieldI ls n s = z) := ⟨_, rfl⟩
  rw [hz.out]
  go_enter Tryz.func52, Tryz.ntmps52
  go_wp2
  go_loop [7] (fun i => ∃ k : Nat, k ≤ n ∧ i = .int .i64 k ∧ Hid (∀ j, j < k → isF s (ls.getD j it0) = false)) (fun i => n - (intOf i).toNat)
  case atStart => exact ⟨0, Nat.zero_le _, rfl, fun j hj => absurd hj (Nat.not_lt_zero _)⟩
  case round =>
    obtain ⟨k, hk, rfl, hall⟩ := hrel
    by_cases hlt : k < n
    · obtain ⟨_, b, o, ai, ci, rfl, hb, hF, _⟩ := HC.out.at (Below.refl _ _) (show k < ls.length by omega)
      have hkl : k < ls.length := by omega
      have HIs : Hid (∀ v, isF s (ls.getD k it0) = v → isF s (ls.getD k it0) = v) := fun _ h => h
      have HSome : Hid (isF s (ls.getD k it0) = true → z = (k : Int)) := fun h => by rw [← hz.out]; exact fieldI_at (field_at.2 ⟨h, hlt, hall.out⟩)
      have HNext : Hid (isF s (ls.getD k it0) = false → ∀ j, j < k + 1 → isF s (ls.getD j it0) = false) := fun h j hj => by
        rcases Nat.lt_succ_iff_lt_or_eq.1 hj with hj' | rfl
        · exact hall.out j hj'
        · exact h
      obtain ⟨c0, c1, -⟩ := hF
      have HIsd : Hid (isF s (ls.getD k it0) = (((inm (ls.getD k it0)).toList == s.toList) && ((ik (ls.getD k it0) == 1) || (ik (ls.getD k it0) == 6)))) := rfl
      generalize isF s (ls.getD k it0) = bb at HSome HNext HIsd HIs
      generalize ls.getD k it0 = p at c0 c1 HIsd
      obtain ⟨k1, s1, p2⟩ := p
      dsimp only [ik, inm] at c0 c1 HIsd
      clear hall HIs HC
      cases hn1 : (s1.toList == s.toList)
      · have hbb : bb = false := by rw [HIsd.out, hn1]; rfl
        subst hbb
        go_wp2
        exact ⟨⟨k + 1, by omega, by go_num, HNext.out rfl⟩, by simp [intOf]; omega⟩
      · cases hk1 : (k1 == 1)
        · cases hk6 : (k1 == 6)
          · have hbb : bb = false := by rw [HIsd.out, hn1, hk1, hk6]; rfl
            subst hbb
            go_wp2
            exact ⟨⟨k + 1, by omega, by go_num, HNext.out rfl⟩, by simp [intOf]; omega⟩
          · have hbb : bb = true := by rw [HIsd.out, hn1, hk1, hk6]; rfl
            subst hbb
            have HZ := hid (HSome.out rfl)
            go_wp2
            go_ret
            exact ⟨by rw [HZ.out]; rfl, rfl⟩
        · have hbb : bb = true := by rw [HIsd.out, hn1, hk1]; rfl
          subst hbb
          have HZ := hid (HSome.out rfl)
          go_wp2
          go_ret
          exact ⟨by rw [HZ.out]; rfl, rfl⟩
    · obtain rfl : k = n := by omega
      have HZ : Hid (z = -1) := by rw [← hz.out]; exact fieldI_no (field_no.2 hall.out)
      go_wp2
      go_ret
      exact ⟨by rw [HZ.out]; rfl, rfl⟩
end Go.Proofs.YtaofdckdmffaiaaGreatDoor.FrmS
/- The names that an expression uses, by the model. -/
namespace Go.Proofs.YtaofdckdmffaiaaGreatDoor.FrmS
open Go.RowKit
open PrtW PrtM NameW ItmW ValM ItmM FrmM

set_option maxRecDepth 10000 in
set_option maxHeartbeats 6400000 in
theorem spec_uses (a a2 : Option Addr) (cap cap2 : Nat) (ls : List It) (n : Nat) (ps : List Pt) (w : World) (hc : Its w a ls) (hp : Parts w a2 ps) (hn : n ≤ ls.length) :
    Calls Tryz.prog 49 #[.slice a ls.length cap, .int .i64 n, .slice a2 ps.length cap2] w fun e w' => e = .returned (.bool (usesB ls n ps)) ∧ w' = w := by
  have HC := hid hc
  have hl := hc.1
  have HP := hid hp
  have hpl := hp.1
  clear hc hp
  obtain ⟨z, hz⟩ : ∃ z, Hid (usesB ls n ps = z) := ⟨_, rfl⟩
  rw [hz.out]
  go_enter Tryz.func49, Tryz.ntmps49
  go_wp2
  go_loop [7, 8, 9, 10] (fun i _ _ _ => ∃ k : Nat, k ≤ ps.length ∧ i = .int .i64 k ∧ Hid (∀ j, j < k → useB ls n (ps.getD j pt0) = true)) (fun i _ _ _ => ps.length - (intOf i).toNat)
  case atStart => exact ⟨0, Nat.zero_le _, rfl, fun j hj => absurd hj (Nat.not_lt_zero _)⟩
  case round =>
    obtain ⟨k, hk, rfl, hall⟩ := hrel
    by_cases hlt : k < ps.length
    · obtain ⟨b2, o2, rfl, hb2, hcs⟩ := HP.out.2.2 (by omega)
      obtain ⟨d0, -, d2⟩ := hcs k hlt
      have HNo : Hid (useB ls n (ps.getD k pt0) = false → z = false) := fun h => by rw [← hz.out]; exact uses_no hlt h
      have HNext : Hid (useB ls n (ps.getD k pt0) = true → ∀ j, j < k + 1 → useB ls n (ps.getD j pt0) = true) := fun h j hj => by
        rcases Nat.lt_succ_iff_lt_or_eq.1 hj with hj' | rfl
        · exact hall.out j hj'
        · exact h
      have HE : Hid ((ps.getD k pt0).2.2.toList.isEmpty = true → useB ls n (ps.getD k pt0) = true) := fun h => use_empty h
      have HN1 : Hid ((ps.getD k pt0).2.2.toList.isEmpty = false → fieldN ls n (ps.getD k pt0).2.2 = none → useB ls n (ps.getD k pt0) = false) := fun h => use_none h
      have HS1 : Hid (∀ i, (ps.getD k pt0).2.2.toList.isEmpty = false → fieldN ls n (ps.getD k pt0).2.2 = some i → useB ls n (ps.getD k pt0) = servesB (ps.getD k pt0).1 (ls.getD i it0)) := fun i h => use_some h
      generalize useB ls n (ps.getD k pt0) = u at HNo HNext HE HN1 HS1
      generalize ps.getD k pt0 = p at d0 d2 HE HN1 HS1
      obtain ⟨x, m, t⟩ := p
      dsimp only at d0 d2 HE HN1 HS1
      clear hall hcs
      cases ht : t.toList.isEmpty
      · cases hf : fieldN ls n t with
        | none =>
          have hu : u = false := HN1.out ht hf
          subst hu
          have HZ := hid (HNo.out rfl)
          have HFI : Hid (fieldI ls n t = -1) := fieldI_no hf
          clear hf
          go_wp2_with (first | (go_at_call 52; refine (spec_field a cap ls n t _ HC.out hn).mono ?_; rintro e w9 ⟨h9, h8⟩; subst h9; subst h8; rw [HFI.out]))
          go_ret
          exact ⟨by rw [HZ.out]; rfl, rfl⟩
        | some i =>
          have HU := hid (HS1.out i ht hf)
          have hin := (field_at.1 hf).2.1
          have HFI : Hid (fieldI ls n t = i) := fieldI_at hf
          clear hf
          have hil : i < ls.length := by omega
          obtain ⟨_, b, o, ai, ci, rfl, hb, hF, _⟩ := HC.out.at (Below.refl _ _) hil
          obtain ⟨-, -, c2, -⟩ := hF
          generalize ls.getD i it0 = q at c2 HU
          obtain ⟨q0, q1, ty, q3⟩ := q
          have HU2 : Hid (u = !((x == 2 && (ty == 3 || ty == 4)) || (x == 12 && !(ty == 3)))) := HU
          dsimp only [ity] at c2
          clear HU
          cases e3 : (ty == 3)
          all_goals cases e4 : (ty == 4)
          all_goals cases e2 : (x == 2)
          all_goals cases e12 : (x == 12)
          all_goals
            have hu := HU2.out
            rw [e3, e4, e2, e12] at hu
            simp at hu
            subst hu
            first
              | (have HZ := hid (HNo.out rfl)
                 go_wp2_with (first | (go_at_call 52; refine (spec_field _ cap ls n t _ HC.out hn).mono ?_; rintro e w9 ⟨h9, h8⟩; subst h9; subst h8; rw [HFI.out]))
                 go_ret
                 exact ⟨by rw [HZ.out]; rfl, rfl⟩)
              | (have HX := hid (HNext.out rfl)
                 go_wp2_with (first | (go_at_call 52; refine (spec_field _ cap ls n t _ HC.out hn).mono ?_; rintro e w9 ⟨h9, h8⟩; subst h9; subst h8; rw [HFI.out]))
                 exact ⟨⟨k + 1, by omega, by go_num, HX.out⟩, by simp [intOf]; omega⟩)
      · have hu : u = true := HE.out ht
        subst hu
        have HX := hid (HNext.out rfl)
        go_wp2_with fail
        exact ⟨⟨k + 1, by omega, by go_num, HX.out⟩, by simp [intOf]; omega⟩
    · obtain rfl : k = ps.length := by omega
      have HZ : Hid (z = true) := by rw [← hz.out]; exact uses_yes hall.out
      go_wp2
      go_ret
      exact ⟨by rw [HZ.out]; rfl, rfl⟩
end Go.Proofs.YtaofdckdmffaiaaGreatDoor.FrmS
