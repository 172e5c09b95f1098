/- Texts of ours, laid together. -/
import Derived.Test.YtmbhmknfipdadaaGreatDoorBd25
import Derived.Test.YtmbhmknfipdadaaGreatDoorBd23
namespace Go.Proofs.YtmbhmknfipdadaaGreatDoor.FitW
open Go.RowKit
open PrtW PrtM ItmW ItmM ValW
def bndB (ty lo hi : Int) (vk vn : Int) (zs : List Int) (vt : ByteArray) : Bool :=
 if ty = 1 then (vk == 1) && inB vn lo hi else if ty = 2 then (vk == 2) && decide (vn ≤ hi)
 else if ty = 3 then (vk == 3) && ((((zs.length : Nat) : Int) == 0) || decide (lastI zs ≤ hi)) else (vk == 4) && decide ((vt.size : Int) ≤ hi)
theorem ask_type {s : ByteArray} {ty lo hi : Int} {t : ByteArray} {ps : List Pt} {hd : Bool} (h : itemB (1, s, ty, lo, hi, t, ps, hd) = true) : ty = 1 ∨ ty = 2 ∨ ty = 3 ∨ ty = 4 := by
 have h1 : (NameW.nameB s && (rangeB ty lo hi && (labelB t && (noParts ps && !hd)))) = true := h
 simp only [Bool.and_eq_true] at h1
 have h2 := h1.2.1
 unfold rangeB at h2
 by_cases a1 : ty = 1
 ·exact .inl a1
 ·rw [if_neg a1] at h2
  by_cases a2 : ty = 2 ∨ ty = 3
  ·omega
  ·rw [if_neg a2] at h2
   by_cases a4 : ty = 4
   ·omega
   ·rw [if_neg a4] at h2; cases h2
theorem bnd_fit {ty lo hi vk vn : Int} {zs : List Int} {vt : ByteArray} (ht : ty = 1 ∨ ty = 2 ∨ ty = 3 ∨ ty = 4) : ((vk == 5) || ((vk == 6) || bndB ty lo hi vk vn zs vt)) = fitB ty lo hi vk vn zs vt := by
 by_cases h5 : vk = 5
 ·subst h5; rfl
 by_cases h6 : vk = 6
 ·subst h6; rfl
 rw [show (vk == 5) = false by simp [h5], show (vk == 6) = false by simp [h6], Bool.false_or, Bool.false_or]
 unfold fitB
 rw [if_neg (by omega)]
 rcases ht with rfl | rfl | rfl | rfl
 ·show ((vk == 1) && inB vn lo hi) = _
  by_cases h1 : vk = 1
  ·subst h1; rfl
  ·rw [if_neg h1, show (vk == 1) = false by simp [h1]]
   split <;> (try split) <;> (try split) <;> rfl
 ·show ((vk == 2) && decide (vn ≤ hi)) = _
  by_cases h1 : vk = 2
  ·subst h1; rfl
  ·rw [if_neg h1, show (vk == 2) = false by simp [h1]]
   split <;> (try split) <;> (try split) <;> rfl
 ·show ((vk == 3) && ((((zs.length : Nat) : Int) == 0) || decide (lastI zs ≤ hi))) = _
  by_cases h1 : vk = 3
  ·subst h1; rfl
  ·rw [if_neg h1, show (vk == 3) = false by simp [h1]]
   split <;> (try split) <;> (try split) <;> rfl
 ·show ((vk == 4) && decide ((vt.size : Int) ≤ hi)) = _
  by_cases h1 : vk = 4
  ·subst h1; rfl
  ·rw [if_neg h1, show (vk == 4) = false by simp [h1]]
   split <;> (try split) <;> (try split) <;> rfl
theorem fits_eq (k : Int) (s : ByteArray) (ty lo hi : Int) (t : ByteArray) (ps : List Pt) (hd : Bool) (vk vn : Int) (zs : List Int) (vt : ByteArray) :
  fitsB (k, s, ty, lo, hi, t, ps, hd) vk vn zs vt = ((k == 1) && (itemB (k, s, ty, lo, hi, t, ps, hd) && (ValM.right vk vn zs vt && ((vk == 5) || ((vk == 6) || bndB ty lo hi vk vn zs vt))))) := by
 unfold fitsB
 dsimp only [ik, ity, ilo, ihi]
 by_cases hk : k = 1
 ·subst hk
  cases h : itemB (1, s, ty, lo, hi, t, ps, hd)
  ·rfl
  ·rw [bnd_fit (ask_type h)]
 ·rw [show (k == 1) = false by simp [hk]]; rfl
set_option maxRecDepth 10000 in
set_option maxHeartbeats 3200000 in
theorem in_bounds (k : Int) (s : ByteArray) (ty lo hi : Int) (t : ByteArray) (a : Option Addr) (len cap : Nat) (hd : Bool) (vk vn : Int) (va : Option Addr) (vc : Nat) (zs : List Int) (vt : ByteArray) (w : World) (hc : Codes w va zs) :
  Calls Tryz.prog 155 #[.agg #[.int .i64 k, .string s, .int .i64 ty, .int .i64 lo, .int .i64 hi, .string t, .slice a len cap, .bool hd], av vk vn va zs.length vc vt] w fun e w' => e = .returned (.bool (bndB ty lo hi vk vn zs vt)) ∧ Below w.heap.size w w' := by
 have HC := hid hc
 have hzl := hc.1
 clear hc
 by_cases h1 : ty = 1
 ·subst h1
  have e : bndB 1 lo hi vk vn zs vt = ((vk == 1) && inB vn lo hi) := rfl
  rw [e]
  cases et : (vk == 1)
  ·go_enter Tryz.func155, Tryz.ntmps155
   go_wp2
   go_ret
   exact ⟨rfl, by go_grown⟩
  ·rw [Bool.true_and]
   go_enter Tryz.func155, Tryz.ntmps155
   go_wp2_with (first | (go_at_call 127; refine (PrtI.between_any _ _ _ _).mono ?_; rintro e w' ⟨rfl, rfl⟩))
   go_ret
   exact ⟨rfl, by go_grown⟩
 have e1 : (ty == 1) = false := by simp [h1]
 by_cases h2 : ty = 2
 ·subst h2
  have e : bndB 2 lo hi vk vn zs vt = ((vk == 2) && decide (vn ≤ hi)) := rfl
  rw [e]
  cases et : (vk == 2)
  all_goals
   go_enter Tryz.func155, Tryz.ntmps155
   go_wp2
   go_ret
   exact ⟨rfl, by go_grown⟩
 have e2 : (ty == 2) = false := by simp [h2]
 by_cases h3 : ty = 3
 ·subst h3
  have e : bndB 3 lo hi vk vn zs vt = ((vk == 3) && ((((zs.length : Nat) : Int) == 0) || decide (lastI zs ≤ hi))) := rfl
  rw [e]
  cases et : (vk == 3)
  ·go_enter Tryz.func155, Tryz.ntmps155
   go_wp2_with fail
   go_region
   all_goals
    go_wp2_with fail
    go_ret
    exact ⟨rfl, by go_grown⟩
  ·rw [Bool.true_and]
   rcases Nat.eq_zero_or_pos zs.length with hz | hz
   ·obtain rfl := List.length_eq_zero_iff.1 hz
    go_enter Tryz.func155, Tryz.ntmps155
    go_wp2_with fail
    go_region
    all_goals
     go_wp2_with fail
     go_ret
     exact ⟨rfl, by go_grown⟩
   ·obtain ⟨b, o, rfl, hb, hcs⟩ := HC.out.2 hz
    obtain ⟨m, hm⟩ : ∃ m, zs.length = m + 1 := ⟨zs.length - 1, by omega⟩
    have hcm := hcs m (by omega)
    have el : lastI zs = zs.getD m 0 := by unfold lastI; rw [hm]; rfl
    rw [el, hm]
    rw [hm] at hzl
    generalize zs.getD m 0 = lz at hcm
    have en : ((((m + 1 : Nat) : Int)) == 0) = false := by simp; omega
    have en2 : ((m : Int) + 1 == 0) = false := by simp; omega
    rw [en, Bool.false_or]
    clear hcs hz el HC
    go_enter Tryz.func155, Tryz.ntmps155
    go_wp2_with fail
    go_region
    all_goals
     go_wp2_with fail
     go_ret
     exact ⟨rfl, by go_grown⟩
 have e3 : (ty == 3) = false := by simp [h3]
 have e : bndB ty lo hi vk vn zs vt = ((vk == 4) && decide ((vt.size : Int) ≤ hi)) := by unfold bndB; rw [if_neg h1, if_neg h2, if_neg h3]
 rw [e]
 clear e h1 h2 h3
 cases et : (vk == 4)
 all_goals
  go_enter Tryz.func155, Tryz.ntmps155
  go_wp2
  go_ret
  exact ⟨rfl, by go_grown⟩
set_option maxRecDepth 10000 in
set_option maxHeartbeats 3200000 in
theorem impl_fits (k : Int) (s : ByteArray) (ty lo hi : Int) (t : ByteArray) (a : Option Addr) (cap : Nat) (ps : List Pt) (hd : Bool) (vk vn : Int) (va : Option Addr) (vc : Nat) (zs : List Int) (vt : ByteArray) (w : World) (hP : Parts w a ps) (hcap : ps.length ≤ cap) (hs : s.size ≤ maxLen) (ht : t.size ≤ maxLen) (hc : Codes w va zs) (hvt : vt.size ≤ maxLen) (hE : ItmI.EnvI w) :
  Calls Tryz.prog 126 #[.agg #[.int .i64 k, .string s, .int .i64 ty, .int .i64 lo, .int .i64 hi, .string t, .slice a ps.length cap, .bool hd], av vk vn va zs.length vc vt] w fun e w' => e = .returned (.bool (fitsB (k, s, ty, lo, hi, t, ps, hd) vk vn zs vt)) ∧ Below w.heap.size w w' := by
 have HP := hid hP
 have HS := hid hs
 have HT := hid ht
 have HC := hid hc
 have HVT := hid hvt
 have HE := hid hE
 have hzl := hc.1
 have hpl := hP.1
 clear hP hs ht hc hvt hE
 obtain ⟨v1, h1⟩ : ∃ v, Hid (itemB (k, s, ty, lo, hi, t, ps, hd) = v) := ⟨_, rfl⟩
 obtain ⟨v2, h2⟩ : ∃ v, Hid (ValM.right vk vn zs vt = v) := ⟨_, rfl⟩
 obtain ⟨v3, h3⟩ : ∃ v, Hid (bndB ty lo hi vk vn zs vt = v) := ⟨_, rfl⟩
 have e : fitsB (k, s, ty, lo, hi, t, ps, hd) vk vn zs vt = ((k == 1) && (v1 && (v2 && ((vk == 5) || ((vk == 6) || v3))))) := by rw [fits_eq, ← h1.out, ← h2.out, ← h3.out]
 rw [e]
 clear e
 have HW := hid (Pair.laid (k := k) (s := s) (ty := ty) (lo := lo) (hi := hi) (t := t) (a := a) (len := ps.length) (cap := cap) (hd := hd) (vk := vk) (vn := vn) (va := va) (vc := vc) (zl := zs.length) (vt := vt) w 57 59)
 cases e1 : (k == 1)
 case false =>
  have e1' : (k != 1) = true := by simp [bne, e1]
  go_enter Tryz.func126, Tryz.ntmps126
  go_wp2
  go_ret
  exact ⟨rfl, HW.out.2.2⟩
 have e1' : (k != 1) = false := by simp [bne, e1]
 rw [Bool.true_and]
 cases v1
 case false =>
  go_enter Tryz.func126, Tryz.ntmps126
  go_wp2_with (first | (go_at_call 117; refine (ItmI.impl_item k s ty lo hi t a cap ps hd _ (HP.out.on HW.out.2.2) hcap HS.out HT.out (HE.out.on HW.out.2.2)).mono ?_; rintro e w2 ⟨rfl, hB⟩; rw [h1.out]; have HW2 := hid (HW.out.on hB); obtain ⟨⟨x0, x1, x2, x3, x4, x5, x6, x7⟩, ⟨y0, y1, y2, y3⟩, yl⟩ := HW2.out.all; clear hB) | (go_at_call 75; refine (ValI.impl_right vk vn va vc zs vt _ (HC.out.on HW2.out.2.2) HVT.out).mono ?_; rintro e w3 ⟨rfl, hB⟩; rw [h2.out]; have HW3 := hid (HW2.out.on hB); obtain ⟨⟨x0, x1, x2, x3, x4, x5, x6, x7⟩, ⟨y0, y1, y2, y3⟩, yl⟩ := HW3.out.all; clear hB) | (go_at_call 155; refine (in_bounds k s ty lo hi t a ps.length cap hd vk vn va vc zs vt _ (HC.out.on HW3.out.2.2)).mono ?_; rintro e w4 ⟨rfl, hB⟩; rw [h3.out]; have HW4 := hid (HW3.out.on hB); obtain ⟨⟨x0, x1, x2, x3, x4, x5, x6, x7⟩, ⟨y0, y1, y2, y3⟩, yl⟩ := HW4.out.all; clear hB))
  go_ret
  first | exact ⟨rfl, HW4.out.2.2⟩ | exact ⟨rfl, HW3.out.2.2⟩ | exact ⟨rfl, HW2.out.2.2⟩ | exact ⟨rfl, HW.out.2.2⟩
 cases v2
 case false =>
  go_enter Tryz.func126, Tryz.ntmps126
  go_wp2_with (first | (go_at_call 117; refine (ItmI.impl_item k s ty lo hi t a cap ps hd _ (HP.out.on HW.out.2.2) hcap HS.out HT.out (HE.out.on HW.out.2.2)).mono ?_; rintro e w2 ⟨rfl, hB⟩; rw [h1.out]; have HW2 := hid (HW.out.on hB); obtain ⟨⟨x0, x1, x2, x3, x4, x5, x6, x7⟩, ⟨y0, y1, y2, y3⟩, yl⟩ := HW2.out.all; clear hB) | (go_at_call 75; refine (ValI.impl_right vk vn va vc zs vt _ (HC.out.on HW2.out.2.2) HVT.out).mono ?_; rintro e w3 ⟨rfl, hB⟩; rw [h2.out]; have HW3 := hid (HW2.out.on hB); obtain ⟨⟨x0, x1, x2, x3, x4, x5, x6, x7⟩, ⟨y0, y1, y2, y3⟩, yl⟩ := HW3.out.all; clear hB) | (go_at_call 155; refine (in_bounds k s ty lo hi t a ps.length cap hd vk vn va vc zs vt _ (HC.out.on HW3.out.2.2)).mono ?_; rintro e w4 ⟨rfl, hB⟩; rw [h3.out]; have HW4 := hid (HW3.out.on hB); obtain ⟨⟨x0, x1, x2, x3, x4, x5, x6, x7⟩, ⟨y0, y1, y2, y3⟩, yl⟩ := HW4.out.all; clear hB))
  go_ret
  first | exact ⟨rfl, HW4.out.2.2⟩ | exact ⟨rfl, HW3.out.2.2⟩ | exact ⟨rfl, HW2.out.2.2⟩ | exact ⟨rfl, HW.out.2.2⟩
 cases e5 : (vk == 5)
 case true =>
  go_enter Tryz.func126, Tryz.ntmps126
  go_wp2_with (first | (go_at_call 117; refine (ItmI.impl_item k s ty lo hi t a cap ps hd _ (HP.out.on HW.out.2.2) hcap HS.out HT.out (HE.out.on HW.out.2.2)).mono ?_; rintro e w2 ⟨rfl, hB⟩; rw [h1.out]; have HW2 := hid (HW.out.on hB); obtain ⟨⟨x0, x1, x2, x3, x4, x5, x6, x7⟩, ⟨y0, y1, y2, y3⟩, yl⟩ := HW2.out.all; clear hB) | (go_at_call 75; refine (ValI.impl_right vk vn va vc zs vt _ (HC.out.on HW2.out.2.2) HVT.out).mono ?_; rintro e w3 ⟨rfl, hB⟩; rw [h2.out]; have HW3 := hid (HW2.out.on hB); obtain ⟨⟨x0, x1, x2, x3, x4, x5, x6, x7⟩, ⟨y0, y1, y2, y3⟩, yl⟩ := HW3.out.all; clear hB) | (go_at_call 155; refine (in_bounds k s ty lo hi t a ps.length cap hd vk vn va vc zs vt _ (HC.out.on HW3.out.2.2)).mono ?_; rintro e w4 ⟨rfl, hB⟩; rw [h3.out]; have HW4 := hid (HW3.out.on hB); obtain ⟨⟨x0, x1, x2, x3, x4, x5, x6, x7⟩, ⟨y0, y1, y2, y3⟩, yl⟩ := HW4.out.all; clear hB))
  go_ret
  first | exact ⟨rfl, HW4.out.2.2⟩ | exact ⟨rfl, HW3.out.2.2⟩ | exact ⟨rfl, HW2.out.2.2⟩ | exact ⟨rfl, HW.out.2.2⟩
 cases e6 : (vk == 6)
 case true =>
  go_enter Tryz.func126, Tryz.ntmps126
  go_wp2_with (first | (go_at_call 117; refine (ItmI.impl_item k s ty lo hi t a cap ps hd _ (HP.out.on HW.out.2.2) hcap HS.out HT.out (HE.out.on HW.out.2.2)).mono ?_; rintro e w2 ⟨rfl, hB⟩; rw [h1.out]; have HW2 := hid (HW.out.on hB); obtain ⟨⟨x0, x1, x2, x3, x4, x5, x6, x7⟩, ⟨y0, y1, y2, y3⟩, yl⟩ := HW2.out.all; clear hB) | (go_at_call 75; refine (ValI.impl_right vk vn va vc zs vt _ (HC.out.on HW2.out.2.2) HVT.out).mono ?_; rintro e w3 ⟨rfl, hB⟩; rw [h2.out]; have HW3 := hid (HW2.out.on hB); obtain ⟨⟨x0, x1, x2, x3, x4, x5, x6, x7⟩, ⟨y0, y1, y2, y3⟩, yl⟩ := HW3.out.all; clear hB) | (go_at_call 155; refine (in_bounds k s ty lo hi t a ps.length cap hd vk vn va vc zs vt _ (HC.out.on HW3.out.2.2)).mono ?_; rintro e w4 ⟨rfl, hB⟩; rw [h3.out]; have HW4 := hid (HW3.out.on hB); obtain ⟨⟨x0, x1, x2, x3, x4, x5, x6, x7⟩, ⟨y0, y1, y2, y3⟩, yl⟩ := HW4.out.all; clear hB))
  go_ret
  first | exact ⟨rfl, HW4.out.2.2⟩ | exact ⟨rfl, HW3.out.2.2⟩ | exact ⟨rfl, HW2.out.2.2⟩ | exact ⟨rfl, HW.out.2.2⟩
 go_enter Tryz.func126, Tryz.ntmps126
 go_wp2_with (first | (go_at_call 117; refine (ItmI.impl_item k s ty lo hi t a cap ps hd _ (HP.out.on HW.out.2.2) hcap HS.out HT.out (HE.out.on HW.out.2.2)).mono ?_; rintro e w2 ⟨rfl, hB⟩; rw [h1.out]; have HW2 := hid (HW.out.on hB); obtain ⟨⟨x0, x1, x2, x3, x4, x5, x6, x7⟩, ⟨y0, y1, y2, y3⟩, yl⟩ := HW2.out.all; clear hB) | (go_at_call 75; refine (ValI.impl_right vk vn va vc zs vt _ (HC.out.on HW2.out.2.2) HVT.out).mono ?_; rintro e w3 ⟨rfl, hB⟩; rw [h2.out]; have HW3 := hid (HW2.out.on hB); obtain ⟨⟨x0, x1, x2, x3, x4, x5, x6, x7⟩, ⟨y0, y1, y2, y3⟩, yl⟩ := HW3.out.all; clear hB) | (go_at_call 155; refine (in_bounds k s ty lo hi t a ps.length cap hd vk vn va vc zs vt _ (HC.out.on HW3.out.2.2)).mono ?_; rintro e w4 ⟨rfl, hB⟩; rw [h3.out]; have HW4 := hid (HW3.out.on hB); obtain ⟨⟨x0, x1, x2, x3, x4, x5, x6, x7⟩, ⟨y0, y1, y2, y3⟩, yl⟩ := HW4.out.all; clear hB))
 go_ret
 first | exact ⟨rfl, HW4.out.2.2⟩ | exact ⟨rfl, HW3.out.2.2⟩ | exact ⟨rfl, HW2.out.2.2⟩ | exact ⟨rfl, HW.out.2.2⟩
end Go.Proofs.YtmbhmknfipdadaaGreatDoor.FitW
