/- Fits: what the model says. -/
import Derived.Test.YtbhblnpehhaiiaaDoorFitSp
namespace Go.Proofs.YtbhblnpehhaiiaaDoor.FitW
open Go.RowKit
open PrtW PrtM ItmW ItmM ValW

/-- Fits -/
def fitsB (p : It) (vk vn : Int) (zs : List Int) (vt : ByteArray) : Bool := (ik p == 1) && (itemB p && (ValM.right vk vn zs vt && fitB (ity p) (ilo p) (ihi p) vk vn zs vt))
set_option maxRecDepth 10000 in
set_option maxHeartbeats 3200000 in
theorem spec_fits (k : Int) (s : ByteArray) (ty lo hi : Int) (t : ByteArray) (a : Option Addr) (cap : Nat) (ps : List Pt) (hd : Bool) (vk vn : Int) (va : Option Addr) (vc : Nat) (zs : List Int) (vt : ByteArray) (w : World) (hP : Parts w a ps) (hs : s.size ≤ maxLen) (ht : t.size ≤ maxLen) (hc : Codes w va zs) (hvt : vt.size ≤ maxLen) :
    Calls Tryd.prog 25 #[.agg #[.int .i64 k, .string s, .int .i64 ty, .int .i64 lo, .int .i64 hi, .string t, .slice a ps.length cap, .bool hd], av vk vn va zs.length vc vt] w fun e w' => e = .returned (.bool (fitsB (k, s, ty, lo, hi, t, ps, hd) vk vn zs vt)) ∧ Below w.heap.size w w' := by
  have HP := hid hP
  have HS := hid hs
  have HT := hid ht
  have HC := hid hc
  have HVT := hid hvt
  have hzl := hc.1
  have hpl := hP.1
  clear hP hs ht hc hvt
  obtain ⟨v1, h1⟩ : ∃ v, Hid (itemB (k, s, ty, lo, hi, t, ps, hd) = v) := ⟨_, rfl⟩
  obtain ⟨v2, h2⟩ : ∃ v, Hid (ValM.right vk vn zs vt = v) := ⟨_, rfl⟩
  obtain ⟨v3, h3⟩ : ∃ v, Hid (fitB ty lo hi vk vn zs vt = v) := ⟨_, rfl⟩
  have e : fitsB (k, s, ty, lo, hi, t, ps, hd) vk vn zs vt = ((k == 1) && (v1 && (v2 && v3))) := by unfold fitsB; rw [← h1.out, ← h2.out, ← h3.out]
  rw [e]
  clear e
  have HW := hid (Pair.laid (k := k) (s := s) (ty := ty) (lo := lo) (hi := hi) (t := t) (a := a) (len := ps.length) (cap := cap) (hd := hd) (vk := vk) (vn := vn) (va := va) (vc := vc) (zl := zs.length) (vt := vt) w 31 51)
  cases e1 : (k == 1)
  case false =>
    go_enter Tryd.func25, Tryd.ntmps25
    go_wp2
    go_ret
    exact ⟨rfl, HW.out.2.2⟩
  rw [Bool.true_and]
  cases v1
  case false =>
    go_enter Tryd.func25, Tryd.ntmps25
    go_wp2_with (first | (go_at_call 30; refine (ItmS.spec_item k s ty lo hi t a cap ps hd _ (HP.out.on HW.out.2.2) HS.out HT.out).mono ?_; rintro e w2 ⟨rfl, hB⟩; rw [h1.out]; have HW2 := hid (HW.out.on hB); obtain ⟨⟨x0, x1, x2, x3, x4, x5, x6, x7⟩, ⟨y0, y1, y2, y3⟩, yl⟩ := HW2.out.all; clear hB) | (go_at_call 45; refine (ValS.spec_right vk vn va vc zs vt _ (HC.out.on HW2.out.2.2) HVT.out).mono ?_; rintro e w3 ⟨rfl, hB⟩; rw [h2.out]; have HW3 := hid (HW2.out.on hB); obtain ⟨⟨x0, x1, x2, x3, x4, x5, x6, x7⟩, ⟨y0, y1, y2, y3⟩, yl⟩ := HW3.out.all; clear hB) | (go_at_call 46; refine (FitS.spec_fits_in k s ty lo hi t a ps.length cap hd vk vn va vc zs vt _ (HC.out.on HW3.out.2.2)).mono ?_; rintro e w4 ⟨rfl, hB⟩; rw [h3.out]; have HW4 := hid (HW3.out.on hB); obtain ⟨⟨x0, x1, x2, x3, x4, x5, x6, x7⟩, ⟨y0, y1, y2, y3⟩, yl⟩ := HW4.out.all; clear hB))
    go_ret
    first | exact ⟨rfl, HW4.out.2.2⟩ | exact ⟨rfl, HW3.out.2.2⟩ | exact ⟨rfl, HW2.out.2.2⟩ | exact ⟨rfl, HW.out.2.2⟩
  cases v2
  case false =>
    go_enter Tryd.func25, Tryd.ntmps25
    go_wp2_with (first | (go_at_call 30; refine (ItmS.spec_item k s ty lo hi t a cap ps hd _ (HP.out.on HW.out.2.2) HS.out HT.out).mono ?_; rintro e w2 ⟨rfl, hB⟩; rw [h1.out]; have HW2 := hid (HW.out.on hB); obtain ⟨⟨x0, x1, x2, x3, x4, x5, x6, x7⟩, ⟨y0, y1, y2, y3⟩, yl⟩ := HW2.out.all; clear hB) | (go_at_call 45; refine (ValS.spec_right vk vn va vc zs vt _ (HC.out.on HW2.out.2.2) HVT.out).mono ?_; rintro e w3 ⟨rfl, hB⟩; rw [h2.out]; have HW3 := hid (HW2.out.on hB); obtain ⟨⟨x0, x1, x2, x3, x4, x5, x6, x7⟩, ⟨y0, y1, y2, y3⟩, yl⟩ := HW3.out.all; clear hB) | (go_at_call 46; refine (FitS.spec_fits_in k s ty lo hi t a ps.length cap hd vk vn va vc zs vt _ (HC.out.on HW3.out.2.2)).mono ?_; rintro e w4 ⟨rfl, hB⟩; rw [h3.out]; have HW4 := hid (HW3.out.on hB); obtain ⟨⟨x0, x1, x2, x3, x4, x5, x6, x7⟩, ⟨y0, y1, y2, y3⟩, yl⟩ := HW4.out.all; clear hB))
    go_ret
    first | exact ⟨rfl, HW4.out.2.2⟩ | exact ⟨rfl, HW3.out.2.2⟩ | exact ⟨rfl, HW2.out.2.2⟩ | exact ⟨rfl, HW.out.2.2⟩
  go_enter Tryd.func25, Tryd.ntmps25
  go_wp2_with (first | (go_at_call 30; refine (ItmS.spec_item k s ty lo hi t a cap ps hd _ (HP.out.on HW.out.2.2) HS.out HT.out).mono ?_; rintro e w2 ⟨rfl, hB⟩; rw [h1.out]; have HW2 := hid (HW.out.on hB); obtain ⟨⟨x0, x1, x2, x3, x4, x5, x6, x7⟩, ⟨y0, y1, y2, y3⟩, yl⟩ := HW2.out.all; clear hB) | (go_at_call 45; refine (ValS.spec_right vk vn va vc zs vt _ (HC.out.on HW2.out.2.2) HVT.out).mono ?_; rintro e w3 ⟨rfl, hB⟩; rw [h2.out]; have HW3 := hid (HW2.out.on hB); obtain ⟨⟨x0, x1, x2, x3, x4, x5, x6, x7⟩, ⟨y0, y1, y2, y3⟩, yl⟩ := HW3.out.all; clear hB) | (go_at_call 46; refine (FitS.spec_fits_in k s ty lo hi t a ps.length cap hd vk vn va vc zs vt _ (HC.out.on HW3.out.2.2)).mono ?_; rintro e w4 ⟨rfl, hB⟩; rw [h3.out]; have HW4 := hid (HW3.out.on hB); obtain ⟨⟨x0, x1, x2, x3, x4, x5, x6, x7⟩, ⟨y0, y1, y2, y3⟩, yl⟩ := HW4.out.all; clear hB))
  go_ret
  first | exact ⟨rfl, HW4.out.2.2⟩ | exact ⟨rfl, HW3.out.2.2⟩ | exact ⟨rfl, HW2.out.2.2⟩ | exact ⟨rfl, HW.out.2.2⟩
end Go.Proofs.YtbhblnpehhaiiaaDoor.FitW
