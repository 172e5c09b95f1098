/- The walk of the law FnExactFits. -/
import Derived.Test.YtbhblnpehhaiiaaDoorFitIm
import Derived.Test.YtbhblnpehhaiiaaDoorItmSz
import Derived.Test.YtbhblnpehhaiiaaDoorValWalks
import Derived.Test.YtbhblnpehhaiiaaDoorValOpen
import Derived.Deep.RegionHeld3
import Derived.Deep.Cut
import Derived.Deep.CutRange
namespace Go.Proofs.YtbhblnpehhaiiaaDoor.FitW
open Go.RowKit
open PrtW PrtM ItmW ItmM ValW
open ItmS (At8 At8.laid below_one)
open ValI (At4 At4.laid)

section
variable {k : Int} {s : ByteArray} {ty lo hi : Int} {t : ByteArray} {a : Option Addr} {ps : List Pt} {cap : Nat} {hd : Bool} {vk vn : Int} {va : Option Addr} {vc : Nat} {zs : List Int} {vt : ByteArray}
theorem keep8 {w w' : World} (h : Pair w w' k s ty lo hi t a ps.length cap hd vk vn va vc zs.length vt) : Pair w w' k s ty lo hi t a ps.length cap hd vk vn va vc zs.length vt ∧ (w'.cell? ⟨w.heap.size, 0, none⟩ = some (.int .i64 k) ∧ w'.cell? ⟨w.heap.size, 1, none⟩ = some (.string s) ∧ w'.cell? ⟨w.heap.size, 2, none⟩ = some (.int .i64 ty) ∧ w'.cell? ⟨w.heap.size, 3, none⟩ = some (.int .i64 lo) ∧ w'.cell? ⟨w.heap.size, 4, none⟩ = some (.int .i64 hi) ∧ w'.cell? ⟨w.heap.size, 5, none⟩ = some (.string t) ∧ w'.cell? ⟨w.heap.size, 6, none⟩ = some (.slice a ps.length cap) ∧ w'.cell? ⟨w.heap.size, 7, none⟩ = some (.bool hd)) ∧ (w'.cell? ⟨w.heap.size + 1, 0, none⟩ = some (.int .i64 vk) ∧ w'.cell? ⟨w.heap.size + 1, 1, none⟩ = some (.int .i64 vn) ∧ w'.cell? ⟨w.heap.size + 1, 2, none⟩ = some (.slice va zs.length vc) ∧ w'.cell? ⟨w.heap.size + 1, 3, none⟩ = some (.string vt)) := ⟨h, h.all.1, h.all.2.1⟩
theorem keep14 {w w' W : World} {b0 g4 : Nat} (hx : At8 W b0 (.int .i64 k) (.string s) (.int .i64 ty) (.int .i64 lo) (.int .i64 hi) (.string t) (.slice (some ⟨g4, 0, none⟩) ps.length ps.length) (.bool hd)) (h : Pair w w' k s ty lo hi t a ps.length cap hd vk vn va vc zs.length vt ∧ Below W.heap.size W w') :
    (Pair w w' k s ty lo hi t a ps.length cap hd vk vn va vc zs.length vt ∧ Below W.heap.size W w') ∧ (w'.cell? ⟨w.heap.size, 0, none⟩ = some (.int .i64 k) ∧ w'.cell? ⟨w.heap.size, 1, none⟩ = some (.string s) ∧ w'.cell? ⟨w.heap.size, 2, none⟩ = some (.int .i64 ty) ∧ w'.cell? ⟨w.heap.size, 3, none⟩ = some (.int .i64 lo) ∧ w'.cell? ⟨w.heap.size, 4, none⟩ = some (.int .i64 hi) ∧ w'.cell? ⟨w.heap.size, 5, none⟩ = some (.string t) ∧ w'.cell? ⟨w.heap.size, 6, none⟩ = some (.slice a ps.length cap) ∧ w'.cell? ⟨w.heap.size, 7, none⟩ = some (.bool hd)) ∧ (w'.cell? ⟨b0, 0, none⟩ = some (.int .i64 k) ∧ w'.cell? ⟨b0, 1, none⟩ = some (.string s) ∧ w'.cell? ⟨b0, 2, none⟩ = some (.int .i64 ty) ∧ w'.cell? ⟨b0, 3, none⟩ = some (.int .i64 lo) ∧ w'.cell? ⟨b0, 4, none⟩ = some (.int .i64 hi) ∧ w'.cell? ⟨b0, 5, none⟩ = some (.string t) ∧ w'.cell? ⟨b0, 6, none⟩ = some (.slice (some ⟨g4, 0, none⟩) ps.length ps.length) ∧ w'.cell? ⟨b0, 7, none⟩ = some (.bool hd)) := ⟨h, h.1.all.1, (hx.on h.2).1⟩
theorem keep16 {w w' W : World} {b1 : Nat} {a5 : Option Addr} (hx : At4 W b1 (.int .i64 vk) (.int .i64 vn) (.slice a5 zs.length zs.length) (.string vt)) (h : Pair w w' k s ty lo hi t a ps.length cap hd vk vn va vc zs.length vt ∧ Below W.heap.size W w') :
    (Pair w w' k s ty lo hi t a ps.length cap hd vk vn va vc zs.length vt ∧ Below W.heap.size W w') ∧ (w'.cell? ⟨w.heap.size + 1, 0, none⟩ = some (.int .i64 vk) ∧ w'.cell? ⟨w.heap.size + 1, 1, none⟩ = some (.int .i64 vn) ∧ w'.cell? ⟨w.heap.size + 1, 2, none⟩ = some (.slice va zs.length vc) ∧ w'.cell? ⟨w.heap.size + 1, 3, none⟩ = some (.string vt)) ∧ (w'.cell? ⟨b1, 0, none⟩ = some (.int .i64 vk) ∧ w'.cell? ⟨b1, 1, none⟩ = some (.int .i64 vn) ∧ w'.cell? ⟨b1, 2, none⟩ = some (.slice a5 zs.length zs.length) ∧ w'.cell? ⟨b1, 3, none⟩ = some (.string vt)) := by
  obtain ⟨d0, d1, d2, d3, _⟩ := hx.on h.2
  exact ⟨h, h.1.all.2.1, d0, d1, d2, d3⟩
end

set_option maxRecDepth 10000 in
set_option maxHeartbeats 12800000 in
/-- behind what the model said: the program, and what came in -/
theorem rest_fits : True := trivial

set_option maxRecDepth 10000 in
set_option maxHeartbeats 12800000 in
theorem law_fits (k : Int) (s : ByteArray) (ty lo hi : Int) (t : ByteArray) (a : Option Addr) (cap : Nat) (ps : List Pt) (hd : Bool) (vk vn : Int) (va : Option Addr) (vc : Nat) (zs : List Int) (vt : ByteArray) (w : World)
    (hR : Raw w a ps) (hs : s.size ≤ maxLen) (ht : t.size ≤ maxLen) (hc : ValO.CodesAny w va zs) (hvt : vt.size ≤ maxLen) (hE : ItmI.EnvI w) :
    Calls Tryd.prog 6 #[.agg #[.int .i64 k, .string s, .int .i64 ty, .int .i64 lo, .int .i64 hi, .string t, .slice a ps.length cap, .bool hd], av vk vn va zs.length vc vt] w fun e w' => e = .returned (.bool true) ∧ Below w.heap.size w w' := by
  have HR := hid hR
  have HCa := hid hc
  have HS := hid hs
  have HT := hid ht
  have HVT := hid hvt
  have HE := hid hE
  have hm0 := hc.1
  have hmp := hR.1
  obtain ⟨r, hf⟩ : ∃ r, Hid (fitsB (k, s, ty, lo, hi, t, ps, hd) vk vn zs vt = r) := ⟨_, rfl⟩
  have HW := hid (Pair.laid (k := k) (s := s) (ty := ty) (lo := lo) (hi := hi) (t := t) (a := a) (len := ps.length) (cap := cap) (hd := hd) (vk := vk) (vn := vn) (va := va) (vc := vc) (zl := zs.length) (vt := vt) w 43 46)
  clear hR hc hE
  unfold maxLen at hs ht hvt hm0 hmp
  obtain ⟨wt, hwt⟩ : ∃ wt : Nat, Hid (s.size + t.size + (ps.length + bulk ps) = wt) := ⟨_, rfl⟩
  by_cases hbig : 1048576 < wt
  · go_enter Tryd.func6, Tryd.ntmps6
    go_wp2_with fail
    refine (szItem_no k s ty lo hi t a cap ps hd 1048576 (Nat.le_refl _) (by rw [hwt.out]; exact hbig) HS.out HT.out _ (raw_on HR.out HW.out.2.2)).mono ?_
    rintro e w1 ⟨rfl, hB1⟩
    have HB := hid (HW.out.on hB1).2.2
    clear hB1
    go_wp2_with fail
    go_ret
    exact ⟨rfl, HB.out⟩
  have HP : Hid (Parts w a ps) := HR.out.parts (by have := hwt.out; omega)
  obtain ⟨l, hl⟩ : ∃ l : Int, Hid ((1048576 : Int) - (s.size + t.size + (ps.length + bulk ps)) = l) := ⟨_, rfl⟩
  have hl0 : 0 ≤ l := by have h1 := hl.out; have h2 := hwt.out; omega
  have hl1 : l ≤ 1048576 := by have h1 := hl.out; omega
  by_cases hbig2 : l < zs.length + vt.size
  · go_enter Tryd.func6, Tryd.ntmps6
    go_wp2_with fail
    refine (szItem_yes k s ty lo hi t a cap ps hd 1048576 (Nat.le_refl _) (by rw [hwt.out]; omega) _ (raw_on HR.out HW.out.2.2)).mono ?_
    rintro e w1 ⟨rfl, hB1⟩
    have HW1 := hid (HW.out.on hB1)
    rw [show (((1048576 : Nat) : Int) - (s.size + t.size + (ps.length + bulk ps))) = l from hl.out]
    obtain ⟨⟨x0, x1, x2, x3, x4, x5, x6, x7⟩, ⟨y0, y1, y2, y3⟩, yl⟩ := HW1.out.all
    clear hB1
    go_wp2_with fail
    refine (sz_no vk vn va zs.length vc vt l _ hl0 hl1 hbig2 (by unfold maxLen; omega) HVT.out).mono ?_
    rintro e w2 ⟨rfl, hB2⟩
    have HB := hid (HW1.out.on hB2).2.2
    clear hB2
    go_wp2_with fail
    go_ret
    exact ⟨rfl, HB.out⟩
  have HC : Hid (Codes w va zs) := HCa.out.codes (by omega)
  have hvl : vt.size ≤ 1048576 := by omega
  clear HCa
  go_enter Tryd.func6, Tryd.ntmps6
  go_wp2_with fail
  refine (szItem_yes k s ty lo hi t a cap ps hd 1048576 (Nat.le_refl _) (by rw [hwt.out]; omega) _ (raw_on HR.out HW.out.2.2)).mono ?_
  rintro e w1 ⟨rfl, hB1⟩
  have HW1 := hid (HW.out.on hB1)
  rw [show (((1048576 : Nat) : Int) - (s.size + t.size + (ps.length + bulk ps))) = l from hl.out]
  obtain ⟨⟨x0, x1, x2, x3, x4, x5, x6, x7⟩, ⟨y0, y1, y2, y3⟩, yl⟩ := HW1.out.all
  clear hB1 HW
  go_wp2_with fail
  refine (sz_yes vk vn va zs.length vc vt l _ hl1 (by omega)).mono ?_
  rintro e w2 ⟨rfl, hB2⟩
  have hq0 : ¬ (l - (zs.length + vt.size) < 0) := by omega
  have HW2 := hid (HW1.out.on hB2)
  clear hB2 HW1 x0 x1 x2 x3 x4 x5 x6 x7 y0 y1 y2 y3 yl
  have h0 : Pair w w2.drew k s ty lo hi t a ps.length cap hd vk vn va vc zs.length vt := HW2.out.on (Below.refl _ _).drew
  clear HW2
  go_wp2_with fail
  refine wp_region_held_drew (S := (fun w' => Pair w w' k s ty lo hi t a ps.length cap hd vk vn va vc zs.length vt ∧ (w'.cell? ⟨w.heap.size, 0, none⟩ = some (.int .i64 k) ∧ w'.cell? ⟨w.heap.size, 1, none⟩ = some (.string s) ∧ w'.cell? ⟨w.heap.size, 2, none⟩ = some (.int .i64 ty) ∧ w'.cell? ⟨w.heap.size, 3, none⟩ = some (.int .i64 lo) ∧ w'.cell? ⟨w.heap.size, 4, none⟩ = some (.int .i64 hi) ∧ w'.cell? ⟨w.heap.size, 5, none⟩ = some (.string t) ∧ w'.cell? ⟨w.heap.size, 6, none⟩ = some (.slice a ps.length cap) ∧ w'.cell? ⟨w.heap.size, 7, none⟩ = some (.bool hd)) ∧ (w'.cell? ⟨w.heap.size + 1, 0, none⟩ = some (.int .i64 vk) ∧ w'.cell? ⟨w.heap.size + 1, 1, none⟩ = some (.int .i64 vn) ∧ w'.cell? ⟨w.heap.size + 1, 2, none⟩ = some (.slice va zs.length vc) ∧ w'.cell? ⟨w.heap.size + 1, 3, none⟩ = some (.string vt)))) (by kernel_rfl) ?_ (fun hHeld => ?_)
  · (try dsimp only) <;> (first | exact keep8 hN | exact keep8 h0)
  refine wpAnyH_take (i := 0) (oi := { dst := some 20, op := Go.Op.load 43 (Go.Operand.tmp 2), type := 43, pos := "exact.go:2094", after := #[], guard := none }) (v := ?_) rfl (by kernel_rfl) (by kernel_rfl) (by kernel_rfl) (fun _ _ _ h => h) (Or.inl ⟨by rfl, ?yld1⟩) hHeld ?nxt1
  case yld1 => (intro w hSw; (try dsimp only at hSw); go_simp) <;> with_reducible rfl
  (try simp only [Act.put, List.setIfInBounds_toArray, List.set_cons_zero, List.set_cons_succ])
  refine wpAnyH_take (i := 2) (oi := { dst := some 22, op := Go.Op.load 46 (Go.Operand.tmp 3), type := 46, pos := "exact.go:2094", after := #[], guard := none }) (v := ?_) rfl (by kernel_rfl) (by kernel_rfl) (by kernel_rfl) (fun _ _ _ h => h) (Or.inl ⟨by rfl, ?yld2⟩) hHeld ?nxt2
  case yld2 => (intro w hSw; (try dsimp only at hSw); go_simp) <;> with_reducible rfl
  (try simp only [Act.put, List.setIfInBounds_toArray, List.set_cons_zero, List.set_cons_succ])
  refine wpAnyH_ready (rs := [1]) (by kernel_rfl) (by simp) ?_
  refine AllReadyH.cons (o := { dst := some 21, op := Go.Op.call { callee := Go.Callee.value (Go.Operand.func 26), args := #[Go.Operand.tmp 20], argTypes := #[43] }, type := 31, pos := "exact.go:2094", after := #[{ on := 0, ground := Go.Ground.data }], guard := none }) rfl (fun K hK => ?_) AllReadyH.nil
  go_simp
  go_at_call 26
  have hp := hHeld.1
  refine (toItem8 k s ty lo hi t a cap ps hd _ (HP.out.on hp.2.2)).mono ?_
  rintro e w' ⟨g1, rfl, -, hr, hB⟩
  have HI := hid (parts_of_rows hr HP.out)
  (try have HV2 := hid (HV.out.on hB))
  (try clear HV)
  (try have HV := HV2)
  (try clear HV2)
  have hN := hp.on hB
  clear hp hB hr
  (try go_wp2_with fail)
  refine hK.out _ _ ?_ (fun hHeld2 => ?_)
  · (try dsimp only) <;> (first | exact keep8 hN | exact keep8 h0)
  clear hK K hHeld
  have hHeld := hHeld2
  clear hHeld2
  (try simp only [Act.put, List.setIfInBounds_toArray, List.set_cons_zero, List.set_cons_succ])
  refine wpAnyH_ready (rs := [3]) (by kernel_rfl) (by simp) ?_
  refine AllReadyH.cons (o := { dst := some 23, op := Go.Op.call { callee := Go.Callee.value (Go.Operand.func 27), args := #[Go.Operand.tmp 22], argTypes := #[46] }, type := 51, pos := "exact.go:2094", after := #[{ on := 2, ground := Go.Ground.data }, { on := 1, ground := Go.Ground.chain }], guard := none }) rfl (fun K hK => ?_) AllReadyH.nil
  go_simp
  go_at_call 27
  have hp := hHeld.1
  refine (toVal vk vn va vc zs vt _ (HC.out.on hp.2.2)).mono ?_
  rintro e w' ⟨b1, rfl, hc1, hB⟩
  have HV := hid hc1
  (try have HI2 := hid (HI.out.on hB))
  (try clear HI)
  (try have HI := HI2)
  (try clear HI2)
  have hN := hp.on hB
  clear hp hB hc1
  (try go_wp2_with fail)
  refine hK.out _ _ ?_ (fun hHeld2 => ?_)
  · (try dsimp only) <;> (first | exact keep8 hN | exact keep8 h0)
  clear hK K hHeld
  have hHeld := hHeld2
  clear hHeld2
  (try simp only [Act.put, List.setIfInBounds_toArray, List.set_cons_zero, List.set_cons_succ])
  refine wpAnyH_ready (rs := [4]) (by kernel_rfl) (by simp) ?_
  refine AllReadyH.cons (o := { dst := some 24, op := Go.Op.call { callee := Go.Callee.value (Go.Operand.func 25), args := #[Go.Operand.tmp 21, Go.Operand.tmp 23], argTypes := #[31, 51] }, type := 4, pos := "exact.go:2094", after := #[{ on := 1, ground := Go.Ground.data }, { on := 3, ground := Go.Ground.data }, { on := 3, ground := Go.Ground.chain }], guard := none }) rfl (fun K hK => ?_) AllReadyH.nil
  go_simp
  go_at_call 25
  have hp := hHeld.1
  refine (spec_fits k s ty lo hi t (some ⟨g1, 0, none⟩) ps.length ps hd vk vn b1 zs.length zs vt _ HI.out HS.out HT.out HV.out HVT.out).mono ?_
  rintro e w' ⟨rfl, hB⟩
  rw [hf.out]
  have hN := hp.on hB
  clear hp hB HI HV
  (try go_wp2_with fail)
  refine hK.out _ _ ?_ (fun hHeld2 => ?_)
  · (try dsimp only) <;> (first | exact keep8 hN | exact keep8 h0)
  clear hK K hHeld
  have hHeld := hHeld2
  clear hHeld2
  (try simp only [Act.put, List.setIfInBounds_toArray, List.set_cons_zero, List.set_cons_succ])
  refine wpAnyH_take (i := 5) (oi := { dst := some 6, op := Go.Op.assign (Go.Operand.tmp 24), type := 4, pos := "exact.go:2094", after := #[{ on := 4, ground := Go.Ground.data }, { on := 4, ground := Go.Ground.chain }, { on := 0, ground := Go.Ground.phase }, { on := 1, ground := Go.Ground.phase }, { on := 2, ground := Go.Ground.phase }, { on := 3, ground := Go.Ground.phase }, { on := 4, ground := Go.Ground.phase }], guard := none }) (v := ?_) rfl (by kernel_rfl) (by kernel_rfl) (by kernel_rfl) (fun _ _ _ h => h) (Or.inl ⟨by rfl, ?yld3⟩) hHeld ?nxt3
  case yld3 => (intro w hSw; (try dsimp only at hSw); go_simp) <;> with_reducible rfl
  (try simp only [Act.put, List.setIfInBounds_toArray, List.set_cons_zero, List.set_cons_succ])
  refine wpAnyH_done (by kernel_rfl) ?_ _
  have HW3 := hid hHeld.1
  clear hHeld h0
  obtain ⟨⟨x0, x1, x2, x3, x4, x5, x6, x7⟩, ⟨y0, y1, y2, y3⟩, yl⟩ := HW3.out.all
  go_wp2_with fail
  refine (toItem8 k s ty lo hi t a cap ps hd _ (HP.out.on HW3.out.2.2)).mono ?_
  rintro e w4 ⟨g4, rfl, -, hr4, hB4⟩
  have HG4 := hid (parts_of_rows hr4 HP.out)
  have HW4 := hid (HW3.out.on hB4)
  clear hr4 hB4 HW3 x0 x1 x2 x3 x4 x5 x6 x7 y0 y1 y2 y3 yl
  obtain ⟨⟨x0, x1, x2, x3, x4, x5, x6, x7⟩, ⟨y0, y1, y2, y3⟩, yl⟩ := HW4.out.all
  have HX4 := hid (At8.laid w4 31 (.int .i64 k) (.string s) (.int .i64 ty) (.int .i64 lo) (.int .i64 hi) (.string t) (.slice (some ⟨g4, 0, none⟩) ps.length ps.length) (.bool hd))
  have HB4 := hid (below_one w4 (.cells #[.int .i64 k, .string s, .int .i64 ty, .int .i64 lo, .int .i64 hi, .string t, .slice (some ⟨g4, 0, none⟩) ps.length ps.length, .bool hd] 31))
  go_upto_region 10 with fail
  obtain ⟨W5, hW5⟩ : ∃ W5, Hid (w4.alloc (.cells #[.int .i64 k, .string s, .int .i64 ty, .int .i64 lo, .int .i64 hi, .string t, .slice (some ⟨g4, 0, none⟩) ps.length ps.length, .bool hd] 31) = W5) := ⟨_, rfl⟩
  rw [hW5.out] at HX4 HB4 ⊢
  have HW5 := hid (HW4.out.on HB4.out)
  have HG5 := hid (HG4.out.on HB4.out)
  obtain ⟨b0, hb0⟩ : ∃ b0, w4.heap.size = b0 := ⟨_, rfl⟩
  rw [hb0] at HX4 ⊢
  clear HB4 HW4 HG4 hW5 hb0 x0 x1 x2 x3 x4 x5 x6 x7 y0 y1 y2 y3 yl
  obtain ⟨⟨x0, x1, x2, x3, x4, x5, x6, x7⟩, ⟨y0, y1, y2, y3⟩, yl⟩ := HW5.out.all
  go_wp2_with fail
  refine (toVal vk vn va vc zs vt _ (HC.out.on HW5.out.2.2)).mono ?_
  rintro e w6 ⟨a5, rfl, hc6, hB6⟩
  have HA6 := hid hc6
  have HW6 := hid (HW5.out.on hB6)
  have HX6 := hid (HX4.out.on hB6)
  have HG6 := hid (HG5.out.on hB6)
  have HX1a := hid (At4.laid w6 51 (.int .i64 vk) (.int .i64 vn) (.slice a5 zs.length zs.length) (.string vt))
  have HB6 := hid (below_one w6 (.cells #[.int .i64 vk, .int .i64 vn, .slice a5 zs.length zs.length, .string vt] 51))
  clear hc6 hB6 HX4 HG5 HW5 x0 x1 x2 x3 x4 x5 x6 x7 y0 y1 y2 y3 yl
  go_upto_region 11 with fail
  obtain ⟨W7, hW7⟩ : ∃ W7, Hid (w6.alloc (.cells #[.int .i64 vk, .int .i64 vn, .slice a5 zs.length zs.length, .string vt] 51) = W7) := ⟨_, rfl⟩
  rw [hW7.out] at HX1a HB6 ⊢
  have HW7 := hid (HW6.out.on HB6.out)
  have HG7 := hid (HG6.out.on HB6.out)
  have HX7 := hid (HX6.out.on HB6.out)
  have HA7 := hid (HA6.out.on HB6.out)
  obtain ⟨b1, hb1⟩ : ∃ b1, w6.heap.size = b1 := ⟨_, rfl⟩
  rw [hb1] at HX1a ⊢
  clear HB6 HW6 HG6 HX6 HA6 hW7 hb1
  obtain ⟨⟨u0, u1, u2, u3, u4, u5, u6, u7⟩, ul⟩ := HX7.out
  obtain ⟨v0, v1, v2, v3, vl⟩ := HX1a.out
  go_wp2_with fail
  refine (impl_fits k s ty lo hi t (some ⟨g4, 0, none⟩) ps.length ps hd vk vn a5 zs.length zs vt _ HG7.out (Nat.le_refl _) HS.out HT.out HA7.out HVT.out (HE.out.on HW7.out.2.2)).mono ?_
  rintro e w8 ⟨rfl, hB8⟩
  rw [hf.out]
  have HW8 := hid (HW7.out.on hB8)
  have HG8 := hid (HG7.out.on hB8)
  have HX8 := hid (HX7.out.on hB8)
  have HA8 := hid (HA7.out.on hB8)
  have HY8 := hid (HX1a.out.on hB8)
  clear hB8 HW7 HG7 HX7 HA7 HX1a u0 u1 u2 u3 u4 u5 u6 u7 ul v0 v1 v2 v3 vl
  obtain ⟨W, hW⟩ : ∃ W, w8 = W := ⟨_, rfl⟩
  subst hW
  have hne : (r != r) = false := by simp
  have HX0 := HX8
  have HG := HG8
  have h0 : Pair w w8.drew k s ty lo hi t a ps.length cap hd vk vn va vc zs.length vt ∧ Below w8.heap.size w8 w8.drew := ⟨HW8.out.on (Below.refl _ _).drew, (Below.refl _ _).drew⟩
  go_wp2_with fail
  refine wp_region_held_drew (S := (fun w' => (Pair w w' k s ty lo hi t a ps.length cap hd vk vn va vc zs.length vt ∧ Below w8.heap.size w8 w') ∧ (w'.cell? ⟨w.heap.size, 0, none⟩ = some (.int .i64 k) ∧ w'.cell? ⟨w.heap.size, 1, none⟩ = some (.string s) ∧ w'.cell? ⟨w.heap.size, 2, none⟩ = some (.int .i64 ty) ∧ w'.cell? ⟨w.heap.size, 3, none⟩ = some (.int .i64 lo) ∧ w'.cell? ⟨w.heap.size, 4, none⟩ = some (.int .i64 hi) ∧ w'.cell? ⟨w.heap.size, 5, none⟩ = some (.string t) ∧ w'.cell? ⟨w.heap.size, 6, none⟩ = some (.slice a ps.length cap) ∧ w'.cell? ⟨w.heap.size, 7, none⟩ = some (.bool hd)) ∧ (w'.cell? ⟨b0, 0, none⟩ = some (.int .i64 k) ∧ w'.cell? ⟨b0, 1, none⟩ = some (.string s) ∧ w'.cell? ⟨b0, 2, none⟩ = some (.int .i64 ty) ∧ w'.cell? ⟨b0, 3, none⟩ = some (.int .i64 lo) ∧ w'.cell? ⟨b0, 4, none⟩ = some (.int .i64 hi) ∧ w'.cell? ⟨b0, 5, none⟩ = some (.string t) ∧ w'.cell? ⟨b0, 6, none⟩ = some (.slice (some ⟨g4, 0, none⟩) ps.length ps.length) ∧ w'.cell? ⟨b0, 7, none⟩ = some (.bool hd)))) (by kernel_rfl) ?_ (fun hHeld => ?_)
  · (try dsimp only) <;> (first | exact keep14 HX0.out hN | exact keep14 HX0.out h0)
  refine wpAnyH_take (i := 0) (oi := { dst := some 35, op := Go.Op.load 31 (Go.Operand.tmp 7), type := 31, pos := "exact.go:2101", after := #[], guard := none }) (v := ?_) rfl (by kernel_rfl) (by kernel_rfl) (by kernel_rfl) (fun _ _ _ h => h) (Or.inl ⟨by rfl, ?yld4⟩) hHeld ?nxt4
  case yld4 => (intro w hSw; (try dsimp only at hSw); go_simp) <;> with_reducible rfl
  (try simp only [Act.put, List.setIfInBounds_toArray, List.set_cons_zero, List.set_cons_succ])
  refine wpAnyH_take (i := 1) (oi := { dst := some 36, op := Go.Op.load 43 (Go.Operand.tmp 2), type := 43, pos := "exact.go:2101", after := #[], guard := none }) (v := ?_) rfl (by kernel_rfl) (by kernel_rfl) (by kernel_rfl) (fun _ _ _ h => h) (Or.inl ⟨by rfl, ?yld5⟩) hHeld ?nxt5
  case yld5 => (intro w hSw; (try dsimp only at hSw); go_simp) <;> with_reducible rfl
  (try simp only [Act.put, List.setIfInBounds_toArray, List.set_cons_zero, List.set_cons_succ])
  refine wpAnyH_ready (rs := [2]) (by kernel_rfl) (by simp) ?_
  refine AllReadyH.cons (o := { dst := some 37, op := Go.Op.call { callee := Go.Callee.value (Go.Operand.func 26), args := #[Go.Operand.tmp 36], argTypes := #[43] }, type := 31, pos := "exact.go:2101", after := #[{ on := 1, ground := Go.Ground.data }], guard := none }) rfl (fun K hK => ?_) AllReadyH.nil
  go_simp
  go_at_call 26
  have hp := hHeld.1
  refine (toItem8 k s ty lo hi t a cap ps hd _ (HP.out.on hp.1.2.2)).mono ?_
  rintro e w' ⟨g1, rfl, -, hr, hB⟩
  have HI := hid (parts_of_rows hr HP.out)
  have HG2 := hid ((HG.out.on hp.2).on hB)
  have hN := And.intro (hp.1.on hB) (hp.2.trans (hB.mono hp.2.size))
  clear hp hB hr
  (try go_wp2_with fail)
  refine hK.out _ _ ?_ (fun hHeld2 => ?_)
  · (try dsimp only) <;> (first | exact keep14 HX0.out hN | exact keep14 HX0.out h0)
  clear hK K hHeld
  have hHeld := hHeld2
  clear hHeld2
  (try simp only [Act.put, List.setIfInBounds_toArray, List.set_cons_zero, List.set_cons_succ])
  refine wpAnyH_ready (rs := [3]) (by kernel_rfl) (by simp) ?_
  refine AllReadyH.cons (o := { dst := some 38, op := Go.Op.call { callee := Go.Callee.value (Go.Operand.func 14), args := #[Go.Operand.tmp 35, Go.Operand.tmp 37], argTypes := #[31, 31] }, type := 4, pos := "exact.go:2101", after := #[{ on := 0, ground := Go.Ground.data }, { on := 2, ground := Go.Ground.data }, { on := 2, ground := Go.Ground.chain }], guard := none }) rfl (fun K hK => ?_) AllReadyH.nil
  go_simp
  go_at_call 14
  have hp := hHeld.1
  refine (eqItem8 k s ty lo hi t (some ⟨g4, 0, none⟩) (some ⟨g1, 0, none⟩) ps.length ps.length ps hd _ HG2.out HI.out).mono ?_
  rintro e w' ⟨rfl, hB⟩
  have hN := And.intro (hp.1.on hB) (hp.2.trans (hB.mono hp.2.size))
  clear hp hB HI HG2
  (try go_wp2_with fail)
  refine hK.out _ _ ?_ (fun hHeld2 => ?_)
  · (try dsimp only) <;> (first | exact keep14 HX0.out hN | exact keep14 HX0.out h0)
  clear hK K hHeld
  have hHeld := hHeld2
  clear hHeld2
  (try simp only [Act.put, List.setIfInBounds_toArray, List.set_cons_zero, List.set_cons_succ])
  refine wpAnyH_take (i := 4) (oi := { dst := some 39, op := Go.Op.unOp Go.UnOp.not 4 (Go.Operand.tmp 38), type := 4, pos := "exact.go:2101", after := #[{ on := 3, ground := Go.Ground.data }], guard := none }) (v := ?_) rfl (by kernel_rfl) (by kernel_rfl) (by kernel_rfl) (fun _ _ _ h => h) (Or.inl ⟨by rfl, ?yld6⟩) hHeld ?nxt6
  case yld6 => (intro w hSw; (try dsimp only at hSw); go_simp) <;> with_reducible rfl
  (try simp only [Act.put, List.setIfInBounds_toArray, List.set_cons_zero, List.set_cons_succ])
  refine wpAnyH_done (by kernel_rfl) ?_ _
  have HW9 := hid hHeld.1.1
  have HB9 := hid hHeld.1.2
  clear hHeld h0
  go_upto_region 16 with fail
  obtain ⟨W9, hW9⟩ : ∃ W, W = w' := ⟨_, rfl⟩
  subst hW9
  have HX1 := hid (HY8.out.on HB9.out)
  have HA5 := hid (HA8.out.on HB9.out)
  have h0 : Pair w W9.drew k s ty lo hi t a ps.length cap hd vk vn va vc zs.length vt ∧ Below W9.heap.size W9 W9.drew := ⟨HW9.out.on (Below.refl _ _).drew, (Below.refl _ _).drew⟩
  clear HX0 HG HX8 HG8 HA8 HY8 HB9
  refine wp_region_held_drew (S := (fun w' => (Pair w w' k s ty lo hi t a ps.length cap hd vk vn va vc zs.length vt ∧ Below W9.heap.size W9 w') ∧ (w'.cell? ⟨w.heap.size + 1, 0, none⟩ = some (.int .i64 vk) ∧ w'.cell? ⟨w.heap.size + 1, 1, none⟩ = some (.int .i64 vn) ∧ w'.cell? ⟨w.heap.size + 1, 2, none⟩ = some (.slice va zs.length vc) ∧ w'.cell? ⟨w.heap.size + 1, 3, none⟩ = some (.string vt)) ∧ (w'.cell? ⟨b1, 0, none⟩ = some (.int .i64 vk) ∧ w'.cell? ⟨b1, 1, none⟩ = some (.int .i64 vn) ∧ w'.cell? ⟨b1, 2, none⟩ = some (.slice a5 zs.length zs.length) ∧ w'.cell? ⟨b1, 3, none⟩ = some (.string vt)))) (by kernel_rfl) ?_ (fun hHeld => ?_)
  · (try dsimp only) <;> (first | exact keep16 HX1.out hN | exact keep16 HX1.out h0)
  refine wpAnyH_take (i := 0) (oi := { dst := some 40, op := Go.Op.load 51 (Go.Operand.tmp 8), type := 51, pos := "exact.go:2104", after := #[], guard := none }) (v := ?_) rfl (by kernel_rfl) (by kernel_rfl) (by kernel_rfl) (fun _ _ _ h => h) (Or.inl ⟨by rfl, ?yld7⟩) hHeld ?nxt7
  case yld7 => (intro w hSw; (try dsimp only at hSw); go_simp) <;> with_reducible rfl
  (try simp only [Act.put, List.setIfInBounds_toArray, List.set_cons_zero, List.set_cons_succ])
  refine wpAnyH_take (i := 1) (oi := { dst := some 41, op := Go.Op.load 46 (Go.Operand.tmp 3), type := 46, pos := "exact.go:2104", after := #[], guard := none }) (v := ?_) rfl (by kernel_rfl) (by kernel_rfl) (by kernel_rfl) (fun _ _ _ h => h) (Or.inl ⟨by rfl, ?yld8⟩) hHeld ?nxt8
  case yld8 => (intro w hSw; (try dsimp only at hSw); go_simp) <;> with_reducible rfl
  (try simp only [Act.put, List.setIfInBounds_toArray, List.set_cons_zero, List.set_cons_succ])
  refine wpAnyH_ready (rs := [2]) (by kernel_rfl) (by simp) ?_
  refine AllReadyH.cons (o := { dst := some 42, op := Go.Op.call { callee := Go.Callee.value (Go.Operand.func 27), args := #[Go.Operand.tmp 41], argTypes := #[46] }, type := 51, pos := "exact.go:2104", after := #[{ on := 1, ground := Go.Ground.data }], guard := none }) rfl (fun K hK => ?_) AllReadyH.nil
  go_simp
  go_at_call 27
  have hp := hHeld.1
  refine (toVal vk vn va vc zs vt _ (HC.out.on hp.1.2.2)).mono ?_
  rintro e w' ⟨b6, rfl, hc1, hB⟩
  have HV := hid hc1
  have HA2 := hid ((HA5.out.on hp.2).on hB)
  have hN := And.intro (hp.1.on hB) (hp.2.trans (hB.mono hp.2.size))
  clear hp hB hc1
  (try go_wp2_with fail)
  refine hK.out _ _ ?_ (fun hHeld2 => ?_)
  · (try dsimp only) <;> (first | exact keep16 HX1.out hN | exact keep16 HX1.out h0)
  clear hK K hHeld
  have hHeld := hHeld2
  clear hHeld2
  (try simp only [Act.put, List.setIfInBounds_toArray, List.set_cons_zero, List.set_cons_succ])
  refine wpAnyH_ready (rs := [3]) (by kernel_rfl) (by simp) ?_
  refine AllReadyH.cons (o := { dst := some 43, op := Go.Op.call { callee := Go.Callee.value (Go.Operand.func 29), args := #[Go.Operand.tmp 40, Go.Operand.tmp 42], argTypes := #[51, 51] }, type := 4, pos := "exact.go:2104", after := #[{ on := 0, ground := Go.Ground.data }, { on := 2, ground := Go.Ground.data }, { on := 2, ground := Go.Ground.chain }], guard := none }) rfl (fun K hK => ?_) AllReadyH.nil
  go_simp
  go_at_call 29
  have hp := hHeld.1
  refine (eqVal vk vn a5 b6 zs.length zs.length zs vt _ HA2.out HV.out).mono ?_
  rintro e w' ⟨rfl, hB⟩
  have hN := And.intro (hp.1.on hB) (hp.2.trans (hB.mono hp.2.size))
  clear hp hB HV HA2
  (try go_wp2_with fail)
  refine hK.out _ _ ?_ (fun hHeld2 => ?_)
  · (try dsimp only) <;> (first | exact keep16 HX1.out hN | exact keep16 HX1.out h0)
  clear hK K hHeld
  have hHeld := hHeld2
  clear hHeld2
  (try simp only [Act.put, List.setIfInBounds_toArray, List.set_cons_zero, List.set_cons_succ])
  refine wpAnyH_take (i := 4) (oi := { dst := some 44, op := Go.Op.unOp Go.UnOp.not 4 (Go.Operand.tmp 43), type := 4, pos := "exact.go:2104", after := #[{ on := 3, ground := Go.Ground.data }], guard := none }) (v := ?_) rfl (by kernel_rfl) (by kernel_rfl) (by kernel_rfl) (fun _ _ _ h => h) (Or.inl ⟨by rfl, ?yld9⟩) hHeld ?nxt9
  case yld9 => (intro w hSw; (try dsimp only at hSw); go_simp) <;> with_reducible rfl
  (try simp only [Act.put, List.setIfInBounds_toArray, List.set_cons_zero, List.set_cons_succ])
  refine wpAnyH_done (by kernel_rfl) ?_ _
  have HZ := hid hHeld.1.1
  clear hHeld h0
  go_wp2_with fail
  go_ret
  exact ⟨rfl, HZ.out.2.2⟩
end Go.Proofs.YtbhblnpehhaiiaaDoor.FitW
