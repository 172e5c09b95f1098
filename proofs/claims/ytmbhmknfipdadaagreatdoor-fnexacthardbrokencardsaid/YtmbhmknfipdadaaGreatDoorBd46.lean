/- Texts of ours, laid together. -/
import Derived.Test.YtmbhmknfipdadaaGreatDoorBd45
import Derived.Test.YtmbhmknfipdadaaGreatDoorBd34
namespace Go.Proofs.YtmbhmknfipdadaaGreatDoor.RteI
open Go.RowKit
open PrtW PrtM ItmW ItmM FrmM EvlM EvlS ValW NameW RteM RteS BookW PrtI
open AnsW (An an0 nm kd nu cd tx told putA rightA good)
section
variable {w : World} {O b0 Bg Bk : Nat} {vP vX vB : Value} {cur : ByteArray} {k : Int} {s : ByteArray} {ty lo hi : Int} {t : ByteArray} {a : Option Addr} {n c : Nat} {hd : Bool} {W W' : World}
theorem CkW.storeP (h : CkW w O b0 Bg Bk vX vB cur k s ty lo hi t a n c hd W) (u : Value) : CkW w O b0 Bg Bk u vB cur k s ty lo hi t a n c hd (W.setCell ⟨O, 2, none⟩ u) :=
 ⟨h.1, h.2.1.setP u, h.2.2.1.other (by have := h.1; omega) _ _, h.2.2.2.trans (Kp.set _ _)⟩
theorem CkW.rtsP {P B : List ByteArray} {vR : Value} (h : CkW w O b0 Bg Bk vX vB cur k s ty lo hi t a n c hd W) (r : RtS W b0 vR (.slice none 0 0) vB P [] B) (u : Value) : RtS (W.setCell ⟨O, 2, none⟩ u) b0 vR (.slice none 0 0) vB P [] B :=
 r.set h.1.1 ⟨_, _, _, h.2.1, by decide⟩ _ _
end
theorem RtS.off {W W' : World} {b0 Bk : Nat} {vP vB : Value} {P B : List ByteArray} (h : RtS W b0 vP (.slice none 0 0) vB P [] B) (hg : W.grownBy W' (some Bk)) (hb : Bk < b0) : RtS W' b0 vP (.slice none 0 0) vB P [] B := by
 have hne : ∀ (v : Value) (Q : List ByteArray), OwnT W b0 v Q → v.ownBlock = none ∨ v.ownBlock ≠ some Bk := fun v Q hT => by
  cases hv : v.ownBlock with
  | none => exact .inl rfl
  | some b => exact .inr (fun e => by cases e; have := (hT.lt _ hv).1; omega)
 exact ⟨h.1.kept hg (hne _ _ h.1), h.2.1.kept hg (hne _ _ h.2.1), .inl ⟨rfl, rfl⟩, h.2.2.2⟩
def AskE (w wG : World) (O Bg Bk b0 F : Nat) (vB : Value) (cur : ByteArray) (al K : List An) (Dg : DataW Value) (P B : List ByteArray) (q : It) (w' : World) : Prop :=
  ∃ vP, RtS w' b0 vP (.slice none 0 0) vB (P ++ [inm q]) [] B ∧ Below wG.heap.size wG w' ∧ w.heap.size ≤ w'.heap.size ∧ (∀ b, b < b0 → b ≠ O → b ≠ Bk → w'.heap[b]? = w.heap[b]?) ∧ (∀ b cs fz, b ≠ O → b ≠ Bk → w.heap[b]? = some (.cells cs 57 fz) → w'.heap[b]? = w.heap[b]?) ∧
    ((FitW.fitsB q (kd (told al (inm q))) (nu (told al (inm q))) (cd (told al (inm q))) (tx (told al (inm q))) = false ∧ WkB w' O Bg Bk vP vB (inm q) ∧ Kp O b0 w w') ∨
     (FitW.fitsB q (kd (told al (inm q))) (nu (told al (inm q))) (cd (told al (inm q))) (tx (told al (inm q))) = true ∧ WkB w' O Bg Bk vP vB cur ∧ ∃ D', BookN w' F Bk (putA K (ansAt al (inm q))) D' ∧ SubD D' Dg))
set_option maxRecDepth 10000 in
set_option maxHeartbeats 3200000 in
theorem impl_ask {b0 F : Nat} (O Bg Bk : Nat) (vP vB : Value) (cur : ByteArray) (al K : List An) (Dg D : DataW Value) (P B : List ByteArray) (k : Int) (s : ByteArray) (ty lo hi : Int) (t : ByteArray) (a : Option Addr) (ps : List Pt) (c : Nat) (hd : Bool) (w : World) (wG : World) (hBG : Below wG.heap.size wG w) (hGO : wG.heap.size ≤ O) (hO : O < b0) (hb0 : b0 ≤ w.heap.size) (h : WkB w O Bg Bk vP vB cur) (hS : RtS w b0 vP (.slice none 0 0) vB P [] B) (hs : nameB s = true) (ht : t.size ≤ maxLen) (hlP : P.length ≤ 1000) (hOB : O ≠ Bk) (hBk : Bk < b0) (hGk : wG.heap.size ≤ Bk) (hPut : FitW.fitsB (k, s, ty, lo, hi, t, ps, hd) (kd (told al s)) (nu (told al s)) (cd (told al s)) (tx (told al s)) = true → rightA (putA K (ansAt al s)) = true) (hKn : ∀ W, Kp O b0 w W → BookN W F Bk K D) (hSub : SubD D Dg) (hOff : OffB Dg Bk) (hno : ∀ i, i < K.length → nm (K.getD i an0) ≠ s) (hK : rightA K = true) (hlK : K.length < 30) (hP : Parts wG a ps) (hcap : ps.length ≤ c) (hE : ItmI.EnvI wG) (hG : ∀ W, Kp O b0 w W → BookN W F Bg al Dg) (hal : rightA al = true) :
  Calls Tryz.prog 98 #[.pointer (some ⟨O, 0, none⟩), .agg #[.int .i64 k, .string s, .int .i64 ty, .int .i64 lo, .int .i64 hi, .string t, .slice a ps.length c, .bool hd]] w fun e w' => e = .returned (.tuple #[]) ∧ AskE w wG O Bg Bk b0 F vB cur al K Dg P B (k, s, ty, lo, hi, t, ps, hd) w' := by
 have hbx := item_box w k s ty lo hi t a ps.length c hd
 have HX : Hid (ItB (w.alloc (.cells #[.int .i64 k, .string s, .int .i64 ty, .int .i64 lo, .int .i64 hi, .string t, .slice a ps.length c, .bool hd] 57)) w.heap.size k s ty lo hi t a ps.length c hd) := heap_alloc_new w _
 have HW1 := RteS.hid (h.on hbx)
 have HS1 := RteS.hid (hS.on hbx)
 have HB1 := RteS.hid hbx
 have HP1 := RteS.hid hP
 have HE1 := RteS.hid hE
 have HG1 := RteS.hid hG
 have HBG := RteS.hid hBG
 have HAl := RteS.hid hal
 have HKn := RteS.hid hKn
 have HPut := RteS.hid hPut
 have HSub := RteS.hid hSub
 have HOff := RteS.hid hOff
 have HNo := RteS.hid hno
 have HKr := RteS.hid hK
 have hs20 : s.size ≤ 20 := (of_decide_eq_true hs).2.1
 have HNm := RteS.hid hs
 clear hbx h hS hP hE hG hal hs hBG hKn hSub hOff hno hK hPut
 obtain ⟨i0, hi0, hz0, hz1, hz2⟩ := info_parts Tryz.infoS7
 go_enter Tryz.func98, Tryz.ntmps98
 go_upto_region 1 with fail
 generalize w.alloc (.cells #[.int .i64 k, .string s, .int .i64 ty, .int .i64 lo, .int .i64 hi, .string t, .slice a ps.length c, .bool hd] 57) = W1 at *
 -- region
 refine AnyO.region_by2 16 (fun L act W => ∃ (vX x5 x6 x7 x8 x9 x10 x11 x12 x13 x14 x15 x16 x17 x18 x19 : Value),
   act = { tmps := #[.pointer (some ⟨O, 0, none⟩), .agg #[.int .i64 k, .string s, .int .i64 ty, .int .i64 lo, .int .i64 hi, .string t, .slice a ps.length c, .bool hd], undef, .pointer (some ⟨w.heap.size, 0, none⟩), undef, x5, x6, x7, x8, x9, x10, x11, x12, x13, x14, x15, x16, x17, x18, x19, undef, undef, undef, undef, undef, undef, undef, undef, undef, undef, undef, undef, undef, undef, undef, undef, undef, undef, undef, undef, undef, undef, undef, undef, undef, undef, undef, undef], defers := [] } ∧
   Hid (CkW w O b0 Bg Bk vX vB cur k s ty lo hi t a ps.length c hd W) ∧ (L 15 = false → vX = vP) ∧ (L 15 = true → L 11 = true) ∧ (L 15 = true → vX = x16) ∧ (L 15 = true → L 5 = true) ∧ (L 11 = true → L 9 = true) ∧ (L 11 = false → Hid (RtS W b0 vP (.slice none 0 0) vB P [] B)) ∧
   (L 0 = true → x5 = .pointer (some ⟨O, 0, none⟩)) ∧ (L 1 = true → x6 = .pointer (some ⟨O, 0, none⟩)) ∧ (L 2 = true → x7 = .pointer (some ⟨O, 0, none⟩)) ∧ (L 3 = true → x8 = .pointer (some ⟨O, 2, none⟩)) ∧ (L 4 = true → x9 = .pointer (some ⟨O, 2, none⟩)) ∧ (L 5 = true → x10 = vP) ∧ (L 6 = true → x11 = .pointer (some ⟨w.heap.size, 1, none⟩)) ∧ (L 7 = true → x12 = .string s) ∧ (L 8 = true → L 11 = false → ∃ g, x13 = .slice (some ⟨g, 0, none⟩) 1 1 ∧ RowC b0 g s W) ∧ (L 9 = true → x14 = .string s) ∧ (L 10 = true → L 11 = false → ∃ g, x15 = .slice (some ⟨g, 0, none⟩) 1 1 ∧ RowC b0 g s W) ∧ (L 11 = true → ∃ a2 c2, x16 = .slice a2 (P.length + 1) c2 ∧ RtS W b0 (.slice a2 (P.length + 1) c2) (.slice none 0 0) vB (P ++ [s]) [] B) ∧ (L 12 = true → x17 = .pointer (some ⟨O, 0, none⟩)) ∧ (L 13 = true → x18 = .pointer (some ⟨O, 2, none⟩)) ∧ (L 14 = true → x19 = .pointer (some ⟨O, 2, none⟩))) (by kernel_rfl) (by kernel_rfl) (by kernel_rfl) ?start ?step ?fin
 case start => exact ⟨vP, undef, undef, undef, undef, undef, undef, undef, undef, undef, undef, undef, undef, undef, undef, undef, rfl, RteS.hid ((show CkW w O b0 Bg Bk vP vB cur k s ty lo hi t a ps.length c hd W1 from ⟨⟨hO, hb0⟩, HW1.out, HX.out, Kp.below HB1.out hb0⟩).on ((Below.refl _ _).drew)), fun _ => rfl, by simp, by simp, by simp, by simp, fun _ => RteS.hid (HS1.out.on ((Below.refl _ _).drew)), by simp, by simp, by simp, by simp, by simp, by simp, by simp, by simp, by simp, by simp, by simp, by simp, by simp, by simp, by simp⟩
 case step =>
  rintro i hi L act W ⟨vX, x5, x6, x7, x8, x9, x10, x11, x12, x13, x14, x15, x16, x17, x18, x19, rfl, hW, hv0, hv1, hv2, hv3, hv4, hR, f0, f1, f2, f3, f4, f5, f6, f7, f8, f9, f10, f11, f12, f13, f14⟩ hl hd
  have hcases : i = 0 ∨ i = 1 ∨ i = 2 ∨ i = 3 ∨ i = 4 ∨ i = 5 ∨ i = 6 ∨ i = 7 ∨ i = 8 ∨ i = 9 ∨ i = 10 ∨ i = 11 ∨ i = 12 ∨ i = 13 ∨ i = 14 ∨ i = 15 := by omega
  rcases hcases with rfl | rfl | rfl | rfl | rfl | rfl | rfl | rfl | rfl | rfl | rfl | rfl | rfl | rfl | rfl | rfl
  ·refine wpOp_step rfl (fun K hK => ?_)
   have hlt : b0 ≤ W.heap.size := Nat.le_trans hb0 hW.out.2.2.2.1
   obtain ⟨⟨y0, y1, y2, y3, y4, y5, y6⟩, yf, yl⟩ := hW.out.2.1.cells
   obtain ⟨z0, z1, z2, z3, z4, z5, z6, z7⟩ := hW.out.2.2.1.cells
   clear hi
   go_simp
   exact hK _ _ ⟨_, _, _, _, _, _, _, _, _, _, _, _, _, _, _, _, rfl, hW, hv0, hv1, hv2, hv3, hv4, hR, (fun _ => rfl), f1, f2, f3, f4, f5, f6, f7, f8, f9, f10, f11, f12, f13, f14⟩
  ·refine wpOp_step rfl (fun K hK => ?_)
   have hlt : b0 ≤ W.heap.size := Nat.le_trans hb0 hW.out.2.2.2.1
   obtain ⟨⟨y0, y1, y2, y3, y4, y5, y6⟩, yf, yl⟩ := hW.out.2.1.cells
   obtain ⟨z0, z1, z2, z3, z4, z5, z6, z7⟩ := hW.out.2.2.1.cells
   clear hi
   go_simp
   exact hK _ _ ⟨_, _, _, _, _, _, _, _, _, _, _, _, _, _, _, _, rfl, hW, hv0, hv1, hv2, hv3, hv4, hR, f0, (fun _ => rfl), f2, f3, f4, f5, f6, f7, f8, f9, f10, f11, f12, f13, f14⟩
  ·have hx1 := f1 (hd 1 (by kernel_rfl))
   subst hx1
   refine wpOp_step rfl (fun K hK => ?_)
   have hlt : b0 ≤ W.heap.size := Nat.le_trans hb0 hW.out.2.2.2.1
   obtain ⟨⟨y0, y1, y2, y3, y4, y5, y6⟩, yf, yl⟩ := hW.out.2.1.cells
   obtain ⟨z0, z1, z2, z3, z4, z5, z6, z7⟩ := hW.out.2.2.1.cells
   clear hi
   go_simp
   exact hK _ _ ⟨_, _, _, _, _, _, _, _, _, _, _, _, _, _, _, _, rfl, hW, hv0, hv1, hv2, hv3, hv4, hR, f0, f1, (fun _ => rfl), f3, f4, f5, f6, f7, f8, f9, f10, f11, f12, f13, f14⟩
  ·have hx2 := f2 (hd 2 (by kernel_rfl))
   subst hx2
   refine wpOp_step rfl (fun K hK => ?_)
   have hlt : b0 ≤ W.heap.size := Nat.le_trans hb0 hW.out.2.2.2.1
   obtain ⟨⟨y0, y1, y2, y3, y4, y5, y6⟩, yf, yl⟩ := hW.out.2.1.cells
   obtain ⟨z0, z1, z2, z3, z4, z5, z6, z7⟩ := hW.out.2.2.1.cells
   clear hi
   go_simp
   exact hK _ _ ⟨_, _, _, _, _, _, _, _, _, _, _, _, _, _, _, _, rfl, hW, hv0, hv1, hv2, hv3, hv4, hR, f0, f1, f2, (fun _ => rfl), f4, f5, f6, f7, f8, f9, f10, f11, f12, f13, f14⟩
  ·have hx3 := f3 (hd 3 (by kernel_rfl))
   subst hx3
   refine wpOp_step rfl (fun K hK => ?_)
   have hlt : b0 ≤ W.heap.size := Nat.le_trans hb0 hW.out.2.2.2.1
   obtain ⟨⟨y0, y1, y2, y3, y4, y5, y6⟩, yf, yl⟩ := hW.out.2.1.cells
   obtain ⟨z0, z1, z2, z3, z4, z5, z6, z7⟩ := hW.out.2.2.1.cells
   clear hi
   go_simp
   exact hK _ _ ⟨_, _, _, _, _, _, _, _, _, _, _, _, _, _, _, _, rfl, hW, hv0, hv1, hv2, hv3, hv4, hR, f0, f1, f2, f3, (fun _ => rfl), f5, f6, f7, f8, f9, f10, f11, f12, f13, f14⟩
  ·have hx4 := f4 (hd 4 (by kernel_rfl))
   subst hx4
   have h15 : L 15 = false := by cases h : L 15 with | false => rfl | true => exact absurd (hv3 h) (by rw [hl]; decide)
   have e5 := hv0 h15
   subst e5
   refine wpOp_step rfl (fun K hK => ?_)
   have hlt : b0 ≤ W.heap.size := Nat.le_trans hb0 hW.out.2.2.2.1
   obtain ⟨⟨y0, y1, y2, y3, y4, y5, y6⟩, yf, yl⟩ := hW.out.2.1.cells
   obtain ⟨z0, z1, z2, z3, z4, z5, z6, z7⟩ := hW.out.2.2.1.cells
   clear hi
   go_simp
   exact hK _ _ ⟨_, _, _, _, _, _, _, _, _, _, _, _, _, _, _, _, rfl, hW, hv0, hv1, hv2, (fun _ => rfl), hv4, hR, f0, f1, f2, f3, f4, (fun _ => rfl), f6, f7, f8, f9, f10, f11, f12, f13, f14⟩
  ·refine wpOp_step rfl (fun K hK => ?_)
   have hlt : b0 ≤ W.heap.size := Nat.le_trans hb0 hW.out.2.2.2.1
   obtain ⟨⟨y0, y1, y2, y3, y4, y5, y6⟩, yf, yl⟩ := hW.out.2.1.cells
   obtain ⟨z0, z1, z2, z3, z4, z5, z6, z7⟩ := hW.out.2.2.1.cells
   clear hi
   go_simp
   exact hK _ _ ⟨_, _, _, _, _, _, _, _, _, _, _, _, _, _, _, _, rfl, hW, hv0, hv1, hv2, hv3, hv4, hR, f0, f1, f2, f3, f4, f5, (fun _ => rfl), f7, f8, f9, f10, f11, f12, f13, f14⟩
  ·have hx6 := f6 (hd 6 (by kernel_rfl))
   subst hx6
   refine wpOp_step rfl (fun K hK => ?_)
   have hlt : b0 ≤ W.heap.size := Nat.le_trans hb0 hW.out.2.2.2.1
   obtain ⟨⟨y0, y1, y2, y3, y4, y5, y6⟩, yf, yl⟩ := hW.out.2.1.cells
   obtain ⟨z0, z1, z2, z3, z4, z5, z6, z7⟩ := hW.out.2.2.1.cells
   clear hi
   go_simp
   exact hK _ _ ⟨_, _, _, _, _, _, _, _, _, _, _, _, _, _, _, _, rfl, hW, hv0, hv1, hv2, hv3, hv4, hR, f0, f1, f2, f3, f4, f5, f6, (fun _ => rfl), f8, f9, f10, f11, f12, f13, f14⟩
  ·have hx := f7 (hd 7 (by kernel_rfl))
   subst hx
   refine wpOp_step rfl (fun K hK => ?_)
   have hlt : b0 ≤ W.heap.size := Nat.le_trans hb0 hW.out.2.2.2.1
   obtain ⟨⟨y0, y1, y2, y3, y4, y5, y6⟩, yf, yl⟩ := hW.out.2.1.cells
   obtain ⟨z0, z1, z2, z3, z4, z5, z6, z7⟩ := hW.out.2.2.1.cells
   clear hi
   go_simp
   have hB : Below W.heap.size W (W.alloc (.cells #[.string s] 9)) := own_box W s
   exact hK _ _ ⟨_, _, _, _, _, _, _, _, _, _, _, _, _, _, _, _, rfl, RteS.hid (hW.out.on hB), hv0, hv1, hv2, hv3, hv4, (fun h => RteS.hid ((hR h).out.on hB)), f0, f1, f2, f3, f4, f5, f6, f7, (fun _ _ => ⟨W.heap.size, rfl, hlt, by simp, by simp⟩), f9, (fun h h1 => by obtain ⟨g, e, r⟩ := f10 h h1; exact ⟨g, e, r.on hB⟩), (fun h => by obtain ⟨a2, c2, e, r⟩ := f11 h; exact ⟨a2, c2, e, r.on hB⟩), f12, f13, f14⟩
  ·have h11 : L 11 = false := by cases h : L 11 with | false => rfl | true => exact absurd (hv4 h) (by rw [hl]; decide)
   obtain ⟨g, hx, hr⟩ := f8 (hd 8 (by kernel_rfl)) h11
   subst hx
   refine wpOp_step rfl (fun K hK => ?_)
   have hlt : b0 ≤ W.heap.size := Nat.le_trans hb0 hW.out.2.2.2.1
   obtain ⟨⟨y0, y1, y2, y3, y4, y5, y6⟩, yf, yl⟩ := hW.out.2.1.cells
   obtain ⟨z0, z1, z2, z3, z4, z5, z6, z7⟩ := hW.out.2.2.1.cells
   clear hi
   go_simp
   refine (laid_row s g W hr.2.2 hr.2.1 (by omega)).mono ?_
   rintro e w2 ⟨rfl, hB⟩
   exact hK _ _ ⟨_, _, _, _, _, _, _, _, _, _, _, _, _, _, _, _, rfl, RteS.hid (hW.out.on hB), hv0, hv1, hv2, hv3, (fun _ => rfl), (fun h => RteS.hid ((hR h).out.on hB)), f0, f1, f2, f3, f4, f5, f6, f7, (fun h h1 => by obtain ⟨g, e, r⟩ := f8 h h1; exact ⟨g, e, r.on hB⟩), (fun _ => rfl), (fun h h1 => by obtain ⟨g, e, r⟩ := f10 h h1; exact ⟨g, e, r.on hB⟩), (fun h => by obtain ⟨a2, c2, e, r⟩ := f11 h; exact ⟨a2, c2, e, r.on hB⟩), f12, f13, f14⟩
  ·have hx := f9 (hd 9 (by kernel_rfl))
   subst hx
   refine wpOp_step rfl (fun K hK => ?_)
   have hlt : b0 ≤ W.heap.size := Nat.le_trans hb0 hW.out.2.2.2.1
   obtain ⟨⟨y0, y1, y2, y3, y4, y5, y6⟩, yf, yl⟩ := hW.out.2.1.cells
   obtain ⟨z0, z1, z2, z3, z4, z5, z6, z7⟩ := hW.out.2.2.1.cells
   clear hi
   go_simp
   have hB : Below W.heap.size W (W.alloc (.cells #[.string s] 9)) := own_box W s
   exact hK _ _ ⟨_, _, _, _, _, _, _, _, _, _, _, _, _, _, _, _, rfl, RteS.hid (hW.out.on hB), hv0, hv1, hv2, hv3, hv4, (fun h => RteS.hid ((hR h).out.on hB)), f0, f1, f2, f3, f4, f5, f6, f7, (fun h h1 => by obtain ⟨g, e, r⟩ := f8 h h1; exact ⟨g, e, r.on hB⟩), f9, (fun _ _ => ⟨W.heap.size, rfl, hlt, by simp, by simp⟩), (fun h => by obtain ⟨a2, c2, e, r⟩ := f11 h; exact ⟨a2, c2, e, r.on hB⟩), f12, f13, f14⟩
  ·have hx5 := f5 (hd 5 (by kernel_rfl))
   subst x10
   obtain ⟨g, hx, hr⟩ := f10 (hd 10 (by kernel_rfl)) hl
   subst hx
   have HRt := hR hl
   have hbs : b0 ≤ W.heap.size := Nat.le_trans hb0 hW.out.2.2.2.1
   refine wpOp_append_own_at rfl rfl (.tmp 10) (.tmp 15) 26 rfl b0 9 i0 (.string ⟨#[]⟩) 1 16 Tryz.underlying26 hi0 hz0 hz1 hz2 rfl (by decide) vP P.length (strB P) rfl HRt.out.1 ⟨g, 0, none⟩ 1 1 [.string s] rfl rfl (fun j u hj => by match j, hj with | 0, hj => simp at hj; subst hj; simpa [Addr.add] using hr.2.2) (by simp [Value.oneCell']) (by unfold maxLen; omega) (by omega) hbs ?_
   intro v2 w4 hown hg _ hat
   obtain ⟨a2, c2, rfl, _⟩ := own_shape hown
   exact ⟨_, _, _, _, _, _, _, _, _, _, _, _, _, _, _, _, rfl, RteS.hid (hW.out.grown HRt.out.1 hg), hv0, (fun _ => rfl), (fun h => absurd (hv1 h) (by rw [hl]; decide)), hv3, (fun _ => hd 9 (by kernel_rfl)), (fun h => by simp [AnyO.more] at h), f0, f1, f2, f3, f4, f5, f6, f7, (fun _ h => by simp [AnyO.more] at h), f9, (fun _ h => by simp [AnyO.more] at h), (fun _ => ⟨a2, c2, rfl, HRt.out.pushP hown hg hat⟩), f12, f13, f14⟩
  ·have hx0 := f0 (hd 0 (by kernel_rfl))
   subst hx0
   refine wpOp_step rfl (fun K hK => ?_)
   have hlt : b0 ≤ W.heap.size := Nat.le_trans hb0 hW.out.2.2.2.1
   obtain ⟨⟨y0, y1, y2, y3, y4, y5, y6⟩, yf, yl⟩ := hW.out.2.1.cells
   obtain ⟨z0, z1, z2, z3, z4, z5, z6, z7⟩ := hW.out.2.2.1.cells
   clear hi
   go_simp
   exact hK _ _ ⟨_, _, _, _, _, _, _, _, _, _, _, _, _, _, _, _, rfl, hW, hv0, hv1, hv2, hv3, hv4, hR, f0, f1, f2, f3, f4, f5, f6, f7, f8, f9, f10, f11, (fun _ => rfl), f13, f14⟩
  ·have hx12 := f12 (hd 12 (by kernel_rfl))
   subst hx12
   refine wpOp_step rfl (fun K hK => ?_)
   have hlt : b0 ≤ W.heap.size := Nat.le_trans hb0 hW.out.2.2.2.1
   obtain ⟨⟨y0, y1, y2, y3, y4, y5, y6⟩, yf, yl⟩ := hW.out.2.1.cells
   obtain ⟨z0, z1, z2, z3, z4, z5, z6, z7⟩ := hW.out.2.2.1.cells
   clear hi
   go_simp
   exact hK _ _ ⟨_, _, _, _, _, _, _, _, _, _, _, _, _, _, _, _, rfl, hW, hv0, hv1, hv2, hv3, hv4, hR, f0, f1, f2, f3, f4, f5, f6, f7, f8, f9, f10, f11, f12, (fun _ => rfl), f14⟩
  ·have hx13 := f13 (hd 13 (by kernel_rfl))
   subst hx13
   refine wpOp_step rfl (fun K hK => ?_)
   have hlt : b0 ≤ W.heap.size := Nat.le_trans hb0 hW.out.2.2.2.1
   obtain ⟨⟨y0, y1, y2, y3, y4, y5, y6⟩, yf, yl⟩ := hW.out.2.1.cells
   obtain ⟨z0, z1, z2, z3, z4, z5, z6, z7⟩ := hW.out.2.2.1.cells
   clear hi
   go_simp
   exact hK _ _ ⟨_, _, _, _, _, _, _, _, _, _, _, _, _, _, _, _, rfl, hW, hv0, hv1, hv2, hv3, hv4, hR, f0, f1, f2, f3, f4, f5, f6, f7, f8, f9, f10, f11, f12, f13, (fun _ => rfl)⟩
  ·have hx14 := f14 (hd 14 (by kernel_rfl))
   subst hx14
   obtain ⟨a2, c2, hx, r11⟩ := f11 (hd 11 (by kernel_rfl))
   subst hx
   refine wpOp_step rfl (fun K hK => ?_)
   have hlt : b0 ≤ W.heap.size := Nat.le_trans hb0 hW.out.2.2.2.1
   obtain ⟨⟨y0, y1, y2, y3, y4, y5, y6⟩, yf, yl⟩ := hW.out.2.1.cells
   obtain ⟨z0, z1, z2, z3, z4, z5, z6, z7⟩ := hW.out.2.2.1.cells
   clear hi
   go_simp
   exact hK _ _ ⟨(.slice a2 (P.length + 1) c2), _, _, _, _, _, _, _, _, _, _, _, _, _, _, _, rfl, RteS.hid (hW.out.storeP _), (fun h => by simp [AnyO.more] at h), (fun _ => hd 11 (by kernel_rfl)), (fun _ => rfl), (fun _ => hd 5 (by kernel_rfl)), hv4, (fun h => absurd (hd 11 (by kernel_rfl)) (by rw [show L 11 = false from h]; decide)), f0, f1, f2, f3, f4, f5, f6, f7, (fun _ h => absurd (hd 11 (by kernel_rfl)) (by rw [show L 11 = false from h]; decide)), f9, (fun _ h => absurd (hd 11 (by kernel_rfl)) (by rw [show L 11 = false from h]; decide)), (fun _ => ⟨a2, c2, rfl, hW.out.rtsP r11 _⟩), f12, f13, f14⟩
 case fin =>
  rintro L act W ⟨vX, x5, x6, x7, x8, x9, x10, x11, x12, x13, x14, x15, x16, x17, x18, x19, rfl, hW, hv0, hv1, hv2, hv3, hv4, hR, f0, f1, f2, f3, f4, f5, f6, f7, f8, f9, f10, f11, f12, f13, f14⟩ hall
  obtain ⟨a2, c2, e11, r11⟩ := f11 (hall 11 (by omega))
  have e15 := hv2 (hall 15 (by omega))
  rw [e11] at e15
  subst e15
  have HCk := hW
  have HRt := RteS.hid r11
  clear hv0 hv1 hv2 hv3 hv4 hR f0 f1 f2 f3 f4 f5 f6 f7 f8 f9 f10 f11 f12 f13 f14 hW r11 hall
  have HWG : Hid (Below wG.heap.size wG W) := HBG.out.trans (HCk.out.2.2.2.ahead hGO (by omega))
  obtain ⟨hgl, v, hlook, hcp, hst⟩ := book_look3 (HG1.out W HCk.out.2.2.2).1 (HG1.out W HCk.out.2.2.2).2.1 HAl.out (s := s) (by unfold maxLen; omega)
  have hcp0 := hcp
  obtain ⟨va, vc, rfl, hcv, hfv, hnv, -⟩ := hcp
  have HCp0 := RteS.hid hcp0
  clear hcp0
  have HSt := RteS.hid hst
  have HVt : Hid ((tx (told al s)).size ≤ maxLen) := by
   show _ ≤ _
   rcases ValM.kinds (EvlI.told_right HAl.out s) with ⟨_, _, _, h⟩ | ⟨_, _, _, _, h⟩ | ⟨_, _, _, _, h⟩ | ⟨_, _, _, h⟩ | ⟨_, _, _, _, h⟩ <;> (unfold maxLen; omega)
  have HCv := RteS.hid hcv
  have HLk := RteS.hid hlook
  obtain ⟨q, hq⟩ : ∃ q, Hid (told al s = q) := ⟨_, rfl⟩
  rw [hq.out] at hlook HLk HCv HSt HVt HCp0
  obtain ⟨qs, vk, vn, zs, vt⟩ := q
  dsimp only [kd, nu, cd, tx] at hlook HLk HCv HSt HVt HCp0
  have HCp0' : Hid (Cpy W F (s, vk, vn, zs, vt) (av vk vn va zs.length vc vt)) := HCp0.out
  clear HCp0
  have HCp0 := HCp0'
  clear HCp0'
  have hl0 := hlook W.drew rfl
  have hl1 := hlook (W.alloc (.cells #[.int .i64 0, .int .i64 0, .slice none 0 0, .string ⟨#[]⟩] 59)).drew (Below.heap_alloc _ _ _ hgl)
  obtain ⟨⟨y0, y1, y2, y3, y4, y5, y6⟩, yf, yl⟩ := HCk.out.2.1.cells
  obtain ⟨z0, z1, z2, z3, z4, z5, z6, z7⟩ := HCk.out.2.2.1.cells
  have hxl : w.heap.size < W.heap.size := ItmW.blk_lt HCk.out.2.2.1
  clear hlook hst hcv hfv hnv
  dsimp only
  go_wp2_with fail
  go_region
  ·have hbv : Below W.heap.size W (W.alloc (.cells #[.int .i64 vk, .int .i64 vn, .slice va zs.length vc, .string vt] 59)).drew := ((Below.refl _ _).alloc (Nat.le_refl _) _).drew
   have HCk4 := RteS.hid (HCk.out.on hbv)
   have HRt4 := RteS.hid (HRt.out.on hbv)
   have HV4 : Hid ((W.alloc (.cells #[.int .i64 vk, .int .i64 vn, .slice va zs.length vc, .string vt] 59)).drew.heap[W.heap.size]? = some (.cells #[.int .i64 vk, .int .i64 vn, .slice va zs.length vc, .string vt] 59 (0, 0))) := heap_alloc_new W _
   have HCv4 := RteS.hid (HCv.out.on hbv)
   have HCp4 := RteS.hid (HCp0.out.on hbv)
   have HWG4 : Hid (Below wG.heap.size wG (W.alloc (.cells #[.int .i64 vk, .int .i64 vn, .slice va zs.length vc, .string vt] 59)).drew) := HWG.out.trans (hbv.mono HWG.out.size)
   have hgw : w.heap.size ≤ W.heap.size := HCk.out.2.2.2.1
   clear hbv hl0 hl1 y0 y1 y2 y3 y4 y5 y6 yf yl z0 z1 z2 z3 z4 z5 z6 z7 HCk HRt HCv HWG hxl hgl HX HW1 HS1 HB1 HLk
   generalize (W.alloc (.cells #[.int .i64 vk, .int .i64 vn, .slice va zs.length vc, .string vt] 59)).drew = W4 at *
   generalize W.heap.size = gv at *
   obtain ⟨z0, z1, z2, z3, z4, z5, z6, z7⟩ := HCk4.out.2.2.1.cells
   have v0 : W4.cell? ⟨gv, 0, none⟩ = some (.int .i64 vk) := by simp [World.cell?, HV4.out]
   have v1 : W4.cell? ⟨gv, 1, none⟩ = some (.int .i64 vn) := by simp [World.cell?, HV4.out]
   have v2 : W4.cell? ⟨gv, 2, none⟩ = some (.slice va zs.length vc) := by simp [World.cell?, HV4.out]
   have v3 : W4.cell? ⟨gv, 3, none⟩ = some (.string vt) := by simp [World.cell?, HV4.out]
   obtain ⟨r, hr⟩ : ∃ r, Hid (FitW.fitsB (k, s, ty, lo, hi, t, ps, hd) vk vn zs vt = r) := ⟨_, rfl⟩
   go_wp2_with fail
   refine (FitW.impl_fits k s ty lo hi t a c ps hd vk vn va vc zs vt W4 (HP1.out.on HWG4.out) hcap (by unfold maxLen; omega) ht HCv4.out HVt.out (HE1.out.on HWG4.out)).mono ?_
   rintro e w5 ⟨rfl, hB5⟩
   rw [hr.out]
   have HCk5 := RteS.hid (HCk4.out.on hB5)
   have HV55 : Hid (w5.heap[gv]? = some (.cells #[.int .i64 vk, .int .i64 vn, .slice va zs.length vc, .string vt] 59 (0, 0))) := by show _ = _; rw [hB5.block gv (ItmW.blk_lt HV4.out)]; exact HV4.out
   have HCp5 := RteS.hid (HCp4.out.on hB5)
   have HRt5 := RteS.hid (HRt4.out.on hB5)
   clear hB5 HCk4 HRt4 z0 z1 z2 z3 z4 z5 z6 z7 v0 v1 v2 v3
   cases r
   ·obtain ⟨⟨y0, y1, y2, y3, y4, y5, y6⟩, yf, yl⟩ := HCk5.out.2.1.cells
    obtain ⟨z0, z1, z2, z3, z4, z5, z6, z7⟩ := HCk5.out.2.2.1.cells
    go_wp2_with fail
    refine (laid_row s w5.heap.size (w5.alloc (.cells #[.string s] 9)) (by simp) (by simp) (by omega)).mono ?_
    rintro e w6 ⟨rfl, hB6⟩
    have hb6 : Below w5.heap.size w5 w6 := ((Below.refl _ _).alloc (Nat.le_refl _) _).trans (hB6.mono (by simp))
    have HCk6 := RteS.hid (HCk5.out.on hb6)
    have HRt6 := RteS.hid (HRt5.out.on hb6)
    clear hB6 hb6 HCk5 HRt5 y0 y1 y2 y3 y4 y5 y6 yf yl z0 z1 z2 z3 z4 z5 z6 z7
    obtain ⟨⟨y0, y1, y2, y3, y4, y5, y6⟩, yf, yl⟩ := HCk6.out.2.1.cells
    go_wp2_with fail
    refine bodyPost_ret (v := .tuple #[]) (by simp [results, Tryz.results98, go_sem]) rfl ⟨rfl, ?_⟩
    have HK9 : Kp O b0 w (w6.setCell ⟨O, 5, none⟩ (.string s)) := HCk6.out.2.2.2.trans (Kp.set 5 _)
    unfold AskE
    dsimp only [inm]
    rw [hq.out]
    exact ⟨.slice a2 (P.length + 1) c2, HRt6.out.set hO ⟨_, _, _, HCk6.out.2.1, by decide⟩ 5 _, HBG.out.trans (HK9.ahead hGO (by omega)), HK9.1, fun b hb hne _ => HK9.2.1 b hb hne, fun b cs fz hne _ hc => HK9.2.2.2.2.2 b cs fz hne hc, .inl ⟨hr.out, HCk6.out.2.1.setC s, HK9⟩⟩
   ·have HN5 := RteS.hid (HKn.out w5 HCk5.out.2.2.2)
    have hOl := HCk5.out.2.1.cells.2.2
    have hxl : w.heap.size < w5.heap.size := ItmW.blk_lt HCk5.out.2.2.1
    have hws : w.heap.size ≤ w5.heap.size := HCk5.out.2.2.2.1
    have HV5 : Hid (w5.heap[gv]? = some (.cells #[.int .i64 vk, .int .i64 vn, .slice va zs.length vc, .string vt] 59 (0, 0))) := HV55.out
    have hvl : gv < w5.heap.size := ItmW.blk_lt HV5.out
    obtain ⟨-, y1, -⟩ := HCk5.out.2.1.cells.1
    obtain ⟨-, x1, -⟩ := HCk5.out.2.2.1.cells
    have hgB : gv ≠ Bk := by omega
    have hwB : w.heap.size ≠ Bk := by omega
    have hOB : O ≠ Bk := by omega
    have v0 : w5.cell? ⟨gv, 0, none⟩ = some (.int .i64 vk) := by simp [World.cell?, HV5.out]
    have v1 : w5.cell? ⟨gv, 1, none⟩ = some (.int .i64 vn) := by simp [World.cell?, HV5.out]
    have v2 : w5.cell? ⟨gv, 2, none⟩ = some (.slice va zs.length vc) := by simp [World.cell?, HV5.out]
    have v3 : w5.cell? ⟨gv, 3, none⟩ = some (.string vt) := by simp [World.cell?, HV5.out]
    have HM := RteS.hid (Mp.on HN5.out.1 (Below.refl _ _).drew)
    have HH := RteS.hid (HN5.out.2.1.on (Below.refl _ _).drew)
    have HApt := RteS.hid HN5.out.2.2
    have HCp : Hid (Cpy w5.drew F (s, vk, vn, zs, vt) (av vk vn va zs.length vc vt)) := HCp5.out.on (Below.refl _ _).drew
    have HSm : Hid (s.size ≤ maxLen) := by show _ ≤ _; unfold maxLen; omega
    have HKm : Hid (K.length < maxLen) := by show _ < _; unfold maxLen; omega
    have HAll : Hid (∀ w2, BkS w5 Bk w2 → BkS w5 Bk w2 ∧ w2.cell? ⟨O, 1, none⟩ = some (.map (some Bk)) ∧ w2.cell? ⟨w.heap.size, 1, none⟩ = some (.string s) ∧ w2.cell? ⟨gv, 0, none⟩ = some (.int .i64 vk) ∧ w2.cell? ⟨gv, 1, none⟩ = some (.int .i64 vn) ∧ w2.cell? ⟨gv, 2, none⟩ = some (.slice va zs.length vc) ∧ w2.cell? ⟨gv, 3, none⟩ = some (.string vt)) := fun w2 hS => by
     have hc : ∀ b j, b < w5.heap.size → b ≠ Bk → w2.cell? ⟨b, j, none⟩ = w5.cell? ⟨b, j, none⟩ := fun b j hb hn => World.cell?_of_block (w := w5) (hS.1.block b hb (fun e => hn (Option.some.inj e)))
     exact ⟨hS, by rw [hc _ _ hOl hOB]; exact y1, by rw [hc _ _ hxl hwB]; exact x1, by rw [hc _ _ hvl hgB]; exact v0, by rw [hc _ _ hvl hgB]; exact v1, by rw [hc _ _ hvl hgB]; exact v2, by rw [hc _ _ hvl hgB]; exact v3⟩
    have hS0 : BkS w5 Bk w5.drew := ⟨⟨rfl, rfl, rfl, Nat.le_refl _, fun _ _ _ => rfl⟩, by show _ ≤ w5.heap.size; omega⟩
    clear y1 x1 v0 v1 v2 v3
    go_upto_region 5 with fail
    refine wp_region_held_drew (S := (fun wx => BkS w5 Bk wx ∧ wx.cell? ⟨O, 1, none⟩ = some (.map (some Bk)) ∧ wx.cell? ⟨w.heap.size, 1, none⟩ = some (.string s) ∧ wx.cell? ⟨gv, 0, none⟩ = some (.int .i64 vk) ∧ wx.cell? ⟨gv, 1, none⟩ = some (.int .i64 vn) ∧ wx.cell? ⟨gv, 2, none⟩ = some (.slice va zs.length vc) ∧ wx.cell? ⟨gv, 3, none⟩ = some (.string vt))) (by kernel_rfl) ?_ (fun hHeld => ?_)
    ·(try dsimp only) <;> (first | exact HAll.out _ hSn | exact HAll.out _ hS0)
    refine tk 0 (some 39) rfl hHeld ?_; (try simp only [Act.put, pA, pB, pC]); refine tk 1 (some 40) rfl hHeld ?_; (try simp only [Act.put, pA, pB, pC]); refine tk 2 (some 41) rfl hHeld ?_; (try simp only [Act.put, pA, pB, pC]); refine tk 3 (some 42) rfl hHeld ?_; (try simp only [Act.put, pA, pB, pC]); refine tk 4 (some 43) rfl hHeld ?_; (try simp only [Act.put, pA, pB, pC]); refine tk 5 (some 44) rfl hHeld ?_; (try simp only [Act.put, pA, pB, pC]); refine tk 8 (some 47) rfl hHeld ?_; (try simp only [Act.put, pA, pB, pC])
    refine wpAnyH_ready (rs := [6]) (by kernel_rfl) (by simp) ?_
    refine AllReadyH.cons rfl (fun K hK => ?_) AllReadyH.nil
    go_simp
    have hSn := hHeld.1.on ((Below.refl _ _).alloc (Nat.le_refl _) (.cells #[.string s] 9))
    have HM2 := RteS.hid (Mp.on HM.out ((Below.refl _ _).alloc (Nat.le_refl _) (.cells #[.string s] 9)))
    have HH2 := RteS.hid (HH.out.on ((Below.refl _ _).alloc (Nat.le_refl _) (.cells #[.string s] 9)))
    have HCp2 := RteS.hid (HCp.out.on ((Below.refl _ _).alloc (Nat.le_refl _) (.cells #[.string s] 9)))
    clear HM HH HCp
    have HM := HM2
    have HH := HH2
    have HCp := HCp2
    clear HM2 HH2 HCp2
    have HSl := hHeld.1.one s
    refine hK.out _ _ ?_ (fun hHeld2 => ?_)
    ·(try dsimp only) <;> (first | exact HAll.out _ hSn | exact HAll.out _ hS0)
    clear hK K hHeld
    have hHeld := hHeld2
    clear hHeld2
    (try simp only [Act.put, pA, pB, pC])
    refine wpAnyH_ready (rs := [7]) (by kernel_rfl) (by simp) ?_
    refine AllReadyH.cons rfl (fun K hK => ?_) AllReadyH.nil
    go_simp
    go_at_call 93
    have hp := hHeld.1
    refine (laid_at s _ _ HSl (by show _ ≤ _; omega)).mono ?_
    rintro e w7 ⟨rfl, hB⟩
    have HM2 := RteS.hid (Mp.on HM.out hB)
    have HH2 := RteS.hid (HH.out.on hB)
    have HCp2 := RteS.hid (HCp.out.on hB)
    clear HM HH HCp
    have HM := HM2
    have HH := HH2
    have HCp := HCp2
    clear HM2 HH2 HCp2
    have hSn := hp.on hB
    clear hp hB HSl
    (try go_wp2_with fail)
    refine hK.out _ _ ?_ (fun hHeld2 => ?_)
    ·(try dsimp only) <;> (first | exact HAll.out _ hSn | exact HAll.out _ hS0)
    clear hK K hHeld
    have hHeld := hHeld2
    clear hHeld2
    (try simp only [Act.put, pA, pB, pC])
    refine wpAnyH_ready (rs := [9]) (by kernel_rfl) (by simp) ?_
    refine AllReadyH.cons rfl (fun K hK => ?_) AllReadyH.nil
    obtain ⟨wm, hrun, hown, hgr⟩ := HM.out.update key_law Tryz.underlying93 HKm.out (key := .string s) (val := av vk vn va zs.length vc vt) (Go.WideMaps.keyOf_string_mk Tryz.underlying9 HSm.out) rfl
    go_simp
    have hSn := hHeld.1.grown hgr
    refine hK.out _ _ ?_ (fun hHeld2 => ?_)
    ·(try dsimp only) <;> (first | exact HAll.out _ hSn | exact HAll.out _ hS0)
    clear hK K hHeld
    have hHeld := hHeld2
    clear hHeld2
    (try simp only [Act.put, pA, pB, pC])
    refine wpAnyH_done (by kernel_rfl) ?_ _
    have hRp : rightA (putA K (ansAt al s)) = true := by
     refine HPut.out ?_
     rw [hq.out]
     exact hr.out
    have han : ansAt al s = (s, vk, vn, zs, vt) := by unfold ansAt; rw [hq.out]
    have h1 : Below wG.heap.size w w5 := HCk5.out.2.2.2.ahead hGO (by omega)
    have h1s := h1.size
    have h2 := h1.trans (c := wm) ⟨hHeld.1.1.os, hHeld.1.1.tape, hHeld.1.1.output, hHeld.1.1.size, fun k hk => hHeld.1.1.block k (by omega) (fun e => by have := Option.some.inj e; omega)⟩
    have hvn : ∀ b, BookW.Blk (av vk vn va zs.length vc vt) b → b ≠ Bk := fun b hb => HOff.out s.data.toList _ b (HSt.out b hb) hb
    have hnn := HSub.out.apart (HG1.out _ (Kp.refl O b0 w)).2.2.1 HH.out HNo.out HSt.out
    have hbn := BookN.put (p := ansAt al s) (v := av vk vn va zs.length vc vt) ⟨HM.out, HH.out, HApt.out.1, HApt.out.2⟩ HKr.out hRp hgr (by rw [han]; exact hown) (by rw [han]; exact HCp.out) hvn (by intro s' v' b hs' hb hb'; exact hnn s' v' b hs' hb hb')
    have hsd : SubD (D.put (.string s.data.toList) (.held (av vk vn va zs.length vc vt))) Dg := HSub.out.put HM.out.isMap HSt.out
    have HQ : Hid (AskE w wG O Bg Bk b0 F vB cur al K Dg P B (k, s, ty, lo, hi, t, ps, hd) wm) := by
     refine ⟨.slice a2 (P.length + 1) c2, RtS.off HRt5.out hHeld.1.1 (by omega), HBG.out.trans h2, h2.size, fun b hb hne hnk => (hHeld.1.1.block b (by omega) (fun e => hnk (Option.some.inj e))).trans (HCk5.out.2.2.2.2.1 b hb hne), fun b cs fz hne hnk hc => (hHeld.1.1.block b (Array.getElem?_eq_some_iff.1 ((HCk5.out.2.2.2.2.2.2.2.2 b cs fz hne hc).trans hc)).1 (fun e => hnk (Option.some.inj e))).trans (HCk5.out.2.2.2.2.2.2.2.2 b cs fz hne hc), .inr ⟨?_, HCk5.out.2.1.grown hHeld.1.1 (fun e => hOB (Option.some.inj e).symm), _, hbn, ?_⟩⟩
     ·dsimp only [inm]
      rw [hq.out]
      exact hr.out
     ·try dsimp only [inm]
      rw [show nm (ansAt al s) = s by rw [han]]
      exact hsd
    clear hHeld hS0 HH HM hown hgr hrun HAll HN5 HApt HCp hbn hsd hnn hvn h1 h2 hRp han
    go_wp2_with fail
    refine bodyPost_end (v := .tuple #[]) (by simp [results, Tryz.results98, go_sem]) rfl ⟨rfl, HQ.out⟩
  ·have hbv : Below W.heap.size W (W.alloc (.cells #[.int .i64 vk, .int .i64 vn, .slice va zs.length vc, .string vt] 59)).drew := ((Below.refl _ _).alloc (Nat.le_refl _) _).drew
   have HCk4 := RteS.hid (HCk.out.on hbv)
   have HRt4 := RteS.hid (HRt.out.on hbv)
   have HV4 : Hid ((W.alloc (.cells #[.int .i64 vk, .int .i64 vn, .slice va zs.length vc, .string vt] 59)).drew.heap[W.heap.size]? = some (.cells #[.int .i64 vk, .int .i64 vn, .slice va zs.length vc, .string vt] 59 (0, 0))) := heap_alloc_new W _
   have HCv4 := RteS.hid (HCv.out.on hbv)
   have HCp4 := RteS.hid (HCp0.out.on hbv)
   have HWG4 : Hid (Below wG.heap.size wG (W.alloc (.cells #[.int .i64 vk, .int .i64 vn, .slice va zs.length vc, .string vt] 59)).drew) := HWG.out.trans (hbv.mono HWG.out.size)
   have hgw : w.heap.size ≤ W.heap.size := HCk.out.2.2.2.1
   clear hbv hl0 hl1 y0 y1 y2 y3 y4 y5 y6 yf yl z0 z1 z2 z3 z4 z5 z6 z7 HCk HRt HCv HWG hxl hgl HX HW1 HS1 HB1 HLk
   generalize (W.alloc (.cells #[.int .i64 vk, .int .i64 vn, .slice va zs.length vc, .string vt] 59)).drew = W4 at *
   generalize W.heap.size = gv at *
   obtain ⟨z0, z1, z2, z3, z4, z5, z6, z7⟩ := HCk4.out.2.2.1.cells
   have v0 : W4.cell? ⟨gv, 0, none⟩ = some (.int .i64 vk) := by simp [World.cell?, HV4.out]
   have v1 : W4.cell? ⟨gv, 1, none⟩ = some (.int .i64 vn) := by simp [World.cell?, HV4.out]
   have v2 : W4.cell? ⟨gv, 2, none⟩ = some (.slice va zs.length vc) := by simp [World.cell?, HV4.out]
   have v3 : W4.cell? ⟨gv, 3, none⟩ = some (.string vt) := by simp [World.cell?, HV4.out]
   obtain ⟨r, hr⟩ : ∃ r, Hid (FitW.fitsB (k, s, ty, lo, hi, t, ps, hd) vk vn zs vt = r) := ⟨_, rfl⟩
   go_wp2_with fail
   refine (FitW.impl_fits k s ty lo hi t a c ps hd vk vn va vc zs vt W4 (HP1.out.on HWG4.out) hcap (by unfold maxLen; omega) ht HCv4.out HVt.out (HE1.out.on HWG4.out)).mono ?_
   rintro e w5 ⟨rfl, hB5⟩
   rw [hr.out]
   have HCk5 := RteS.hid (HCk4.out.on hB5)
   have HV55 : Hid (w5.heap[gv]? = some (.cells #[.int .i64 vk, .int .i64 vn, .slice va zs.length vc, .string vt] 59 (0, 0))) := by show _ = _; rw [hB5.block gv (ItmW.blk_lt HV4.out)]; exact HV4.out
   have HCp5 := RteS.hid (HCp4.out.on hB5)
   have HRt5 := RteS.hid (HRt4.out.on hB5)
   clear hB5 HCk4 HRt4 z0 z1 z2 z3 z4 z5 z6 z7 v0 v1 v2 v3
   cases r
   ·obtain ⟨⟨y0, y1, y2, y3, y4, y5, y6⟩, yf, yl⟩ := HCk5.out.2.1.cells
    obtain ⟨z0, z1, z2, z3, z4, z5, z6, z7⟩ := HCk5.out.2.2.1.cells
    go_wp2_with fail
    refine (laid_row s w5.heap.size (w5.alloc (.cells #[.string s] 9)) (by simp) (by simp) (by omega)).mono ?_
    rintro e w6 ⟨rfl, hB6⟩
    have hb6 : Below w5.heap.size w5 w6 := ((Below.refl _ _).alloc (Nat.le_refl _) _).trans (hB6.mono (by simp))
    have HCk6 := RteS.hid (HCk5.out.on hb6)
    have HRt6 := RteS.hid (HRt5.out.on hb6)
    clear hB6 hb6 HCk5 HRt5 y0 y1 y2 y3 y4 y5 y6 yf yl z0 z1 z2 z3 z4 z5 z6 z7
    obtain ⟨⟨y0, y1, y2, y3, y4, y5, y6⟩, yf, yl⟩ := HCk6.out.2.1.cells
    go_wp2_with fail
    refine bodyPost_ret (v := .tuple #[]) (by simp [results, Tryz.results98, go_sem]) rfl ⟨rfl, ?_⟩
    have HK9 : Kp O b0 w (w6.setCell ⟨O, 5, none⟩ (.string s)) := HCk6.out.2.2.2.trans (Kp.set 5 _)
    unfold AskE
    dsimp only [inm]
    rw [hq.out]
    exact ⟨.slice a2 (P.length + 1) c2, HRt6.out.set hO ⟨_, _, _, HCk6.out.2.1, by decide⟩ 5 _, HBG.out.trans (HK9.ahead hGO (by omega)), HK9.1, fun b hb hne _ => HK9.2.1 b hb hne, fun b cs fz hne _ hc => HK9.2.2.2.2.2 b cs fz hne hc, .inl ⟨hr.out, HCk6.out.2.1.setC s, HK9⟩⟩
   ·have HN5 := RteS.hid (HKn.out w5 HCk5.out.2.2.2)
    have hOl := HCk5.out.2.1.cells.2.2
    have hxl : w.heap.size < w5.heap.size := ItmW.blk_lt HCk5.out.2.2.1
    have hws : w.heap.size ≤ w5.heap.size := HCk5.out.2.2.2.1
    have HV5 : Hid (w5.heap[gv]? = some (.cells #[.int .i64 vk, .int .i64 vn, .slice va zs.length vc, .string vt] 59 (0, 0))) := HV55.out
    have hvl : gv < w5.heap.size := ItmW.blk_lt HV5.out
    obtain ⟨-, y1, -⟩ := HCk5.out.2.1.cells.1
    obtain ⟨-, x1, -⟩ := HCk5.out.2.2.1.cells
    have hgB : gv ≠ Bk := by omega
    have hwB : w.heap.size ≠ Bk := by omega
    have hOB : O ≠ Bk := by omega
    have v0 : w5.cell? ⟨gv, 0, none⟩ = some (.int .i64 vk) := by simp [World.cell?, HV5.out]
    have v1 : w5.cell? ⟨gv, 1, none⟩ = some (.int .i64 vn) := by simp [World.cell?, HV5.out]
    have v2 : w5.cell? ⟨gv, 2, none⟩ = some (.slice va zs.length vc) := by simp [World.cell?, HV5.out]
    have v3 : w5.cell? ⟨gv, 3, none⟩ = some (.string vt) := by simp [World.cell?, HV5.out]
    have HM := RteS.hid (Mp.on HN5.out.1 (Below.refl _ _).drew)
    have HH := RteS.hid (HN5.out.2.1.on (Below.refl _ _).drew)
    have HApt := RteS.hid HN5.out.2.2
    have HCp : Hid (Cpy w5.drew F (s, vk, vn, zs, vt) (av vk vn va zs.length vc vt)) := HCp5.out.on (Below.refl _ _).drew
    have HSm : Hid (s.size ≤ maxLen) := by show _ ≤ _; unfold maxLen; omega
    have HKm : Hid (K.length < maxLen) := by show _ < _; unfold maxLen; omega
    have HAll : Hid (∀ w2, BkS w5 Bk w2 → BkS w5 Bk w2 ∧ w2.cell? ⟨O, 1, none⟩ = some (.map (some Bk)) ∧ w2.cell? ⟨w.heap.size, 1, none⟩ = some (.string s) ∧ w2.cell? ⟨gv, 0, none⟩ = some (.int .i64 vk) ∧ w2.cell? ⟨gv, 1, none⟩ = some (.int .i64 vn) ∧ w2.cell? ⟨gv, 2, none⟩ = some (.slice va zs.length vc) ∧ w2.cell? ⟨gv, 3, none⟩ = some (.string vt)) := fun w2 hS => by
     have hc : ∀ b j, b < w5.heap.size → b ≠ Bk → w2.cell? ⟨b, j, none⟩ = w5.cell? ⟨b, j, none⟩ := fun b j hb hn => World.cell?_of_block (w := w5) (hS.1.block b hb (fun e => hn (Option.some.inj e)))
     exact ⟨hS, by rw [hc _ _ hOl hOB]; exact y1, by rw [hc _ _ hxl hwB]; exact x1, by rw [hc _ _ hvl hgB]; exact v0, by rw [hc _ _ hvl hgB]; exact v1, by rw [hc _ _ hvl hgB]; exact v2, by rw [hc _ _ hvl hgB]; exact v3⟩
    have hS0 : BkS w5 Bk w5.drew := ⟨⟨rfl, rfl, rfl, Nat.le_refl _, fun _ _ _ => rfl⟩, by show _ ≤ w5.heap.size; omega⟩
    clear y1 x1 v0 v1 v2 v3
    go_upto_region 5 with fail
    refine wp_region_held_drew (S := (fun wx => BkS w5 Bk wx ∧ wx.cell? ⟨O, 1, none⟩ = some (.map (some Bk)) ∧ wx.cell? ⟨w.heap.size, 1, none⟩ = some (.string s) ∧ wx.cell? ⟨gv, 0, none⟩ = some (.int .i64 vk) ∧ wx.cell? ⟨gv, 1, none⟩ = some (.int .i64 vn) ∧ wx.cell? ⟨gv, 2, none⟩ = some (.slice va zs.length vc) ∧ wx.cell? ⟨gv, 3, none⟩ = some (.string vt))) (by kernel_rfl) ?_ (fun hHeld => ?_)
    ·(try dsimp only) <;> (first | exact HAll.out _ hSn | exact HAll.out _ hS0)
    refine tk 0 (some 39) rfl hHeld ?_; (try simp only [Act.put, pA, pB, pC]); refine tk 1 (some 40) rfl hHeld ?_; (try simp only [Act.put, pA, pB, pC]); refine tk 2 (some 41) rfl hHeld ?_; (try simp only [Act.put, pA, pB, pC]); refine tk 3 (some 42) rfl hHeld ?_; (try simp only [Act.put, pA, pB, pC]); refine tk 4 (some 43) rfl hHeld ?_; (try simp only [Act.put, pA, pB, pC]); refine tk 5 (some 44) rfl hHeld ?_; (try simp only [Act.put, pA, pB, pC]); refine tk 8 (some 47) rfl hHeld ?_; (try simp only [Act.put, pA, pB, pC])
    refine wpAnyH_ready (rs := [6]) (by kernel_rfl) (by simp) ?_
    refine AllReadyH.cons rfl (fun K hK => ?_) AllReadyH.nil
    go_simp
    have hSn := hHeld.1.on ((Below.refl _ _).alloc (Nat.le_refl _) (.cells #[.string s] 9))
    have HM2 := RteS.hid (Mp.on HM.out ((Below.refl _ _).alloc (Nat.le_refl _) (.cells #[.string s] 9)))
    have HH2 := RteS.hid (HH.out.on ((Below.refl _ _).alloc (Nat.le_refl _) (.cells #[.string s] 9)))
    have HCp2 := RteS.hid (HCp.out.on ((Below.refl _ _).alloc (Nat.le_refl _) (.cells #[.string s] 9)))
    clear HM HH HCp
    have HM := HM2
    have HH := HH2
    have HCp := HCp2
    clear HM2 HH2 HCp2
    have HSl := hHeld.1.one s
    refine hK.out _ _ ?_ (fun hHeld2 => ?_)
    ·(try dsimp only) <;> (first | exact HAll.out _ hSn | exact HAll.out _ hS0)
    clear hK K hHeld
    have hHeld := hHeld2
    clear hHeld2
    (try simp only [Act.put, pA, pB, pC])
    refine wpAnyH_ready (rs := [7]) (by kernel_rfl) (by simp) ?_
    refine AllReadyH.cons rfl (fun K hK => ?_) AllReadyH.nil
    go_simp
    go_at_call 93
    have hp := hHeld.1
    refine (laid_at s _ _ HSl (by show _ ≤ _; omega)).mono ?_
    rintro e w7 ⟨rfl, hB⟩
    have HM2 := RteS.hid (Mp.on HM.out hB)
    have HH2 := RteS.hid (HH.out.on hB)
    have HCp2 := RteS.hid (HCp.out.on hB)
    clear HM HH HCp
    have HM := HM2
    have HH := HH2
    have HCp := HCp2
    clear HM2 HH2 HCp2
    have hSn := hp.on hB
    clear hp hB HSl
    (try go_wp2_with fail)
    refine hK.out _ _ ?_ (fun hHeld2 => ?_)
    ·(try dsimp only) <;> (first | exact HAll.out _ hSn | exact HAll.out _ hS0)
    clear hK K hHeld
    have hHeld := hHeld2
    clear hHeld2
    (try simp only [Act.put, pA, pB, pC])
    refine wpAnyH_ready (rs := [9]) (by kernel_rfl) (by simp) ?_
    refine AllReadyH.cons rfl (fun K hK => ?_) AllReadyH.nil
    obtain ⟨wm, hrun, hown, hgr⟩ := HM.out.update key_law Tryz.underlying93 HKm.out (key := .string s) (val := av vk vn va zs.length vc vt) (Go.WideMaps.keyOf_string_mk Tryz.underlying9 HSm.out) rfl
    go_simp
    have hSn := hHeld.1.grown hgr
    refine hK.out _ _ ?_ (fun hHeld2 => ?_)
    ·(try dsimp only) <;> (first | exact HAll.out _ hSn | exact HAll.out _ hS0)
    clear hK K hHeld
    have hHeld := hHeld2
    clear hHeld2
    (try simp only [Act.put, pA, pB, pC])
    refine wpAnyH_done (by kernel_rfl) ?_ _
    have hRp : rightA (putA K (ansAt al s)) = true := by
     refine HPut.out ?_
     rw [hq.out]
     exact hr.out
    have han : ansAt al s = (s, vk, vn, zs, vt) := by unfold ansAt; rw [hq.out]
    have h1 : Below wG.heap.size w w5 := HCk5.out.2.2.2.ahead hGO (by omega)
    have h1s := h1.size
    have h2 := h1.trans (c := wm) ⟨hHeld.1.1.os, hHeld.1.1.tape, hHeld.1.1.output, hHeld.1.1.size, fun k hk => hHeld.1.1.block k (by omega) (fun e => by have := Option.some.inj e; omega)⟩
    have hvn : ∀ b, BookW.Blk (av vk vn va zs.length vc vt) b → b ≠ Bk := fun b hb => HOff.out s.data.toList _ b (HSt.out b hb) hb
    have hnn := HSub.out.apart (HG1.out _ (Kp.refl O b0 w)).2.2.1 HH.out HNo.out HSt.out
    have hbn := BookN.put (p := ansAt al s) (v := av vk vn va zs.length vc vt) ⟨HM.out, HH.out, HApt.out.1, HApt.out.2⟩ HKr.out hRp hgr (by rw [han]; exact hown) (by rw [han]; exact HCp.out) hvn (by intro s' v' b hs' hb hb'; exact hnn s' v' b hs' hb hb')
    have hsd : SubD (D.put (.string s.data.toList) (.held (av vk vn va zs.length vc vt))) Dg := HSub.out.put HM.out.isMap HSt.out
    have HQ : Hid (AskE w wG O Bg Bk b0 F vB cur al K Dg P B (k, s, ty, lo, hi, t, ps, hd) wm) := by
     refine ⟨.slice a2 (P.length + 1) c2, RtS.off HRt5.out hHeld.1.1 (by omega), HBG.out.trans h2, h2.size, fun b hb hne hnk => (hHeld.1.1.block b (by omega) (fun e => hnk (Option.some.inj e))).trans (HCk5.out.2.2.2.2.1 b hb hne), fun b cs fz hne hnk hc => (hHeld.1.1.block b (Array.getElem?_eq_some_iff.1 ((HCk5.out.2.2.2.2.2.2.2.2 b cs fz hne hc).trans hc)).1 (fun e => hnk (Option.some.inj e))).trans (HCk5.out.2.2.2.2.2.2.2.2 b cs fz hne hc), .inr ⟨?_, HCk5.out.2.1.grown hHeld.1.1 (fun e => hOB (Option.some.inj e).symm), _, hbn, ?_⟩⟩
     ·dsimp only [inm]
      rw [hq.out]
      exact hr.out
     ·try dsimp only [inm]
      rw [show nm (ansAt al s) = s by rw [han]]
      exact hsd
    clear hHeld hS0 HH HM hown hgr hrun HAll HN5 HApt HCp hbn hsd hnn hvn h1 h2 hRp han
    go_wp2_with fail
    refine bodyPost_end (v := .tuple #[]) (by simp [results, Tryz.results98, go_sem]) rfl ⟨rfl, HQ.out⟩
 -- end
open Go.RowKit Go.Maps
open PrtW PrtM ItmW ItmM FrmM EvlM EvlS ValW NameW RteM RteS BookW PrtI
open AnsW (An an0 nm kd nu cd tx told putA rightA good)
theorem cpy_same {w w' : World} {F : Nat} {p : An} {v : Value} (h : Cpy w F p v) (hs : w.heap.size ≤ w'.heap.size) (hn : ∀ b, BookW.Blk v b → w'.heap[b]? = w.heap[b]?) : Cpy w' F p v := by
 obtain ⟨a, cap, rfl, h2, h3, h4, h5⟩ := h
 refine ⟨a, cap, rfl, ⟨h2.1, fun hp => ?_⟩, fun b o ha i hi => ?_, h4, h5⟩
 ·obtain ⟨b, o, ha, hb, hc⟩ := h2.2 hp
  have hne := hn b ⟨_, _, o, _, _, _, by rw [ha], hp⟩
  exact ⟨b, o, ha, Nat.lt_of_lt_of_le hb hs, fun i hi => by rw [World.cell?_of_block (w := w) hne]; exact hc i hi⟩
 ·obtain ⟨hb, hf⟩ := h3 b o ha i hi
  have hne := hn b ⟨_, _, o, _, _, _, by rw [ha], by omega⟩
  exact ⟨Nat.lt_of_lt_of_le hb hs, by rw [World.frozen?_of_block (w := w) hne]; exact hf⟩
theorem blk_low {w : World} {F : Nat} {D : DataW Value} {al : List An} {s : List UInt8} {v : Value} {b : Nat} (h : Holds w F D al al.length) (hv : ∀ z, D.atKey (.string s) z = .held v) (hb : BookW.Blk v b) : b < w.heap.size := by
 obtain ⟨h1, h2⟩ := holds_mem h
 by_cases hm : s ∈ namesA al
 ·obtain ⟨q, hq, rfl⟩ := List.mem_map.1 hm
  obtain ⟨u, hu, hat⟩ := h1 q hq
  have e := held_inj hv hat
  subst e
  obtain ⟨a, cap, rfl, hc, -⟩ := hu
  obtain ⟨k', n', o, l', c', t', hv', hl⟩ := hb
  simp only [av, Value.agg.injEq, Array.mk.injEq, List.cons.injEq, Value.slice.injEq] at hv'
  obtain ⟨b', o', ha, hb', -⟩ := hc.2 (by omega)
  rw [ha] at hv'
  have e2 : b' = b := by simp_all
  exact e2 ▸ hb'
 ·have := (hv (.map [])).symm.trans (h2 s hm (.map []))
  cases this
theorem book_same {w w' : World} {F B : Nat} {K : List An} {D : DataW Value} (h : BookN w F B K D) (hs : w.heap.size ≤ w'.heap.size) (hB : w'.heap[B]? = w.heap[B]?) (hn : ∀ (s : List UInt8) (v : Value) (b : Nat), (∀ z, D.atKey (.string s) z = .held v) → BookW.Blk v b → w'.heap[b]? = w.heap[b]?) : BookN w' F B K D := by
 refine ⟨?_, ⟨fun i hi => ?_, h.2.1.2⟩, h.2.2⟩
 ·obtain ⟨es, clock, hb, F, hs, hD⟩ := h.1
  exact ⟨es, clock, by rw [hB]; exact hb, F, hs, hD⟩
 ·obtain ⟨v, hv, hat⟩ := h.2.1.1 i hi
  exact ⟨v, cpy_same hv hs (fun b hb => hn _ v b hat hb), hat⟩
def KG (wB : World) (O Bk : Nat) (W : World) : Prop := wB.heap.size ≤ W.heap.size ∧ ∀ b, b < wB.heap.size → b ≠ O → b ≠ Bk → W.heap[b]? = wB.heap[b]?
theorem KG.refl (wB : World) (O Bk : Nat) : KG wB O Bk wB := ⟨Nat.le_refl _, fun _ _ _ _ => rfl⟩
theorem KG.on {wB W W' : World} {O Bk : Nat} (h : KG wB O Bk W) (hB : Below W.heap.size W W') : KG wB O Bk W' := ⟨Nat.le_trans h.1 hB.size, fun b hb h1 h2 => (hB.block b (Nat.lt_of_lt_of_le hb h.1)).trans (h.2 b hb h1 h2)⟩
theorem KG.step {wB W W' : World} {O Bk b0 : Nat} (h : KG wB O Bk W) (hs : W.heap.size ≤ W'.heap.size) (hb0 : wB.heap.size ≤ b0) (hk : ∀ b, b < b0 → b ≠ O → b ≠ Bk → W'.heap[b]? = W.heap[b]?) : KG wB O Bk W' := ⟨Nat.le_trans h.1 hs, fun b hb h1 h2 => (hk b (by omega) h1 h2).trans (h.2 b hb h1 h2)⟩
structure GvB (wB : World) (O Bg Bk F : Nat) (al : List An) (Dg : DataW Value) : Prop where
 book : BookN wB F Bg al Dg
 off : OffB Dg Bk
 offO : OffB Dg O
 neO : Bg ≠ O
 neK : Bg ≠ Bk
theorem GvB.at {wB W : World} {O Bg Bk F : Nat} {al : List An} {Dg : DataW Value} (h : GvB wB O Bg Bk F al Dg) (hK : KG wB O Bk W) : BookN W F Bg al Dg :=
 book_same h.book hK.1 (hK.2 Bg h.book.1.lt h.neO h.neK) (fun s v b hat hb => hK.2 b (blk_low h.book.2.1 hat hb) (h.offO s v b hat hb) (h.off s v b hat hb))
theorem BookN.far {wB w w' : World} {O Bg Bk F B : Nat} {K al : List An} {D Dg : DataW Value} (h : BookN w F B K D) (hSub : SubD D Dg) (hG : GvB wB O Bg Bk F al Dg) (h1 : KG wB O Bk w) (h2 : KG wB O Bk w') (hs : w.heap.size ≤ w'.heap.size) (hB : w'.heap[B]? = w.heap[B]?) : BookN w' F B K D :=
 book_same h hs hB (fun s v b hat hb => by
  have hat2 := hSub s v b hat hb
  have hl := blk_low hG.book.2.1 hat2 hb
  rw [h2.2 b hl (hG.offO s v b hat2 hb) (hG.off s v b hat2 hb), h1.2 b hl (hG.offO s v b hat2 hb) (hG.off s v b hat2 hb)])
def StW (wG wB : World) (O Bg Bk b0 F : Nat) (Dg : DataW Value) (cur : ByteArray) (s : St) (W : World) : Prop :=
 Below wG.heap.size wG W ∧ KG wB O Bk W ∧ b0 ≤ W.heap.size ∧ ∃ vP vB D, WkB W O Bg Bk vP vB cur ∧ RtS W b0 vP (.slice none 0 0) vB s.1 [] s.2.2 ∧ BookN W F Bk s.2.1 D ∧ SubD D Dg
theorem StW.on {wG wB : World} {O Bg Bk b0 F : Nat} {Dg : DataW Value} {cur : ByteArray} {s : St} {W W' : World} (h : StW wG wB O Bg Bk b0 F Dg cur s W) (hB : Below W.heap.size W W') : StW wG wB O Bg Bk b0 F Dg cur s W' := by
 obtain ⟨h1, h0, h2, vP, vB, D, h3, h4, h5, h6⟩ := h
 exact ⟨h1.trans (hB.mono h1.size), h0.on hB, Nat.le_trans h2 hB.size, vP, vB, D, h3.on hB, h4.on hB, h5.on hB, h6⟩
def stepS (al : List An) (q : It) (s : St) : St :=
 if ik q = 1 then (if fitsQ al q = true then (s.1 ++ [inm q], putA s.2.1 (ansAt al (inm q)), s.2.2) else (s.1 ++ [inm q], s.2.1, s.2.2))
 else if ik q = 5 then (s.1, s.2.1, if ev s.2.1 6 (iex q) = (2, 0) then s.2.2 ++ [inm q] else s.2.2)
 else if ik q = 6 then (s.1, compK s.2.1 q, s.2.2) else s
def stepC (al : List An) (q : It) : ByteArray := if ik q = 1 ∧ fitsQ al q = false then inm q else ByteArray.empty
theorem fits_q {al : List An} {q : It} (hk : ik q = 1) (hi : itemB q = true) (hal : rightA al = true) : FitW.fitsB q (kd (told al (inm q))) (nu (told al (inm q))) (cd (told al (inm q))) (tx (told al (inm q))) = fitsQ al q := by
 unfold FitW.fitsB
 rw [hk, hi, EvlI.told_right hal (inm q)]
 rfl
set_option maxRecDepth 10000 in
set_option maxHeartbeats 3200000 in
theorem impl_step {b0 F : Nat} (O Bg Bk : Nat) (al K : List An) (Dg : DataW Value) (P B : List ByteArray) (k : Int) (s : ByteArray) (ty lo hi : Int) (t : ByteArray) (a : Option Addr) (ps : List Pt) (c : Nat) (hd : Bool) (w : World) (wG wB : World) (hGk : wG.heap.size ≤ Bk) (hGO : wG.heap.size ≤ O) (hOB : O ≠ Bk) (hBk : Bk < b0) (hO : O < b0) (hb1 : wB.heap.size ≤ b0) (h : StW wG wB O Bg Bk b0 F Dg ByteArray.empty (P, K, B) w)
  (hn : k = 1 ∨ k = 5 ∨ k = 6 → nameB s = true) (hr : k = 5 ∨ k = 6 → rightB ps = true) (hi1 : k = 1 → itemB (k, s, ty, lo, hi, t, ps, hd) = true) (ht : t.size ≤ maxLen) (hlP : P.length ≤ 1000) (hlB : B.length ≤ 1000) (hlK : K.length < 30) (hK : rightA K = true) (hno : k = 1 → ∀ i, i < K.length → nm (K.getD i an0) ≠ s) (hP : Parts wG a ps) (hcap : ps.length ≤ c) (hE : ItmI.EnvI wG) (hG : GvB wB O Bg Bk F al Dg) (hal : rightA al = true) :
  Calls Tryz.prog 68 #[.pointer (some ⟨O, 0, none⟩), .agg #[.int .i64 k, .string s, .int .i64 ty, .int .i64 lo, .int .i64 hi, .string t, .slice a ps.length c, .bool hd]] w fun e w' => e = .returned (.tuple #[]) ∧ w.heap.size ≤ w'.heap.size ∧ (∀ b, b < b0 → b ≠ O → b ≠ Bk → w'.heap[b]? = w.heap[b]?) ∧ (∀ b cs fz, b ≠ O → b ≠ Bk → w.heap[b]? = some (.cells cs 57 fz) → w'.heap[b]? = w.heap[b]?) ∧ StW wG wB O Bg Bk b0 F Dg (stepC al (k, s, ty, lo, hi, t, ps, hd)) (stepS al (k, s, ty, lo, hi, t, ps, hd) (P, K, B)) w' := by
 have hbx := item_box w k s ty lo hi t a ps.length c hd
 have HX : Hid (ItB (w.alloc (.cells #[.int .i64 k, .string s, .int .i64 ty, .int .i64 lo, .int .i64 hi, .string t, .slice a ps.length c, .bool hd] 57)) w.heap.size k s ty lo hi t a ps.length c hd) := heap_alloc_new w _
 have hb0w : b0 ≤ w.heap.size := h.2.2.1
 have HS1 := RteS.hid (h.on hbx)
 have HB1 := RteS.hid hbx
 have HN := RteS.hid hn
 have HR := RteS.hid hr
 have HI := RteS.hid hi1
 have HP := RteS.hid hP
 have HE := RteS.hid hE
 have HG := RteS.hid hG
 have HNo := RteS.hid hno
 have HAl := RteS.hid hal
 have HK := RteS.hid hK
 clear h hbx hn hr hi1 hP hE hG hno hal hK
 go_enter Tryz.func68, Tryz.ntmps68
 go_upto_region 1 with fail
 generalize w.alloc (.cells #[.int .i64 k, .string s, .int .i64 ty, .int .i64 lo, .int .i64 hi, .string t, .slice a ps.length c, .bool hd] 57) = W at *
 have hws : w.heap.size ≤ W.heap.size := HB1.out.size
 obtain ⟨z0, z1, z2, z3, z4, z5, z6, z7⟩ := HX.out.cells
 have hxl : w.heap.size < W.heap.size := ItmW.blk_lt HX.out
 obtain ⟨hBG, hKG, hbW, vP, vB, D, hWk, hRt, hBn, hSub⟩ := HS1.out
 have HKG := RteS.hid hKG
 have HBn := RteS.hid hBn
 have HSub := RteS.hid hSub
 have HBG := RteS.hid hBG
 have HWk := RteS.hid hWk
 have HRt := RteS.hid hRt
 clear hBn hSub hBG hKG hWk hRt
 by_cases hk1 : k = 1
 ·subst hk1
  have HN1 := RteS.hid (HN.out (.inl rfl))
  have HI1 := RteS.hid (HI.out rfl)
  have HNo1 := RteS.hid (HNo.out rfl)
  clear HN HI HNo HR
  go_wp2_with fail
  refine (impl_ask (b0 := b0) (F := F) O Bg Bk vP vB ByteArray.empty al K Dg D P B 1 s ty lo hi t a ps c hd W wG HBG.out hGO hO hbW HWk.out HRt.out HN1.out ht hlP hOB hBk hGk ?_ ?_ HSub.out HG.out.off HNo1.out HK.out hlK HP.out hcap HE.out ?_ HAl.out).mono ?_
  ·intro hf
   have hq : fitsQ al (1, s, ty, lo, hi, t, ps, hd) = true := (fits_q (al := al) (q := (1, s, ty, lo, hi, t, ps, hd)) rfl HI1.out HAl.out).symm.trans hf
   exact (put_known HK.out hlK (ans_good HAl.out hq)).1
  ·intro W' hkp
   exact BookN.far HBn.out HSub.out HG.out HKG.out (HKG.out.step hkp.1 hb1 (fun b hb h1 _ => hkp.2.1 b hb h1)) hkp.1 (hkp.2.1 Bk (by omega) (by omega))
  ·intro W' hkp
   exact HG.out.at (HKG.out.step hkp.1 hb1 (fun b hb h1 _ => hkp.2.1 b hb h1))
  ·rintro e w2 ⟨rfl, vP', hR2, hB2, hs2, hkb, hki, hA⟩
   have hq := fits_q (al := al) (q := (1, s, ty, lo, hi, t, ps, hd)) rfl HI1.out HAl.out
   have HQ : Hid (w.heap.size ≤ w2.heap.size ∧ (∀ b, b < b0 → b ≠ O → b ≠ Bk → w2.heap[b]? = w.heap[b]?) ∧ (∀ b cs fz, b ≠ O → b ≠ Bk → w.heap[b]? = some (.cells cs 57 fz) → w2.heap[b]? = w.heap[b]?) ∧ StW wG wB O Bg Bk b0 F Dg (stepC al (1, s, ty, lo, hi, t, ps, hd)) (stepS al (1, s, ty, lo, hi, t, ps, hd) (P, K, B)) w2) := by
    refine ⟨by omega, fun b hb h1 h2 => (hkb b hb h1 h2).trans (HB1.out.block b (by omega)), fun b cs fz h1 h2 hc => (hki b cs fz h1 h2 ((HB1.out.block b (Array.getElem?_eq_some_iff.1 hc).1).trans hc)).trans (HB1.out.block b (Array.getElem?_eq_some_iff.1 hc).1), ?_⟩
    have hK2 := HKG.out.step hs2 hb1 hkb
    rcases hA with ⟨hf, hW2, hkp⟩ | ⟨hf, hW2, D', hb, hd'⟩
    ·rw [hq] at hf
     rw [show stepC al (1, s, ty, lo, hi, t, ps, hd) = s from if_pos ⟨rfl, hf⟩, show stepS al (1, s, ty, lo, hi, t, ps, hd) (P, K, B) = (P ++ [s], K, B) from (if_pos rfl).trans (if_neg (by rw [hf]; decide))]
     exact ⟨hB2, hK2, by omega, vP', vB, D, hW2, hR2, BookN.far HBn.out HSub.out HG.out HKG.out hK2 hs2 (hkp.2.1 Bk (by omega) (by omega)), HSub.out⟩
    ·rw [hq] at hf
     rw [show stepC al (1, s, ty, lo, hi, t, ps, hd) = ByteArray.empty from if_neg (fun h => by rw [hf] at h; exact absurd h.2 (by decide)), show stepS al (1, s, ty, lo, hi, t, ps, hd) (P, K, B) = (P ++ [s], putA K (ansAt al s), B) from (if_pos rfl).trans (if_pos hf)]
     exact ⟨hB2, hK2, by omega, vP', vB, D', hW2, hR2, hb, hd'⟩
   clear hR2 hA hq
   go_wp2_with fail
   refine bodyPost_end (v := .tuple #[]) (by simp [results, Tryz.results68, go_sem]) rfl ⟨rfl, HQ.out⟩
 ·by_cases hk5 : k = 5
  ·subst hk5
   have HN1 := RteS.hid (of_decide_eq_true (HN.out (.inr (.inl rfl)))).2.1
   have HR1 := RteS.hid (HR.out (.inl rfl))
   clear HN HI HNo HR
   go_wp2_with fail
   refine (impl_check (F := F) O Bg Bk vP vB ByteArray.empty K P B 5 s ty lo hi t a ps c hd W hO hbW HWk.out HRt.out (HP.out.on HBG.out) hcap HR1.out (HE.out.1.on HBG.out) (BookN.f HBn.out) HK.out HN1.out hlB).mono ?_
   rintro e w2 ⟨rfl, hkp, vB', hW2, hR2⟩
   have HQ : Hid (w.heap.size ≤ w2.heap.size ∧ (∀ b, b < b0 → b ≠ O → b ≠ Bk → w2.heap[b]? = w.heap[b]?) ∧ (∀ b cs fz, b ≠ O → b ≠ Bk → w.heap[b]? = some (.cells cs 57 fz) → w2.heap[b]? = w.heap[b]?) ∧ StW wG wB O Bg Bk b0 F Dg (stepC al (5, s, ty, lo, hi, t, ps, hd)) (stepS al (5, s, ty, lo, hi, t, ps, hd) (P, K, B)) w2) := by
    have hs2 := hkp.1
    have hB2 := HBG.out.trans (hkp.ahead (S := wG.heap.size) (by omega) (by omega))
    refine ⟨by omega, fun b hb h1 h2 => (hkp.2.1 b hb h1).trans (HB1.out.block b (by omega)), fun b cs fz h1 h2 hc => (hkp.2.2.2.2.2 b cs fz h1 ((HB1.out.block b (Array.getElem?_eq_some_iff.1 hc).1).trans hc)).trans (HB1.out.block b (Array.getElem?_eq_some_iff.1 hc).1), ?_⟩
    rw [show stepC al (5, s, ty, lo, hi, t, ps, hd) = ByteArray.empty from if_neg (fun h => absurd (show (5 : Int) = 1 from h.1) (by decide)), show stepS al (5, s, ty, lo, hi, t, ps, hd) (P, K, B) = (P, K, if ev K 6 ps = (2, 0) then B ++ [s] else B) from (if_neg (show ¬ (5 : Int) = 1 by decide)).trans (if_pos rfl)]
    exact ⟨hB2, HKG.out.step hs2 hb1 (fun b hb h1 _ => hkp.2.1 b hb h1), by omega, vP, vB', D, hW2, hR2, BookN.far HBn.out HSub.out HG.out HKG.out (HKG.out.step hs2 hb1 (fun b hb h1 _ => hkp.2.1 b hb h1)) hs2 (hkp.2.1 Bk (by omega) (by omega)), HSub.out⟩
   clear hR2 hkp hW2
   go_wp2_with fail
   refine bodyPost_end (v := .tuple #[]) (by simp [results, Tryz.results68, go_sem]) rfl ⟨rfl, HQ.out⟩
  ·by_cases hk6 : k = 6
   ·subst hk6
    have HN1 := RteS.hid (HN.out (.inr (.inr rfl)))
    have HR1 := RteS.hid (HR.out (.inr rfl))
    clear HN HI HNo HR
    go_wp2_with fail
    refine (impl_compute O Bg Bk vP vB ByteArray.empty K D 6 s ty lo hi t a ps c hd W (by omega) (by omega) HWk.out (HP.out.on HBG.out) hcap HR1.out (HE.out.1.on HBG.out) HBn.out HK.out hlK HN1.out).mono ?_
    rintro e w2 ⟨rfl, hg, D', hb, hd'⟩
    have HQ : Hid (w.heap.size ≤ w2.heap.size ∧ (∀ b, b < b0 → b ≠ O → b ≠ Bk → w2.heap[b]? = w.heap[b]?) ∧ (∀ b cs fz, b ≠ O → b ≠ Bk → w.heap[b]? = some (.cells cs 57 fz) → w2.heap[b]? = w.heap[b]?) ∧ StW wG wB O Bg Bk b0 F Dg (stepC al (6, s, ty, lo, hi, t, ps, hd)) (stepS al (6, s, ty, lo, hi, t, ps, hd) (P, K, B)) w2) := by
     have hs2 := hg.size
     refine ⟨by omega, fun b hb h1 h2 => (hg.block b (by omega) (fun e => h2 (Option.some.inj e))).trans (HB1.out.block b (by omega)), fun b cs fz h1 h2 hc => (hg.block b (Nat.lt_of_lt_of_le (Array.getElem?_eq_some_iff.1 hc).1 hws) (fun e => h2 (Option.some.inj e))).trans (HB1.out.block b (Array.getElem?_eq_some_iff.1 hc).1), ?_⟩
     rw [show stepC al (6, s, ty, lo, hi, t, ps, hd) = ByteArray.empty from if_neg (fun h => absurd (show (6 : Int) = 1 from h.1) (by decide)), show stepS al (6, s, ty, lo, hi, t, ps, hd) (P, K, B) = (P, compK K (6, s, ty, lo, hi, t, ps, hd), B) from (if_neg (show ¬ (6 : Int) = 1 by decide)).trans ((if_neg (show ¬ (6 : Int) = 5 by decide)).trans (if_pos rfl))]
     exact ⟨HBG.out.trans ⟨hg.os, hg.tape, hg.output, hg.size, fun b hb => hg.block b (Nat.lt_of_lt_of_le hb HBG.out.size) (fun e => by have := Option.some.inj e; omega)⟩, HKG.out.step hs2 hb1 (fun b hb _ h2 => hg.block b (by omega) (fun e => h2 (Option.some.inj e))), by omega, vP, vB, D', HWk.out.grown hg (fun e => by have := Option.some.inj e; omega), RtS.off HRt.out hg (by omega), hb, hd' _ HSub.out⟩
    clear hg hb hd'
    go_wp2_with fail
    refine bodyPost_end (v := .tuple #[]) (by simp [results, Tryz.results68, go_sem]) rfl ⟨rfl, HQ.out⟩
   ·have HQ : Hid (w.heap.size ≤ W.heap.size ∧ (∀ b, b < b0 → b ≠ O → b ≠ Bk → W.heap[b]? = w.heap[b]?) ∧ (∀ b cs fz, b ≠ O → b ≠ Bk → w.heap[b]? = some (.cells cs 57 fz) → W.heap[b]? = w.heap[b]?) ∧ StW wG wB O Bg Bk b0 F Dg (stepC al (k, s, ty, lo, hi, t, ps, hd)) (stepS al (k, s, ty, lo, hi, t, ps, hd) (P, K, B)) W) := by
     refine ⟨hws, fun b hb h1 h2 => HB1.out.block b (by omega), fun b cs fz h1 h2 hc => HB1.out.block b (Array.getElem?_eq_some_iff.1 hc).1, ?_⟩
     rw [show stepC al (k, s, ty, lo, hi, t, ps, hd) = ByteArray.empty from if_neg (fun h => hk1 h.1), show stepS al (k, s, ty, lo, hi, t, ps, hd) (P, K, B) = (P, K, B) from (if_neg hk1).trans ((if_neg hk5).trans (if_neg hk6))]
     exact HS1.out
    have e1 : (k == 1) = false := by simp [hk1]
    have e5 : (k == 5) = false := by simp [hk5]
    have e6 : (k == 6) = false := by simp [hk6]
    go_wp2_with fail
    refine bodyPost_end (v := .tuple #[]) (by simp [results, Tryz.results68, go_sem]) rfl ⟨rfl, HQ.out.1, HQ.out.2.1, fun b cs x y h1 h2 hc => HQ.out.2.2.1 b cs (x, y) h1 h2 hc, HQ.out.2.2.2⟩
end Go.Proofs.YtmbhmknfipdadaaGreatDoor.RteI
