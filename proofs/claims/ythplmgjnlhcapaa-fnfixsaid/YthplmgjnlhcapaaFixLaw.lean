/- The walk of FnFix: true at all bytes that came in; new memory alone is written. -/
import Derived.Test.YthplmgjnlhcapaaFixPartsTop
import Derived.Test.YthplmgjnlhcapaaFixTimesTop
import Derived.Test.YthplmgjnlhcapaaFixDraws
import Derived.Test.YthplmgjnlhcapaaQuietNum
namespace Go.Proofs.Ythplmgjnlhcapaa.FixLw
open Go.RowKit
open FixS FixF FixM FixQ FixTi FixT DrawW QuN BigFrame

/-- what is added is taken away again -/
theorem back {a b : Int} {x : Int × Int} (h : plusR a b = x) (hx : x.2 = 0) : minusR x.1 b = (a, 0) := by
  subst h
  unfold plusR at hx ⊢
  by_cases hab : inM a = true ∧ inM b = true
  · rw [if_pos hab] at hx ⊢
    unfold outR at hx ⊢
    by_cases hs : inM (a + b) = true
    · rw [if_pos hs]
      unfold minusR outR
      rw [if_pos ⟨hs, hab.2⟩, show a + b - b = a by omega, if_pos hab.1]
    · rw [if_neg hs] at hx; simp at hx
  · rw [if_neg hab] at hx; simp at hx

set_option maxRecDepth 10000 in
set_option maxHeartbeats 3200000 in
theorem walk (a0 : Option Addr) (len0 cap0 : Nat) (z0 : List Int) (a1 : Option Addr) (len1 cap1 : Nat) (z1 : List Int) (w : World) (w0 : IsRow .u8 w a0 len0 cap0 z0) (w1 : IsRow .u8 w a1 len1 cap1 z1) :
    Calls Try.prog 3 #[.slice a0 len0 cap0, .slice a1 len1 cap1] w fun e w' => e = .returned (.bool true) ∧ Below w.heap.size w w' := by
  have hm0 := w0.len
  have hm1 := w1.len
  unfold maxLen at hm0 hm1
  have HW0 : Hid (IsRow .u8 w a0 len0 cap0 z0) := w0
  have HW1 : Hid (IsRow .u8 w a1 len1 cap1 z1) := w1
  clear w0 w1
  by_cases hb0 : 1048576 < len0
  · go_enter Try.func3, Try.ntmps3
    go_wp2
    go_ret
    exact ⟨rfl, Below.refl _ _⟩
  by_cases hb1 : 1048576 < len1
  · go_enter Try.func3, Try.ntmps3
    go_wp2
    go_ret
    exact ⟨rfl, Below.refl _ _⟩
  go_enter Try.func3, Try.ntmps3
  go_wp2_with fail
  refine (drawPlus_any w a0 len0 cap0 (HW0.out.code (by omega) (Below.refl _ _))).mono ?_
  rintro e wa ⟨a, b, rfl, ba, bb, hBa⟩
  have HBa : Hid (Below w.heap.size w wa) := hBa
  clear hBa
  obtain ⟨x, hx⟩ : ∃ x, Hid (plusR a b = x) := ⟨_, rfl⟩
  obtain ⟨y, hy⟩ : ∃ y, Hid (minusR a b = y) := ⟨_, rfl⟩
  obtain ⟨z, hz⟩ : ∃ z, Hid (timesR a b = z) := ⟨_, rfl⟩
  go_wp2_with fail
  refine (plus_face a b _).mono ?_
  rintro e wb ⟨rfl, hBb⟩
  rw [hx.out]
  have HBb : Hid (Below w.heap.size w wb) := HBa.out.trans (hBb.mono HBa.out.size)
  clear hBb
  go_wp2_with fail
  refine (minus_face a b _).mono ?_
  rintro e wc ⟨rfl, hBc⟩
  rw [hy.out]
  have HBc : Hid (Below w.heap.size w wc) := HBb.out.trans (hBc.mono HBb.out.size)
  clear hBc
  go_wp2_with fail
  refine (times_face a b _).mono ?_
  rintro e wd ⟨rfl, hBd⟩
  rw [hz.out]
  have HBd : Hid (Below w.heap.size w wd) := HBc.out.trans (hBd.mono HBc.out.size)
  clear hBd
  unfold numV
  go_wp2_with fail
  have hs0 := HBd.out.size
  refine (drawParts_any _ a1 len1 cap1 (HW1.out.code (by omega) (((HBd.out.alloc hs0 _).alloc (by simp; omega) _).alloc (by simp; omega) _))).mono ?_
  rintro e we ⟨c, d, m, rfl, bc, bd, bm, hBe⟩
  have hX : Hid (Num3 we wd.heap.size x) := Num3.kept (w := ((wd.alloc _).alloc _).alloc _) ⟨by first | (simp; done) | (go_simp; done), by first | (simp; done) | (go_simp; done), by first | (simp; done) | (go_simp; done), by simp; omega⟩ hBe (by simp; omega)
  have hY : Hid (Num3 we (wd.heap.size + 1) y) := Num3.kept (w := ((wd.alloc _).alloc _).alloc _) ⟨by go_simp, by go_simp, by go_simp, by simp⟩ hBe (by simp)
  have hZ : Hid (Num3 we (wd.heap.size + 1 + 1) z) := Num3.kept (w := ((wd.alloc _).alloc _).alloc _) ⟨by go_simp, by go_simp, by go_simp, by simp⟩ hBe (by simp)
  have HBe : Hid (Below w.heap.size w we) := (((HBd.out.alloc hs0 _).alloc (by simp; omega) _).alloc (by simp; omega) _).trans (hBe.mono (by simp; omega))
  clear hBe
  obtain ⟨q, hq⟩ : ∃ q, Hid (partsR c d m = q) := ⟨_, rfl⟩
  go_wp2_with fail
  refine (parts_face c d m _).mono ?_
  rintro e wf ⟨rfl, hBf⟩
  rw [hq.out]
  unfold numV
  have hX1 : Hid (Num3 wf wd.heap.size x) := Num3.kept hX.out hBf hX.out.2.2.2
  have hY1 : Hid (Num3 wf (wd.heap.size + 1) y) := Num3.kept hY.out hBf hY.out.2.2.2
  have hZ1 : Hid (Num3 wf (wd.heap.size + 1 + 1) z) := Num3.kept hZ.out hBf hZ.out.2.2.2
  have HBf : Hid (Below w.heap.size w wf) := HBe.out.trans (hBf.mono HBe.out.size)
  clear hBf hX hY hZ
  go_wp2_with fail
  obtain ⟨wg, hwg⟩ : ∃ W, W = wf.alloc (.cells #[.int .i64 q.1, .int .i64 0, .int .i64 q.2] 26) := ⟨_, rfl⟩
  have hX2 : Hid (Num3 wg wd.heap.size x) := by rw [hwg]; exact Num3.kept hX1.out ((Below.refl wf.heap.size wf).alloc (Nat.le_refl _) _) hX1.out.2.2.2
  have hY2 : Hid (Num3 wg (wd.heap.size + 1) y) := by rw [hwg]; exact Num3.kept hY1.out ((Below.refl wf.heap.size wf).alloc (Nat.le_refl _) _) hY1.out.2.2.2
  have hZ2 : Hid (Num3 wg (wd.heap.size + 1 + 1) z) := by rw [hwg]; exact Num3.kept hZ1.out ((Below.refl wf.heap.size wf).alloc (Nat.le_refl _) _) hZ1.out.2.2.2
  have hP2 : Hid (Num3 wg wf.heap.size q) := by rw [hwg]; exact ⟨by simp, by simp, by simp, by simp⟩
  have HBg : Hid (Below w.heap.size w wg) := by rw [hwg]; exact HBf.out.alloc HBf.out.size _
  rw [← hwg]
  clear hwg hX1 hY1 hZ1
  have lX : ∀ W, Below wg.heap.size wg W → Num3 W wd.heap.size x := fun W h => hX2.out.kept h hX2.out.2.2.2
  have lY : ∀ W, Below wg.heap.size wg W → Num3 W (wd.heap.size + 1) y := fun W h => hY2.out.kept h hY2.out.2.2.2
  have lZ : ∀ W, Below wg.heap.size wg W → Num3 W (wd.heap.size + 1 + 1) z := fun W h => hZ2.out.kept h hZ2.out.2.2.2
  have lP : ∀ W, Below wg.heap.size wg W → Num3 W wf.heap.size q := fun W h => hP2.out.kept h hP2.out.2.2.2
  refine wp_region_quiet (C := fun W => Below wg.heap.size wg W) (by kernel_rfl) (by kernel_rfl) (Below.refl _ _).drew ?_
  show wpQuiet _ _ _ _ [_, _, _, _, _, _, _, _, _, _, _, _, _, _, _, _, _, _, _, _, _, _, _, _, _, _, _] _
  go_big_quiet_want
  refine quiet_load3 7 _ x rfl rfl lX ?_
  simp only [Act.put, List.setIfInBounds_toArray, List.set_cons_succ, List.set_cons_zero]
  go_big_quiet_on
  go_big_quiet_want
  go_big_quiet_op
  first | go_big_quiet_on | (refine ⟨_, fun _ _ => rfl, ?_⟩; go_big_quiet_on)
  go_big_quiet_want
  go_big_quiet_op
  first | go_big_quiet_on | (refine ⟨_, fun _ _ => rfl, ?_⟩; go_big_quiet_on)
  go_big_quiet_want
  refine quiet_call 21 #[.int .i64 a, .int .i64 b] (numV x.1 x.2) (fun W => by kernel_rfl) (fun W hW => (plus_any a b W).mono fun e w' h => ⟨by rw [h.1, hx.out], hW.trans (h.2.mono hW.size)⟩) ?_
  unfold numV
  simp only [Act.put, List.setIfInBounds_toArray, List.set_cons_succ, List.set_cons_zero]
  go_big_quiet_on
  go_big_quiet_want
  go_big_quiet_op
  first | go_big_quiet_on | (refine ⟨_, fun _ _ => rfl, ?_⟩; go_big_quiet_on)
  go_big_quiet_want
  go_big_quiet_op
  first | go_big_quiet_on | (refine ⟨_, fun _ _ => rfl, ?_⟩; go_big_quiet_on)
  go_big_quiet_want
  refine quiet_load3 8 _ y rfl rfl lY ?_
  simp only [Act.put, List.setIfInBounds_toArray, List.set_cons_succ, List.set_cons_zero]
  go_big_quiet_on
  go_big_quiet_want
  go_big_quiet_op
  first | go_big_quiet_on | (refine ⟨_, fun _ _ => rfl, ?_⟩; go_big_quiet_on)
  go_big_quiet_want
  go_big_quiet_op
  first | go_big_quiet_on | (refine ⟨_, fun _ _ => rfl, ?_⟩; go_big_quiet_on)
  go_big_quiet_want
  refine quiet_call 22 #[.int .i64 a, .int .i64 b] (numV y.1 y.2) (fun W => by kernel_rfl) (fun W hW => (minus_any a b W).mono fun e w' h => ⟨by rw [h.1, hy.out], hW.trans (h.2.mono hW.size)⟩) ?_
  unfold numV
  simp only [Act.put, List.setIfInBounds_toArray, List.set_cons_succ, List.set_cons_zero]
  go_big_quiet_on
  go_big_quiet_want
  go_big_quiet_op
  first | go_big_quiet_on | (refine ⟨_, fun _ _ => rfl, ?_⟩; go_big_quiet_on)
  go_big_quiet_want
  go_big_quiet_op
  first | go_big_quiet_on | (refine ⟨_, fun _ _ => rfl, ?_⟩; go_big_quiet_on)
  go_big_quiet_want
  go_big_quiet_op
  first | go_big_quiet_on | (refine ⟨_, fun _ _ => rfl, ?_⟩; go_big_quiet_on)
  go_big_quiet_want
  refine quiet_load3 9 _ z rfl rfl lZ ?_
  simp only [Act.put, List.setIfInBounds_toArray, List.set_cons_succ, List.set_cons_zero]
  go_big_quiet_on
  go_big_quiet_want
  go_big_quiet_op
  first | go_big_quiet_on | (refine ⟨_, fun _ _ => rfl, ?_⟩; go_big_quiet_on)
  go_big_quiet_want
  go_big_quiet_op
  first | go_big_quiet_on | (refine ⟨_, fun _ _ => rfl, ?_⟩; go_big_quiet_on)
  go_big_quiet_want
  refine quiet_call 23 #[.int .i64 a, .int .i64 b] (numV z.1 z.2) (fun W => by kernel_rfl) (fun W hW => (times_any a b W).mono fun e w' h => ⟨by rw [h.1, hz.out], hW.trans (h.2.mono hW.size)⟩) ?_
  unfold numV
  simp only [Act.put, List.setIfInBounds_toArray, List.set_cons_succ, List.set_cons_zero]
  go_big_quiet_on
  go_big_quiet_want
  go_big_quiet_op
  first | go_big_quiet_on | (refine ⟨_, fun _ _ => rfl, ?_⟩; go_big_quiet_on)
  go_big_quiet_want
  go_big_quiet_op
  first | go_big_quiet_on | (refine ⟨_, fun _ _ => rfl, ?_⟩; go_big_quiet_on)
  go_big_quiet_want
  go_big_quiet_op
  first | go_big_quiet_on | (refine ⟨_, fun _ _ => rfl, ?_⟩; go_big_quiet_on)
  go_big_quiet_want
  refine quiet_load3 13 _ q rfl rfl lP ?_
  simp only [Act.put, List.setIfInBounds_toArray, List.set_cons_succ, List.set_cons_zero]
  go_big_quiet_on
  go_big_quiet_want
  go_big_quiet_op
  first | go_big_quiet_on | (refine ⟨_, fun _ _ => rfl, ?_⟩; go_big_quiet_on)
  go_big_quiet_want
  go_big_quiet_op
  first | go_big_quiet_on | (refine ⟨_, fun _ _ => rfl, ?_⟩; go_big_quiet_on)
  go_big_quiet_want
  go_big_quiet_op
  first | go_big_quiet_on | (refine ⟨_, fun _ _ => rfl, ?_⟩; go_big_quiet_on)
  go_big_quiet_want
  refine quiet_call 24 #[.int .i64 c, .int .i64 d, .int .i64 m] (numV q.1 q.2) (fun W => by kernel_rfl) (fun W hW => (parts_any c d m W).mono fun e w' h => ⟨by rw [h.1, hq.out], hW.trans (h.2.mono hW.size)⟩) ?_
  unfold numV
  simp only [Act.put, List.setIfInBounds_toArray, List.set_cons_succ, List.set_cons_zero]
  go_big_quiet_on
  go_big_quiet_want
  go_big_quiet_op
  first | go_big_quiet_on | (refine ⟨_, fun _ _ => rfl, ?_⟩; go_big_quiet_on)
  go_big_quiet_want
  go_big_quiet_op
  first | go_big_quiet_on | (refine ⟨_, fun _ _ => rfl, ?_⟩; go_big_quiet_on)
  refine wpQuiet_nil ?_
  intro wh hBh
  have hX3 : Hid (Num3 wh wd.heap.size x) := lX wh hBh
  have HBh : Hid (Below w.heap.size w wh) := HBg.out.trans (hBh.mono HBg.out.size)
  clear lX lY lZ lP hX2 hY2 hZ2 hP2 hBh hy hz hq
  obtain ⟨c0, c1, c2, _⟩ := hX3.out
  by_cases hk : x.2 = 0
  · have hM : Hid (minusR x.1 b = (a, 0)) := back hx.out hk
    rw [hk] at c2
    clear hk hX3 hx
    go_wp2_with fail
    refine (minus_face x.1 b _).mono ?_
    rintro e wl ⟨rfl, hBl⟩
    rw [hM.out]
    unfold numV
    have HBl : Hid (Below w.heap.size w wl) := HBh.out.trans (hBl.mono HBh.out.size)
    clear hBl hM c0 c1 c2
    by_cases hin : (-1000000000000000 ≤ c ∧ c ≤ 1000000000000000) ∧ (1 ≤ d ∧ d ≤ 1000000000000000)
    · obtain ⟨hc, hd⟩ := hin
      have e0 : Hid (partsR c d 0 = (c / d, 0)) := by show _ = _; rw [parts_yes c d 0 hc hd (by omega)]; unfold partsQ; rw [round_no (by omega)]
      have r0 := Int.emod_nonneg c (b := d) (by omega)
      have r1 := Int.emod_lt_of_pos c (b := d) (by omega)
      have rq := quot_bounds c d 1000000000000000 hd.1 (by omega) hc.1 hc.2
      have hm : c / d * d + c % d = c := by have := Int.mul_ediv_add_emod c d; rw [Int.mul_comm] at this; exact this
      have e1 : Hid (partsR c d 1 = (roundR (c / d) (c % d) d 1, 0)) := parts_yes c d 1 hc hd (by omega)
      have e2 : Hid (partsR c d 2 = (roundR (c / d) (c % d) d 2, 0)) := parts_yes c d 2 hc hd (by omega)
      generalize c / d = Q at *
      generalize c % d = R at *
      obtain ⟨N, hN⟩ : ∃ N, Q * d = N := ⟨_, rfl⟩
      have hwn : IntKind.i64.wrap (Q * d) = N := by rw [IntKind.wrap_i64]; omega
      rw [hN] at hm
      clear hN
      by_cases hR : R = 0
      · rw [round_no (by omega)] at e1 e2
        subst hR
        have hNc : c = N := by omega
        subst hNc
        go_wp2_with fail
        refine (parts_face c d 0 _).mono ?_
        rintro e wi ⟨rfl, hBwi⟩
        rw [e0.out]
        have Hwi : Hid (Below w.heap.size w wi) := HBl.out.trans (hBwi.mono HBl.out.size)
        clear hBwi
        unfold numV
        go_wp2_with fail
        refine (parts_face c d 1 _).mono ?_
        rintro e wj ⟨rfl, hBwj⟩
        rw [e1.out]
        have Hwj : Hid (Below w.heap.size w wj) := Hwi.out.trans (hBwj.mono Hwi.out.size)
        clear hBwj
        unfold numV
        go_wp2_with fail
        refine (parts_face c d 2 _).mono ?_
        rintro e wk ⟨rfl, hBwk⟩
        rw [e2.out]
        have Hwk : Hid (Below w.heap.size w wk) := Hwj.out.trans (hBwk.mono Hwj.out.size)
        have hsk := Hwk.out.size
        clear hBwk e0 e1 e2
        unfold numV
        go_wp2
        go_ret
        exact ⟨rfl, ((Hwk.out.alloc hsk _).alloc (by simp; omega) _).alloc (by simp; omega) _⟩
      · by_cases hU : d - R ≤ R
        · rw [round_up (by omega)] at e1 e2
          have x1 : (N == c) = false := by simp; omega
          have x2 : decide (N ≤ c) = true := decide_eq_true (by omega)
          have x3 : decide (c - N < d) = true := decide_eq_true (by omega)
          go_wp2_with fail
          refine (parts_face c d 0 _).mono ?_
          rintro e wi ⟨rfl, hBwi⟩
          rw [e0.out]
          have Hwi : Hid (Below w.heap.size w wi) := HBl.out.trans (hBwi.mono HBl.out.size)
          clear hBwi
          unfold numV
          go_wp2_with fail
          refine (parts_face c d 1 _).mono ?_
          rintro e wj ⟨rfl, hBwj⟩
          rw [e1.out]
          have Hwj : Hid (Below w.heap.size w wj) := Hwi.out.trans (hBwj.mono Hwi.out.size)
          clear hBwj
          unfold numV
          go_wp2_with fail
          refine (parts_face c d 2 _).mono ?_
          rintro e wk ⟨rfl, hBwk⟩
          rw [e2.out]
          have Hwk : Hid (Below w.heap.size w wk) := Hwj.out.trans (hBwk.mono Hwj.out.size)
          have hsk := Hwk.out.size
          clear hBwk e0 e1 e2
          unfold numV
          go_wp2
          go_ret
          exact ⟨rfl, ((Hwk.out.alloc hsk _).alloc (by simp; omega) _).alloc (by simp; omega) _⟩
        · rw [round_up (by omega)] at e1
          rw [round_no (by omega)] at e2
          have x1 : (N == c) = false := by simp; omega
          have x2 : decide (N ≤ c) = true := decide_eq_true (by omega)
          have x3 : decide (c - N < d) = true := decide_eq_true (by omega)
          go_wp2_with fail
          refine (parts_face c d 0 _).mono ?_
          rintro e wi ⟨rfl, hBwi⟩
          rw [e0.out]
          have Hwi : Hid (Below w.heap.size w wi) := HBl.out.trans (hBwi.mono HBl.out.size)
          clear hBwi
          unfold numV
          go_wp2_with fail
          refine (parts_face c d 1 _).mono ?_
          rintro e wj ⟨rfl, hBwj⟩
          rw [e1.out]
          have Hwj : Hid (Below w.heap.size w wj) := Hwi.out.trans (hBwj.mono Hwi.out.size)
          clear hBwj
          unfold numV
          go_wp2_with fail
          refine (parts_face c d 2 _).mono ?_
          rintro e wk ⟨rfl, hBwk⟩
          rw [e2.out]
          have Hwk : Hid (Below w.heap.size w wk) := Hwj.out.trans (hBwk.mono Hwj.out.size)
          have hsk := Hwk.out.size
          clear hBwk e0 e1 e2
          unfold numV
          go_wp2
          go_ret
          exact ⟨rfl, ((Hwk.out.alloc hsk _).alloc (by simp; omega) _).alloc (by simp; omega) _⟩
    · have e0 : Hid (partsR c d 0 = (0, 1)) := parts_no c d 0 (fun h => hin ⟨h.1, h.2.1⟩)
      have e1 : Hid (partsR c d 1 = (0, 1)) := parts_no c d 1 (fun h => hin ⟨h.1, h.2.1⟩)
      have e2 : Hid (partsR c d 2 = (0, 1)) := parts_no c d 2 (fun h => hin ⟨h.1, h.2.1⟩)
      clear hin
      go_wp2_with fail
      refine (parts_face c d 0 _).mono ?_
      rintro e wi ⟨rfl, hBwi⟩
      rw [e0.out]
      have Hwi : Hid (Below w.heap.size w wi) := HBl.out.trans (hBwi.mono HBl.out.size)
      clear hBwi
      unfold numV
      go_wp2_with fail
      refine (parts_face c d 1 _).mono ?_
      rintro e wj ⟨rfl, hBwj⟩
      rw [e1.out]
      have Hwj : Hid (Below w.heap.size w wj) := Hwi.out.trans (hBwj.mono Hwi.out.size)
      clear hBwj
      unfold numV
      go_wp2_with fail
      refine (parts_face c d 2 _).mono ?_
      rintro e wk ⟨rfl, hBwk⟩
      rw [e2.out]
      have Hwk : Hid (Below w.heap.size w wk) := Hwj.out.trans (hBwk.mono Hwj.out.size)
      have hsk := Hwk.out.size
      clear hBwk e0 e1 e2
      unfold numV
      go_wp2
      go_ret
      exact ⟨rfl, ((Hwk.out.alloc hsk _).alloc (by simp; omega) _).alloc (by simp; omega) _⟩
  · have hk2 : (x.2 == 0) = false := by simp; omega
    clear hX3 hx
    by_cases hin : (-1000000000000000 ≤ c ∧ c ≤ 1000000000000000) ∧ (1 ≤ d ∧ d ≤ 1000000000000000)
    · obtain ⟨hc, hd⟩ := hin
      have e0 : Hid (partsR c d 0 = (c / d, 0)) := by show _ = _; rw [parts_yes c d 0 hc hd (by omega)]; unfold partsQ; rw [round_no (by omega)]
      have r0 := Int.emod_nonneg c (b := d) (by omega)
      have r1 := Int.emod_lt_of_pos c (b := d) (by omega)
      have rq := quot_bounds c d 1000000000000000 hd.1 (by omega) hc.1 hc.2
      have hm : c / d * d + c % d = c := by have := Int.mul_ediv_add_emod c d; rw [Int.mul_comm] at this; exact this
      have e1 : Hid (partsR c d 1 = (roundR (c / d) (c % d) d 1, 0)) := parts_yes c d 1 hc hd (by omega)
      have e2 : Hid (partsR c d 2 = (roundR (c / d) (c % d) d 2, 0)) := parts_yes c d 2 hc hd (by omega)
      generalize c / d = Q at *
      generalize c % d = R at *
      obtain ⟨N, hN⟩ : ∃ N, Q * d = N := ⟨_, rfl⟩
      have hwn : IntKind.i64.wrap (Q * d) = N := by rw [IntKind.wrap_i64]; omega
      rw [hN] at hm
      clear hN
      by_cases hR : R = 0
      · rw [round_no (by omega)] at e1 e2
        subst hR
        have hNc : c = N := by omega
        subst hNc
        go_wp2_with fail
        refine (parts_face c d 0 _).mono ?_
        rintro e wi ⟨rfl, hBwi⟩
        rw [e0.out]
        have Hwi : Hid (Below w.heap.size w wi) := HBh.out.trans (hBwi.mono HBh.out.size)
        clear hBwi
        unfold numV
        go_wp2_with fail
        refine (parts_face c d 1 _).mono ?_
        rintro e wj ⟨rfl, hBwj⟩
        rw [e1.out]
        have Hwj : Hid (Below w.heap.size w wj) := Hwi.out.trans (hBwj.mono Hwi.out.size)
        clear hBwj
        unfold numV
        go_wp2_with fail
        refine (parts_face c d 2 _).mono ?_
        rintro e wk ⟨rfl, hBwk⟩
        rw [e2.out]
        have Hwk : Hid (Below w.heap.size w wk) := Hwj.out.trans (hBwk.mono Hwj.out.size)
        have hsk := Hwk.out.size
        clear hBwk e0 e1 e2
        unfold numV
        go_wp2
        go_ret
        exact ⟨rfl, ((Hwk.out.alloc hsk _).alloc (by simp; omega) _).alloc (by simp; omega) _⟩
      · by_cases hU : d - R ≤ R
        · rw [round_up (by omega)] at e1 e2
          have x1 : (N == c) = false := by simp; omega
          have x2 : decide (N ≤ c) = true := decide_eq_true (by omega)
          have x3 : decide (c - N < d) = true := decide_eq_true (by omega)
          go_wp2_with fail
          refine (parts_face c d 0 _).mono ?_
          rintro e wi ⟨rfl, hBwi⟩
          rw [e0.out]
          have Hwi : Hid (Below w.heap.size w wi) := HBh.out.trans (hBwi.mono HBh.out.size)
          clear hBwi
          unfold numV
          go_wp2_with fail
          refine (parts_face c d 1 _).mono ?_
          rintro e wj ⟨rfl, hBwj⟩
          rw [e1.out]
          have Hwj : Hid (Below w.heap.size w wj) := Hwi.out.trans (hBwj.mono Hwi.out.size)
          clear hBwj
          unfold numV
          go_wp2_with fail
          refine (parts_face c d 2 _).mono ?_
          rintro e wk ⟨rfl, hBwk⟩
          rw [e2.out]
          have Hwk : Hid (Below w.heap.size w wk) := Hwj.out.trans (hBwk.mono Hwj.out.size)
          have hsk := Hwk.out.size
          clear hBwk e0 e1 e2
          unfold numV
          go_wp2
          go_ret
          exact ⟨rfl, ((Hwk.out.alloc hsk _).alloc (by simp; omega) _).alloc (by simp; omega) _⟩
        · rw [round_up (by omega)] at e1
          rw [round_no (by omega)] at e2
          have x1 : (N == c) = false := by simp; omega
          have x2 : decide (N ≤ c) = true := decide_eq_true (by omega)
          have x3 : decide (c - N < d) = true := decide_eq_true (by omega)
          go_wp2_with fail
          refine (parts_face c d 0 _).mono ?_
          rintro e wi ⟨rfl, hBwi⟩
          rw [e0.out]
          have Hwi : Hid (Below w.heap.size w wi) := HBh.out.trans (hBwi.mono HBh.out.size)
          clear hBwi
          unfold numV
          go_wp2_with fail
          refine (parts_face c d 1 _).mono ?_
          rintro e wj ⟨rfl, hBwj⟩
          rw [e1.out]
          have Hwj : Hid (Below w.heap.size w wj) := Hwi.out.trans (hBwj.mono Hwi.out.size)
          clear hBwj
          unfold numV
          go_wp2_with fail
          refine (parts_face c d 2 _).mono ?_
          rintro e wk ⟨rfl, hBwk⟩
          rw [e2.out]
          have Hwk : Hid (Below w.heap.size w wk) := Hwj.out.trans (hBwk.mono Hwj.out.size)
          have hsk := Hwk.out.size
          clear hBwk e0 e1 e2
          unfold numV
          go_wp2
          go_ret
          exact ⟨rfl, ((Hwk.out.alloc hsk _).alloc (by simp; omega) _).alloc (by simp; omega) _⟩
    · have e0 : Hid (partsR c d 0 = (0, 1)) := parts_no c d 0 (fun h => hin ⟨h.1, h.2.1⟩)
      have e1 : Hid (partsR c d 1 = (0, 1)) := parts_no c d 1 (fun h => hin ⟨h.1, h.2.1⟩)
      have e2 : Hid (partsR c d 2 = (0, 1)) := parts_no c d 2 (fun h => hin ⟨h.1, h.2.1⟩)
      clear hin
      go_wp2_with fail
      refine (parts_face c d 0 _).mono ?_
      rintro e wi ⟨rfl, hBwi⟩
      rw [e0.out]
      have Hwi : Hid (Below w.heap.size w wi) := HBh.out.trans (hBwi.mono HBh.out.size)
      clear hBwi
      unfold numV
      go_wp2_with fail
      refine (parts_face c d 1 _).mono ?_
      rintro e wj ⟨rfl, hBwj⟩
      rw [e1.out]
      have Hwj : Hid (Below w.heap.size w wj) := Hwi.out.trans (hBwj.mono Hwi.out.size)
      clear hBwj
      unfold numV
      go_wp2_with fail
      refine (parts_face c d 2 _).mono ?_
      rintro e wk ⟨rfl, hBwk⟩
      rw [e2.out]
      have Hwk : Hid (Below w.heap.size w wk) := Hwj.out.trans (hBwk.mono Hwj.out.size)
      have hsk := Hwk.out.size
      clear hBwk e0 e1 e2
      unfold numV
      go_wp2
      go_ret
      exact ⟨rfl, ((Hwk.out.alloc hsk _).alloc (by simp; omega) _).alloc (by simp; omega) _⟩
end Go.Proofs.Ythplmgjnlhcapaa.FixLw
