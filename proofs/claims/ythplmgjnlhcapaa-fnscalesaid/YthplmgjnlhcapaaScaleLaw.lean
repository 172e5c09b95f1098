/- The walk of FnScale: true at all bytes that came in; new memory alone is written. -/
import Derived.Test.YthplmgjnlhcapaaScaleFacts
import Derived.Test.YthplmgjnlhcapaaFixDrawPc
import Derived.Test.YthplmgjnlhcapaaQuietNum
namespace Go.Proofs.Ythplmgjnlhcapaa.ScaL
open Go.RowKit
open FixS FixF FixM FixQ FixTi FixT FixTP FixR ScaF DrawW QuN BigFrame

set_option maxRecDepth 10000 in
set_option maxHeartbeats 6400000 in
theorem walk (a0 : Option Addr) (len0 cap0 : Nat) (z0 : List Int) (a1 : Option Addr) (len1 cap1 : Nat) (z1 : List Int) (w : World) (w0 : IsRow .u8 w a0 len0 cap0 z0) (w1 : IsRow .u8 w a1 len1 cap1 z1) :
    Calls Try.prog 4 #[.slice a0 len0 cap0, .slice a1 len1 cap1] w fun e w' => e = .returned (.bool true) ∧ Below w.heap.size w w' := by
  have hm0 := w0.len
  have hm1 := w1.len
  unfold maxLen at hm0 hm1
  have HW0 : Hid (IsRow .u8 w a0 len0 cap0 z0) := w0
  have HW1 : Hid (IsRow .u8 w a1 len1 cap1 z1) := w1
  clear w0 w1
  by_cases hb0 : 1048576 < len0
  · go_enter Try.func4, Try.ntmps4
    go_wp2
    go_ret
    exact ⟨rfl, Below.refl _ _⟩
  by_cases hb1 : 1048576 < len1
  · go_enter Try.func4, Try.ntmps4
    go_wp2
    go_ret
    exact ⟨rfl, Below.refl _ _⟩
  go_enter Try.func4, Try.ntmps4
  go_wp2_with fail
  refine (drawTimesParts_any w a0 len0 cap0 (HW0.out.code (by omega) (Below.refl _ _))).mono ?_
  rintro e wa ⟨a, b, c, m, rfl, ba, bb, bc, bm, hBa⟩
  have HBa : Hid (Below w.heap.size w wa) := hBa
  clear hBa
  obtain ⟨x, hx⟩ : ∃ x, Hid (timespartsR a b c m = x) := ⟨_, rfl⟩
  go_wp2_with fail
  refine (timesparts_face a b c m _).mono ?_
  rintro e wb ⟨rfl, hBb⟩
  rw [hx.out]
  unfold numV
  have HBb : Hid (Below w.heap.size w wb) := HBa.out.trans (hBb.mono HBa.out.size)
  have hsb := HBb.out.size
  clear hBb
  go_wp2_with fail
  refine (drawRoot_any _ a1 len1 cap1 (HW1.out.code (by omega) (HBb.out.alloc hsb _))).mono ?_
  rintro e wc ⟨n, rfl, bn, hBc⟩
  have hX : Hid (Num3 wc wb.heap.size x) := (Num3.laid wb x).on hBc
  have HBc : Hid (Below w.heap.size w wc) := (HBb.out.alloc hsb _).trans (hBc.mono (by simp; omega))
  clear hBc
  obtain ⟨r, hr⟩ : ∃ r, Hid (rootR n = r) := ⟨_, rfl⟩
  go_wp2_with fail
  refine (root_face n _).mono ?_
  rintro e wd ⟨rfl, hBd⟩
  rw [hr.out]
  unfold numV
  have hX1 : Hid (Num3 wd wb.heap.size x) := hX.out.on hBd
  have HBd : Hid (Below w.heap.size w wd) := HBc.out.trans (hBd.mono HBc.out.size)
  have hsd := HBd.out.size
  clear hBd hX
  go_wp2_with fail
  refine (drawPercent_any _ a1 len1 cap1 (HW1.out.code (by omega) (HBd.out.alloc hsd _))).mono ?_
  rintro e we ⟨k, p, rfl, bk, bp, hBe⟩
  have hX2 : Hid (Num3 we wb.heap.size x) := (hX1.out.on ((Below.refl wd.heap.size wd).alloc (Nat.le_refl _) _)).on hBe
  have hR2 : Hid (Num3 we wd.heap.size r) := (Num3.laid wd r).on hBe
  have HBe : Hid (Below w.heap.size w we) := (HBd.out.alloc hsd _).trans (hBe.mono (by simp; omega))
  clear hBe hX1
  obtain ⟨g, hg⟩ : ∃ g, Hid (percentR k p = g) := ⟨_, rfl⟩
  have lX : ∀ W, Below we.heap.size we W → Num3 W wb.heap.size x := fun W h => hX2.out.on h
  have lR : ∀ W, Below we.heap.size we W → Num3 W wd.heap.size r := fun W h => hR2.out.on h
  go_wp2_with fail
  refine wp_region_quiet (C := fun W => Below we.heap.size we W) (by kernel_rfl) (by kernel_rfl) (Below.refl _ _).drew ?_
  show wpQuiet _ _ _ _ [_, _, _, _, _, _, _, _, _, _, _, _, _, _, _, _, _, _, _, _, _, _] _
  go_big_quiet_want
  refine quiet_load3 9 _ x rfl rfl lX ?_
  simp only [Act.put, List.setIfInBounds_toArray, List.set_cons_succ, List.set_cons_zero]
  go_big_quiet_on
  go_big_quiet_want
  go_big_quiet_op
  first | go_big_quiet_on | (refine ⟨_, fun _ _ => rfl, ?_⟩; go_big_quiet_on)
  go_big_quiet_want
  go_big_quiet_op
  first | go_big_quiet_on | (refine ⟨_, fun _ _ => rfl, ?_⟩; go_big_quiet_on)
  go_big_quiet_want
  go_big_quiet_op
  first | go_big_quiet_on | (refine ⟨_, fun _ _ => rfl, ?_⟩; go_big_quiet_on)
  go_big_quiet_want
  go_big_quiet_op
  first | go_big_quiet_on | (refine ⟨_, fun _ _ => rfl, ?_⟩; go_big_quiet_on)
  go_big_quiet_want
  refine quiet_call 30 #[.int .i64 a, .int .i64 b, .int .i64 c, .int .i64 m] (numV x.1 x.2) (fun W => by kernel_rfl) (fun W hW => (tp_spec a b c m W).mono fun e w' h => ⟨by rw [h.1, hx.out], hW.trans (h.2.mono hW.size)⟩) ?_
  unfold numV
  simp only [Act.put, List.setIfInBounds_toArray, List.set_cons_succ, List.set_cons_zero]
  go_big_quiet_on
  go_big_quiet_want
  go_big_quiet_op
  first | go_big_quiet_on | (refine ⟨_, fun _ _ => rfl, ?_⟩; go_big_quiet_on)
  go_big_quiet_want
  go_big_quiet_op
  first | go_big_quiet_on | (refine ⟨_, fun _ _ => rfl, ?_⟩; go_big_quiet_on)
  go_big_quiet_want
  refine quiet_load3 11 _ r rfl rfl lR ?_
  simp only [Act.put, List.setIfInBounds_toArray, List.set_cons_succ, List.set_cons_zero]
  go_big_quiet_on
  go_big_quiet_want
  go_big_quiet_op
  first | go_big_quiet_on | (refine ⟨_, fun _ _ => rfl, ?_⟩; go_big_quiet_on)
  go_big_quiet_want
  refine quiet_call 31 #[.int .i64 n] (numV r.1 r.2) (fun W => by kernel_rfl) (fun W hW => (root_spec n W).mono fun e w' h => ⟨by rw [h.1, hr.out], hW.trans (h.2.mono hW.size)⟩) ?_
  unfold numV
  simp only [Act.put, List.setIfInBounds_toArray, List.set_cons_succ, List.set_cons_zero]
  go_big_quiet_on
  go_big_quiet_want
  go_big_quiet_op
  first | go_big_quiet_on | (refine ⟨_, fun _ _ => rfl, ?_⟩; go_big_quiet_on)
  go_big_quiet_want
  go_big_quiet_op
  first | go_big_quiet_on | (refine ⟨_, fun _ _ => rfl, ?_⟩; go_big_quiet_on)
  go_big_quiet_want
  go_big_quiet_op
  first | go_big_quiet_on | (refine ⟨_, fun _ _ => rfl, ?_⟩; go_big_quiet_on)
  go_big_quiet_want
  go_big_quiet_op
  first | go_big_quiet_on | (refine ⟨_, fun _ _ => rfl, ?_⟩; go_big_quiet_on)
  go_big_quiet_want
  go_big_quiet_op
  first | go_big_quiet_on | (refine ⟨_, fun _ _ => rfl, ?_⟩; go_big_quiet_on)
  go_big_quiet_want
  refine quiet_call 32 #[.int .i64 k, .int .i64 p] (numV g.1 g.2) (fun W => by kernel_rfl) (fun W hW => (percent_face k p W).mono fun e w' h => ⟨by rw [h.1, hg.out], hW.trans (h.2.mono hW.size)⟩) ?_
  unfold numV
  simp only [Act.put, List.setIfInBounds_toArray, List.set_cons_succ, List.set_cons_zero]
  go_big_quiet_on
  go_big_quiet_want
  go_big_quiet_op
  first | go_big_quiet_on | (refine ⟨_, fun _ _ => rfl, ?_⟩; go_big_quiet_on)
  go_big_quiet_want
  go_big_quiet_op
  first | go_big_quiet_on | (refine ⟨_, fun _ _ => rfl, ?_⟩; go_big_quiet_on)
  go_big_quiet_want
  refine quiet_call 33 #[.int .i64 k, .int .i64 p] (numV g.1 g.2) (fun W => by kernel_rfl) (fun W hW => (pc_spec k p W).mono fun e w' h => ⟨by rw [h.1, hg.out], hW.trans (h.2.mono hW.size)⟩) ?_
  unfold numV
  simp only [Act.put, List.setIfInBounds_toArray, List.set_cons_succ, List.set_cons_zero]
  go_big_quiet_on
  go_big_quiet_want
  go_big_quiet_op
  first | go_big_quiet_on | (refine ⟨_, fun _ _ => rfl, ?_⟩; go_big_quiet_on)
  go_big_quiet_want
  go_big_quiet_op
  first | go_big_quiet_on | (refine ⟨_, fun _ _ => rfl, ?_⟩; go_big_quiet_on)
  refine wpQuiet_nil ?_
  intro wf hBf
  have hX3 : Hid (Num3 wf wb.heap.size x) := lX wf hBf
  have hR3 : Hid (Num3 wf wd.heap.size r) := lR wf hBf
  have HBf : Hid (Below w.heap.size w wf) := HBe.out.trans (hBf.mono HBe.out.size)
  clear lX lR hX2 hR2 hBf hg
  obtain ⟨z, hz⟩ : ∃ z, Hid (timesR a b = z) := ⟨_, rfl⟩
  go_wp2_with fail
  refine (times_any a b _).mono ?_
  rintro e wg ⟨rfl, hBg⟩
  rw [hz.out]
  unfold numV
  have hX4 : Hid (Num3 wg wb.heap.size x) := hX3.out.on hBg
  have hR4 : Hid (Num3 wg wd.heap.size r) := hR3.out.on hBg
  have HBg : Hid (Below w.heap.size w wg) := HBf.out.trans (hBg.mono HBf.out.size)
  have hsg := HBg.out.size
  clear hBg hX3 hR3
  go_wp2_with fail
  obtain ⟨wh, hwh⟩ : ∃ W, W = wg.alloc (.cells #[.int .i64 z.1, .int .i64 0, .int .i64 z.2] 26) := ⟨_, rfl⟩
  have hX5 : Hid (Num3 wh wb.heap.size x) := by rw [hwh]; exact hX4.out.on ((Below.refl wg.heap.size wg).alloc (Nat.le_refl _) _)
  have hR5 : Hid (Num3 wh wd.heap.size r) := by rw [hwh]; exact hR4.out.on ((Below.refl wg.heap.size wg).alloc (Nat.le_refl _) _)
  have hZ5 : Hid (Num3 wh wg.heap.size z) := by rw [hwh]; exact Num3.laid wg z
  have HBh : Hid (Below w.heap.size w wh) := by rw [hwh]; exact HBg.out.alloc hsg _
  rw [← hwh]
  clear hwh hX4 hR4
  have lX : ∀ W, Below wh.heap.size wh W → Num3 W wb.heap.size x := fun W h => hX5.out.on h
  have lR : ∀ W, Below wh.heap.size wh W → Num3 W wd.heap.size r := fun W h => hR5.out.on h
  have lZ : ∀ W, Below wh.heap.size wh W → Num3 W wg.heap.size z := fun W h => hZ5.out.on h
  have lZ0 : ∀ W, Below wh.heap.size wh W → W.cell? ⟨wg.heap.size, 0, none⟩ = some (.int .i64 z.1) := fun W h => (lZ W h).1
  have lZ2 : ∀ W, Below wh.heap.size wh W → W.cell? ⟨wg.heap.size, 2, none⟩ = some (.int .i64 z.2) := fun W h => (lZ W h).2.2.1

  by_cases ha : 0 ≤ a
  · by_cases hb : 0 ≤ b
    · by_cases hk : z.2 = 0
      · by_cases hc : 1 ≤ c
        · have hP : Hid (partsR z.1 c m = x) := by show _ = x; rw [← hx.out]; exact (product_parts a b c m z ha hb hz.out hk).symm
          rw [hk] at lZ2
          refine wp_region_quiet (C := fun W => Below wh.heap.size wh W) (by kernel_rfl) (by kernel_rfl) (Below.refl _ _).drew ?_
          show wpQuiet _ _ _ _ [_, _, _, _, _, _, _, _, _, _, _, _, _, _, _, _, _, _, _, _, _, _, _, _] _
          go_big_quiet_want
          go_big_quiet_op
          first | go_big_quiet_on | (refine ⟨_, fun _ _ => rfl, ?_⟩; go_big_quiet_on)
          go_big_quiet_want
          go_big_quiet_op
          first | go_big_quiet_on | (refine ⟨_, fun _ _ => rfl, ?_⟩; go_big_quiet_on)
          go_big_quiet_want
          go_big_quiet_op
          first | go_big_quiet_on | (refine ⟨_, fun _ _ => rfl, ?_⟩; go_big_quiet_on)
          go_big_quiet_want
          go_big_quiet_op
          first | go_big_quiet_on | (refine ⟨_, fun _ _ => rfl, ?_⟩; go_big_quiet_on)
          go_big_quiet_want
          go_big_quiet_op
          first | go_big_quiet_on | (refine ⟨_, fun _ _ => rfl, ?_⟩; go_big_quiet_on)
          go_big_quiet_want
          go_big_quiet_op
          first | go_big_quiet_on | (refine ⟨_, fun _ _ => rfl, ?_⟩; go_big_quiet_on)
          go_big_quiet_want
          go_big_quiet_op
          first | go_big_quiet_on | (refine ⟨_, fun _ _ => rfl, ?_⟩; go_big_quiet_on)
          go_big_quiet_want
          go_big_quiet_op
          first | go_big_quiet_on | (refine ⟨_, fun _ _ => rfl, ?_⟩; go_big_quiet_on)
          go_big_quiet_want
          refine quiet_load1 76 _ 2 0 rfl rfl lZ2 ?_
          simp only [Act.put, List.setIfInBounds_toArray, List.set_cons_succ, List.set_cons_zero]
          go_big_quiet_on
          go_big_quiet_want
          go_big_quiet_op
          first | go_big_quiet_on | (refine ⟨_, fun _ _ => rfl, ?_⟩; go_big_quiet_on)
          go_big_quiet_want
          go_big_quiet_op
          first | go_big_quiet_on | (refine ⟨_, fun _ _ => rfl, ?_⟩; go_big_quiet_on)
          go_big_quiet_want
          go_big_quiet_op
          first | go_big_quiet_on | (refine ⟨_, fun _ _ => rfl, ?_⟩; go_big_quiet_on)
          go_big_quiet_want
          go_big_quiet_op
          first | go_big_quiet_on | (refine ⟨_, fun _ _ => rfl, ?_⟩; go_big_quiet_on)
          go_big_quiet_want
          go_big_quiet_op
          first | go_big_quiet_on | (refine ⟨_, fun _ _ => rfl, ?_⟩; go_big_quiet_on)
          go_big_quiet_want
          go_big_quiet_op
          first | go_big_quiet_on | (refine ⟨_, fun _ _ => rfl, ?_⟩; go_big_quiet_on)
          go_big_quiet_want
          go_big_quiet_op
          first | go_big_quiet_on | (refine ⟨_, fun _ _ => rfl, ?_⟩; go_big_quiet_on)
          go_big_quiet_want
          refine quiet_load3 9 _ x rfl rfl lX ?_
          simp only [Act.put, List.setIfInBounds_toArray, List.set_cons_succ, List.set_cons_zero]
          go_big_quiet_on
          go_big_quiet_want
          go_big_quiet_op
          first | go_big_quiet_on | (refine ⟨_, fun _ _ => rfl, ?_⟩; go_big_quiet_on)
          go_big_quiet_want
          refine quiet_load1 86 _ 0 z.1 rfl rfl lZ0 ?_
          simp only [Act.put, List.setIfInBounds_toArray, List.set_cons_succ, List.set_cons_zero]
          go_big_quiet_on
          go_big_quiet_want
          go_big_quiet_op
          first | go_big_quiet_on | (refine ⟨_, fun _ _ => rfl, ?_⟩; go_big_quiet_on)
          go_big_quiet_want
          go_big_quiet_op
          first | go_big_quiet_on | (refine ⟨_, fun _ _ => rfl, ?_⟩; go_big_quiet_on)
          go_big_quiet_want
          refine quiet_call 24 #[.int .i64 z.1, .int .i64 c, .int .i64 m] (numV x.1 x.2) (fun W => by kernel_rfl) (fun W hW => (parts_any z.1 c m W).mono fun e w' h => ⟨by rw [h.1, hP.out], hW.trans (h.2.mono hW.size)⟩) ?_
          unfold numV
          simp only [Act.put, List.setIfInBounds_toArray, List.set_cons_succ, List.set_cons_zero]
          go_big_quiet_on
          go_big_quiet_want
          go_big_quiet_op
          first | go_big_quiet_on | (refine ⟨_, fun _ _ => rfl, ?_⟩; go_big_quiet_on)
          go_big_quiet_want
          go_big_quiet_op
          first | go_big_quiet_on | (refine ⟨_, fun _ _ => rfl, ?_⟩; go_big_quiet_on)
          refine wpQuiet_nil ?_
          intro wi hBi
          obtain ⟨c0, c1, c2, hlt⟩ := lR wi hBi
          have HBi : Hid (Below w.heap.size w wi) := HBh.out.trans (hBi.mono HBh.out.size)
          clear lX lR lZ lZ0 lZ2 hX5 hR5 hZ5 hBi
          by_cases hk0 : 0 ≤ k ∧ k ≤ 1000000000000000
          · have hPc : Hid (percentR k 100 = (k, 0)) := hundred k hk0
            obtain ⟨hk1, hk2⟩ := hk0
            go_wp2_with fail
            refine (percent_face k 100 _).mono ?_
            rintro e wj ⟨rfl, hBj⟩
            rw [hPc.out]
            unfold numV
            obtain ⟨c0, c1, c2, hlt⟩ := Num3.on (r := r) ⟨c0, c1, c2, hlt⟩ hBj
            have HBj : Hid (Below w.heap.size w wj) := HBi.out.trans (hBj.mono HBi.out.size)
            clear hBj hPc
            have hrf := root_facts n r hr.out
            clear hr
            rcases hrf with hr1 | ⟨hr0, j, u, v, hj, hj2, hu, hv, hun, hvn, bu, bv⟩
            · rw [hr1] at c2
              clear hr1
              go_wp2
              go_ret
              exact ⟨rfl, HBj.out⟩
            · rw [hr0] at c2
              rw [hj] at c0
              have hw1 : IntKind.i64.wrap ((j : Int) * (j : Int)) = (u : Int) := by rw [← Int.natCast_mul, hu, IntKind.wrap_i64]; omega
              have hw2 : IntKind.i64.wrap (((j : Int) + 1) * ((j : Int) + 1)) = (v : Int) := by
                have e1 : ((j : Int) + 1) * ((j : Int) + 1) = (v : Int) := by rw [← hv]; simp
                rw [e1, IntKind.wrap_i64]; omega
              clear hr0 hj hu hv
              go_wp2
              go_ret
              exact ⟨rfl, HBj.out⟩
          · by_cases hk1 : 0 ≤ k
            · have hk2 : ¬ k ≤ 1000000000000000 := by omega
              clear hk0
              have hrf := root_facts n r hr.out
              clear hr
              rcases hrf with hr1 | ⟨hr0, j, u, v, hj, hj2, hu, hv, hun, hvn, bu, bv⟩
              · rw [hr1] at c2
                clear hr1
                go_wp2
                go_ret
                exact ⟨rfl, HBi.out⟩
              · rw [hr0] at c2
                rw [hj] at c0
                have hw1 : IntKind.i64.wrap ((j : Int) * (j : Int)) = (u : Int) := by rw [← Int.natCast_mul, hu, IntKind.wrap_i64]; omega
                have hw2 : IntKind.i64.wrap (((j : Int) + 1) * ((j : Int) + 1)) = (v : Int) := by
                  have e1 : ((j : Int) + 1) * ((j : Int) + 1) = (v : Int) := by rw [← hv]; simp
                  rw [e1, IntKind.wrap_i64]; omega
                clear hr0 hj hu hv
                go_wp2
                go_ret
                exact ⟨rfl, HBi.out⟩
            · clear hk0
              have hrf := root_facts n r hr.out
              clear hr
              rcases hrf with hr1 | ⟨hr0, j, u, v, hj, hj2, hu, hv, hun, hvn, bu, bv⟩
              · rw [hr1] at c2
                clear hr1
                go_wp2
                go_ret
                exact ⟨rfl, HBi.out⟩
              · rw [hr0] at c2
                rw [hj] at c0
                have hw1 : IntKind.i64.wrap ((j : Int) * (j : Int)) = (u : Int) := by rw [← Int.natCast_mul, hu, IntKind.wrap_i64]; omega
                have hw2 : IntKind.i64.wrap (((j : Int) + 1) * ((j : Int) + 1)) = (v : Int) := by
                  have e1 : ((j : Int) + 1) * ((j : Int) + 1) = (v : Int) := by rw [← hv]; simp
                  rw [e1, IntKind.wrap_i64]; omega
                clear hr0 hj hu hv
                go_wp2
                go_ret
                exact ⟨rfl, HBi.out⟩
        · rw [hk] at lZ2
          refine wp_region_quiet (C := fun W => Below wh.heap.size wh W) (by kernel_rfl) (by kernel_rfl) (Below.refl _ _).drew ?_
          show wpQuiet _ _ _ _ [_, _, _, _, _, _, _, _, _, _, _, _, _, _, _, _, _, _, _, _, _, _, _, _] _
          go_big_quiet_want
          go_big_quiet_op
          first | go_big_quiet_on | (refine ⟨_, fun _ _ => rfl, ?_⟩; go_big_quiet_on)
          go_big_quiet_want
          go_big_quiet_op
          first | go_big_quiet_on | (refine ⟨_, fun _ _ => rfl, ?_⟩; go_big_quiet_on)
          go_big_quiet_want
          go_big_quiet_op
          first | go_big_quiet_on | (refine ⟨_, fun _ _ => rfl, ?_⟩; go_big_quiet_on)
          go_big_quiet_want
          go_big_quiet_op
          first | go_big_quiet_on | (refine ⟨_, fun _ _ => rfl, ?_⟩; go_big_quiet_on)
          go_big_quiet_want
          go_big_quiet_op
          first | go_big_quiet_on | (refine ⟨_, fun _ _ => rfl, ?_⟩; go_big_quiet_on)
          go_big_quiet_want
          go_big_quiet_op
          first | go_big_quiet_on | (refine ⟨_, fun _ _ => rfl, ?_⟩; go_big_quiet_on)
          go_big_quiet_want
          go_big_quiet_op
          first | go_big_quiet_on | (refine ⟨_, fun _ _ => rfl, ?_⟩; go_big_quiet_on)
          go_big_quiet_want
          go_big_quiet_op
          first | go_big_quiet_on | (refine ⟨_, fun _ _ => rfl, ?_⟩; go_big_quiet_on)
          go_big_quiet_want
          refine quiet_load1 76 _ 2 0 rfl rfl lZ2 ?_
          simp only [Act.put, List.setIfInBounds_toArray, List.set_cons_succ, List.set_cons_zero]
          go_big_quiet_on
          go_big_quiet_want
          go_big_quiet_op
          first | go_big_quiet_on | (refine ⟨_, fun _ _ => rfl, ?_⟩; go_big_quiet_on)
          go_big_quiet_want
          go_big_quiet_op
          first | go_big_quiet_on | (refine ⟨_, fun _ _ => rfl, ?_⟩; go_big_quiet_on)
          go_big_quiet_want
          go_big_quiet_op
          first | go_big_quiet_on | (refine ⟨_, fun _ _ => rfl, ?_⟩; go_big_quiet_on)
          go_big_quiet_want
          go_big_quiet_op
          first | go_big_quiet_on | (refine ⟨_, fun _ _ => rfl, ?_⟩; go_big_quiet_on)
          go_big_quiet_want
          go_big_quiet_op
          first | go_big_quiet_on | (refine ⟨_, fun _ _ => rfl, ?_⟩; go_big_quiet_on)
          go_big_quiet_want
          go_big_quiet_op
          first | go_big_quiet_on | (refine ⟨_, fun _ _ => rfl, ?_⟩; go_big_quiet_on)
          go_big_quiet_want
          go_big_quiet_op
          first | go_big_quiet_on | (refine ⟨_, fun _ _ => rfl, ?_⟩; go_big_quiet_on)
          go_big_quiet_skip
          go_big_quiet_skip
          go_big_quiet_skip
          go_big_quiet_skip
          go_big_quiet_skip
          go_big_quiet_skip
          go_big_quiet_skip
          go_big_quiet_want
          go_big_quiet_op
          first | go_big_quiet_on | (refine ⟨_, fun _ _ => rfl, ?_⟩; go_big_quiet_on)
          refine wpQuiet_nil ?_
          intro wi hBi
          obtain ⟨c0, c1, c2, hlt⟩ := lR wi hBi
          have HBi : Hid (Below w.heap.size w wi) := HBh.out.trans (hBi.mono HBh.out.size)
          clear lX lR lZ lZ0 lZ2 hX5 hR5 hZ5 hBi
          by_cases hk0 : 0 ≤ k ∧ k ≤ 1000000000000000
          · have hPc : Hid (percentR k 100 = (k, 0)) := hundred k hk0
            obtain ⟨hk1, hk2⟩ := hk0
            go_wp2_with fail
            refine (percent_face k 100 _).mono ?_
            rintro e wj ⟨rfl, hBj⟩
            rw [hPc.out]
            unfold numV
            obtain ⟨c0, c1, c2, hlt⟩ := Num3.on (r := r) ⟨c0, c1, c2, hlt⟩ hBj
            have HBj : Hid (Below w.heap.size w wj) := HBi.out.trans (hBj.mono HBi.out.size)
            clear hBj hPc
            have hrf := root_facts n r hr.out
            clear hr
            rcases hrf with hr1 | ⟨hr0, j, u, v, hj, hj2, hu, hv, hun, hvn, bu, bv⟩
            · rw [hr1] at c2
              clear hr1
              go_wp2
              go_ret
              exact ⟨rfl, HBj.out⟩
            · rw [hr0] at c2
              rw [hj] at c0
              have hw1 : IntKind.i64.wrap ((j : Int) * (j : Int)) = (u : Int) := by rw [← Int.natCast_mul, hu, IntKind.wrap_i64]; omega
              have hw2 : IntKind.i64.wrap (((j : Int) + 1) * ((j : Int) + 1)) = (v : Int) := by
                have e1 : ((j : Int) + 1) * ((j : Int) + 1) = (v : Int) := by rw [← hv]; simp
                rw [e1, IntKind.wrap_i64]; omega
              clear hr0 hj hu hv
              go_wp2
              go_ret
              exact ⟨rfl, HBj.out⟩
          · by_cases hk1 : 0 ≤ k
            · have hk2 : ¬ k ≤ 1000000000000000 := by omega
              clear hk0
              have hrf := root_facts n r hr.out
              clear hr
              rcases hrf with hr1 | ⟨hr0, j, u, v, hj, hj2, hu, hv, hun, hvn, bu, bv⟩
              · rw [hr1] at c2
                clear hr1
                go_wp2
                go_ret
                exact ⟨rfl, HBi.out⟩
              · rw [hr0] at c2
                rw [hj] at c0
                have hw1 : IntKind.i64.wrap ((j : Int) * (j : Int)) = (u : Int) := by rw [← Int.natCast_mul, hu, IntKind.wrap_i64]; omega
                have hw2 : IntKind.i64.wrap (((j : Int) + 1) * ((j : Int) + 1)) = (v : Int) := by
                  have e1 : ((j : Int) + 1) * ((j : Int) + 1) = (v : Int) := by rw [← hv]; simp
                  rw [e1, IntKind.wrap_i64]; omega
                clear hr0 hj hu hv
                go_wp2
                go_ret
                exact ⟨rfl, HBi.out⟩
            · clear hk0
              have hrf := root_facts n r hr.out
              clear hr
              rcases hrf with hr1 | ⟨hr0, j, u, v, hj, hj2, hu, hv, hun, hvn, bu, bv⟩
              · rw [hr1] at c2
                clear hr1
                go_wp2
                go_ret
                exact ⟨rfl, HBi.out⟩
              · rw [hr0] at c2
                rw [hj] at c0
                have hw1 : IntKind.i64.wrap ((j : Int) * (j : Int)) = (u : Int) := by rw [← Int.natCast_mul, hu, IntKind.wrap_i64]; omega
                have hw2 : IntKind.i64.wrap (((j : Int) + 1) * ((j : Int) + 1)) = (v : Int) := by
                  have e1 : ((j : Int) + 1) * ((j : Int) + 1) = (v : Int) := by rw [← hv]; simp
                  rw [e1, IntKind.wrap_i64]; omega
                clear hr0 hj hu hv
                go_wp2
                go_ret
                exact ⟨rfl, HBi.out⟩
      · have hk2 : (z.2 == 0) = false := by simp; omega
        refine wp_region_quiet (C := fun W => Below wh.heap.size wh W) (by kernel_rfl) (by kernel_rfl) (Below.refl _ _).drew ?_
        show wpQuiet _ _ _ _ [_, _, _, _, _, _, _, _, _, _, _, _, _, _, _, _, _, _, _, _, _, _, _, _] _
        go_big_quiet_want
        go_big_quiet_op
        first | go_big_quiet_on | (refine ⟨_, fun _ _ => rfl, ?_⟩; go_big_quiet_on)
        go_big_quiet_want
        go_big_quiet_op
        first | go_big_quiet_on | (refine ⟨_, fun _ _ => rfl, ?_⟩; go_big_quiet_on)
        go_big_quiet_want
        go_big_quiet_op
        first | go_big_quiet_on | (refine ⟨_, fun _ _ => rfl, ?_⟩; go_big_quiet_on)
        go_big_quiet_want
        go_big_quiet_op
        first | go_big_quiet_on | (refine ⟨_, fun _ _ => rfl, ?_⟩; go_big_quiet_on)
        go_big_quiet_want
        go_big_quiet_op
        first | go_big_quiet_on | (refine ⟨_, fun _ _ => rfl, ?_⟩; go_big_quiet_on)
        go_big_quiet_want
        go_big_quiet_op
        first | go_big_quiet_on | (refine ⟨_, fun _ _ => rfl, ?_⟩; go_big_quiet_on)
        go_big_quiet_want
        go_big_quiet_op
        first | go_big_quiet_on | (refine ⟨_, fun _ _ => rfl, ?_⟩; go_big_quiet_on)
        go_big_quiet_want
        go_big_quiet_op
        first | go_big_quiet_on | (refine ⟨_, fun _ _ => rfl, ?_⟩; go_big_quiet_on)
        go_big_quiet_want
        refine quiet_load1 76 _ 2 z.2 rfl rfl lZ2 ?_
        simp only [Act.put, List.setIfInBounds_toArray, List.set_cons_succ, List.set_cons_zero]
        go_big_quiet_on
        go_big_quiet_want
        go_big_quiet_op
        first | go_big_quiet_on | (refine ⟨_, fun _ _ => rfl, ?_⟩; go_big_quiet_on)
        go_big_quiet_want
        go_big_quiet_op
        first | go_big_quiet_on | (refine ⟨_, fun _ _ => rfl, ?_⟩; go_big_quiet_on)
        go_big_quiet_want
        go_big_quiet_op
        first | go_big_quiet_on | (refine ⟨_, fun _ _ => rfl, ?_⟩; go_big_quiet_on)
        go_big_quiet_skip
        go_big_quiet_skip
        go_big_quiet_want
        go_big_quiet_op
        first | go_big_quiet_on | (refine ⟨_, fun _ _ => rfl, ?_⟩; go_big_quiet_on)
        go_big_quiet_want
        go_big_quiet_op
        first | go_big_quiet_on | (refine ⟨_, fun _ _ => rfl, ?_⟩; go_big_quiet_on)
        go_big_quiet_skip
        go_big_quiet_skip
        go_big_quiet_skip
        go_big_quiet_skip
        go_big_quiet_skip
        go_big_quiet_skip
        go_big_quiet_skip
        go_big_quiet_want
        go_big_quiet_op
        first | go_big_quiet_on | (refine ⟨_, fun _ _ => rfl, ?_⟩; go_big_quiet_on)
        refine wpQuiet_nil ?_
        intro wi hBi
        obtain ⟨c0, c1, c2, hlt⟩ := lR wi hBi
        have HBi : Hid (Below w.heap.size w wi) := HBh.out.trans (hBi.mono HBh.out.size)
        clear lX lR lZ lZ0 lZ2 hX5 hR5 hZ5 hBi
        by_cases hk0 : 0 ≤ k ∧ k ≤ 1000000000000000
        · have hPc : Hid (percentR k 100 = (k, 0)) := hundred k hk0
          obtain ⟨hk1, hk2⟩ := hk0
          go_wp2_with fail
          refine (percent_face k 100 _).mono ?_
          rintro e wj ⟨rfl, hBj⟩
          rw [hPc.out]
          unfold numV
          obtain ⟨c0, c1, c2, hlt⟩ := Num3.on (r := r) ⟨c0, c1, c2, hlt⟩ hBj
          have HBj : Hid (Below w.heap.size w wj) := HBi.out.trans (hBj.mono HBi.out.size)
          clear hBj hPc
          have hrf := root_facts n r hr.out
          clear hr
          rcases hrf with hr1 | ⟨hr0, j, u, v, hj, hj2, hu, hv, hun, hvn, bu, bv⟩
          · rw [hr1] at c2
            clear hr1
            go_wp2
            go_ret
            exact ⟨rfl, HBj.out⟩
          · rw [hr0] at c2
            rw [hj] at c0
            have hw1 : IntKind.i64.wrap ((j : Int) * (j : Int)) = (u : Int) := by rw [← Int.natCast_mul, hu, IntKind.wrap_i64]; omega
            have hw2 : IntKind.i64.wrap (((j : Int) + 1) * ((j : Int) + 1)) = (v : Int) := by
              have e1 : ((j : Int) + 1) * ((j : Int) + 1) = (v : Int) := by rw [← hv]; simp
              rw [e1, IntKind.wrap_i64]; omega
            clear hr0 hj hu hv
            go_wp2
            go_ret
            exact ⟨rfl, HBj.out⟩
        · by_cases hk1 : 0 ≤ k
          · have hk2 : ¬ k ≤ 1000000000000000 := by omega
            clear hk0
            have hrf := root_facts n r hr.out
            clear hr
            rcases hrf with hr1 | ⟨hr0, j, u, v, hj, hj2, hu, hv, hun, hvn, bu, bv⟩
            · rw [hr1] at c2
              clear hr1
              go_wp2
              go_ret
              exact ⟨rfl, HBi.out⟩
            · rw [hr0] at c2
              rw [hj] at c0
              have hw1 : IntKind.i64.wrap ((j : Int) * (j : Int)) = (u : Int) := by rw [← Int.natCast_mul, hu, IntKind.wrap_i64]; omega
              have hw2 : IntKind.i64.wrap (((j : Int) + 1) * ((j : Int) + 1)) = (v : Int) := by
                have e1 : ((j : Int) + 1) * ((j : Int) + 1) = (v : Int) := by rw [← hv]; simp
                rw [e1, IntKind.wrap_i64]; omega
              clear hr0 hj hu hv
              go_wp2
              go_ret
              exact ⟨rfl, HBi.out⟩
          · clear hk0
            have hrf := root_facts n r hr.out
            clear hr
            rcases hrf with hr1 | ⟨hr0, j, u, v, hj, hj2, hu, hv, hun, hvn, bu, bv⟩
            · rw [hr1] at c2
              clear hr1
              go_wp2
              go_ret
              exact ⟨rfl, HBi.out⟩
            · rw [hr0] at c2
              rw [hj] at c0
              have hw1 : IntKind.i64.wrap ((j : Int) * (j : Int)) = (u : Int) := by rw [← Int.natCast_mul, hu, IntKind.wrap_i64]; omega
              have hw2 : IntKind.i64.wrap (((j : Int) + 1) * ((j : Int) + 1)) = (v : Int) := by
                have e1 : ((j : Int) + 1) * ((j : Int) + 1) = (v : Int) := by rw [← hv]; simp
                rw [e1, IntKind.wrap_i64]; omega
              clear hr0 hj hu hv
              go_wp2
              go_ret
              exact ⟨rfl, HBi.out⟩
    · have hdb : decide (0 ≤ b) = false := decide_eq_false hb
      refine wp_region_quiet (C := fun W => Below wh.heap.size wh W) (by kernel_rfl) (by kernel_rfl) (Below.refl _ _).drew ?_
      show wpQuiet _ _ _ _ [_, _, _, _, _, _, _, _, _, _, _, _, _, _, _, _, _, _, _, _, _, _, _, _] _
      go_big_quiet_want
      go_big_quiet_op
      first | go_big_quiet_on | (refine ⟨_, fun _ _ => rfl, ?_⟩; go_big_quiet_on)
      go_big_quiet_want
      go_big_quiet_op
      first | go_big_quiet_on | (refine ⟨_, fun _ _ => rfl, ?_⟩; go_big_quiet_on)
      go_big_quiet_want
      go_big_quiet_op
      first | go_big_quiet_on | (refine ⟨_, fun _ _ => rfl, ?_⟩; go_big_quiet_on)
      go_big_quiet_want
      go_big_quiet_op
      first | go_big_quiet_on | (refine ⟨_, fun _ _ => rfl, ?_⟩; go_big_quiet_on)
      go_big_quiet_want
      go_big_quiet_op
      first | go_big_quiet_on | (refine ⟨_, fun _ _ => rfl, ?_⟩; go_big_quiet_on)
      go_big_quiet_want
      go_big_quiet_op
      first | go_big_quiet_on | (refine ⟨_, fun _ _ => rfl, ?_⟩; go_big_quiet_on)
      go_big_quiet_want
      go_big_quiet_op
      first | go_big_quiet_on | (refine ⟨_, fun _ _ => rfl, ?_⟩; go_big_quiet_on)
      go_big_quiet_skip
      go_big_quiet_skip
      go_big_quiet_skip
      go_big_quiet_want
      go_big_quiet_op
      first | go_big_quiet_on | (refine ⟨_, fun _ _ => rfl, ?_⟩; go_big_quiet_on)
      go_big_quiet_want
      go_big_quiet_op
      first | go_big_quiet_on | (refine ⟨_, fun _ _ => rfl, ?_⟩; go_big_quiet_on)
      go_big_quiet_skip
      go_big_quiet_skip
      go_big_quiet_want
      go_big_quiet_op
      first | go_big_quiet_on | (refine ⟨_, fun _ _ => rfl, ?_⟩; go_big_quiet_on)
      go_big_quiet_want
      go_big_quiet_op
      first | go_big_quiet_on | (refine ⟨_, fun _ _ => rfl, ?_⟩; go_big_quiet_on)
      go_big_quiet_skip
      go_big_quiet_skip
      go_big_quiet_skip
      go_big_quiet_skip
      go_big_quiet_skip
      go_big_quiet_skip
      go_big_quiet_skip
      go_big_quiet_want
      go_big_quiet_op
      first | go_big_quiet_on | (refine ⟨_, fun _ _ => rfl, ?_⟩; go_big_quiet_on)
      refine wpQuiet_nil ?_
      intro wi hBi
      obtain ⟨c0, c1, c2, hlt⟩ := lR wi hBi
      have HBi : Hid (Below w.heap.size w wi) := HBh.out.trans (hBi.mono HBh.out.size)
      clear lX lR lZ lZ0 lZ2 hX5 hR5 hZ5 hBi
      by_cases hk0 : 0 ≤ k ∧ k ≤ 1000000000000000
      · have hPc : Hid (percentR k 100 = (k, 0)) := hundred k hk0
        obtain ⟨hk1, hk2⟩ := hk0
        go_wp2_with fail
        refine (percent_face k 100 _).mono ?_
        rintro e wj ⟨rfl, hBj⟩
        rw [hPc.out]
        unfold numV
        obtain ⟨c0, c1, c2, hlt⟩ := Num3.on (r := r) ⟨c0, c1, c2, hlt⟩ hBj
        have HBj : Hid (Below w.heap.size w wj) := HBi.out.trans (hBj.mono HBi.out.size)
        clear hBj hPc
        have hrf := root_facts n r hr.out
        clear hr
        rcases hrf with hr1 | ⟨hr0, j, u, v, hj, hj2, hu, hv, hun, hvn, bu, bv⟩
        · rw [hr1] at c2
          clear hr1
          go_wp2
          go_ret
          exact ⟨rfl, HBj.out⟩
        · rw [hr0] at c2
          rw [hj] at c0
          have hw1 : IntKind.i64.wrap ((j : Int) * (j : Int)) = (u : Int) := by rw [← Int.natCast_mul, hu, IntKind.wrap_i64]; omega
          have hw2 : IntKind.i64.wrap (((j : Int) + 1) * ((j : Int) + 1)) = (v : Int) := by
            have e1 : ((j : Int) + 1) * ((j : Int) + 1) = (v : Int) := by rw [← hv]; simp
            rw [e1, IntKind.wrap_i64]; omega
          clear hr0 hj hu hv
          go_wp2
          go_ret
          exact ⟨rfl, HBj.out⟩
      · by_cases hk1 : 0 ≤ k
        · have hk2 : ¬ k ≤ 1000000000000000 := by omega
          clear hk0
          have hrf := root_facts n r hr.out
          clear hr
          rcases hrf with hr1 | ⟨hr0, j, u, v, hj, hj2, hu, hv, hun, hvn, bu, bv⟩
          · rw [hr1] at c2
            clear hr1
            go_wp2
            go_ret
            exact ⟨rfl, HBi.out⟩
          · rw [hr0] at c2
            rw [hj] at c0
            have hw1 : IntKind.i64.wrap ((j : Int) * (j : Int)) = (u : Int) := by rw [← Int.natCast_mul, hu, IntKind.wrap_i64]; omega
            have hw2 : IntKind.i64.wrap (((j : Int) + 1) * ((j : Int) + 1)) = (v : Int) := by
              have e1 : ((j : Int) + 1) * ((j : Int) + 1) = (v : Int) := by rw [← hv]; simp
              rw [e1, IntKind.wrap_i64]; omega
            clear hr0 hj hu hv
            go_wp2
            go_ret
            exact ⟨rfl, HBi.out⟩
        · clear hk0
          have hrf := root_facts n r hr.out
          clear hr
          rcases hrf with hr1 | ⟨hr0, j, u, v, hj, hj2, hu, hv, hun, hvn, bu, bv⟩
          · rw [hr1] at c2
            clear hr1
            go_wp2
            go_ret
            exact ⟨rfl, HBi.out⟩
          · rw [hr0] at c2
            rw [hj] at c0
            have hw1 : IntKind.i64.wrap ((j : Int) * (j : Int)) = (u : Int) := by rw [← Int.natCast_mul, hu, IntKind.wrap_i64]; omega
            have hw2 : IntKind.i64.wrap (((j : Int) + 1) * ((j : Int) + 1)) = (v : Int) := by
              have e1 : ((j : Int) + 1) * ((j : Int) + 1) = (v : Int) := by rw [← hv]; simp
              rw [e1, IntKind.wrap_i64]; omega
            clear hr0 hj hu hv
            go_wp2
            go_ret
            exact ⟨rfl, HBi.out⟩
  · have hda : decide (0 ≤ a) = false := decide_eq_false ha
    refine wp_region_quiet (C := fun W => Below wh.heap.size wh W) (by kernel_rfl) (by kernel_rfl) (Below.refl _ _).drew ?_
    show wpQuiet _ _ _ _ [_, _, _, _, _, _, _, _, _, _, _, _, _, _, _, _, _, _, _, _, _, _, _, _] _
    go_big_quiet_want
    go_big_quiet_op
    first | go_big_quiet_on | (refine ⟨_, fun _ _ => rfl, ?_⟩; go_big_quiet_on)
    go_big_quiet_want
    go_big_quiet_op
    first | go_big_quiet_on | (refine ⟨_, fun _ _ => rfl, ?_⟩; go_big_quiet_on)
    go_big_quiet_want
    go_big_quiet_op
    first | go_big_quiet_on | (refine ⟨_, fun _ _ => rfl, ?_⟩; go_big_quiet_on)
    go_big_quiet_skip
    go_big_quiet_skip
    go_big_quiet_want
    go_big_quiet_op
    first | go_big_quiet_on | (refine ⟨_, fun _ _ => rfl, ?_⟩; go_big_quiet_on)
    go_big_quiet_want
    go_big_quiet_op
    first | go_big_quiet_on | (refine ⟨_, fun _ _ => rfl, ?_⟩; go_big_quiet_on)
    go_big_quiet_skip
    go_big_quiet_skip
    go_big_quiet_skip
    go_big_quiet_want
    go_big_quiet_op
    first | go_big_quiet_on | (refine ⟨_, fun _ _ => rfl, ?_⟩; go_big_quiet_on)
    go_big_quiet_want
    go_big_quiet_op
    first | go_big_quiet_on | (refine ⟨_, fun _ _ => rfl, ?_⟩; go_big_quiet_on)
    go_big_quiet_skip
    go_big_quiet_skip
    go_big_quiet_want
    go_big_quiet_op
    first | go_big_quiet_on | (refine ⟨_, fun _ _ => rfl, ?_⟩; go_big_quiet_on)
    go_big_quiet_want
    go_big_quiet_op
    first | go_big_quiet_on | (refine ⟨_, fun _ _ => rfl, ?_⟩; go_big_quiet_on)
    go_big_quiet_skip
    go_big_quiet_skip
    go_big_quiet_skip
    go_big_quiet_skip
    go_big_quiet_skip
    go_big_quiet_skip
    go_big_quiet_skip
    go_big_quiet_want
    go_big_quiet_op
    first | go_big_quiet_on | (refine ⟨_, fun _ _ => rfl, ?_⟩; go_big_quiet_on)
    refine wpQuiet_nil ?_
    intro wi hBi
    obtain ⟨c0, c1, c2, hlt⟩ := lR wi hBi
    have HBi : Hid (Below w.heap.size w wi) := HBh.out.trans (hBi.mono HBh.out.size)
    clear lX lR lZ lZ0 lZ2 hX5 hR5 hZ5 hBi
    by_cases hk0 : 0 ≤ k ∧ k ≤ 1000000000000000
    · have hPc : Hid (percentR k 100 = (k, 0)) := hundred k hk0
      obtain ⟨hk1, hk2⟩ := hk0
      go_wp2_with fail
      refine (percent_face k 100 _).mono ?_
      rintro e wj ⟨rfl, hBj⟩
      rw [hPc.out]
      unfold numV
      obtain ⟨c0, c1, c2, hlt⟩ := Num3.on (r := r) ⟨c0, c1, c2, hlt⟩ hBj
      have HBj : Hid (Below w.heap.size w wj) := HBi.out.trans (hBj.mono HBi.out.size)
      clear hBj hPc
      have hrf := root_facts n r hr.out
      clear hr
      rcases hrf with hr1 | ⟨hr0, j, u, v, hj, hj2, hu, hv, hun, hvn, bu, bv⟩
      · rw [hr1] at c2
        clear hr1
        go_wp2
        go_ret
        exact ⟨rfl, HBj.out⟩
      · rw [hr0] at c2
        rw [hj] at c0
        have hw1 : IntKind.i64.wrap ((j : Int) * (j : Int)) = (u : Int) := by rw [← Int.natCast_mul, hu, IntKind.wrap_i64]; omega
        have hw2 : IntKind.i64.wrap (((j : Int) + 1) * ((j : Int) + 1)) = (v : Int) := by
          have e1 : ((j : Int) + 1) * ((j : Int) + 1) = (v : Int) := by rw [← hv]; simp
          rw [e1, IntKind.wrap_i64]; omega
        clear hr0 hj hu hv
        go_wp2
        go_ret
        exact ⟨rfl, HBj.out⟩
    · by_cases hk1 : 0 ≤ k
      · have hk2 : ¬ k ≤ 1000000000000000 := by omega
        clear hk0
        have hrf := root_facts n r hr.out
        clear hr
        rcases hrf with hr1 | ⟨hr0, j, u, v, hj, hj2, hu, hv, hun, hvn, bu, bv⟩
        · rw [hr1] at c2
          clear hr1
          go_wp2
          go_ret
          exact ⟨rfl, HBi.out⟩
        · rw [hr0] at c2
          rw [hj] at c0
          have hw1 : IntKind.i64.wrap ((j : Int) * (j : Int)) = (u : Int) := by rw [← Int.natCast_mul, hu, IntKind.wrap_i64]; omega
          have hw2 : IntKind.i64.wrap (((j : Int) + 1) * ((j : Int) + 1)) = (v : Int) := by
            have e1 : ((j : Int) + 1) * ((j : Int) + 1) = (v : Int) := by rw [← hv]; simp
            rw [e1, IntKind.wrap_i64]; omega
          clear hr0 hj hu hv
          go_wp2
          go_ret
          exact ⟨rfl, HBi.out⟩
      · clear hk0
        have hrf := root_facts n r hr.out
        clear hr
        rcases hrf with hr1 | ⟨hr0, j, u, v, hj, hj2, hu, hv, hun, hvn, bu, bv⟩
        · rw [hr1] at c2
          clear hr1
          go_wp2
          go_ret
          exact ⟨rfl, HBi.out⟩
        · rw [hr0] at c2
          rw [hj] at c0
          have hw1 : IntKind.i64.wrap ((j : Int) * (j : Int)) = (u : Int) := by rw [← Int.natCast_mul, hu, IntKind.wrap_i64]; omega
          have hw2 : IntKind.i64.wrap (((j : Int) + 1) * ((j : Int) + 1)) = (v : Int) := by
            have e1 : ((j : Int) + 1) * ((j : Int) + 1) = (v : Int) := by rw [← hv]; simp
            rw [e1, IntKind.wrap_i64]; omega
          clear hr0 hj hu hv
          go_wp2
          go_ret
          exact ⟨rfl, HBi.out⟩

end Go.Proofs.Ythplmgjnlhcapaa.ScaL
