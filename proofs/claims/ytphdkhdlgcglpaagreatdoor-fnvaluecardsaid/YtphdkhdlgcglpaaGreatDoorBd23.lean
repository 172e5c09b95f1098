/- Texts of ours, laid together: DrawVSame. -/
import Derived.Test.YtphdkhdlgcglpaaGreatDoorBd22
import Derived.Test.YtphdkhdlgcglpaaGreatDoorBd11
/- Two answers as a law draws them: one and its copy, or two. -/
namespace Go.Proofs.YtphdkhdlgcglpaaGreatDoor.DrawV
open Go.RowKit
open ValW ValS ValI DrawW RdS
set_option linter.unusedSimpArgs false

/-- a first answer drawn, in its place, and what it needs: two results not yet filled, the source -/
def Held (w W : World) (V : Nat) (a : Option Addr) (len cap : Nat) (k n : Int) (zs : List Int) (a' : Option Addr) (cap' : Nat) (t : ByteArray) : Prop :=
  Zero W w.heap.size ∧ Zero W (w.heap.size + 1) ∧ Dr W (w.heap.size + 2) a len cap ∧ Below w.heap.size w W ∧ Codes W a' zs ∧ At4 W V (.int .i64 k) (.int .i64 n) (.slice a' zs.length cap') (.string t) ∧ w.heap.size + 2 < V
theorem Held.grown {w W X : World} {V : Nat} {a : Option Addr} {len cap : Nat} {k n : Int} {zs : List Int} {a' : Option Addr} {cap' : Nat} {t : ByteArray} (h : Held w W V a len cap k n zs a' cap' t) (hf : Fresh a' (w.heap.size + 3)) (hd : Dr X (w.heap.size + 2) a len cap) (hg : W.grownBy X (some (w.heap.size + 2))) : Held w X V a len cap k n zs a' cap' t := by
  obtain ⟨h1, h2, h3, h4, h5, ⟨y0, y1, y2, y3, y4⟩, h7⟩ := h
  have hlt := h3.lt
  have hk : ∀ j, j < W.heap.size → j ≠ w.heap.size + 2 → X.heap[j]? = W.heap[j]? := fun j hj hne => hg.block j hj (by intro e; exact hne (Option.some.inj e))
  have eV := hk V y4 (by omega)
  refine ⟨(hk _ (by omega) (by omega)).trans h1, (hk _ (by omega) (by omega)).trans h2, hd, h4.trans (grown_below hg (by omega) h4.size), ⟨h5.1, fun hp => ?_⟩, ⟨(World.cell?_of_block (w := W) eV).trans y0, (World.cell?_of_block (w := W) eV).trans y1, (World.cell?_of_block (w := W) eV).trans y2, (World.cell?_of_block (w := W) eV).trans y3, Nat.lt_of_lt_of_le y4 hg.size⟩, h7⟩
  obtain ⟨b, o, ha, hb, hc⟩ := h5.2 hp
  have := hf b o ha
  exact ⟨b, o, ha, Nat.lt_of_lt_of_le hb hg.size, fun i hi => by rw [World.cell?_of_block (w := W) (hk b hb (by omega))]; exact hc i hi⟩

theorem Held.on {w W X : World} {V : Nat} {a : Option Addr} {len cap : Nat} {k n : Int} {zs : List Int} {a' : Option Addr} {cap' : Nat} {t : ByteArray} (h : Held w W V a len cap k n zs a' cap' t) (hB : Below W.heap.size W X) : Held w X V a len cap k n zs a' cap' t := by
  obtain ⟨h1, h2, h3, h4, h5, h6, h7⟩ := h
  have hlt := h3.lt
  exact ⟨(hB.block _ (by omega)).trans h1, (hB.block _ (by omega)).trans h2, h3.kept fun j hj => hB.block j (by omega), h4.trans (hB.mono h4.size), h5.on hB, h6.on hB, h7⟩

set_option maxRecDepth 10000 in
set_option maxHeartbeats 1000000 in
theorem drawSame_any (w : World) (a : Option Addr) (len cap : Nat) (hc : CodeAt w w.heap.size a len) :
    Calls Tryz.prog 23 #[.slice a len cap] w fun e w' =>
      ∃ k n zs t a' cap', ∃ k2 n2 zs2 t2 a2 cap2, e = .returned (.tuple #[av k n a' zs.length cap' t, av k2 n2 a2 zs2.length cap2 t2]) ∧ Codes w' a' zs ∧ Fresh a' w.heap.size ∧ (a' = none → cap' = 0) ∧ zs.length ≤ 5 ∧ t.size ≤ 41 ∧
        Codes w' a2 zs2 ∧ Fresh a2 w.heap.size ∧ (a2 = none → cap2 = 0) ∧ zs2.length ≤ 5 ∧ t2.size ≤ 41 ∧ Below w.heap.size w w' := by
  have HC : Hid (CodeAt w w.heap.size a len) := hc
  clear hc
  go_enter Tryz.func23, Tryz.ntmps23
  go_wp2_with fail
  refine (source_at _ (w.heap.size + 2) a len cap (by simp) (code_more HC.out (by omega) fun k hk => (Below.heap_alloc _ _ k (by simp; omega)).trans (Below.heap_alloc w _ k hk))).mono ?_
  rintro e w1 ⟨rfl, hd1, hB1⟩
  have hs1 : w.heap.size + 2 < w1.heap.size := hd1.lt
  have HZ1 : Hid (Zero w1 w.heap.size) := ((hB1.block _ (by omega)).trans (Below.heap_alloc _ _ _ (by simp))).trans (heap_alloc_new w _)
  have HY1 : Hid (Zero w1 (w.heap.size + 1)) := (hB1.block _ (by omega)).trans (by
    have := heap_alloc_new (w.alloc (.cells #[.int .i64 0, .int .i64 0, .slice none 0 0, .string ⟨#[]⟩] 38)) (.cells #[.int .i64 0, .int .i64 0, .slice none 0 0, .string ⟨#[]⟩] 38)
    rw [World.size_alloc] at this
    exact this)
  have HD1 : Hid (Dr w1 (w.heap.size + 2) a len cap) := hd1
  have HB1 : Hid (Below w.heap.size w w1) := ((below_one w _).trans ((below_one _ _).mono (by simp))).trans (hB1.mono (by omega))
  clear hd1 hB1
  go_wp2_with fail
  refine (value_any (w.heap.size + 2) w1 a len cap HD1.out).mono ?_
  rintro e w2 ⟨k, n, zs, t, a', cap', rfl, hcd, hfr, hN, hz, ht, hd2, hg2⟩
  have hs2 : w1.heap.size ≤ w2.heap.size := hg2.size
  have HH : Hid (Held w (w2.alloc (.cells #[.int .i64 k, .int .i64 n, .slice a' zs.length cap', .string t] 38)) w2.heap.size a len cap k n zs a' cap' t) := by
    refine ⟨(Below.heap_alloc _ _ _ (by omega)).trans ((hg2.block _ (by omega) (by intro e; have := Option.some.inj e; omega)).trans HZ1.out), (Below.heap_alloc _ _ _ (by omega)).trans ((hg2.block _ (by omega) (by intro e; have := Option.some.inj e; omega)).trans HY1.out), hd2.alloc _, (HB1.out.trans (grown_below hg2 (by omega) HB1.out.size)).trans ((below_one w2 _).mono (by omega)), hcd.alloc _, At4.laid w2 _ _ _ _ _, by omega⟩
  have HFR : Hid (Fresh a' (w.heap.size + 3)) := fun b o hb => by have := hfr b o hb; omega
  clear hcd hfr hd2 hg2 HZ1 HY1 HB1 HD1 HC
  go_wp2_with fail
  generalize w2.alloc (.cells #[.int .i64 k, .int .i64 n, .slice a' zs.length cap', .string t] 38) = W at *
  generalize w2.heap.size = V at *
  refine (one_any (w.heap.size + 2) 2 _ a len cap HH.out.2.2.1 (by omega)).mono ?_
  rintro e w3 ⟨b, rfl, hd3, hg3⟩
  have HH3 : Hid (Held w w3 V a len cap k n zs a' cap' t) := HH.out.grown HFR.out hd3 hg3
  clear hd3 hg3 HH
  have HH4 : Hid (Held w w3.drew V a len cap k n zs a' cap' t) := HH3.out.grown HFR.out (HH3.out.2.2.1.kept fun _ _ => rfl) ⟨rfl, rfl, rfl, Nat.le_refl _, fun _ _ _ => rfl⟩
  have hs3 : w.heap.size + 2 < w3.heap.size := HH3.out.2.2.1.lt
  obtain ⟨x0, x1, x2, x3, x4⟩ := HH3.out.2.2.2.2.2.1
  cases b
  · go_wp2_with fail
    go_region_with (first
    | (go_at_call 55
       refine (value_any (w.heap.size + 2) w3.drew a len cap HH4.out.2.2.1).mono ?_
       rintro e w4 ⟨k2, n2, zs2, t2, a2, cap2, rfl, hcd2, hfr2, hN2, hz2, ht2, hd4, hg4⟩
       have hF2 : Fresh a2 (w.heap.size + 3) := fun b o hb => by have h : w3.heap.size ≤ b := hfr2 b o hb; omega
       have HH5 := HH4.out.grown HFR.out hd4 hg4
       obtain ⟨z1, z2, _, hB5, hC5, ⟨y0, y1, y2, y3, y4⟩, _⟩ := HH5
       obtain ⟨b0, b1, b2, b3, g0⟩ := z1.cells
       obtain ⟨c0, c1, c2, c3, g1⟩ := z2.cells))
    all_goals
      go_wp2
      refine bodyPost_ret (v := .tuple #[av k n a' zs.length cap' t, av k2 n2 a2 zs2.length cap2 t2]) (by simp [results, Tryz.results23, go_sem, b0, b1, b2, b3, c0, c1, c2, c3]) rfl ⟨k, n, zs, t, a', cap', k2, n2, zs2, t2, a2, cap2, rfl, ?_, fun b o hb => by have := HFR.out b o hb; omega, hN, hz, ht, ?_, fun b o hb => by have := hF2 b o hb; omega, hN2, hz2, ht2, ?_⟩
      · repeat (refine codes_set ?_ (fun b o hb => by have := HFR.out b o hb; simp only; omega) _)
        exact hC5
      · repeat (refine codes_set ?_ (fun b o hb => by have := hF2 b o hb; simp only; omega) _)
        exact hcd2
      · repeat (refine Below.setCell ?_ (by simp) _)
        exact hB5
  · go_wp2_with fail
    go_region_with (first
    | (go_at_call 60
       refine (copy_any k n a' cap' zs t w3.drew HH4.out.2.2.2.2.1 hN).mono ?_
       rintro e w4 ⟨a2, cap2, rfl, hcd2, hfr2, hN2, hB4⟩
       have hF2 : Fresh a2 (w.heap.size + 3) := fun b o hb => by have h : w3.heap.size ≤ b := hfr2 b o hb; omega
       have HH5 := HH4.out.on hB4
       obtain ⟨z1, z2, _, hB5, hC5, ⟨y0, y1, y2, y3, y4⟩, _⟩ := HH5
       obtain ⟨b0, b1, b2, b3, g0⟩ := z1.cells
       obtain ⟨c0, c1, c2, c3, g1⟩ := z2.cells))
    all_goals
      go_wp2
      refine bodyPost_ret (v := .tuple #[av k n a' zs.length cap' t, av k n a2 zs.length cap2 t]) (by simp [results, Tryz.results23, go_sem, b0, b1, b2, b3, c0, c1, c2, c3]) rfl ⟨k, n, zs, t, a', cap', k, n, zs, t, a2, cap2, rfl, ?_, fun b o hb => by have := HFR.out b o hb; omega, hN, hz, ht, ?_, fun b o hb => by have := hF2 b o hb; omega, hN2, hz, ht, ?_⟩
      · repeat (refine codes_set ?_ (fun b o hb => by have := HFR.out b o hb; simp only; omega) _)
        exact hC5
      · repeat (refine codes_set ?_ (fun b o hb => by have := hF2 b o hb; simp only; omega) _)
        exact hcd2
      · repeat (refine Below.setCell ?_ (by simp) _)
        exact hB5
end Go.Proofs.YtphdkhdlgcglpaaGreatDoor.DrawV
