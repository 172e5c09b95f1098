/- The draw of a number and a percentage: bounds alone; the order of one statement is open. -/
import Derived.Test.YthplmgjnlhcapaaFixDraws
import Derived.Test.YthplmgjnlhcapaaAnyOrder
namespace Go.Proofs.Ythplmgjnlhcapaa.DrawW
open Go.RowKit

def pcs : List Int := [-1, 1000, 1001]
theorem pcs_in : ∀ v ∈ pcs, -9223372036854775808 ≤ v ∧ v ≤ 9223372036854775807 := by decide
theorem pcs_mem : ∀ r, r < 3 → pcs.getD r 0 ∈ pcs := by decide
theorem FixPc.lt_cell {w : World} {b o : Nat} {v : Value} (h : w.cell? ⟨b, o, none⟩ = some v) : b < w.heap.size := by
  rcases Nat.lt_or_ge b w.heap.size with h1 | h1
  · exact h1
  · have : w.heap[b]? = none := by rw [getElem?_neg]; omega
    simp [World.cell?, this] at h

set_option maxRecDepth 10000 in
set_option maxHeartbeats 1600000 in
theorem drawPercent_any (w : World) (a : Option Addr) (len cap : Nat) (hc : CodeAt w w.heap.size a len) :
    Calls Try.prog 29 #[.slice a len cap] w fun e w' => ∃ v0 v1 : Int, e = .returned (.tuple #[.int .i64 v0, .int .i64 v1]) ∧ (-9223372036854775808 ≤ v0 ∧ v0 ≤ 9223372036854775807) ∧ (-9223372036854775808 ≤ v1 ∧ v1 ≤ 9223372036854775807) ∧ Below w.heap.size w w' := by
  have HC : Hid (CodeAt w w.heap.size a len) := hc
  clear hc
  go_enter Try.func29, Try.ntmps29
  go_wp2_with fail
  refine (source_any w a len cap HC.out).mono ?_
  rintro e w1 ⟨rfl, hd1, hB1⟩
  have HD1 : Hid (Dr w1 w.heap.size a len cap) := hd1
  have HB1 : Hid (Below w.heap.size w w1) := hB1
  clear hd1 hB1
  go_wp2_with fail
  refine (some_any w.heap.size _ a len cap HD1.out).mono ?_
  rintro e w2 ⟨x, rfl, bnd_x, hd2, hg2⟩
  have HD2 : Hid (Dr w2 w.heap.size a len cap) := hd2
  have HB2 : Hid (Below w.heap.size w w2) := HB1.out.trans (grown_below hg2 (Nat.le_refl _) HB1.out.size)
  clear hd2 hg2
  go_wp2_with fail
  refine (one_any w.heap.size 6 _ a len cap HD2.out (by omega)).mono ?_
  rintro e w3 ⟨yes, rfl, hd3, hg3⟩
  have HD3 : Hid (Dr w3 w.heap.size a len cap) := hd3
  have HB3 : Hid (Below w.heap.size w w3) := HB2.out.trans (grown_below hg3 (Nat.le_refl _) HB2.out.size)
  clear hd3 hg3
  cases yes
  · go_wp2_with fail
    refine (n_any w.heap.size 200 _ a len cap HD3.out (by omega)).mono ?_
    rintro e w4 ⟨y, rfl, hy, hd4, hg4⟩
    have bnd_y : (y : Int) < 200 := by omega
    have HB4 : Hid (Below w.heap.size w w4) := HB3.out.trans (grown_below hg4 (Nat.le_refl _) HB3.out.size)
    clear hy hd4 hg4
    go_wp2
    go_ret2
    exact ⟨_, _, rfl, by omega, by omega, HB4.out⟩
  · go_wp2_with fail
    have hlt3 := HD3.out.lt
    refine AnyO.region_by 8 (fun L act W => Dr W w.heap.size a len cap ∧ w3.grownBy W (some w.heap.size) ∧ ∃ x2 x3 x12 x13 x14 x15 x16 x17 : Value,
      act = { tmps := #[.slice a len cap, undef, x2, x3, .pointer (some ⟨w.heap.size, 0, none⟩), .int .i64 x, .slice a len cap, .pointer (some ⟨w.heap.size, 0, none⟩), .pointer (some ⟨w.heap.size, 0, none⟩), .int .i64 x,
        .pointer (some ⟨w.heap.size, 0, none⟩), .bool true, x12, x13, x14, x15, x16, x17, undef, undef, undef], defers := [] } ∧
      (L 0 = true → x12 = .int .i64 x) ∧
      (L 1 = true → ∃ g, x13 = .slice (some ⟨g, 0, none⟩) 3 3 ∧ w.heap.size < g ∧ ∀ o, o < 3 → W.cell? ⟨g, o, none⟩ = some (.int .i64 (pcs.getD o 0))) ∧
      (L 2 = true → x14 = .pointer (some ⟨w.heap.size, 0, none⟩)) ∧
      (L 3 = true → ∃ k : Nat, x15 = .int .i64 k ∧ k < 3) ∧
      (L 4 = true → ∃ (g k : Nat), x16 = .pointer (some ⟨g, k, none⟩) ∧ w.heap.size < g ∧ k < 3 ∧ W.cell? ⟨g, k, none⟩ = some (.int .i64 (pcs.getD k 0))) ∧
      (L 5 = true → ∃ k : Nat, x17 = .int .i64 (pcs.getD k 0) ∧ k < 3) ∧
      (L 6 = true → x2 = .int .i64 x) ∧
      (L 7 = true → ∃ k : Nat, x3 = .int .i64 (pcs.getD k 0) ∧ k < 3)) (by kernel_rfl) (by kernel_rfl) (by kernel_rfl) ?start ?step ?fin
    case start => exact ⟨HD3.out.kept (fun _ _ => rfl), ⟨rfl, rfl, rfl, Nat.le_refl _, fun _ _ _ => rfl⟩, _, _, _, _, _, _, _, _, rfl, by simp, by simp, by simp, by simp, by simp, by simp, by simp, by simp⟩
    case step =>
      rintro i hi L act W ⟨hD, hG, x2, x3, x12, x13, x14, x15, x16, x17, rfl, h0, h1, h2, h3, h4, h5, h6, h7⟩ hd
      have HD : Hid (Dr W w.heap.size a len cap) := hD
      have HG : Hid (w3.grownBy W (some w.heap.size)) := hG
      have hltW := hD.lt
      clear hD hG
      have hcases : i = 0 ∨ i = 1 ∨ i = 2 ∨ i = 3 ∨ i = 4 ∨ i = 5 ∨ i = 6 ∨ i = 7 := by omega
      rcases hcases with rfl | rfl | rfl | rfl | rfl | rfl | rfl | rfl
      · refine wpOp_step rfl (fun K hK => ?_)
        clear hi hd
        go_simp
        exact hK _ _ ⟨HD.out, HG.out, _, _, _, _, _, _, _, _, rfl, fun _ => rfl, h1, h2, h3, h4, h5, h6, h7⟩
      · refine wpOp_step rfl (fun K hK => ?_)
        clear hi hd
        go_simp
        have hcell : ∀ o, o < 3 → (W.alloc (.cells #[.int .i64 (-1), .int .i64 1000, .int .i64 1001] 2)).cell? ⟨W.heap.size, o, none⟩ = some (.int .i64 (pcs.getD o 0)) := fun o ho => by
          rw [World.cell?_alloc_at _ _ _ _ rfl]
          match o, ho with
          | 0, _ => rfl
          | 1, _ => rfl
          | 2, _ => rfl
        refine hK _ _ ⟨HD.out.alloc _, grown_trans HG.out (World.grownBy_alloc _ _ _), _, _, _, _, _, _, _, _, rfl, h0, fun _ => ⟨W.heap.size, rfl, hltW, hcell⟩, h2, h3, ?_, h5, h6, h7⟩
        intro hL
        obtain ⟨g, k, e1, e2, e3, e4⟩ := h4 hL
        exact ⟨g, k, e1, e2, e3, by rw [World.cell?_alloc_past _ _ _ (FixPc.lt_cell e4)]; exact e4⟩
      · refine wpOp_step rfl (fun K hK => ?_)
        clear hi hd
        go_simp
        exact hK _ _ ⟨HD.out, HG.out, _, _, _, _, _, _, _, _, rfl, h0, h1, fun _ => rfl, h3, h4, h5, h6, h7⟩
      · have hx := h2 (hd 2 (by kernel_rfl))
        subst hx
        refine wpOp_step rfl (fun K hK => ?_)
        clear hi hd
        go_simp
        refine (n_any w.heap.size 3 _ a len cap HD.out (by omega)).mono ?_
        rintro e w' ⟨r, rfl, hr, hd4, hg4⟩
        refine hK _ _ ⟨hd4, grown_trans HG.out hg4, _, _, _, _, _, _, _, _, rfl, h0, ?_, h2, fun _ => ⟨r, rfl, by omega⟩, ?_, h5, h6, h7⟩
        · intro hL
          obtain ⟨g, e1, e2, e3⟩ := h1 hL
          exact ⟨g, e1, e2, fun o ho => hg4.cell (a := ⟨g, o, none⟩) (e3 o ho) (by intro e; exact absurd (Option.some.inj e : g = w.heap.size) (by omega))⟩
        · intro hL
          obtain ⟨g, k, e1, e2, e3, e4⟩ := h4 hL
          exact ⟨g, k, e1, e2, e3, hg4.cell (a := ⟨g, k, none⟩) e4 (by intro e; exact absurd (Option.some.inj e : g = w.heap.size) (by omega))⟩
      · obtain ⟨g, hx, hgB, hgc⟩ := h1 (hd 1 (by kernel_rfl))
        obtain ⟨k, hy, hk3⟩ := h3 (hd 3 (by kernel_rfl))
        subst hx hy
        have hck := hgc k hk3
        clear hgc
        refine wpOp_step rfl (fun K hK => ?_)
        clear hi hd
        go_simp
        rw [if_pos (show (k : Int) < 3 by omega)]
        exact hK _ _ ⟨HD.out, HG.out, _, _, _, _, _, _, _, _, rfl, h0, h1, h2, h3, fun _ => ⟨g, k, rfl, hgB, hk3, hck⟩, h5, h6, h7⟩
      · obtain ⟨g, k, hx, hgB, hk3, hck⟩ := h4 (hd 4 (by kernel_rfl))
        subst hx
        refine wpOp_step rfl (fun K hK => ?_)
        clear hi hd
        go_simp
        exact hK _ _ ⟨HD.out, HG.out, _, _, _, _, _, _, _, _, rfl, h0, h1, h2, h3, h4, fun _ => ⟨k, rfl, hk3⟩, h6, h7⟩
      · have hx := h0 (hd 0 (by kernel_rfl))
        subst hx
        refine wpOp_step rfl (fun K hK => ?_)
        clear hi hd
        go_simp
        exact hK _ _ ⟨HD.out, HG.out, _, _, _, _, _, _, _, _, rfl, h0, h1, h2, h3, h4, h5, fun _ => rfl, h7⟩
      · obtain ⟨k, hx, hk3⟩ := h5 (hd 5 (by kernel_rfl))
        subst hx
        refine wpOp_step rfl (fun K hK => ?_)
        clear hi hd
        generalize hpv : pcs.getD k 0 = pv at *
        go_simp
        exact hK _ _ ⟨HD.out, HG.out, _, _, _, _, _, _, _, _, rfl, h0, h1, h2, h3, h4, h5, h6, fun _ => ⟨k, by rw [hpv], hk3⟩⟩
    case fin =>
      rintro L act W ⟨hD, hG, x2, x3, x12, x13, x14, x15, x16, x17, rfl, h0, h1, h2, h3, h4, h5, h6, h7⟩ hall
      have hx := h6 (hall 6 (by omega))
      obtain ⟨k, hy, hk3⟩ := h7 (hall 7 (by omega))
      subst hx hy
      have hb := pcs_in (pcs.getD k 0) (pcs_mem k hk3)
      have HB4 : Hid (Below w.heap.size w W) := HB3.out.trans (grown_below hG (Nat.le_refl _) HB3.out.size)
      clear h0 h1 h2 h3 h4 h5 h6 h7 hall hD hG
      generalize pcs.getD k 0 = pv at *
      go_wp2
      go_ret2
      exact ⟨_, _, rfl, by omega, by omega, HB4.out⟩
end Go.Proofs.Ythplmgjnlhcapaa.DrawW
