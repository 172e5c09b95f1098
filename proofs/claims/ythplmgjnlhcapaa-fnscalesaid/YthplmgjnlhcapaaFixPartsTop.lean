/- What Parts of the program and of the model answer; new memory alone is written. -/
import Derived.Test.YthplmgjnlhcapaaFixParts
namespace Go.Proofs.Ythplmgjnlhcapaa.FixQ
open Go.RowKit
open FixS FixF FixH FixC FixM FixP FixT

def partsR (a b m : Int) : Int × Int := if (-1000000000000000 ≤ a ∧ a ≤ 1000000000000000) ∧ (1 ≤ b ∧ b ≤ 1000000000000000) ∧ (0 ≤ m ∧ m ≤ 2) then (partsQ a b m, 0) else (0, 1)
theorem parts_no (a b m : Int) (h : ¬ ((-1000000000000000 ≤ a ∧ a ≤ 1000000000000000) ∧ (1 ≤ b ∧ b ≤ 1000000000000000) ∧ (0 ≤ m ∧ m ≤ 2))) : partsR a b m = (0, 1) := by
  unfold partsR; rw [if_neg h]
theorem parts_yes (a b m : Int) (h : -1000000000000000 ≤ a ∧ a ≤ 1000000000000000) (h2 : 1 ≤ b ∧ b ≤ 1000000000000000) (h3 : 0 ≤ m ∧ m ≤ 2) : partsR a b m = (partsQ a b m, 0) := by
  unfold partsR; rw [if_pos ⟨h, h2, h3⟩]
theorem parts_zero (a b m : Int) : ¬ (partsR a b m).2 = 0 → (partsR a b m).1 = 0 := by
  unfold partsR; split
  · intro h; exact absurd rfl h
  · intro _; rfl
theorem quotient_end (a b mode : Int) (w : World) (ha : -1000000000000000 ≤ a ∧ a ≤ 1000000000000000) (hb : 1 ≤ b ∧ b ≤ 1000000000000000) (hm : 0 ≤ mode ∧ mode ≤ 2) :
    Calls Try.prog 55 #[.int .i64 a, .int .i64 b, .int .i64 mode] w fun e w' => e = endE (partsQ a b mode, 0) ∧ Below w.heap.size w w' :=
  quotient_any a b mode w ha hb hm

set_option maxRecDepth 10000 in
set_option maxHeartbeats 1600000 in
theorem parts_call (a b m : Int) (p0 p1 p2 : Addr) (w : World) (hp0 : w.cell? p0 = some (.int .i64 a)) (hb0 : p0.block < w.heap.size) (hp1 : w.cell? p1 = some (.int .i64 b)) (hb1 : p1.block < w.heap.size) (hp2 : w.cell? p2 = some (.int .i64 m)) (hb2 : p2.block < w.heap.size) :
    Calls Try.prog 54 #[.pointer (some p0), .pointer (some p1), .pointer (some p2)] w fun e w' => e = endE (partsR a b m) ∧ Below w.heap.size w w' := by
  go_enter Try.func54, Try.ntmps54
  go_wp2_with fail
  refine AnyO.region_by 8 (fun L act W => Below w.heap.size w W ∧ ∃ x3 x4 x5 x6 x7 x8 x9 x10 : Value, act = { tmps := #[.pointer (some p0), .pointer (some p1), .pointer (some p2), x3, x4, x5, x6, x7, x8, x9, x10], defers := [] } ∧
    (L 0 = true → x4 = .int .i64 a) ∧
    (L 1 = true → x5 = .int .i64 a) ∧
    (L 1 = true → -1000000000000000 ≤ a ∧ a ≤ 1000000000000000) ∧
    (L 2 = true → x6 = .int .i64 b) ∧
    (L 3 = true → x7 = .int .i64 b) ∧
    (L 3 = true → 1 ≤ b ∧ b ≤ 1000000000000000) ∧
    (L 4 = true → x8 = .int .i64 m) ∧
    (L 5 = true → x9 = .int .i64 m) ∧
    (L 5 = true → 0 ≤ m ∧ m ≤ 2) ∧
    (L 6 = true → x10 = .int .i64 (partsR a b m).1) ∧
    (L 6 = true → (partsR a b m).2 = 0) ∧
    (L 7 = true → x3 = .int .i64 (partsR a b m).1)) (by kernel_rfl) (by kernel_rfl) (by kernel_rfl) ?start ?step ?fin
  case start => exact ⟨below_drewN' _ 1 _, _, _, _, _, _, _, _, _, rfl, by simp, by simp, by simp, by simp, by simp, by simp, by simp, by simp, by simp, by simp, by simp, by simp⟩
  case step =>
    rintro i hi L act W ⟨hB, x3, x4, x5, x6, x7, x8, x9, x10, rfl, h0x, h1x, h1y, h2x, h3x, h3y, h4x, h5x, h5y, h6x, h6y, h7x⟩ hd
    have hcases : i = 0 ∨ i = 1 ∨ i = 2 ∨ i = 3 ∨ i = 4 ∨ i = 5 ∨ i = 6 ∨ i = 7 := by omega
    rcases hcases with rfl | rfl | rfl | rfl | rfl | rfl | rfl | rfl
    · have hc : W.cell? p0 = some (.int .i64 a) := by rw [hB.cell hb0]; exact hp0
      refine wpOp_step rfl (fun K hK => ?_)
      clear hi hd
      go_simp
      exact hK _ _ ⟨hB, _, _, _, _, _, _, _, _, rfl, fun _ => rfl, h1x, h1y, h2x, h3x, h3y, h4x, h5x, h5y, h6x, h6y, h7x⟩
    · have hx := h0x (hd 0 (by kernel_rfl))
      subst hx
      refine wpOp_step rfl (fun K hK => ?_)
      clear hi hd
      go_simp
      refine (FixH.handed_any a _).mono ?_
      rintro e w' ⟨⟨rfl, hin⟩ | ⟨rfl, hout⟩, rfl⟩
      · exact hK _ _ ⟨hB, _, _, _, _, _, _, _, _, rfl, h0x, fun _ => rfl, fun _ => hin, h2x, h3x, h3y, h4x, h5x, h5y, h6x, h6y, h7x⟩
      · exact ⟨rfl, by rw [parts_no _ _ _ (fun h => hout (h.1))]; rfl, hB⟩
    · have hc : W.cell? p1 = some (.int .i64 b) := by rw [hB.cell hb1]; exact hp1
      refine wpOp_step rfl (fun K hK => ?_)
      clear hi hd
      go_simp
      exact hK _ _ ⟨hB, _, _, _, _, _, _, _, _, rfl, h0x, h1x, h1y, fun _ => rfl, h3x, h3y, h4x, h5x, h5y, h6x, h6y, h7x⟩
    · have hx := h2x (hd 2 (by kernel_rfl))
      subst hx
      refine wpOp_step rfl (fun K hK => ?_)
      clear hi hd
      go_simp
      refine (FixH.divisor_any b _).mono ?_
      rintro e w' ⟨⟨rfl, hin⟩ | ⟨rfl, hout⟩, rfl⟩
      · exact hK _ _ ⟨hB, _, _, _, _, _, _, _, _, rfl, h0x, h1x, h1y, h2x, fun _ => rfl, fun _ => hin, h4x, h5x, h5y, h6x, h6y, h7x⟩
      · exact ⟨rfl, by rw [parts_no _ _ _ (fun h => hout (h.2.1))]; rfl, hB⟩
    · have hc : W.cell? p2 = some (.int .i64 m) := by rw [hB.cell hb2]; exact hp2
      refine wpOp_step rfl (fun K hK => ?_)
      clear hi hd
      go_simp
      exact hK _ _ ⟨hB, _, _, _, _, _, _, _, _, rfl, h0x, h1x, h1y, h2x, h3x, h3y, fun _ => rfl, h5x, h5y, h6x, h6y, h7x⟩
    · have hx := h4x (hd 4 (by kernel_rfl))
      subst hx
      refine wpOp_step rfl (fun K hK => ?_)
      clear hi hd
      go_simp
      refine (FixH.rounding_any m _).mono ?_
      rintro e w' ⟨⟨rfl, hin⟩ | ⟨rfl, hout⟩, rfl⟩
      · exact hK _ _ ⟨hB, _, _, _, _, _, _, _, _, rfl, h0x, h1x, h1y, h2x, h3x, h3y, h4x, fun _ => rfl, fun _ => hin, h6x, h6y, h7x⟩
      · exact ⟨rfl, by rw [parts_no _ _ _ (fun h => hout (h.2.2))]; rfl, hB⟩
    · have e0 := h1x (hd 1 (by kernel_rfl))
      have g0 := h1y (hd 1 (by kernel_rfl))
      have e1 := h3x (hd 3 (by kernel_rfl))
      have g1 := h3y (hd 3 (by kernel_rfl))
      have e2 := h5x (hd 5 (by kernel_rfl))
      have g2 := h5y (hd 5 (by kernel_rfl))
      subst e0 e1 e2
      have hR : Hid (partsR a b m = _) := parts_yes _ _ _ g0 g1 g2
      refine wpOp_step rfl (fun K hK => ?_)
      clear hi hd
      go_simp
      refine (quotient_end _ _ _ _ g0 g1 g2).mono ?_
      rintro e w' ⟨he, hB2⟩
      rw [← hR.out] at he
      have hB3 := hB.trans (hB2.mono hB.size)
      by_cases hz : (partsR a b m).2 = 0
      · rw [endE_ok hz] at he
        subst he
        exact hK _ _ ⟨hB3, _, _, _, _, _, _, _, _, rfl, h0x, h1x, h1y, h2x, h3x, h3y, h4x, h5x, h5y, fun _ => rfl, fun _ => hz, h7x⟩
      · rw [endE_no hz] at he
        subst he
        exact ⟨rfl, (endE_no hz).symm, hB3⟩
    · have hx := h6x (hd 6 (by kernel_rfl))
      subst hx
      refine wpOp_step rfl (fun K hK => ?_)
      clear hi hd
      generalize hgr : (partsR a b m).1 = gr at *
      go_simp
      exact hK _ _ ⟨hB, _, _, _, _, _, _, _, _, rfl, h0x, h1x, h1y, h2x, h3x, h3y, h4x, h5x, h5y, h6x, h6y, fun _ => rfl⟩
  case fin =>
    rintro L act W ⟨hB, x3, x4, x5, x6, x7, x8, x9, x10, rfl, h0x, h1x, h1y, h2x, h3x, h3y, h4x, h5x, h5y, h6x, h6y, h7x⟩ hall
    have hx := h7x (hall 7 (by omega))
    have hz : Hid ((partsR a b m).2 = 0) := h6y (hall 6 (by omega))
    subst hx
    clear h0x h1x h1y h2x h3x h3y h4x h5x h5y h6x h6y h7x hall
    go_wp2
    go_ret
    exact ⟨(endE_ok hz.out).symm, hB⟩

set_option maxRecDepth 10000 in
set_option maxHeartbeats 1600000 in
theorem parts_face (a b m : Int) (w : World) :
    Calls Try.prog 20 #[.int .i64 a, .int .i64 b, .int .i64 m] w fun e w' => e = .returned (numV (partsR a b m).1 (partsR a b m).2) ∧ Below w.heap.size w w' := by
  have hmf : ∀ (fn : Fn) (first cap : Array Value) (w : World), (Instr.makeFunc fn first cap).run Try.prog w = .ok (.func fn first cap) w := fun _ _ _ _ => rfl
  obtain ⟨r, hr⟩ : ∃ r, Hid (partsR a b m = r) := ⟨_, rfl⟩
  rw [hr.out]
  go_enter Try.func20, Try.ntmps20
  go_wp2_with fail
  refine (faced_any 54 _ r _ ?_ ?_ ?_).mono ?_
  · rw [← hr.out]; exact parts_zero a b m
  · intro W; rfl
  · rw [← hr.out]
    refine parts_call a b m _ _ _ _ ?_ ?_ ?_ ?_ ?_ ?_
    all_goals first | (simp; done) | (go_simp; done) | (simp; omega)
  rintro e w1 ⟨rfl, hB⟩
  obtain ⟨hc0, hc1, hc2, hf⟩ := cells_out' hB (b := w.heap.size + 1 + 1 + 1) (by simp) (by first | (go_simp; done) | simp) (by first | (go_simp; done) | simp) (by first | (go_simp; done) | simp) (by intro o; first | (go_simp; done) | simp)
  have HB : Hid (Below w.heap.size w w1) := (((((Below.refl _ _).alloc (Nat.le_refl _) _).alloc (by simp; try omega) _).alloc (by simp; try omega) _).alloc (by simp; try omega) _).trans (hB.mono (by simp; try omega))
  clear hB hr
  unfold numV
  go_wp2
  refine bodyPost_ret (v := numV r.1 r.2) (by simp [results, Try.results20, go_sem, numV, hc0, hc1, hc2]) rfl ⟨rfl, ?_⟩
  exact (((HB.out).setCell (by simp; try omega) _).setCell (by simp; try omega) _).setCell (by simp; try omega) _

theorem inM_no {n : Int} (h : ¬ (-1000000000000000 ≤ n ∧ n ≤ 1000000000000000)) : inM n = false := inB_f h
theorem inM_yes {n : Int} (h : -1000000000000000 ≤ n ∧ n ≤ 1000000000000000) : inM n = true := inB_t h

set_option maxRecDepth 10000 in
set_option maxHeartbeats 1600000 in
theorem parts_any (a b m : Int) (w : World) :
    Calls Try.prog 24 #[.int .i64 a, .int .i64 b, .int .i64 m] w fun e w' => e = .returned (FixF.numV (partsR a b m).1 (partsR a b m).2) ∧ Below w.heap.size w w' := by
  by_cases ha : -1000000000000000 ≤ a ∧ a ≤ 1000000000000000
  · have na := inM_yes ha
    by_cases hb : -1000000000000000 ≤ b ∧ b ≤ 1000000000000000
    · have nb := inM_yes hb
      by_cases hb1 : b < 1
      · rw [parts_no _ _ _ (by omega)]
        clear ha hb
        go_enter Try.func24, Try.ntmps24
        go_wp2_with (first
              | (go_at_call 58; refine (num_any _ _).mono ?_; rintro e w' ⟨rfl, rfl⟩)
              | (go_at_call 62; refine (mode_any _ _).mono ?_; rintro e w' ⟨rfl, rfl⟩))
        refine (ill_any _ _).mono ?_
        rintro e w1 ⟨rfl, hB⟩
        obtain ⟨hc0, hc1, hc2, hf⟩ := cells_out hB (by simp)
        have HB : Hid (Below w.heap.size w w1) := below_out hB (by simp)
        clear hB
        unfold FixF.numV
        go_wp2
        refine bodyPost_ret (v := FixF.numV 0 1) (by simp [results, Try.results24, go_sem, FixF.numV, hc0, hc1, hc2]) rfl ⟨rfl, ?_⟩
        exact (((HB.out).setCell (Nat.le_refl _) _).setCell (Nat.le_refl _) _).setCell (Nat.le_refl _) _
      · by_cases hm : 0 ≤ m ∧ m ≤ 2
        · have nm : inB m 0 2 = true := inB_t hm
          rw [parts_yes a b m ha (by omega) hm]
          have hbd := parts_bounds a b m (by omega) ha.1 ha.2
          obtain ⟨q, hq⟩ : ∃ q, Hid (partsQ a b m = q) := ⟨_, rfl⟩
          have ho : Hid (outR (partsQ a b m) = (partsQ a b m, 0)) := by show outR (partsQ a b m) = _; unfold outR; rw [if_pos (inM_yes hbd)]
          go_enter Try.func24, Try.ntmps24
          go_wp2_with (first
      | (go_at_call 58; refine (num_any _ _).mono ?_; rintro e w' ⟨rfl, rfl⟩)
      | (go_at_call 62; refine (mode_any _ _).mono ?_; rintro e w' ⟨rfl, rfl⟩))
          refine (sparts_any a b m _ ha (by omega) hm).mono ?_
          rintro e w1 ⟨rfl, rfl⟩
          clear na nb nm ha hb hm hb1
          rw [hq.out]
          rw [hq.out] at ho
          go_wp2_with fail
          refine (out_any q _).mono ?_
          rintro e w1 ⟨rfl, hB⟩
          rw [ho.out]
          obtain ⟨hc0, hc1, hc2, hf⟩ := cells_out hB (by simp)
          have HB : Hid (Below w.heap.size w w1) := below_out hB (by simp)
          clear hB ho
          unfold FixF.numV
          go_wp2
          refine bodyPost_ret (v := FixF.numV q 0) (by simp [results, Try.results24, go_sem, FixF.numV, hc0, hc1, hc2]) rfl ⟨by rw [hq.out], ?_⟩
          exact (((HB.out).setCell (Nat.le_refl _) _).setCell (Nat.le_refl _) _).setCell (Nat.le_refl _) _
        · have nm : inB m 0 2 = false := inB_f hm
          rw [parts_no _ _ _ (by omega)]
          clear ha hb hm
          go_enter Try.func24, Try.ntmps24
          go_wp2_with (first
                | (go_at_call 58; refine (num_any _ _).mono ?_; rintro e w' ⟨rfl, rfl⟩)
                | (go_at_call 62; refine (mode_any _ _).mono ?_; rintro e w' ⟨rfl, rfl⟩))
          refine (ill_any _ _).mono ?_
          rintro e w1 ⟨rfl, hB⟩
          obtain ⟨hc0, hc1, hc2, hf⟩ := cells_out hB (by simp)
          have HB : Hid (Below w.heap.size w w1) := below_out hB (by simp)
          clear hB
          unfold FixF.numV
          go_wp2
          refine bodyPost_ret (v := FixF.numV 0 1) (by simp [results, Try.results24, go_sem, FixF.numV, hc0, hc1, hc2]) rfl ⟨rfl, ?_⟩
          exact (((HB.out).setCell (Nat.le_refl _) _).setCell (Nat.le_refl _) _).setCell (Nat.le_refl _) _
    · have nb := inM_no hb
      rw [parts_no _ _ _ (by omega)]
      clear ha hb
      go_enter Try.func24, Try.ntmps24
      go_wp2_with (first
            | (go_at_call 58; refine (num_any _ _).mono ?_; rintro e w' ⟨rfl, rfl⟩)
            | (go_at_call 62; refine (mode_any _ _).mono ?_; rintro e w' ⟨rfl, rfl⟩))
      refine (ill_any _ _).mono ?_
      rintro e w1 ⟨rfl, hB⟩
      obtain ⟨hc0, hc1, hc2, hf⟩ := cells_out hB (by simp)
      have HB : Hid (Below w.heap.size w w1) := below_out hB (by simp)
      clear hB
      unfold FixF.numV
      go_wp2
      refine bodyPost_ret (v := FixF.numV 0 1) (by simp [results, Try.results24, go_sem, FixF.numV, hc0, hc1, hc2]) rfl ⟨rfl, ?_⟩
      exact (((HB.out).setCell (Nat.le_refl _) _).setCell (Nat.le_refl _) _).setCell (Nat.le_refl _) _
  · have na := inM_no ha
    rw [parts_no _ _ _ (by omega)]
    clear ha
    go_enter Try.func24, Try.ntmps24
    go_wp2_with (first
          | (go_at_call 58; refine (num_any _ _).mono ?_; rintro e w' ⟨rfl, rfl⟩)
          | (go_at_call 62; refine (mode_any _ _).mono ?_; rintro e w' ⟨rfl, rfl⟩))
    refine (ill_any _ _).mono ?_
    rintro e w1 ⟨rfl, hB⟩
    obtain ⟨hc0, hc1, hc2, hf⟩ := cells_out hB (by simp)
    have HB : Hid (Below w.heap.size w w1) := below_out hB (by simp)
    clear hB
    unfold FixF.numV
    go_wp2
    refine bodyPost_ret (v := FixF.numV 0 1) (by simp [results, Try.results24, go_sem, FixF.numV, hc0, hc1, hc2]) rfl ⟨rfl, ?_⟩
    exact (((HB.out).setCell (Nat.le_refl _) _).setCell (Nat.le_refl _) _).setCell (Nat.le_refl _) _
end Go.Proofs.Ythplmgjnlhcapaa.FixQ
