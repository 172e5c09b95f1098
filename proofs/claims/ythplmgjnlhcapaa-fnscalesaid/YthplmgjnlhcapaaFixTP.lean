/- What TimesParts and Percent of the program and of the model answer; new memory alone is written. -/
import Derived.Test.YthplmgjnlhcapaaFixShare
namespace Go.Proofs.Ythplmgjnlhcapaa.FixTP
open Go.RowKit
open FixS FixF FixH FixC FixM FixP FixMu FixSh FixT

def timespartsR (a b c m : Int) : Int × Int := if (0 ≤ a ∧ a ≤ 1000000000000000) ∧ (0 ≤ b ∧ b ≤ 1000000000000000) ∧ (1 ≤ c ∧ c ≤ 1000000000000000) ∧ (0 ≤ m ∧ m ≤ 2) then shareF a.toNat b.toNat c.toNat m else (0, 1)
theorem tp_no (a b c m : Int) (h : ¬ ((0 ≤ a ∧ a ≤ 1000000000000000) ∧ (0 ≤ b ∧ b ≤ 1000000000000000) ∧ (1 ≤ c ∧ c ≤ 1000000000000000) ∧ (0 ≤ m ∧ m ≤ 2))) : timespartsR a b c m = (0, 1) := by unfold timespartsR; rw [if_neg h]
theorem tp_yes (a b c m : Int) (h1 : 0 ≤ a ∧ a ≤ 1000000000000000) (h2 : 0 ≤ b ∧ b ≤ 1000000000000000) (h3 : 1 ≤ c ∧ c ≤ 1000000000000000) (h4 : 0 ≤ m ∧ m ≤ 2) :
    timespartsR a b c m = shareF a.toNat b.toNat c.toNat m := by unfold timespartsR; rw [if_pos ⟨h1, h2, h3, h4⟩]
theorem shareF_zero (a b c : Nat) (m : Int) : ¬ (shareF a b c m).2 = 0 → (shareF a b c m).1 = 0 := by
  unfold shareF; split
  · exact out_zero _
  · intro _; rfl
theorem tp_zero (a b c m : Int) : ¬ (timespartsR a b c m).2 = 0 → (timespartsR a b c m).1 = 0 := by
  unfold timespartsR; split
  · exact shareF_zero _ _ _ _
  · intro _; rfl
theorem share_end (a b c m : Int) (w : World) (h1 : 0 ≤ a ∧ a ≤ 1000000000000000) (h2 : 0 ≤ b ∧ b ≤ 1000000000000000) (h3 : 1 ≤ c ∧ c ≤ 1000000000000000) (h4 : 0 ≤ m ∧ m ≤ 2) :
    Calls Try.prog 65 #[.int .i64 a, .int .i64 b, .int .i64 c, .int .i64 m] w fun e w' => e = endE (shareF a.toNat b.toNat c.toNat m) ∧ Below w.heap.size w w' := by
  have := share_any a.toNat b.toNat c.toNat m w (by omega) (by omega) (by omega) h4
  rw [show ((a.toNat : Nat) : Int) = a by omega, show ((b.toNat : Nat) : Int) = b by omega, show ((c.toNat : Nat) : Int) = c by omega] at this
  exact this

set_option maxRecDepth 10000 in
set_option maxHeartbeats 1600000 in
theorem timesparts_call (a b c m : Int) (p0 p1 p2 p3 : Addr) (w : World) (hp0 : w.cell? p0 = some (.int .i64 a)) (hb0 : p0.block < w.heap.size) (hp1 : w.cell? p1 = some (.int .i64 b)) (hb1 : p1.block < w.heap.size) (hp2 : w.cell? p2 = some (.int .i64 c)) (hb2 : p2.block < w.heap.size) (hp3 : w.cell? p3 = some (.int .i64 m)) (hb3 : p3.block < w.heap.size) :
    Calls Try.prog 64 #[.pointer (some p0), .pointer (some p1), .pointer (some p2), .pointer (some p3)] w fun e w' => e = endE (timespartsR a b c m) ∧ Below w.heap.size w w' := by
  go_enter Try.func64, Try.ntmps64
  go_wp2_with fail
  refine AnyO.region_by 10 (fun L act W => Below w.heap.size w W ∧ ∃ x4 x5 x6 x7 x8 x9 x10 x11 x12 x13 : Value, act = { tmps := #[.pointer (some p0), .pointer (some p1), .pointer (some p2), .pointer (some p3), x4, x5, x6, x7, x8, x9, x10, x11, x12, x13], defers := [] } ∧
    (L 0 = true → x5 = .int .i64 a) ∧
    (L 1 = true → x6 = .int .i64 a) ∧
    (L 1 = true → 0 ≤ a ∧ a ≤ 1000000000000000) ∧
    (L 2 = true → x7 = .int .i64 b) ∧
    (L 3 = true → x8 = .int .i64 b) ∧
    (L 3 = true → 0 ≤ b ∧ b ≤ 1000000000000000) ∧
    (L 4 = true → x9 = .int .i64 c) ∧
    (L 5 = true → x10 = .int .i64 c) ∧
    (L 5 = true → 1 ≤ c ∧ c ≤ 1000000000000000) ∧
    (L 6 = true → x11 = .int .i64 m) ∧
    (L 7 = true → x12 = .int .i64 m) ∧
    (L 7 = true → 0 ≤ m ∧ m ≤ 2) ∧
    (L 8 = true → x13 = .int .i64 (timespartsR a b c m).1) ∧
    (L 8 = true → (timespartsR a b c m).2 = 0) ∧
    (L 9 = true → x4 = .int .i64 (timespartsR a b c m).1)) (by kernel_rfl) (by kernel_rfl) (by kernel_rfl) ?start ?step ?fin
  case start => exact ⟨below_drewN' _ 1 _, _, _, _, _, _, _, _, _, _, _, rfl, by simp, by simp, by simp, by simp, by simp, by simp, by simp, by simp, by simp, by simp, by simp, by simp, by simp, by simp, by simp⟩
  case step =>
    rintro i hi L act W ⟨hB, x4, x5, x6, x7, x8, x9, x10, x11, x12, x13, rfl, h0x, h1x, h1y, h2x, h3x, h3y, h4x, h5x, h5y, h6x, h7x, h7y, h8x, h8y, h9x⟩ hd
    have hcases : i = 0 ∨ i = 1 ∨ i = 2 ∨ i = 3 ∨ i = 4 ∨ i = 5 ∨ i = 6 ∨ i = 7 ∨ i = 8 ∨ i = 9 := by omega
    rcases hcases with rfl | rfl | rfl | rfl | rfl | rfl | rfl | rfl | rfl | rfl
    · have hc : W.cell? p0 = some (.int .i64 a) := by rw [hB.cell hb0]; exact hp0
      refine wpOp_step rfl (fun K hK => ?_)
      clear hi hd
      go_simp
      exact hK _ _ ⟨hB, _, _, _, _, _, _, _, _, _, _, rfl, fun _ => rfl, h1x, h1y, h2x, h3x, h3y, h4x, h5x, h5y, h6x, h7x, h7y, h8x, h8y, h9x⟩
    · have hx := h0x (hd 0 (by kernel_rfl))
      subst hx
      refine wpOp_step rfl (fun K hK => ?_)
      clear hi hd
      go_simp
      refine (FixH.amount_any a _).mono ?_
      rintro e w' ⟨⟨rfl, hin⟩ | ⟨rfl, hout⟩, rfl⟩
      · exact hK _ _ ⟨hB, _, _, _, _, _, _, _, _, _, _, rfl, h0x, fun _ => rfl, fun _ => hin, h2x, h3x, h3y, h4x, h5x, h5y, h6x, h7x, h7y, h8x, h8y, h9x⟩
      · exact ⟨rfl, by rw [tp_no _ _ _ _ (fun h => hout (h.1))]; rfl, hB⟩
    · have hc : W.cell? p1 = some (.int .i64 b) := by rw [hB.cell hb1]; exact hp1
      refine wpOp_step rfl (fun K hK => ?_)
      clear hi hd
      go_simp
      exact hK _ _ ⟨hB, _, _, _, _, _, _, _, _, _, _, rfl, h0x, h1x, h1y, fun _ => rfl, h3x, h3y, h4x, h5x, h5y, h6x, h7x, h7y, h8x, h8y, h9x⟩
    · have hx := h2x (hd 2 (by kernel_rfl))
      subst hx
      refine wpOp_step rfl (fun K hK => ?_)
      clear hi hd
      go_simp
      refine (FixH.amount_any b _).mono ?_
      rintro e w' ⟨⟨rfl, hin⟩ | ⟨rfl, hout⟩, rfl⟩
      · exact hK _ _ ⟨hB, _, _, _, _, _, _, _, _, _, _, rfl, h0x, h1x, h1y, h2x, fun _ => rfl, fun _ => hin, h4x, h5x, h5y, h6x, h7x, h7y, h8x, h8y, h9x⟩
      · exact ⟨rfl, by rw [tp_no _ _ _ _ (fun h => hout (h.2.1))]; rfl, hB⟩
    · have hc : W.cell? p2 = some (.int .i64 c) := by rw [hB.cell hb2]; exact hp2
      refine wpOp_step rfl (fun K hK => ?_)
      clear hi hd
      go_simp
      exact hK _ _ ⟨hB, _, _, _, _, _, _, _, _, _, _, rfl, h0x, h1x, h1y, h2x, h3x, h3y, fun _ => rfl, h5x, h5y, h6x, h7x, h7y, h8x, h8y, h9x⟩
    · have hx := h4x (hd 4 (by kernel_rfl))
      subst hx
      refine wpOp_step rfl (fun K hK => ?_)
      clear hi hd
      go_simp
      refine (FixH.divisor_any c _).mono ?_
      rintro e w' ⟨⟨rfl, hin⟩ | ⟨rfl, hout⟩, rfl⟩
      · exact hK _ _ ⟨hB, _, _, _, _, _, _, _, _, _, _, rfl, h0x, h1x, h1y, h2x, h3x, h3y, h4x, fun _ => rfl, fun _ => hin, h6x, h7x, h7y, h8x, h8y, h9x⟩
      · exact ⟨rfl, by rw [tp_no _ _ _ _ (fun h => hout (h.2.2.1))]; rfl, hB⟩
    · have hc : W.cell? p3 = some (.int .i64 m) := by rw [hB.cell hb3]; exact hp3
      refine wpOp_step rfl (fun K hK => ?_)
      clear hi hd
      go_simp
      exact hK _ _ ⟨hB, _, _, _, _, _, _, _, _, _, _, rfl, h0x, h1x, h1y, h2x, h3x, h3y, h4x, h5x, h5y, fun _ => rfl, h7x, h7y, h8x, h8y, h9x⟩
    · have hx := h6x (hd 6 (by kernel_rfl))
      subst hx
      refine wpOp_step rfl (fun K hK => ?_)
      clear hi hd
      go_simp
      refine (FixH.rounding_any m _).mono ?_
      rintro e w' ⟨⟨rfl, hin⟩ | ⟨rfl, hout⟩, rfl⟩
      · exact hK _ _ ⟨hB, _, _, _, _, _, _, _, _, _, _, rfl, h0x, h1x, h1y, h2x, h3x, h3y, h4x, h5x, h5y, h6x, fun _ => rfl, fun _ => hin, h8x, h8y, h9x⟩
      · exact ⟨rfl, by rw [tp_no _ _ _ _ (fun h => hout (h.2.2.2))]; rfl, hB⟩
    · have e0 := h1x (hd 1 (by kernel_rfl))
      have g0 := h1y (hd 1 (by kernel_rfl))
      have e1 := h3x (hd 3 (by kernel_rfl))
      have g1 := h3y (hd 3 (by kernel_rfl))
      have e2 := h5x (hd 5 (by kernel_rfl))
      have g2 := h5y (hd 5 (by kernel_rfl))
      have e3 := h7x (hd 7 (by kernel_rfl))
      have g3 := h7y (hd 7 (by kernel_rfl))
      subst e0 e1 e2 e3
      have hR : Hid (timespartsR a b c m = _) := tp_yes _ _ _ _ g0 g1 g2 g3
      refine wpOp_step rfl (fun K hK => ?_)
      clear hi hd
      go_simp
      refine (share_end _ _ _ _ _ g0 g1 g2 g3).mono ?_
      rintro e w' ⟨he, hB2⟩
      rw [← hR.out] at he
      have hB3 := hB.trans (hB2.mono hB.size)
      by_cases hz : (timespartsR a b c m).2 = 0
      · rw [endE_ok hz] at he
        subst he
        exact hK _ _ ⟨hB3, _, _, _, _, _, _, _, _, _, _, rfl, h0x, h1x, h1y, h2x, h3x, h3y, h4x, h5x, h5y, h6x, h7x, h7y, fun _ => rfl, fun _ => hz, h9x⟩
      · rw [endE_no hz] at he
        subst he
        exact ⟨rfl, (endE_no hz).symm, hB3⟩
    · have hx := h8x (hd 8 (by kernel_rfl))
      subst hx
      refine wpOp_step rfl (fun K hK => ?_)
      clear hi hd
      generalize hgr : (timespartsR a b c m).1 = gr at *
      go_simp
      exact hK _ _ ⟨hB, _, _, _, _, _, _, _, _, _, _, rfl, h0x, h1x, h1y, h2x, h3x, h3y, h4x, h5x, h5y, h6x, h7x, h7y, h8x, h8y, fun _ => rfl⟩
  case fin =>
    rintro L act W ⟨hB, x4, x5, x6, x7, x8, x9, x10, x11, x12, x13, rfl, h0x, h1x, h1y, h2x, h3x, h3y, h4x, h5x, h5y, h6x, h7x, h7y, h8x, h8y, h9x⟩ hall
    have hx := h9x (hall 9 (by omega))
    have hz : Hid ((timespartsR a b c m).2 = 0) := h8y (hall 8 (by omega))
    subst hx
    clear h0x h1x h1y h2x h3x h3y h4x h5x h5y h6x h7x h7y h8x h8y h9x hall
    go_wp2
    go_ret
    exact ⟨(endE_ok hz.out).symm, hB⟩

set_option maxRecDepth 10000 in
set_option maxHeartbeats 1600000 in
theorem timesparts_face (a b c m : Int) (w : World) :
    Calls Try.prog 26 #[.int .i64 a, .int .i64 b, .int .i64 c, .int .i64 m] w fun e w' => e = .returned (numV (timespartsR a b c m).1 (timespartsR a b c m).2) ∧ Below w.heap.size w w' := by
  have hmf : ∀ (fn : Fn) (first cap : Array Value) (w : World), (Instr.makeFunc fn first cap).run Try.prog w = .ok (.func fn first cap) w := fun _ _ _ _ => rfl
  obtain ⟨r, hr⟩ : ∃ r, Hid (timespartsR a b c m = r) := ⟨_, rfl⟩
  rw [hr.out]
  go_enter Try.func26, Try.ntmps26
  go_wp2_with fail
  refine (faced_any 64 _ r _ ?_ ?_ ?_).mono ?_
  · rw [← hr.out]; exact tp_zero a b c m
  · intro W; rfl
  · rw [← hr.out]
    refine timesparts_call a b c m _ _ _ _ _ ?_ ?_ ?_ ?_ ?_ ?_ ?_ ?_
    all_goals first | (simp; done) | (go_simp; done) | (simp; omega)
  rintro e w1 ⟨rfl, hB⟩
  obtain ⟨hc0, hc1, hc2, hf⟩ := cells_out' hB (b := w.heap.size + 1 + 1 + 1 + 1) (by simp) (by first | (go_simp; done) | simp) (by first | (go_simp; done) | simp) (by first | (go_simp; done) | simp) (by intro o; first | (go_simp; done) | simp)
  have HB : Hid (Below w.heap.size w w1) := ((((((Below.refl _ _).alloc (Nat.le_refl _) _).alloc (by simp; try omega) _).alloc (by simp; try omega) _).alloc (by simp; try omega) _).alloc (by simp; try omega) _).trans (hB.mono (by simp; try omega))
  clear hB hr
  unfold numV
  go_wp2
  refine bodyPost_ret (v := numV r.1 r.2) (by simp [results, Try.results26, go_sem, numV, hc0, hc1, hc2]) rfl ⟨rfl, ?_⟩
  exact (((HB.out).setCell (by simp; try omega) _).setCell (by simp; try omega) _).setCell (by simp; try omega) _

def percentR (n p : Int) : Int × Int := if (0 ≤ n ∧ n ≤ 1000000000000000) ∧ (0 ≤ p ∧ p ≤ 1000) then shareF n.toNat p.toNat (100 : Int).toNat 2 else (0, 1)
theorem pc_no (n p : Int) (h : ¬ ((0 ≤ n ∧ n ≤ 1000000000000000) ∧ (0 ≤ p ∧ p ≤ 1000))) : percentR n p = (0, 1) := by unfold percentR; rw [if_neg h]
theorem pc_yes (n p : Int) (h1 : 0 ≤ n ∧ n ≤ 1000000000000000) (h2 : 0 ≤ p ∧ p ≤ 1000) : percentR n p = shareF n.toNat p.toNat (100 : Int).toNat 2 := by unfold percentR; rw [if_pos ⟨h1, h2⟩]
theorem pc_zero (n p : Int) : ¬ (percentR n p).2 = 0 → (percentR n p).1 = 0 := by
  unfold percentR; split
  · exact shareF_zero _ _ _ _
  · intro _; rfl

set_option maxRecDepth 10000 in
set_option maxHeartbeats 1600000 in
theorem percent_call (n p : Int) (p0 p1 : Addr) (w : World) (hp0 : w.cell? p0 = some (.int .i64 n)) (hb0 : p0.block < w.heap.size) (hp1 : w.cell? p1 = some (.int .i64 p)) (hb1 : p1.block < w.heap.size) :
    Calls Try.prog 71 #[.pointer (some p0), .pointer (some p1)] w fun e w' => e = endE (percentR n p) ∧ Below w.heap.size w w' := by
  go_enter Try.func71, Try.ntmps71
  go_wp2_with fail
  refine AnyO.region_by 6 (fun L act W => Below w.heap.size w W ∧ ∃ x2 x3 x4 x5 x6 x7 : Value, act = { tmps := #[.pointer (some p0), .pointer (some p1), x2, x3, x4, x5, x6, x7], defers := [] } ∧
    (L 0 = true → x3 = .int .i64 n) ∧
    (L 1 = true → x4 = .int .i64 n) ∧
    (L 1 = true → 0 ≤ n ∧ n ≤ 1000000000000000) ∧
    (L 2 = true → x5 = .int .i64 p) ∧
    (L 3 = true → x6 = .int .i64 p) ∧
    (L 3 = true → 0 ≤ p ∧ p ≤ 1000) ∧
    (L 4 = true → x7 = .int .i64 (percentR n p).1) ∧
    (L 4 = true → (percentR n p).2 = 0) ∧
    (L 5 = true → x2 = .int .i64 (percentR n p).1)) (by kernel_rfl) (by kernel_rfl) (by kernel_rfl) ?start ?step ?fin
  case start => exact ⟨below_drewN' _ 1 _, _, _, _, _, _, _, rfl, by simp, by simp, by simp, by simp, by simp, by simp, by simp, by simp, by simp⟩
  case step =>
    rintro i hi L act W ⟨hB, x2, x3, x4, x5, x6, x7, rfl, h0x, h1x, h1y, h2x, h3x, h3y, h4x, h4y, h5x⟩ hd
    have hcases : i = 0 ∨ i = 1 ∨ i = 2 ∨ i = 3 ∨ i = 4 ∨ i = 5 := by omega
    rcases hcases with rfl | rfl | rfl | rfl | rfl | rfl
    · have hc : W.cell? p0 = some (.int .i64 n) := by rw [hB.cell hb0]; exact hp0
      refine wpOp_step rfl (fun K hK => ?_)
      clear hi hd
      go_simp
      exact hK _ _ ⟨hB, _, _, _, _, _, _, rfl, fun _ => rfl, h1x, h1y, h2x, h3x, h3y, h4x, h4y, h5x⟩
    · have hx := h0x (hd 0 (by kernel_rfl))
      subst hx
      refine wpOp_step rfl (fun K hK => ?_)
      clear hi hd
      go_simp
      refine (FixH.amount_any n _).mono ?_
      rintro e w' ⟨⟨rfl, hin⟩ | ⟨rfl, hout⟩, rfl⟩
      · exact hK _ _ ⟨hB, _, _, _, _, _, _, rfl, h0x, fun _ => rfl, fun _ => hin, h2x, h3x, h3y, h4x, h4y, h5x⟩
      · exact ⟨rfl, by rw [pc_no _ _ (fun h => hout (h.1))]; rfl, hB⟩
    · have hc : W.cell? p1 = some (.int .i64 p) := by rw [hB.cell hb1]; exact hp1
      refine wpOp_step rfl (fun K hK => ?_)
      clear hi hd
      go_simp
      exact hK _ _ ⟨hB, _, _, _, _, _, _, rfl, h0x, h1x, h1y, fun _ => rfl, h3x, h3y, h4x, h4y, h5x⟩
    · have hx := h2x (hd 2 (by kernel_rfl))
      subst hx
      refine wpOp_step rfl (fun K hK => ?_)
      clear hi hd
      go_simp
      refine (FixH.held_any p 0 1000 1 _).mono ?_
      rintro e w' ⟨⟨rfl, hin⟩ | ⟨rfl, hout⟩, rfl⟩
      · exact hK _ _ ⟨hB, _, _, _, _, _, _, rfl, h0x, h1x, h1y, h2x, fun _ => rfl, fun _ => hin, h4x, h4y, h5x⟩
      · exact ⟨rfl, by rw [pc_no _ _ (fun h => hout (h.2))]; rfl, hB⟩
    · have e0 := h1x (hd 1 (by kernel_rfl))
      have g0 := h1y (hd 1 (by kernel_rfl))
      have e1 := h3x (hd 3 (by kernel_rfl))
      have g1 := h3y (hd 3 (by kernel_rfl))
      subst e0 e1
      have hR : Hid (percentR n p = _) := pc_yes _ _ g0 g1
      refine wpOp_step rfl (fun K hK => ?_)
      clear hi hd
      go_simp
      refine (share_end _ _ 100 2 _ g0 (by omega) (by omega) (by omega)).mono ?_
      rintro e w' ⟨he, hB2⟩
      rw [← hR.out] at he
      have hB3 := hB.trans (hB2.mono hB.size)
      by_cases hz : (percentR n p).2 = 0
      · rw [endE_ok hz] at he
        subst he
        exact hK _ _ ⟨hB3, _, _, _, _, _, _, rfl, h0x, h1x, h1y, h2x, h3x, h3y, fun _ => rfl, fun _ => hz, h5x⟩
      · rw [endE_no hz] at he
        subst he
        exact ⟨rfl, (endE_no hz).symm, hB3⟩
    · have hx := h4x (hd 4 (by kernel_rfl))
      subst hx
      refine wpOp_step rfl (fun K hK => ?_)
      clear hi hd
      generalize hgr : (percentR n p).1 = gr at *
      go_simp
      exact hK _ _ ⟨hB, _, _, _, _, _, _, rfl, h0x, h1x, h1y, h2x, h3x, h3y, h4x, h4y, fun _ => rfl⟩
  case fin =>
    rintro L act W ⟨hB, x2, x3, x4, x5, x6, x7, rfl, h0x, h1x, h1y, h2x, h3x, h3y, h4x, h4y, h5x⟩ hall
    have hx := h5x (hall 5 (by omega))
    have hz : Hid ((percentR n p).2 = 0) := h4y (hall 4 (by omega))
    subst hx
    clear h0x h1x h1y h2x h3x h3y h4x h4y h5x hall
    go_wp2
    go_ret
    exact ⟨(endE_ok hz.out).symm, hB⟩

set_option maxRecDepth 10000 in
set_option maxHeartbeats 1600000 in
theorem percent_face (n p : Int) (w : World) :
    Calls Try.prog 32 #[.int .i64 n, .int .i64 p] w fun e w' => e = .returned (numV (percentR n p).1 (percentR n p).2) ∧ Below w.heap.size w w' := by
  have hmf : ∀ (fn : Fn) (first cap : Array Value) (w : World), (Instr.makeFunc fn first cap).run Try.prog w = .ok (.func fn first cap) w := fun _ _ _ _ => rfl
  obtain ⟨r, hr⟩ : ∃ r, Hid (percentR n p = r) := ⟨_, rfl⟩
  rw [hr.out]
  go_enter Try.func32, Try.ntmps32
  go_wp2_with fail
  refine (faced_any 71 _ r _ ?_ ?_ ?_).mono ?_
  · rw [← hr.out]; exact pc_zero n p
  · intro W; rfl
  · rw [← hr.out]
    refine percent_call n p _ _ _ ?_ ?_ ?_ ?_
    all_goals first | (simp; done) | (go_simp; done) | (simp; omega)
  rintro e w1 ⟨rfl, hB⟩
  obtain ⟨hc0, hc1, hc2, hf⟩ := cells_out' hB (b := w.heap.size + 1 + 1) (by simp) (by first | (go_simp; done) | simp) (by first | (go_simp; done) | simp) (by first | (go_simp; done) | simp) (by intro o; first | (go_simp; done) | simp)
  have HB : Hid (Below w.heap.size w w1) := ((((Below.refl _ _).alloc (Nat.le_refl _) _).alloc (by simp; try omega) _).alloc (by simp; try omega) _).trans (hB.mono (by simp; try omega))
  clear hB hr
  unfold numV
  go_wp2
  refine bodyPost_ret (v := numV r.1 r.2) (by simp [results, Try.results32, go_sem, numV, hc0, hc1, hc2]) rfl ⟨rfl, ?_⟩
  exact (((HB.out).setCell (by simp; try omega) _).setCell (by simp; try omega) _).setCell (by simp; try omega) _

set_option maxRecDepth 10000 in
set_option maxHeartbeats 3200000 in
theorem tp_in (a b c : Nat) (m : Int) (w : World) (ha : a ≤ 1000000000000000) (hb : b ≤ 1000000000000000) (hc : 1 ≤ c ∧ c ≤ 1000000000000000) (hm : 0 ≤ m ∧ m ≤ 2) :
    Calls Try.prog 30 #[.int .i64 a, .int .i64 b, .int .i64 c, .int .i64 m] w fun e w' => e = .returned (FixF.numV (shareF a b c m).1 (shareF a b c m).2) ∧ Below w.heap.size w w' := by
  have hmul := fun w => smul_any a b c w ha hb hc
  have i1 : inB (a : Int) 0 1000000000000000 = true := inB_t (by omega)
  have i2 : inB (b : Int) 0 1000000000000000 = true := inB_t (by omega)
  have i3 : inB (c : Int) 1 1000000000000000 = true := inB_t (by omega)
  have i4 : inB m 0 2 = true := inB_t hm
  unfold mulV at hmul
  have hl := Nat.mod_lt (a * b) (show 0 < c by omega)
  by_cases hd : a * b / c ≤ 1000000000000000
  · rw [share_ok hd]
    rw [if_pos hd] at hmul
    generalize a * b / c = q at *
    generalize a * b % c = r at *
    obtain ⟨rr, hr⟩ : ∃ rr, roundR (q : Int) (r : Int) (c : Int) m = rr := ⟨_, rfl⟩
    rw [hr]
    obtain ⟨o, ho⟩ : ∃ o, Hid (outR rr = o) := ⟨_, rfl⟩
    have hl2 : (r : Int) < (c : Int) := by omega
    rcases (by omega : m = 0 ∨ m = 1 ∨ m = 2) with rfl | rfl | rfl
    · rw [round_no (by omega)] at hr
      have hr2 : Hid ((q : Int) = rr) := hr
      clear hr
      go_enter Try.func30, Try.ntmps30
      go_wp2_with (first
        | (go_at_call 69; refine (is_any _ _ _ _).mono ?_; rintro e w' ⟨rfl, rfl⟩)
        | (go_at_call 62; refine (mode_any _ _).mono ?_; rintro e w' ⟨rfl, rfl⟩)
        | (go_at_call 70; refine (hmul _).mono ?_; rintro e w' ⟨rfl, rfl⟩))
      rw [hr2.out]
      refine (out_any rr _).mono ?_
      rintro e w1 ⟨rfl, hB⟩
      rw [ho.out]
      clear hmul i1 i2 i3 i4
      obtain ⟨hc0, hc1, hc2, hf⟩ := cells_out hB (by simp)
      have HB : Hid (Below w.heap.size w w1) := below_out hB (by simp)
      clear hB
      unfold FixF.numV
      go_wp2
      refine bodyPost_ret (v := FixF.numV o.1 o.2) (by simp [results, Try.results30, go_sem, FixF.numV, hc0, hc1, hc2]) rfl ⟨by rw [ho.out], ?_⟩
      exact (((HB.out).setCell (Nat.le_refl _) _).setCell (Nat.le_refl _) _).setCell (Nat.le_refl _) _
    · by_cases hp : (0 : Int) < (r : Int)
      · rw [round_up (by omega)] at hr
        have hr2 : Hid ((q : Int) + 1 = rr) := hr
        clear hr
        go_enter Try.func30, Try.ntmps30
        go_wp2_with (first
          | (go_at_call 69; refine (is_any _ _ _ _).mono ?_; rintro e w' ⟨rfl, rfl⟩)
          | (go_at_call 62; refine (mode_any _ _).mono ?_; rintro e w' ⟨rfl, rfl⟩)
          | (go_at_call 70; refine (hmul _).mono ?_; rintro e w' ⟨rfl, rfl⟩))
        rw [hr2.out]
        refine (out_any rr _).mono ?_
        rintro e w1 ⟨rfl, hB⟩
        rw [ho.out]
        clear hmul i1 i2 i3 i4
        obtain ⟨hc0, hc1, hc2, hf⟩ := cells_out hB (by simp)
        have HB : Hid (Below w.heap.size w w1) := below_out hB (by simp)
        clear hB
        unfold FixF.numV
        go_wp2
        refine bodyPost_ret (v := FixF.numV o.1 o.2) (by simp [results, Try.results30, go_sem, FixF.numV, hc0, hc1, hc2]) rfl ⟨by rw [ho.out], ?_⟩
        exact (((HB.out).setCell (Nat.le_refl _) _).setCell (Nat.le_refl _) _).setCell (Nat.le_refl _) _
      · rw [round_no (by omega)] at hr
        have hr2 : Hid ((q : Int) = rr) := hr
        clear hr
        go_enter Try.func30, Try.ntmps30
        go_wp2_with (first
          | (go_at_call 69; refine (is_any _ _ _ _).mono ?_; rintro e w' ⟨rfl, rfl⟩)
          | (go_at_call 62; refine (mode_any _ _).mono ?_; rintro e w' ⟨rfl, rfl⟩)
          | (go_at_call 70; refine (hmul _).mono ?_; rintro e w' ⟨rfl, rfl⟩))
        rw [hr2.out]
        refine (out_any rr _).mono ?_
        rintro e w1 ⟨rfl, hB⟩
        rw [ho.out]
        clear hmul i1 i2 i3 i4
        obtain ⟨hc0, hc1, hc2, hf⟩ := cells_out hB (by simp)
        have HB : Hid (Below w.heap.size w w1) := below_out hB (by simp)
        clear hB
        unfold FixF.numV
        go_wp2
        refine bodyPost_ret (v := FixF.numV o.1 o.2) (by simp [results, Try.results30, go_sem, FixF.numV, hc0, hc1, hc2]) rfl ⟨by rw [ho.out], ?_⟩
        exact (((HB.out).setCell (Nat.le_refl _) _).setCell (Nat.le_refl _) _).setCell (Nat.le_refl _) _
    · by_cases hp : (c : Int) - (r : Int) ≤ (r : Int)
      · have hp0 : (0 : Int) < (r : Int) := by omega
        rw [round_up (by omega)] at hr
        have hr2 : Hid ((q : Int) + 1 = rr) := hr
        clear hr
        go_enter Try.func30, Try.ntmps30
        go_wp2_with (first
          | (go_at_call 69; refine (is_any _ _ _ _).mono ?_; rintro e w' ⟨rfl, rfl⟩)
          | (go_at_call 62; refine (mode_any _ _).mono ?_; rintro e w' ⟨rfl, rfl⟩)
          | (go_at_call 70; refine (hmul _).mono ?_; rintro e w' ⟨rfl, rfl⟩))
        rw [hr2.out]
        refine (out_any rr _).mono ?_
        rintro e w1 ⟨rfl, hB⟩
        rw [ho.out]
        clear hmul i1 i2 i3 i4
        obtain ⟨hc0, hc1, hc2, hf⟩ := cells_out hB (by simp)
        have HB : Hid (Below w.heap.size w w1) := below_out hB (by simp)
        clear hB
        unfold FixF.numV
        go_wp2
        refine bodyPost_ret (v := FixF.numV o.1 o.2) (by simp [results, Try.results30, go_sem, FixF.numV, hc0, hc1, hc2]) rfl ⟨by rw [ho.out], ?_⟩
        exact (((HB.out).setCell (Nat.le_refl _) _).setCell (Nat.le_refl _) _).setCell (Nat.le_refl _) _
      · by_cases hp0 : (0 : Int) < (r : Int)
        · rw [round_no (by omega)] at hr
          have hr2 : Hid ((q : Int) = rr) := hr
          clear hr
          go_enter Try.func30, Try.ntmps30
          go_wp2_with (first
            | (go_at_call 69; refine (is_any _ _ _ _).mono ?_; rintro e w' ⟨rfl, rfl⟩)
            | (go_at_call 62; refine (mode_any _ _).mono ?_; rintro e w' ⟨rfl, rfl⟩)
            | (go_at_call 70; refine (hmul _).mono ?_; rintro e w' ⟨rfl, rfl⟩))
          rw [hr2.out]
          refine (out_any rr _).mono ?_
          rintro e w1 ⟨rfl, hB⟩
          rw [ho.out]
          clear hmul i1 i2 i3 i4
          obtain ⟨hc0, hc1, hc2, hf⟩ := cells_out hB (by simp)
          have HB : Hid (Below w.heap.size w w1) := below_out hB (by simp)
          clear hB
          unfold FixF.numV
          go_wp2
          refine bodyPost_ret (v := FixF.numV o.1 o.2) (by simp [results, Try.results30, go_sem, FixF.numV, hc0, hc1, hc2]) rfl ⟨by rw [ho.out], ?_⟩
          exact (((HB.out).setCell (Nat.le_refl _) _).setCell (Nat.le_refl _) _).setCell (Nat.le_refl _) _
        · rw [round_no (by omega)] at hr
          have hr2 : Hid ((q : Int) = rr) := hr
          clear hr
          go_enter Try.func30, Try.ntmps30
          go_wp2_with (first
            | (go_at_call 69; refine (is_any _ _ _ _).mono ?_; rintro e w' ⟨rfl, rfl⟩)
            | (go_at_call 62; refine (mode_any _ _).mono ?_; rintro e w' ⟨rfl, rfl⟩)
            | (go_at_call 70; refine (hmul _).mono ?_; rintro e w' ⟨rfl, rfl⟩))
          rw [hr2.out]
          refine (out_any rr _).mono ?_
          rintro e w1 ⟨rfl, hB⟩
          rw [ho.out]
          clear hmul i1 i2 i3 i4
          obtain ⟨hc0, hc1, hc2, hf⟩ := cells_out hB (by simp)
          have HB : Hid (Below w.heap.size w w1) := below_out hB (by simp)
          clear hB
          unfold FixF.numV
          go_wp2
          refine bodyPost_ret (v := FixF.numV o.1 o.2) (by simp [results, Try.results30, go_sem, FixF.numV, hc0, hc1, hc2]) rfl ⟨by rw [ho.out], ?_⟩
          exact (((HB.out).setCell (Nat.le_refl _) _).setCell (Nat.le_refl _) _).setCell (Nat.le_refl _) _
  · rw [share_no hd]
    rw [if_neg hd] at hmul
    clear hd hl
    go_enter Try.func30, Try.ntmps30
    go_wp2_with (first
      | (go_at_call 69; refine (is_any _ _ _ _).mono ?_; rintro e w' ⟨rfl, rfl⟩)
      | (go_at_call 62; refine (mode_any _ _).mono ?_; rintro e w' ⟨rfl, rfl⟩)
      | (go_at_call 70; refine (hmul _).mono ?_; rintro e w' ⟨rfl, rfl⟩))
    refine (ill_any _ _).mono ?_
    rintro e w1 ⟨rfl, hB⟩
    clear hmul i1 i2 i3 i4
    obtain ⟨hc0, hc1, hc2, hf⟩ := cells_out hB (by simp)
    have HB : Hid (Below w.heap.size w w1) := below_out hB (by simp)
    clear hB
    unfold FixF.numV
    go_wp2
    refine bodyPost_ret (v := FixF.numV 0 12) (by simp [results, Try.results30, go_sem, FixF.numV, hc0, hc1, hc2]) rfl ⟨rfl, ?_⟩
    exact (((HB.out).setCell (Nat.le_refl _) _).setCell (Nat.le_refl _) _).setCell (Nat.le_refl _) _

set_option maxRecDepth 10000 in
set_option maxHeartbeats 3200000 in
theorem tp_spec (a b c m : Int) (w : World) :
    Calls Try.prog 30 #[.int .i64 a, .int .i64 b, .int .i64 c, .int .i64 m] w fun e w' => e = .returned (FixF.numV (timespartsR a b c m).1 (timespartsR a b c m).2) ∧ Below w.heap.size w w' := by
  by_cases h : (0 ≤ a ∧ a ≤ 1000000000000000) ∧ (0 ≤ b ∧ b ≤ 1000000000000000) ∧ (1 ≤ c ∧ c ≤ 1000000000000000) ∧ (0 ≤ m ∧ m ≤ 2)
  · obtain ⟨h1, h2, h3, h4⟩ := h
    rw [tp_yes a b c m h1 h2 h3 h4]
    have := tp_in a.toNat b.toNat c.toNat m w (by omega) (by omega) (by omega) h4
    rw [show ((a.toNat : Nat) : Int) = a by omega, show ((b.toNat : Nat) : Int) = b by omega, show ((c.toNat : Nat) : Int) = c by omega] at this
    exact this
  · rw [tp_no a b c m h]
    cases i1 : inB a 0 1000000000000000 <;> cases i2 : inB b 0 1000000000000000 <;> cases i3 : inB c 1 1000000000000000 <;> cases i4 : inB m 0 2
    all_goals first
      | (exfalso; unfold inB at i1 i2 i3 i4; rw [decide_eq_true_iff] at i1 i2 i3 i4; exact h ⟨i1, i2, i3, i4⟩)
      | (clear h
         go_enter Try.func30, Try.ntmps30
         go_wp2_with (first
      | (go_at_call 69; refine (is_any _ _ _ _).mono ?_; rintro e w' ⟨rfl, rfl⟩)
      | (go_at_call 62; refine (mode_any _ _).mono ?_; rintro e w' ⟨rfl, rfl⟩))
         refine (ill_any _ _).mono ?_
         rintro e w1 ⟨rfl, hB⟩
         obtain ⟨hc0, hc1, hc2, hf⟩ := cells_out hB (by simp)
         have HB : Hid (Below w.heap.size w w1) := below_out hB (by simp)
         clear hB
         unfold FixF.numV
         go_wp2
         refine bodyPost_ret (v := FixF.numV 0 1) (by simp [results, Try.results30, go_sem, FixF.numV, hc0, hc1, hc2]) rfl ⟨rfl, ?_⟩
         exact (((HB.out).setCell (Nat.le_refl _) _).setCell (Nat.le_refl _) _).setCell (Nat.le_refl _) _)

set_option maxRecDepth 10000 in
set_option maxHeartbeats 1600000 in
theorem pc_spec (n p : Int) (w : World) :
    Calls Try.prog 33 #[.int .i64 n, .int .i64 p] w fun e w' => e = .returned (FixF.numV (percentR n p).1 (percentR n p).2) ∧ Below w.heap.size w w' := by
  by_cases hp : 0 ≤ p ∧ p ≤ 1000
  · have i1 : inB p 0 1000 = true := inB_t hp
    have he : percentR n p = timespartsR n p 100 2 := by
      by_cases hn : 0 ≤ n ∧ n ≤ 1000000000000000
      · rw [pc_yes n p hn hp, tp_yes n p 100 2 hn (by omega) (by omega) (by omega)]
      · rw [pc_no n p (fun h => hn h.1), tp_no n p 100 2 (fun h => hn h.1)]
    rw [he]
    obtain ⟨o, ho⟩ : ∃ o, Hid (timespartsR n p 100 2 = o) := ⟨_, rfl⟩
    clear he hp
    go_enter Try.func33, Try.ntmps33
    go_wp2_with (first | (go_at_call 69; refine (is_any _ _ _ _).mono ?_; rintro e w' ⟨rfl, rfl⟩))
    refine (tp_spec n p 100 2 _).mono ?_
    rintro e w1 ⟨rfl, hB⟩
    rw [ho.out]
    obtain ⟨hc0, hc1, hc2, hf⟩ := cells_out hB (by simp)
    have HB : Hid (Below w.heap.size w w1) := below_out hB (by simp)
    clear hB
    unfold FixF.numV
    go_wp2
    refine bodyPost_ret (v := FixF.numV o.1 o.2) (by simp [results, Try.results33, go_sem, FixF.numV, hc0, hc1, hc2]) rfl ⟨by rw [ho.out], ?_⟩
    exact (((HB.out).setCell (Nat.le_refl _) _).setCell (Nat.le_refl _) _).setCell (Nat.le_refl _) _
  · have i1 : inB p 0 1000 = false := inB_f hp
    rw [pc_no n p (fun h => hp h.2)]
    clear hp
    go_enter Try.func33, Try.ntmps33
    go_wp2_with (first | (go_at_call 69; refine (is_any _ _ _ _).mono ?_; rintro e w' ⟨rfl, rfl⟩))
    refine (ill_any _ _).mono ?_
    rintro e w1 ⟨rfl, hB⟩
    obtain ⟨hc0, hc1, hc2, hf⟩ := cells_out hB (by simp)
    have HB : Hid (Below w.heap.size w w1) := below_out hB (by simp)
    clear hB
    unfold FixF.numV
    go_wp2
    refine bodyPost_ret (v := FixF.numV 0 1) (by simp [results, Try.results33, go_sem, FixF.numV, hc0, hc1, hc2]) rfl ⟨rfl, ?_⟩
    exact (((HB.out).setCell (Nat.le_refl _) _).setCell (Nat.le_refl _) _).setCell (Nat.le_refl _) _
end Go.Proofs.Ythplmgjnlhcapaa.FixTP
