/- Texts of ours, laid together: FixClos, FixTop. -/
import Derived.Test.YtaofdckdmffaiaaGreatDoorBd7
import Derived.Test.YtaofdckdmffaiaaGreatDoorBd5
import Derived.WalkSmall
/- What Plus and Minus of the program answer, as plain functions of the numbers; new memory alone is written. -/
namespace Go.Proofs.YtaofdckdmffaiaaGreatDoor.FixC
open Go.RowKit
open FixS FixF FixH

theorem below_drewN' (w : World) (n : Nat) (B : Nat) : Below B w (w.drewN n) := below_drewN (Below.refl _ _) n
/-- how a call ends that reckons a number, or a fault's code -/
def endE (r : Int × Int) : Ending := if r.2 = 0 then .returned (.int .i64 r.1) else .panicked (ill r.2)
theorem endE_ok {r : Int × Int} (h : r.2 = 0) : endE r = .returned (.int .i64 r.1) := by unfold endE; rw [if_pos h]
theorem endE_no {r : Int × Int} (h : ¬ r.2 = 0) : endE r = .panicked (ill r.2) := by unfold endE; rw [if_neg h]

theorem plus_no (a b : Int) (h : ¬ ((-1000000000000000 ≤ a ∧ a ≤ 1000000000000000) ∧ (-1000000000000000 ≤ b ∧ b ≤ 1000000000000000))) : plusR a b = (0, 1) := by
  unfold plusR; rw [if_neg (by rw [inM_iff, inM_iff]; exact h)]
theorem plus_yes (a b : Int) (h : -1000000000000000 ≤ a ∧ a ≤ 1000000000000000) (h2 : -1000000000000000 ≤ b ∧ b ≤ 1000000000000000) : plusR a b = outR (a + b) := by
  unfold plusR; rw [if_pos ⟨(inM_iff a).2 h, (inM_iff b).2 h2⟩]
theorem minus_no (a b : Int) (h : ¬ ((-1000000000000000 ≤ a ∧ a ≤ 1000000000000000) ∧ (-1000000000000000 ≤ b ∧ b ≤ 1000000000000000))) : minusR a b = (0, 1) := by
  unfold minusR; rw [if_neg (by rw [inM_iff, inM_iff]; exact h)]
theorem minus_yes (a b : Int) (h : -1000000000000000 ≤ a ∧ a ≤ 1000000000000000) (h2 : -1000000000000000 ≤ b ∧ b ≤ 1000000000000000) : minusR a b = outR (a - b) := by
  unfold minusR; rw [if_pos ⟨(inM_iff a).2 h, (inM_iff b).2 h2⟩]

theorem reckoned_end (n : Int) (w : World) : Calls Tryz.prog 117 #[.int .i64 n] w fun e w' => e = endE (outR n) ∧ Below w.heap.size w w' := by
  refine (reckoned_any n w).mono ?_
  rintro e w' ⟨⟨rfl, hin⟩ | ⟨rfl, hout⟩, rfl⟩
  · exact ⟨by unfold outR; rw [if_pos ((inM_iff n).2 hin)]; rfl, Below.refl _ _⟩
  · exact ⟨by unfold outR; rw [if_neg (fun h => hout ((inM_iff n).1 h))]; rfl, Below.refl _ _⟩

set_option maxRecDepth 10000 in
set_option maxHeartbeats 1600000 in
theorem plus_call (a b : Int) (p0 p1 : Addr) (w : World) (hp0 : w.cell? p0 = some (.int .i64 a)) (hb0 : p0.block < w.heap.size) (hp1 : w.cell? p1 = some (.int .i64 b)) (hb1 : p1.block < w.heap.size) :
    Calls Tryz.prog 116 #[.pointer (some p0), .pointer (some p1)] w fun e w' => e = endE (plusR a b) ∧ Below w.heap.size w w' := by
  go_enter Tryz.func116, Tryz.ntmps116
  go_wp2_with fail
  refine AnyO.region_by 7 (fun L act W => Below w.heap.size w W ∧ ∃ x2 x3 x4 x5 x6 x7 x8 : Value, act = { tmps := #[.pointer (some p0), .pointer (some p1), x2, x3, x4, x5, x6, x7, x8], defers := [] } ∧
    (L 0 = true → x3 = .int .i64 a) ∧
    (L 1 = true → x4 = .int .i64 a) ∧
    (L 1 = true → -1000000000000000 ≤ a ∧ a ≤ 1000000000000000) ∧
    (L 2 = true → x5 = .int .i64 b) ∧
    (L 3 = true → x6 = .int .i64 b) ∧
    (L 3 = true → -1000000000000000 ≤ b ∧ b ≤ 1000000000000000) ∧
    (L 4 = true → x7 = .int .i64 (a + b)) ∧
    (L 4 = true → (-1000000000000000 ≤ a ∧ a ≤ 1000000000000000) ∧ (-1000000000000000 ≤ b ∧ b ≤ 1000000000000000)) ∧
    (L 5 = true → x8 = .int .i64 (plusR a b).1) ∧
    (L 5 = true → (plusR a b).2 = 0) ∧
    (L 6 = true → x2 = .int .i64 (plusR a b).1)) (by kernel_rfl) (by kernel_rfl) (by kernel_rfl) ?start ?step ?fin
  case start => exact ⟨below_drewN' _ 1 _, _, _, _, _, _, _, _, rfl, by simp, by simp, by simp, by simp, by simp, by simp, by simp, by simp, by simp, by simp, by simp⟩
  case step =>
    rintro i hi L act W ⟨hB, x2, x3, x4, x5, x6, x7, x8, rfl, h0x, h1x, h1y, h2x, h3x, h3y, h4x, h4y, h5x, h5y, h6x⟩ hd
    have hcases : i = 0 ∨ i = 1 ∨ i = 2 ∨ i = 3 ∨ i = 4 ∨ i = 5 ∨ i = 6 := by omega
    rcases hcases with rfl | rfl | rfl | rfl | rfl | rfl | rfl
    · have hc : W.cell? p0 = some (.int .i64 a) := by rw [hB.cell hb0]; exact hp0
      refine wpOp_step rfl (fun K hK => ?_)
      clear hi hd
      go_simp
      exact hK _ _ ⟨hB, _, _, _, _, _, _, _, rfl, fun _ => rfl, h1x, h1y, h2x, h3x, h3y, h4x, h4y, h5x, h5y, h6x⟩
    · have hx := h0x (hd 0 (by kernel_rfl))
      subst hx
      refine wpOp_step rfl (fun K hK => ?_)
      clear hi hd
      go_simp
      refine (FixH.handed_any a _).mono ?_
      rintro e w' ⟨⟨rfl, hin⟩ | ⟨rfl, hout⟩, rfl⟩
      · exact hK _ _ ⟨hB, _, _, _, _, _, _, _, rfl, h0x, fun _ => rfl, fun _ => hin, h2x, h3x, h3y, h4x, h4y, h5x, h5y, h6x⟩
      · exact ⟨rfl, by rw [plus_no _ _ (fun h => hout (h.1))]; rfl, hB⟩
    · have hc : W.cell? p1 = some (.int .i64 b) := by rw [hB.cell hb1]; exact hp1
      refine wpOp_step rfl (fun K hK => ?_)
      clear hi hd
      go_simp
      exact hK _ _ ⟨hB, _, _, _, _, _, _, _, rfl, h0x, h1x, h1y, fun _ => rfl, h3x, h3y, h4x, h4y, h5x, h5y, h6x⟩
    · have hx := h2x (hd 2 (by kernel_rfl))
      subst hx
      refine wpOp_step rfl (fun K hK => ?_)
      clear hi hd
      go_simp
      refine (FixH.handed_any b _).mono ?_
      rintro e w' ⟨⟨rfl, hin⟩ | ⟨rfl, hout⟩, rfl⟩
      · exact hK _ _ ⟨hB, _, _, _, _, _, _, _, rfl, h0x, h1x, h1y, h2x, fun _ => rfl, fun _ => hin, h4x, h4y, h5x, h5y, h6x⟩
      · exact ⟨rfl, by rw [plus_no _ _ (fun h => hout (h.2))]; rfl, hB⟩
    · have e0 := h1x (hd 1 (by kernel_rfl))
      have g0 := h1y (hd 1 (by kernel_rfl))
      have e1 := h3x (hd 3 (by kernel_rfl))
      have g1 := h3y (hd 3 (by kernel_rfl))
      subst e0 e1
      have hwr : IntKind.i64.wrap (a + b) = a + b := by rw [IntKind.wrap_i64]; omega
      refine wpOp_step rfl (fun K hK => ?_)
      clear hi hd
      go_simp
      try rw [hwr]
      exact hK _ _ ⟨hB, _, _, _, _, _, _, _, rfl, h0x, h1x, h1y, h2x, h3x, h3y, fun _ => rfl, fun _ => ⟨g0, g1⟩, h5x, h5y, h6x⟩
    · have e0 := h4x (hd 4 (by kernel_rfl))
      obtain ⟨g0, g1⟩ := h4y (hd 4 (by kernel_rfl))
      subst e0
      have hR : Hid (plusR a b = _) := plus_yes _ _ g0 g1
      refine wpOp_step rfl (fun K hK => ?_)
      clear hi hd
      go_simp
      refine (reckoned_end _ _).mono ?_
      rintro e w' ⟨he, hB2⟩
      rw [← hR.out] at he
      have hB3 := hB.trans (hB2.mono hB.size)
      by_cases hz : (plusR a b).2 = 0
      · rw [endE_ok hz] at he
        subst he
        exact hK _ _ ⟨hB3, _, _, _, _, _, _, _, rfl, h0x, h1x, h1y, h2x, h3x, h3y, h4x, h4y, fun _ => rfl, fun _ => hz, h6x⟩
      · rw [endE_no hz] at he
        subst he
        exact ⟨rfl, (endE_no hz).symm, hB3⟩
    · have hx := h5x (hd 5 (by kernel_rfl))
      subst hx
      refine wpOp_step rfl (fun K hK => ?_)
      clear hi hd
      generalize hgr : (plusR a b).1 = gr at *
      go_simp
      exact hK _ _ ⟨hB, _, _, _, _, _, _, _, rfl, h0x, h1x, h1y, h2x, h3x, h3y, h4x, h4y, h5x, h5y, fun _ => rfl⟩
  case fin =>
    rintro L act W ⟨hB, x2, x3, x4, x5, x6, x7, x8, rfl, h0x, h1x, h1y, h2x, h3x, h3y, h4x, h4y, h5x, h5y, h6x⟩ hall
    have hx := h6x (hall 6 (by omega))
    have hz : Hid ((plusR a b).2 = 0) := h5y (hall 5 (by omega))
    subst hx
    clear h0x h1x h1y h2x h3x h3y h4x h4y h5x h5y h6x hall
    go_wp2
    go_ret
    exact ⟨(endE_ok hz.out).symm, hB⟩

set_option maxRecDepth 10000 in
set_option maxHeartbeats 1600000 in
theorem minus_call (a b : Int) (p0 p1 : Addr) (w : World) (hp0 : w.cell? p0 = some (.int .i64 a)) (hb0 : p0.block < w.heap.size) (hp1 : w.cell? p1 = some (.int .i64 b)) (hb1 : p1.block < w.heap.size) :
    Calls Tryz.prog 119 #[.pointer (some p0), .pointer (some p1)] w fun e w' => e = endE (minusR a b) ∧ Below w.heap.size w w' := by
  go_enter Tryz.func119, Tryz.ntmps119
  go_wp2_with fail
  refine AnyO.region_by 7 (fun L act W => Below w.heap.size w W ∧ ∃ x2 x3 x4 x5 x6 x7 x8 : Value, act = { tmps := #[.pointer (some p0), .pointer (some p1), x2, x3, x4, x5, x6, x7, x8], defers := [] } ∧
    (L 0 = true → x3 = .int .i64 a) ∧
    (L 1 = true → x4 = .int .i64 a) ∧
    (L 1 = true → -1000000000000000 ≤ a ∧ a ≤ 1000000000000000) ∧
    (L 2 = true → x5 = .int .i64 b) ∧
    (L 3 = true → x6 = .int .i64 b) ∧
    (L 3 = true → -1000000000000000 ≤ b ∧ b ≤ 1000000000000000) ∧
    (L 4 = true → x7 = .int .i64 (a - b)) ∧
    (L 4 = true → (-1000000000000000 ≤ a ∧ a ≤ 1000000000000000) ∧ (-1000000000000000 ≤ b ∧ b ≤ 1000000000000000)) ∧
    (L 5 = true → x8 = .int .i64 (minusR a b).1) ∧
    (L 5 = true → (minusR a b).2 = 0) ∧
    (L 6 = true → x2 = .int .i64 (minusR a b).1)) (by kernel_rfl) (by kernel_rfl) (by kernel_rfl) ?start ?step ?fin
  case start => exact ⟨below_drewN' _ 1 _, _, _, _, _, _, _, _, rfl, by simp, by simp, by simp, by simp, by simp, by simp, by simp, by simp, by simp, by simp, by simp⟩
  case step =>
    rintro i hi L act W ⟨hB, x2, x3, x4, x5, x6, x7, x8, rfl, h0x, h1x, h1y, h2x, h3x, h3y, h4x, h4y, h5x, h5y, h6x⟩ hd
    have hcases : i = 0 ∨ i = 1 ∨ i = 2 ∨ i = 3 ∨ i = 4 ∨ i = 5 ∨ i = 6 := by omega
    rcases hcases with rfl | rfl | rfl | rfl | rfl | rfl | rfl
    · have hc : W.cell? p0 = some (.int .i64 a) := by rw [hB.cell hb0]; exact hp0
      refine wpOp_step rfl (fun K hK => ?_)
      clear hi hd
      go_simp
      exact hK _ _ ⟨hB, _, _, _, _, _, _, _, rfl, fun _ => rfl, h1x, h1y, h2x, h3x, h3y, h4x, h4y, h5x, h5y, h6x⟩
    · have hx := h0x (hd 0 (by kernel_rfl))
      subst hx
      refine wpOp_step rfl (fun K hK => ?_)
      clear hi hd
      go_simp
      refine (FixH.handed_any a _).mono ?_
      rintro e w' ⟨⟨rfl, hin⟩ | ⟨rfl, hout⟩, rfl⟩
      · exact hK _ _ ⟨hB, _, _, _, _, _, _, _, rfl, h0x, fun _ => rfl, fun _ => hin, h2x, h3x, h3y, h4x, h4y, h5x, h5y, h6x⟩
      · exact ⟨rfl, by rw [minus_no _ _ (fun h => hout (h.1))]; rfl, hB⟩
    · have hc : W.cell? p1 = some (.int .i64 b) := by rw [hB.cell hb1]; exact hp1
      refine wpOp_step rfl (fun K hK => ?_)
      clear hi hd
      go_simp
      exact hK _ _ ⟨hB, _, _, _, _, _, _, _, rfl, h0x, h1x, h1y, fun _ => rfl, h3x, h3y, h4x, h4y, h5x, h5y, h6x⟩
    · have hx := h2x (hd 2 (by kernel_rfl))
      subst hx
      refine wpOp_step rfl (fun K hK => ?_)
      clear hi hd
      go_simp
      refine (FixH.handed_any b _).mono ?_
      rintro e w' ⟨⟨rfl, hin⟩ | ⟨rfl, hout⟩, rfl⟩
      · exact hK _ _ ⟨hB, _, _, _, _, _, _, _, rfl, h0x, h1x, h1y, h2x, fun _ => rfl, fun _ => hin, h4x, h4y, h5x, h5y, h6x⟩
      · exact ⟨rfl, by rw [minus_no _ _ (fun h => hout (h.2))]; rfl, hB⟩
    · have e0 := h1x (hd 1 (by kernel_rfl))
      have g0 := h1y (hd 1 (by kernel_rfl))
      have e1 := h3x (hd 3 (by kernel_rfl))
      have g1 := h3y (hd 3 (by kernel_rfl))
      subst e0 e1
      have hwr : IntKind.i64.wrap (a - b) = a - b := by rw [IntKind.wrap_i64]; omega
      refine wpOp_step rfl (fun K hK => ?_)
      clear hi hd
      go_simp
      try rw [hwr]
      exact hK _ _ ⟨hB, _, _, _, _, _, _, _, rfl, h0x, h1x, h1y, h2x, h3x, h3y, fun _ => rfl, fun _ => ⟨g0, g1⟩, h5x, h5y, h6x⟩
    · have e0 := h4x (hd 4 (by kernel_rfl))
      obtain ⟨g0, g1⟩ := h4y (hd 4 (by kernel_rfl))
      subst e0
      have hR : Hid (minusR a b = _) := minus_yes _ _ g0 g1
      refine wpOp_step rfl (fun K hK => ?_)
      clear hi hd
      go_simp
      refine (reckoned_end _ _).mono ?_
      rintro e w' ⟨he, hB2⟩
      rw [← hR.out] at he
      have hB3 := hB.trans (hB2.mono hB.size)
      by_cases hz : (minusR a b).2 = 0
      · rw [endE_ok hz] at he
        subst he
        exact hK _ _ ⟨hB3, _, _, _, _, _, _, _, rfl, h0x, h1x, h1y, h2x, h3x, h3y, h4x, h4y, fun _ => rfl, fun _ => hz, h6x⟩
      · rw [endE_no hz] at he
        subst he
        exact ⟨rfl, (endE_no hz).symm, hB3⟩
    · have hx := h5x (hd 5 (by kernel_rfl))
      subst hx
      refine wpOp_step rfl (fun K hK => ?_)
      clear hi hd
      generalize hgr : (minusR a b).1 = gr at *
      go_simp
      exact hK _ _ ⟨hB, _, _, _, _, _, _, _, rfl, h0x, h1x, h1y, h2x, h3x, h3y, h4x, h4y, h5x, h5y, fun _ => rfl⟩
  case fin =>
    rintro L act W ⟨hB, x2, x3, x4, x5, x6, x7, x8, rfl, h0x, h1x, h1y, h2x, h3x, h3y, h4x, h4y, h5x, h5y, h6x⟩ hall
    have hx := h6x (hall 6 (by omega))
    have hz : Hid ((minusR a b).2 = 0) := h5y (hall 5 (by omega))
    subst hx
    clear h0x h1x h1y h2x h3x h3y h4x h4y h5x h5y h6x hall
    go_wp2
    go_ret
    exact ⟨(endE_ok hz.out).symm, hB⟩
end Go.Proofs.YtaofdckdmffaiaaGreatDoor.FixC
/- What Plus and Minus of the program answer at their faces; new memory alone is written. -/
namespace Go.Proofs.YtaofdckdmffaiaaGreatDoor.FixT
open Go.RowKit
open FixS FixF FixH FixC

theorem faced_any (K : FuncId) (caps : Array Value) (r : Int × Int) (w : World) (hz : ¬ r.2 = 0 → r.1 = 0) (hent : ∀ W, (callFunc K caps).run Tryz.prog W = .ok (.enter K caps) W)
    (hcall : Calls Tryz.prog K caps (w.alloc (.cells #[.int .i64 0, .int .i64 0, .int .i64 0] 110)) fun e w' =>
      e = endE r ∧ Below (w.alloc (.cells #[.int .i64 0, .int .i64 0, .int .i64 0] 110)).heap.size (w.alloc (.cells #[.int .i64 0, .int .i64 0, .int .i64 0] 110)) w') :
    Calls Tryz.prog 115 #[.func (.func K) #[] caps] w fun e w' => e = .returned (numV r.1 r.2) ∧ Below w.heap.size w w' := by
  have hs : (w.alloc (.cells #[.int .i64 0, .int .i64 0, .int .i64 0] 110)).heap.size = w.heap.size + 1 := by simp
  rw [hs] at hcall
  by_cases h : r.2 = 0
  · rw [endE_ok h] at hcall; rw [h]; exact faced_num K caps r.1 w hent hcall
  · rw [endE_no h] at hcall; rw [hz h]; exact faced_ill K caps r.2 w hent hcall

theorem out_zero (n : Int) : ¬ (outR n).2 = 0 → (outR n).1 = 0 := by
  unfold outR; split
  · intro h; exact absurd rfl h
  · intro _; rfl

theorem cells_out' {w w1 : World} {b B : Nat} (hB : Below B w w1) (hb : b < B) (h0 : w.cell? ⟨b, 0, none⟩ = some (.int .i64 0)) (h1 : w.cell? ⟨b, 1, none⟩ = some (.int .i64 0)) (h2 : w.cell? ⟨b, 2, none⟩ = some (.int .i64 0))
    (hf : ∀ o, w.frozen? ⟨b, o, none⟩ = false) :
    w1.cell? ⟨b, 0, none⟩ = some (.int .i64 0) ∧ w1.cell? ⟨b, 1, none⟩ = some (.int .i64 0) ∧ w1.cell? ⟨b, 2, none⟩ = some (.int .i64 0) ∧ (∀ o, w1.frozen? ⟨b, o, none⟩ = false) :=
  ⟨by rw [hB.cell (p := ⟨b, 0, none⟩) hb]; exact h0, by rw [hB.cell (p := ⟨b, 1, none⟩) hb]; exact h1, by rw [hB.cell (p := ⟨b, 2, none⟩) hb]; exact h2,
    fun o => by rw [hB.frozen (p := ⟨b, o, none⟩) hb]; exact hf o⟩

theorem plus_zero (a b : Int) : ¬ (plusR a b).2 = 0 → (plusR a b).1 = 0 := by
  unfold plusR; split
  · exact out_zero _
  · intro _; rfl
theorem minus_zero (a b : Int) : ¬ (minusR a b).2 = 0 → (minusR a b).1 = 0 := by
  unfold minusR; split
  · exact out_zero _
  · intro _; rfl

set_option maxRecDepth 10000 in
set_option maxHeartbeats 1600000 in
theorem plus_face (a b : Int) (w : World) :
    Calls Tryz.prog 101 #[.int .i64 a, .int .i64 b] w fun e w' => e = .returned (numV (plusR a b).1 (plusR a b).2) ∧ Below w.heap.size w w' := by
  have hmf : ∀ (fn : Fn) (first cap : Array Value) (w : World), (Instr.makeFunc fn first cap).run Tryz.prog w = .ok (.func fn first cap) w := fun _ _ _ _ => rfl
  obtain ⟨r, hr⟩ : ∃ r, Hid (plusR a b = r) := ⟨_, rfl⟩
  rw [hr.out]
  go_enter Tryz.func101, Tryz.ntmps101
  go_wp2_with fail
  refine (faced_any 116 _ r _ ?_ ?_ ?_).mono ?_
  · rw [← hr.out]; exact plus_zero a b
  · intro W; rfl
  · rw [← hr.out]
    refine plus_call a b _ _ _ ?_ ?_ ?_ ?_
    all_goals first | (simp; done) | (go_simp; done) | (simp; omega)
  rintro e w1 ⟨rfl, hB⟩
  obtain ⟨hc0, hc1, hc2, hf⟩ := cells_out' hB (b := w.heap.size + 1 + 1) (by simp) (by first | (go_simp; done) | simp) (by first | (go_simp; done) | simp) (by first | (go_simp; done) | simp) (by intro o; first | (go_simp; done) | simp)
  have HB : Hid (Below w.heap.size w w1) := ((((Below.refl _ _).alloc (Nat.le_refl _) _).alloc (by simp; try omega) _).alloc (by simp; try omega) _).trans (hB.mono (by simp; try omega))
  clear hB hr
  unfold numV
  go_wp2
  refine bodyPost_ret (v := numV r.1 r.2) (by simp [results, Tryz.results101, go_sem, numV, hc0, hc1, hc2]) rfl ⟨rfl, ?_⟩
  exact (((HB.out).setCell (by simp; try omega) _).setCell (by simp; try omega) _).setCell (by simp; try omega) _

set_option maxRecDepth 10000 in
set_option maxHeartbeats 1600000 in
theorem minus_face (a b : Int) (w : World) :
    Calls Tryz.prog 102 #[.int .i64 a, .int .i64 b] w fun e w' => e = .returned (numV (minusR a b).1 (minusR a b).2) ∧ Below w.heap.size w w' := by
  have hmf : ∀ (fn : Fn) (first cap : Array Value) (w : World), (Instr.makeFunc fn first cap).run Tryz.prog w = .ok (.func fn first cap) w := fun _ _ _ _ => rfl
  obtain ⟨r, hr⟩ : ∃ r, Hid (minusR a b = r) := ⟨_, rfl⟩
  rw [hr.out]
  go_enter Tryz.func102, Tryz.ntmps102
  go_wp2_with fail
  refine (faced_any 119 _ r _ ?_ ?_ ?_).mono ?_
  · rw [← hr.out]; exact minus_zero a b
  · intro W; rfl
  · rw [← hr.out]
    refine minus_call a b _ _ _ ?_ ?_ ?_ ?_
    all_goals first | (simp; done) | (go_simp; done) | (simp; omega)
  rintro e w1 ⟨rfl, hB⟩
  obtain ⟨hc0, hc1, hc2, hf⟩ := cells_out' hB (b := w.heap.size + 1 + 1) (by simp) (by first | (go_simp; done) | simp) (by first | (go_simp; done) | simp) (by first | (go_simp; done) | simp) (by intro o; first | (go_simp; done) | simp)
  have HB : Hid (Below w.heap.size w w1) := ((((Below.refl _ _).alloc (Nat.le_refl _) _).alloc (by simp; try omega) _).alloc (by simp; try omega) _).trans (hB.mono (by simp; try omega))
  clear hB hr
  unfold numV
  go_wp2
  refine bodyPost_ret (v := numV r.1 r.2) (by simp [results, Tryz.results102, go_sem, numV, hc0, hc1, hc2]) rfl ⟨rfl, ?_⟩
  exact (((HB.out).setCell (by simp; try omega) _).setCell (by simp; try omega) _).setCell (by simp; try omega) _
end Go.Proofs.YtaofdckdmffaiaaGreatDoor.FixT
