/- Texts of ours, laid together: StkPush, StkPop. -/
import Derived.Test.YtaofdckdmffaiaaGreatDoorBd6
import Derived.Test.YtaofdckdmffaiaaGreatDoorBd20
import Derived.OneCell
import Derived.Deep.RegionHeld3
import Derived.Deep.Cut
import Derived.Deep.CutRange
import Derived.Maps.AppendAt
import Derived.Deep.QuietTactic
import Derived.BigRegion
/- A stack of blocks: push. -/
namespace Go.Proofs.YtaofdckdmffaiaaGreatDoor.StkI
open Go.RowKit
open ItmW PrtW

abbrev TStk : TypeId := 69
theorem Tryz.infoK : (Tryz.prog.info? 72).map (fun i => (i.zero, i.size, i.bytes)) = some (some (.agg #[.bool false]), 1, 1) := by kernel_rfl
/-- a row of blocks of one's own -/
def OwnK (w : World) (base : Nat) (v : Value) (op : List Bool) : Prop := w.ownsRow base 72 1 v op.length (op.map Value.bool)
theorem OwnK.on {w w' : World} {base : Nat} {v : Value} {op : List Bool} (h : OwnK w base v op) (hB : Below w.heap.size w w') : OwnK w' base v op := by
  obtain ⟨h1, h2⟩ := h
  refine ⟨h1, ?_⟩
  rcases h2 with h2 | ⟨g, cap, cur, hv, hb, hg, r⟩
  · exact .inl h2
  · exact .inr ⟨g, cap, cur, hv, hb, by rw [hB.block g (blk_lt hg)]; exact hg, r⟩
theorem own_shapeK {W : World} {base k n : Nat} {e : TypeId} {v : Value} {xs : List Value} (h : W.ownsRow base e k v n xs) : ∃ a c, v = .slice a n c := by
  rcases h.2 with ⟨rfl, rfl⟩ | ⟨g, cap, cur, rfl, _, _, hc, _⟩
  · exact ⟨none, 0, rfl⟩
  · exact ⟨_, _, rfl⟩
theorem own_blockK {W : World} {base k n : Nat} {e : TypeId} {v : Value} {xs : List Value} (h : W.ownsRow base e k v n xs) {b : Nat} (hb : v.ownBlock = some b) : ∃ cs, W.heap[b]? = some (.cells cs e (0, 0)) := by
  rcases h.2 with ⟨rfl, _⟩ | ⟨g, cap, cur, rfl, _, hg, _⟩
  · cases hb
  · cases hb; exact ⟨cur, hg⟩
/-- blocks of other types lie as they lay -/
def KeepT (w w' : World) : Prop := ∀ (b : Nat) (cs : Array Value) (T : TypeId) (z : Nat × Nat), w.heap[b]? = some (.cells cs T z) → T ≠ TStk → T ≠ 72 → w'.heap[b]? = w.heap[b]?
theorem KeepT.refl (w : World) : KeepT w w := fun _ _ _ _ _ _ _ => rfl
theorem KeepT.trans {w w' w'' : World} (h : KeepT w w') (k : KeepT w' w'') : KeepT w w'' := fun b cs T z hb h1 h2 => by
  have e := h b cs T z hb h1 h2
  rw [← e]
  exact k b cs T z (e.trans hb) h1 h2
theorem KeepT.below {w w' : World} (hB : Below w.heap.size w w') : KeepT w w' := fun b _ _ _ hb _ _ => hB.block b (blk_lt hb)
/-- the stack's block, and what lay before: from base up blocks of the stack's types alone are written -/
def StkW (w : World) (S base : Nat) (v : Value) (W : World) : Prop :=
  (base ≤ S ∧ base ≤ w.heap.size) ∧ W.heap[S]? = some (.cells #[v] TStk (0, 0)) ∧ Below base w W ∧ w.heap.size ≤ W.heap.size ∧ KeepT w W
section
variable {w W W' : World} {S base : Nat} {v : Value} {op : List Bool}
theorem StkW.low (h : StkW w S base v W) : base ≤ W.heap.size := Nat.le_trans h.1.2 h.2.2.2.1
theorem StkW.cell (h : StkW w S base v W) : W.cell? ⟨S, 0, none⟩ = some v ∧ (∀ j, W.frozen? ⟨S, j, none⟩ = false) ∧ S < W.heap.size := by
  have h2 := h.2.1
  exact ⟨by simp [World.cell?, h2], fun j => by simp [World.frozen?, h2], blk_lt h2⟩
theorem StkW.on (h : StkW w S base v W) (hB : Below W.heap.size W W') : StkW w S base v W' :=
  ⟨h.1, by rw [hB.block S (blk_lt h.2.1)]; exact h.2.1, h.2.2.1.trans (hB.mono h.low), Nat.le_trans h.2.2.2.1 hB.size, h.2.2.2.2.trans (KeepT.below hB)⟩
theorem StkW.store (h : StkW w S base v W) (u : Value) : StkW w S base u (W.setCell ⟨S, 0, none⟩ u) := by
  refine ⟨h.1, ?_, h.2.2.1.setCell h.1.1 _, by simpa using h.2.2.2.1, h.2.2.2.2.trans fun b cs T z hb h1 _ => ?_⟩
  · have h2 := h.2.1
    simp [World.setCell, Array.getElem?_modify, h2]
  · refine Below.heap_setCell _ _ _ _ (fun e => ?_)
    simp only at e
    rw [e, h.2.1] at hb
    injection hb with hb
    injection hb with _ hT
    exact h1 hT.symm
theorem StkW.grown {row : Value} (h : StkW w S base v W) (hR : OwnK W base row op) (hg : W.grownBy W' row.ownBlock) : StkW w S base v W' := by
  have hne : ∀ b, row.ownBlock = some b → base ≤ b ∧ ∃ cs, W.heap[b]? = some (.cells cs 72 (0, 0)) := fun b hb => ⟨(hR.lt b hb).1, own_blockK hR hb⟩
  refine ⟨h.1, ?_, h.2.2.1.grown hg h.low (fun b hb => (hne b hb).1), Nat.le_trans h.2.2.2.1 hg.size, h.2.2.2.2.trans fun b cs T z hb _ h2 => hg.block b (blk_lt hb) (fun e => ?_)⟩
  · rw [hg.block S (blk_lt h.2.1) (fun e => by
      obtain ⟨cs, hc⟩ := (hne S e.symm).2
      rw [h.2.1] at hc
      injection hc with hc
      injection hc with _ hT
      exact absurd hT (by decide))]
    exact h.2.1
  · obtain ⟨cs2, hc⟩ := (hne b e.symm).2
    rw [hb] at hc
    injection hc with hc
    injection hc with _ hT
    exact h2 hT
theorem StkW.row {u : Value} {op2 : List Bool} (h : StkW w S base v W) (hR : OwnK W base u op2) (x : Value) : OwnK (W.setCell ⟨S, 0, none⟩ x) base u op2 := by
  obtain ⟨h1, h2⟩ := hR
  refine ⟨h1, ?_⟩
  rcases h2 with h2 | ⟨g, cap, cur, hv, hb, hg, r⟩
  · exact .inl h2
  · refine .inr ⟨g, cap, cur, hv, hb, ?_, r⟩
    rw [Below.heap_setCell _ _ _ _ (fun e => by
      simp only at e
      rw [e, h.2.1] at hg
      injection hg with hg
      injection hg with _ hT
      exact absurd hT (by decide))]
    exact hg
end
/-- one block lies alone -/
def RowK (base g : Nat) (b : Bool) (W : World) : Prop := base ≤ g ∧ g < W.heap.size ∧ W.cell? ⟨g, 0, none⟩ = some (.bool b)
theorem RowK.on {base g : Nat} {b : Bool} {W W' : World} (h : RowK base g b W) (hB : Below W.heap.size W W') : RowK base g b W' := ⟨h.1, Nat.lt_of_lt_of_le h.2.1 hB.size, by rw [hB.cell (p := ⟨g, 0, none⟩) h.2.1]; exact h.2.2⟩
def BoxK (W : World) (x : Nat) (b : Bool) : Prop := W.heap[x]? = some (.cells #[.bool b] 72 (0, 0))
theorem BoxK.on {W W' : World} {x : Nat} {b : Bool} (h : BoxK W x b) (hB : Below W.heap.size W W') : BoxK W' x b := by unfold BoxK; rw [hB.block x (blk_lt h)]; exact h
theorem BoxK.cell {W : World} {x : Nat} {b : Bool} (h : BoxK W x b) : W.cell? ⟨x, 0, none⟩ = some (.bool b) ∧ x < W.heap.size := by
  unfold BoxK at h
  exact ⟨by simp [World.cell?, h], blk_lt h⟩

set_option maxRecDepth 10000 in
set_option maxHeartbeats 1600000 in
theorem impl_push (S base : Nat) (v : Value) (op : List Bool) (b : Bool) (w : World) (h0 : base ≤ S) (hb : base ≤ w.heap.size) (hS : w.heap[S]? = some (.cells #[v] TStk (0, 0))) (hR : OwnK w base v op) (hl6 : op.length ≤ 6) :
    Calls Tryz.prog 42 #[.pointer (some ⟨S, 0, none⟩), .agg #[.bool b]] w fun e w' => e = .returned (.tuple #[]) ∧ ∃ a2 c2, StkW w S base (.slice a2 (op.length + 1) c2) w' ∧ OwnK w' base (.slice a2 (op.length + 1) c2) (op ++ [b]) := by
  have hbx : Below w.heap.size w (w.alloc (.cells #[.bool b] 72)) := ItmS.below_one w _
  have hW0 : StkW w S base v w := ⟨⟨h0, hb⟩, hS, Below.refl _ _, Nat.le_refl _, KeepT.refl w⟩
  have HW1 := hid (hW0.on hbx)
  have HR1 := hid (hR.on hbx)
  have HX1 : Hid (BoxK (w.alloc (.cells #[.bool b] 72)) w.heap.size b) := heap_alloc_new w _
  obtain ⟨i0, hi0, hz0, hz1, hz2⟩ := info_parts Tryz.infoK
  clear hbx hS hR hW0
  go_enter Tryz.func42, Tryz.ntmps42
  go_upto_region 1 with fail
  -- region
  refine AnyO.region_by2 11 (fun L act W => ∃ (vX x4 x5 x6 x7 x8 x9 x10 x11 x12 x13 : Value),
      act = { tmps := #[.pointer (some ⟨S, 0, none⟩), .agg #[.bool b], undef, .pointer (some ⟨w.heap.size, 0, none⟩), x4, x5, x6, x7, x8, x9, x10, x11, x12, x13], defers := [] } ∧
      Hid (StkW w S base vX W) ∧ (L 10 = false → vX = v) ∧ (L 10 = true → vX = x11) ∧ (L 10 = true → L 7 = true) ∧ (L 10 = true → L 4 = true) ∧ (L 7 = true → L 5 = true) ∧ (L 6 = true → L 5 = true) ∧ (L 7 = true → L 4 = true) ∧ (L 7 = false → Hid (OwnK W base v op)) ∧ (L 7 = false → Hid (BoxK W w.heap.size b)) ∧
      (L 0 = true → x4 = .pointer (some ⟨S, 0, none⟩)) ∧ (L 1 = true → x5 = .pointer (some ⟨S, 0, none⟩)) ∧ (L 2 = true → x6 = .pointer (some ⟨S, 0, none⟩)) ∧ (L 3 = true → x7 = .pointer (some ⟨S, 0, none⟩)) ∧ (L 4 = true → x8 = v) ∧ (L 5 = true → x9 = .agg #[.bool b]) ∧ (L 6 = true → L 7 = false → ∃ g, x10 = .slice (some ⟨g, 0, none⟩) 1 1 ∧ RowK base g b W) ∧ (L 7 = true → ∃ a2 c2, x11 = .slice a2 (op.length + 1) c2 ∧ OwnK W base (.slice a2 (op.length + 1) c2) (op ++ [b])) ∧ (L 8 = true → x12 = .pointer (some ⟨S, 0, none⟩)) ∧ (L 9 = true → x13 = .pointer (some ⟨S, 0, none⟩))) (by kernel_rfl) (by kernel_rfl) (by kernel_rfl) ?start ?step ?fin
  case start => exact ⟨v, undef, undef, undef, undef, undef, undef, undef, undef, undef, undef, rfl, hid (HW1.out.on ((Below.refl _ _).drew)), fun _ => rfl, by simp, by simp, by simp, by simp, by simp, by simp, fun _ => hid (HR1.out.on ((Below.refl _ _).drew)), fun _ => hid (HX1.out.on ((Below.refl _ _).drew)), by simp, by simp, by simp, by simp, by simp, by simp, by simp, by simp, by simp, by simp⟩
  case step =>
    rintro i hi L act W ⟨vX, x4, x5, x6, x7, x8, x9, x10, x11, x12, x13, rfl, hW, hv0, hv1, hv2, hv3, hv4, hv5, hv6, hR, hX, f0, f1, f2, f3, f4, f5, f6, f7, f8, f9⟩ hl hd
    have hcases : i = 0 ∨ i = 1 ∨ i = 2 ∨ i = 3 ∨ i = 4 ∨ i = 5 ∨ i = 6 ∨ i = 7 ∨ i = 8 ∨ i = 9 ∨ i = 10 := by omega
    rcases hcases with rfl | rfl | rfl | rfl | rfl | rfl | rfl | rfl | rfl | rfl | rfl
    · refine wpOp_step rfl (fun K hK => ?_)
      obtain ⟨y0, yf, yl⟩ := hW.out.cell
      have hbs : base ≤ W.heap.size := hW.out.low
      clear hi
      go_simp
      exact hK _ _ ⟨_, _, _, _, _, _, _, _, _, _, _, rfl, hW, hv0, hv1, hv2, hv3, hv4, hv5, hv6, hR, hX, (fun _ => rfl), f1, f2, f3, f4, f5, f6, f7, f8, f9⟩
    · refine wpOp_step rfl (fun K hK => ?_)
      obtain ⟨y0, yf, yl⟩ := hW.out.cell
      have hbs : base ≤ W.heap.size := hW.out.low
      clear hi
      go_simp
      exact hK _ _ ⟨_, _, _, _, _, _, _, _, _, _, _, rfl, hW, hv0, hv1, hv2, hv3, hv4, hv5, hv6, hR, hX, f0, (fun _ => rfl), f2, f3, f4, f5, f6, f7, f8, f9⟩
    · have hx1 := f1 (hd 1 (by kernel_rfl))
      subst hx1
      refine wpOp_step rfl (fun K hK => ?_)
      obtain ⟨y0, yf, yl⟩ := hW.out.cell
      have hbs : base ≤ W.heap.size := hW.out.low
      clear hi
      go_simp
      exact hK _ _ ⟨_, _, _, _, _, _, _, _, _, _, _, rfl, hW, hv0, hv1, hv2, hv3, hv4, hv5, hv6, hR, hX, f0, f1, (fun _ => rfl), f3, f4, f5, f6, f7, f8, f9⟩
    · have hx2 := f2 (hd 2 (by kernel_rfl))
      subst hx2
      refine wpOp_step rfl (fun K hK => ?_)
      obtain ⟨y0, yf, yl⟩ := hW.out.cell
      have hbs : base ≤ W.heap.size := hW.out.low
      clear hi
      go_simp
      exact hK _ _ ⟨_, _, _, _, _, _, _, _, _, _, _, rfl, hW, hv0, hv1, hv2, hv3, hv4, hv5, hv6, hR, hX, f0, f1, f2, (fun _ => rfl), f4, f5, f6, f7, f8, f9⟩
    · have hx3 := f3 (hd 3 (by kernel_rfl))
      subst hx3
      have h10 : L 10 = false := by cases h : L 10 with | false => rfl | true => exact absurd (hv3 h) (by rw [hl]; decide)
      have e4 := hv0 h10
      subst e4
      refine wpOp_step rfl (fun K hK => ?_)
      obtain ⟨y0, yf, yl⟩ := hW.out.cell
      have hbs : base ≤ W.heap.size := hW.out.low
      clear hi
      go_simp
      exact hK _ _ ⟨_, _, _, _, _, _, _, _, _, _, _, rfl, hW, hv0, hv1, hv2, (fun _ => rfl), hv4, hv5, (fun _ => rfl), hR, hX, f0, f1, f2, f3, (fun _ => rfl), f5, f6, f7, f8, f9⟩
    · have h7 : L 7 = false := by cases h : L 7 with | false => rfl | true => exact absurd (hv4 h) (by rw [hl]; decide)
      obtain ⟨z0, zl⟩ := (hX h7).out.cell
      refine wpOp_step rfl (fun K hK => ?_)
      obtain ⟨y0, yf, yl⟩ := hW.out.cell
      have hbs : base ≤ W.heap.size := hW.out.low
      clear hi
      go_simp
      exact hK _ _ ⟨_, _, _, _, _, _, _, _, _, _, _, rfl, hW, hv0, hv1, hv2, hv3, (fun _ => rfl), (fun _ => rfl), hv6, hR, hX, f0, f1, f2, f3, f4, (fun _ => rfl), f6, f7, f8, f9⟩
    · have hx := f5 (hd 5 (by kernel_rfl))
      subst hx
      refine wpOp_step rfl (fun K hK => ?_)
      obtain ⟨y0, yf, yl⟩ := hW.out.cell
      have hbs : base ≤ W.heap.size := hW.out.low
      clear hi
      go_simp
      have hB : Below W.heap.size W (W.alloc (.cells #[.bool b] 72)) := ItmS.below_one W _
      exact hK _ _ ⟨_, _, _, _, _, _, _, _, _, _, _, rfl, hid (hW.out.on hB), hv0, hv1, hv2, hv3, hv4, (fun _ => hd 5 (by kernel_rfl)), hv6, (fun h => hid ((hR h).out.on hB)), (fun h => hid ((hX h).out.on hB)), f0, f1, f2, f3, f4, f5, (fun _ _ => ⟨W.heap.size, rfl, hbs, by simp, by simp⟩), (fun h => by obtain ⟨a2, c2, e, r⟩ := f7 h; exact ⟨a2, c2, e, r.on hB⟩), f8, f9⟩
    · have hx4 := f4 (hd 4 (by kernel_rfl))
      subst x8
      obtain ⟨g, hx, hr⟩ := f6 (hd 6 (by kernel_rfl)) hl
      subst hx
      have HRt := hR hl
      have hbs : base ≤ W.heap.size := hW.out.low
      refine AnyO.wpOp_append_own_at rfl rfl (.tmp 8) (.tmp 10) 67 rfl base 72 i0 (.agg #[.bool false]) 1 1 Tryz.underlying67 hi0 hz0 hz1 hz2 rfl (by decide) v op.length (op.map Value.bool) rfl HRt.out ⟨g, 0, none⟩ 1 1 [.bool b] rfl rfl (fun j u hj => by match j, hj with | 0, hj => simp at hj; subst hj; simpa [Addr.add] using hr.2.2) (by simp [Value.oneCell']) (by unfold maxLen; omega) (by omega) hbs ?_
      intro v2 w4 hown hg _ hat
      obtain ⟨a2, c2, rfl⟩ := own_shapeK hown
      have hgr := hW.out.grown HRt.out hg
      exact ⟨_, _, _, _, _, _, _, _, _, _, _, rfl, hid hgr, hv0, (fun h => absurd (hv2 h) (by rw [hl]; decide)), (fun _ => rfl), hv3, (fun _ => hv5 (hd 6 (by kernel_rfl))), hv5, (fun _ => hd 4 (by kernel_rfl)), (fun h => by simp [AnyO.more] at h), (fun h => by simp [AnyO.more] at h), f0, f1, f2, f3, f4, f5, (fun _ h => by simp [AnyO.more] at h), (fun _ => ⟨a2, c2, rfl, by unfold OwnK; rw [List.map_append, show (op ++ [b]).length = op.length + 1 by simp]; exact hown⟩), f8, f9⟩
    · have hx0 := f0 (hd 0 (by kernel_rfl))
      subst hx0
      refine wpOp_step rfl (fun K hK => ?_)
      obtain ⟨y0, yf, yl⟩ := hW.out.cell
      have hbs : base ≤ W.heap.size := hW.out.low
      clear hi
      go_simp
      exact hK _ _ ⟨_, _, _, _, _, _, _, _, _, _, _, rfl, hW, hv0, hv1, hv2, hv3, hv4, hv5, hv6, hR, hX, f0, f1, f2, f3, f4, f5, f6, f7, (fun _ => rfl), f9⟩
    · have hx8 := f8 (hd 8 (by kernel_rfl))
      subst hx8
      refine wpOp_step rfl (fun K hK => ?_)
      obtain ⟨y0, yf, yl⟩ := hW.out.cell
      have hbs : base ≤ W.heap.size := hW.out.low
      clear hi
      go_simp
      exact hK _ _ ⟨_, _, _, _, _, _, _, _, _, _, _, rfl, hW, hv0, hv1, hv2, hv3, hv4, hv5, hv6, hR, hX, f0, f1, f2, f3, f4, f5, f6, f7, f8, (fun _ => rfl)⟩
    · have hx9 := f9 (hd 9 (by kernel_rfl))
      subst hx9
      obtain ⟨a2, c2, hx, r7⟩ := f7 (hd 7 (by kernel_rfl))
      subst hx
      refine wpOp_step rfl (fun K hK => ?_)
      obtain ⟨y0, yf, yl⟩ := hW.out.cell
      have hbs : base ≤ W.heap.size := hW.out.low
      clear hi
      go_simp
      exact hK _ _ ⟨(.slice a2 (op.length + 1) c2), _, _, _, _, _, _, _, _, _, _, rfl, hid (hW.out.store _), (fun h => by simp [AnyO.more] at h), (fun _ => rfl), (fun _ => hd 7 (by kernel_rfl)), (fun _ => hv6 (hd 7 (by kernel_rfl))), hv4, hv5, hv6, (fun h => absurd (hd 7 (by kernel_rfl)) (by rw [show L 7 = false from h]; decide)), (fun h => absurd (hd 7 (by kernel_rfl)) (by rw [show L 7 = false from h]; decide)), f0, f1, f2, f3, f4, f5, (fun _ h => absurd (hd 7 (by kernel_rfl)) (by rw [show L 7 = false from h]; decide)), (fun _ => ⟨a2, c2, rfl, hW.out.row r7 _⟩), f8, f9⟩
  case fin =>
    rintro L act W ⟨vX, x4, x5, x6, x7, x8, x9, x10, x11, x12, x13, rfl, hW, hv0, hv1, hv2, hv3, hv4, hv5, hv6, hR, hX, f0, f1, f2, f3, f4, f5, f6, f7, f8, f9⟩ hall
    obtain ⟨a2, c2, e7, r7⟩ := f7 (hall 7 (by omega))
    have e10 := hv1 (hall 10 (by omega))
    rw [e7] at e10
    subst e10
    have HQ : Hid (∃ a2 c2, StkW w S base (.slice a2 (op.length + 1) c2) W ∧ OwnK W base (.slice a2 (op.length + 1) c2) (op ++ [b])) := ⟨a2, c2, hW.out, r7⟩
    clear hv0 hv1 hv2 hv3 hv4 hv5 hv6 hR hX f0 f1 f2 f3 f4 f5 f6 f7 f8 f9 hW r7 hall
    go_wp2_with fail
    refine bodyPost_end (v := .tuple #[]) (by simp [results, Tryz.results42, go_sem]) rfl ⟨rfl, HQ.out⟩
  -- end
end Go.Proofs.YtaofdckdmffaiaaGreatDoor.StkI
/- A stack of blocks: top and pop. -/
namespace Go.Proofs.YtaofdckdmffaiaaGreatDoor.StkI
open Go.RowKit
open ItmW PrtW

theorem OwnK.last {w : World} {base : Nat} {v : Value} {q : List Bool} {b : Bool} (h : OwnK w base v (q ++ [b])) : ∃ g c, v = .slice (some ⟨g, 0, none⟩) (q.length + 1) c ∧ base ≤ g ∧ g < w.heap.size ∧ q.length + 1 ≤ c ∧ w.cell? ⟨g, q.length, none⟩ = some (.bool b) := by
  have hl : (q ++ [b]).length = q.length + 1 := by simp
  have h' := h
  unfold OwnK at h'
  rw [hl] at h'
  rcases h'.2 with ⟨_, h1⟩ | ⟨g, c, cur, h0, hb, hg, hc, _⟩
  · omega
  · subst h0
    refine ⟨g, c, rfl, hb, (Array.getElem?_eq_some_iff.1 hg).1, hc, ?_⟩
    rw [h'.cellAt _ (by omega)]
    simp
theorem OwnK.pop {w : World} {base g c : Nat} {q : List Bool} {b : Bool} (h : OwnK w base (.slice (some ⟨g, 0, none⟩) (q.length + 1) c) (q ++ [b])) : OwnK w base (.slice (some ⟨g, 0, none⟩) q.length c) q := by
  unfold OwnK at h
  rw [List.map_append, show (q ++ [b]).length = q.length + 1 by simp] at h
  exact ownsRow_pop (by simp) h

set_option maxRecDepth 10000 in
set_option maxHeartbeats 1600000 in
theorem impl_top (S g c n : Nat) (b : Bool) (w : World) (hS : w.heap[S]? = some (.cells #[.slice (some ⟨g, 0, none⟩) (n + 1) c] TStk (0, 0))) (hn : n ≤ 6) (hg : g < w.heap.size) (hr : w.cell? ⟨g, n, none⟩ = some (.bool b)) :
    Calls Tryz.prog 43 #[.pointer (some ⟨S, 0, none⟩)] w fun e w' => e = .returned (.agg #[.bool b]) ∧ Below w.heap.size w w' := by
  have hSl := blk_lt hS
  have s0 : w.cell? ⟨S, 0, none⟩ = some (.slice (some ⟨g, 0, none⟩) (n + 1) c) := by simp [World.cell?, hS]
  have hn1 : (n : Int) < (n : Int) + 1 := by omega
  have hsub : (n : Int) + 1 - 1 = n := by omega
  clear hS
  go_enter Tryz.func43, Tryz.ntmps43
  go_wp2_with fail
  go_region
  go_wp2_with fail
  refine bodyPost_ret (v := .agg #[.bool b]) (by simp [results, Tryz.results43, go_sem]) rfl ⟨rfl, (ItmS.below_one w _).drew⟩

theorem StkW.drew {w W : World} {S base : Nat} {v : Value} (h : StkW w S base v W) : StkW w S base v W.drew := ⟨h.1, h.2.1, h.2.2.1.drew, h.2.2.2.1, h.2.2.2.2⟩
theorem stk_not_box {w W : World} {S base x : Nat} {v : Value} {b : Bool} (h : StkW w S base v W) (hx : BoxK W x b) : S ≠ x := fun e => by
  unfold BoxK at hx
  rw [← e, h.2.1] at hx
  injection hx with hx
  injection hx with _ hT
  exact absurd hT (by decide)
theorem StkW.put {w W : World} {S base x : Nat} {v : Value} {b : Bool} (h : StkW w S base v W) (hx : BoxK W x b) (hb : base ≤ x) (u : Value) : StkW w S base v (W.setCell ⟨x, 0, none⟩ u) := by
  refine ⟨h.1, blk_other h.2.1 (fun e => stk_not_box h hx e.symm) _, h.2.2.1.setCell hb _, by simpa using h.2.2.2.1, h.2.2.2.2.trans fun b' cs T z hc _ h2 => Below.heap_setCell _ _ _ _ (fun e => ?_)⟩
  unfold BoxK at hx
  simp only at e
  rw [e, hx] at hc
  injection hc with hc
  injection hc with _ hT
  exact h2 hT.symm
theorem OwnK.put {W : World} {base g c n x : Nat} {op : List Bool} (h : OwnK W base (.slice (some ⟨g, 0, none⟩) n c) op) (hx : x ≠ g) (u : Value) : OwnK (W.setCell ⟨x, 0, none⟩ u) base (.slice (some ⟨g, 0, none⟩) n c) op := by
  obtain ⟨h1, h2⟩ := h
  refine ⟨h1, ?_⟩
  rcases h2 with h2 | ⟨g', cap, cur, hv, hb, hg, r⟩
  · exact .inl h2
  · cases hv
    exact .inr ⟨g, _, cur, rfl, hb, blk_other hg hx _, r⟩

set_option maxRecDepth 10000 in
set_option maxHeartbeats 1600000 in
theorem impl_pop (S base g c : Nat) (q : List Bool) (b : Bool) (w : World) (h0 : base ≤ S) (hb : base ≤ w.heap.size) (hS : w.heap[S]? = some (.cells #[.slice (some ⟨g, 0, none⟩) (q.length + 1) c] TStk (0, 0))) (hR : OwnK w base (.slice (some ⟨g, 0, none⟩) (q.length + 1) c) (q ++ [b])) (hl6 : q.length ≤ 6) :
    Calls Tryz.prog 44 #[.pointer (some ⟨S, 0, none⟩)] w fun e w' => e = .returned (.agg #[.bool b]) ∧ StkW w S base (.slice (some ⟨g, 0, none⟩) q.length c) w' ∧ OwnK w' base (.slice (some ⟨g, 0, none⟩) q.length c) q := by
  obtain ⟨g', c', e, hbg, hgl, hcc, hr⟩ := hR.last
  cases e
  have hbx : Below w.heap.size w (w.alloc (.cells #[.bool false] 72)) := ItmS.below_one w _
  have hW0 : StkW w S base (.slice (some ⟨g, 0, none⟩) (q.length + 1) c) w := ⟨⟨h0, hb⟩, hS, Below.refl _ _, Nat.le_refl _, KeepT.refl w⟩
  have HW1 := hid (hW0.on hbx)
  have HR1 := hid (hR.on hbx)
  have HB1 := hid hbx
  have HX1 : Hid (BoxK (w.alloc (.cells #[.bool false] 72)) w.heap.size false) := heap_alloc_new w _
  have HT := hid (impl_top S g c q.length b _ HW1.out.2.1 hl6 (Nat.lt_of_lt_of_le hgl hbx.size) (by rw [hbx.cell (p := ⟨g, _, none⟩) hgl]; exact hr))
  clear hbx hW0 hS hR hr
  go_enter Tryz.func44, Tryz.ntmps44
  go_wp2_with fail
  refine HT.out.mono ?_
  rintro e w2 ⟨rfl, hB2⟩
  have HW2 := hid (HW1.out.on hB2)
  have HR2 := hid (HR1.out.on hB2)
  have HX2 := hid (HX1.out.on hB2)
  clear hB2 HW1 HR1 HX1 HB1 HT
  have hb3 : Below w2.heap.size w2 (w2.alloc (.cells #[.bool b] 72)) := ItmS.below_one w2 _
  have HW3 := hid (HW2.out.on hb3)
  have HR3 := hid (HR2.out.on hb3)
  have HX3 := hid (HX2.out.on hb3)
  have HY3 : Hid (BoxK (w2.alloc (.cells #[.bool b] 72)) w2.heap.size b) := heap_alloc_new w2 _
  go_upto_region 2 with fail
  generalize w2.alloc (.cells #[.bool b] 72) = W3 at *
  obtain ⟨s0, sf, sl⟩ := HW3.out.cell
  have hsub : (q.length : Int) + 1 - 1 = q.length := by omega
  have hq1 : (q.length : Int) ≤ (q.length : Int) + 1 := by omega
  have hq2 : (q.length : Int) ≤ (c : Int) := by omega
  clear hb3 HW2 HR2 HX2
  generalize w2.heap.size = g2 at *
  obtain ⟨x0, xl⟩ := HX3.out.cell
  obtain ⟨y0, yl⟩ := HY3.out.cell
  have hSX := stk_not_box HW3.out HX3.out
  have hSY := stk_not_box HW3.out HY3.out
  have HW4 : Hid (StkW w S base (.slice (some ⟨g, 0, none⟩) q.length c) (W3.setCell ⟨S, 0, none⟩ (.slice (some ⟨g, 0, none⟩) q.length c)).drew) := (HW3.out.store _).drew
  have HR4 : Hid (OwnK (W3.setCell ⟨S, 0, none⟩ (.slice (some ⟨g, 0, none⟩) q.length c)).drew base (.slice (some ⟨g, 0, none⟩) q.length c) q) := HW3.out.row HR3.out.pop _
  have HX4 : Hid (BoxK (W3.setCell ⟨S, 0, none⟩ (.slice (some ⟨g, 0, none⟩) q.length c)).drew w.heap.size false) := blk_other HX3.out hSX _
  have HY4 : Hid (BoxK (W3.setCell ⟨S, 0, none⟩ (.slice (some ⟨g, 0, none⟩) q.length c)).drew g2 b) := blk_other HY3.out hSY _
  go_region
  clear s0 sf sl x0 xl y0 yl HW3 HR3 HX3 HY3
  generalize (W3.setCell ⟨S, 0, none⟩ (.slice (some ⟨g, 0, none⟩) q.length c)).drew = W4 at *
  obtain ⟨x0, xl⟩ := HX4.out.cell
  obtain ⟨y0, yl⟩ := HY4.out.cell
  have xf : ∀ j, W4.frozen? ⟨w.heap.size, j, none⟩ = false := fun j => by
    have := HX4.out
    unfold BoxK at this
    simp [World.frozen?, this]
  go_wp2_with fail
  refine bodyPost_ret (v := .agg #[.bool b]) (by simp [results, Tryz.results44, go_sem, x0]) rfl ⟨rfl, HW4.out.put HX4.out hb _, HR4.out.put (by omega) _⟩
end Go.Proofs.YtaofdckdmffaiaaGreatDoor.StkI
