/- Texts of ours, laid together: StaImC, StaImD, StaImE, StaImF, StaImG, StaTop. -/
import Derived.Test.YtaofdckdmffaiaaGreatDoorBd40
import Derived.Laws.StructEq
import Derived.Laws.EntriesVeiled
import Derived.Deep.Cut
import Derived.Deep.CutRange
import Derived.Test.YtaofdckdmffaiaaGreatDoorBd19
import Derived.Test.YtaofdckdmffaiaaGreatDoorBd36
/- Which closure an op has, and what it makes of two spans. -/
namespace Go.Proofs.YtaofdckdmffaiaaGreatDoor.StaI
open Go.RowKit
open PrtW PrtM ItmW ItmM FrmM StaM StaS FixF FixS FixT FixTi

/-- all but block g, which is a result's, lies as in W1 -/
def HdL (W1 : World) (g : Nat) (w' : World) : Prop := W1.grownBy w' (some g) ∧ ∃ cs : Array Value, w'.heap[g]? = some (.cells cs 59 (0, 0)) ∧ cs.size = 5
theorem HdL.on {W1 W W' : World} {g : Nat} (h : HdL W1 g W) (hB : Below W.heap.size W W') : HdL W1 g W' := by
  obtain ⟨h1, cs, h2, h3⟩ := h
  exact ⟨⟨hB.os.trans h1.os, hB.tape.trans h1.tape, hB.output.trans h1.output, Nat.le_trans h1.size hB.size, fun k hk hn => (hB.block k (Nat.lt_of_lt_of_le hk h1.size)).trans (h1.block k hk hn)⟩, cs, by rw [hB.block g (Array.getElem?_eq_some_iff.1 h2).1]; exact h2, h3⟩
theorem HdL.put {W1 W : World} {g : Nat} (h : HdL W1 g W) (j : Nat) (v : Value) : HdL W1 g (W.setCell ⟨g, j, none⟩ v) := by
  obtain ⟨h1, cs, h2, h3⟩ := h
  exact ⟨⟨h1.os, h1.tape, h1.output, by simpa using h1.size, fun k hk hn => by rw [Below.heap_setCell _ _ _ _ (fun e => hn (by rw [e]))]; exact h1.block k hk hn⟩, cs.setIfInBounds j v, by simp [World.setCell, Array.getElem?_modify, h2], by simpa using h3⟩
theorem HdL.room {W1 W : World} {g : Nat} (h : HdL W1 g W) (j : Nat) (hj : j < 5) : (∃ v, W.cell? ⟨g, j, none⟩ = some v) ∧ W.frozen? ⟨g, j, none⟩ = false := by
  obtain ⟨_, cs, h2, h3⟩ := h
  refine ⟨⟨cs[j]'(by omega), ?_⟩, by simp [World.frozen?, h2]⟩
  simp [World.cell?, h2, show j < cs.size by omega]
theorem HdL.refl {W : World} {g : Nat} {r : Lk} (h : R5 W g r) : HdL W g W.drew := ⟨⟨rfl, rfl, rfl, Nat.le_refl _, fun _ _ _ => rfl⟩, _, h, rfl⟩
theorem HdL.cell {W1 W : World} {g b j : Nat} (h : HdL W1 g W) (hb : b < W1.heap.size) (hne : b ≠ g) : W.cell? ⟨b, j, none⟩ = W1.cell? ⟨b, j, none⟩ := World.cell?_of_block (w := W1) (h.1.block b hb (fun e => hne (Option.some.inj e)))
theorem HdL.below {w W1 W : World} {g : Nat} (h : HdL W1 g W) (hB : Below w.heap.size w W1) (hg : w.heap.size ≤ g) : Below w.heap.size w W :=
  hB.trans ⟨h.1.os, h.1.tape, h.1.output, h.1.size, fun k hk => h.1.block k (Nat.lt_of_lt_of_le hk hB.size) (fun e => by have := Option.some.inj e; omega)⟩

theorem cell_set {w : World} {g : Nat} {v : Value} (h : w.cell? ⟨g, 0, none⟩ = some v) (b j : Nat) (u : Value) (hne : b ≠ g) : (w.setCell ⟨b, j, none⟩ u).cell? ⟨g, 0, none⟩ = some v := by
  refine Eq.trans (World.cell?_setCell_other (h := fun e => hne (congrArg Addr.block e)) ..) h
set_option maxHeartbeats 800000 in
theorem reckoned_in (K : FuncId) (w : World) : Calls Tryz.prog 100 #[fn0 K] w fun e w' => (∃ v, e = .returned v ∧ OpR w' K v) ∧ Below w.heap.size w w' := by
  have hmf := makeF
  go_enter Tryz.func100, Tryz.ntmps100
  go_wp2_with fail
  refine (impl_wrong _).mono ?_
  rintro e w1 ⟨rfl, hB1⟩
  unfold wrongS
  dsimp only
  have HB1 : Hid (Below w.heap.size w w1) := Below.trans ?hb (hB1.mono (by simp; omega))
  case hb => go_grown
  have hc : ∀ j, w1.cell? ⟨w.heap.size + 1, j, none⟩ = _ := fun j => hB1.cell (p := ⟨w.heap.size + 1, j, none⟩) (by simp)
  have hfr : ∀ j, w1.frozen? ⟨w.heap.size + 1, j, none⟩ = _ := fun j => hB1.frozen (p := ⟨w.heap.size + 1, j, none⟩) (by simp)
  have hp : w1.cell? ⟨w.heap.size, 0, none⟩ = some (fn0 K) := by rw [hB1.cell (p := ⟨w.heap.size, 0, none⟩) (by simp; omega)]; simp
  have hl := hB1.size
  simp only [World.size_alloc] at hl
  have x0 := hc 0
  have x1 := hc 1
  have x2 := hc 2
  have x3 := hc 3
  have x4 := hc 4
  have x5 := hc 5
  simp at x0 x1 x2 x3 x4 x5 hfr
  clear hc hB1
  have HP := hid hp
  clear hp
  go_wp2_with fail
  refine bodyPost_ret (v := opv (fn1 112 w.heap.size) (wrongS, false, false)) (by simp [results, Tryz.results100, go_sem, x0, x1, x2, x3, x4, x5, wrongS]) rfl ⟨⟨opv (fn1 112 w.heap.size) (wrongS, false, false), rfl, ⟨w.heap.size, rfl, ?_, ?_⟩⟩, ?_⟩
  · first | omega | (simp; omega)
  · repeat (refine cell_set ?_ _ _ _ (by omega))
    exact HP.out
  · repeat (refine Below.setCell ?_ (by simp only; omega) _)
    exact HB1.out
set_option maxHeartbeats 1600000 in
theorem compared_in (K : FuncId) (w : World) : Calls Tryz.prog 104 #[fn0 K] w fun e w' => (∃ v, e = .returned v ∧ OpC w' K v) ∧ Below w.heap.size w w' := by
  have hmf := makeF
  go_enter Tryz.func104, Tryz.ntmps104
  go_wp2_with fail
  refine bodyPost_ret (v := opv (fn1 122 w.heap.size) (z0, true, true)) (by simp [results, Tryz.results104, go_sem, z0]) rfl ⟨⟨opv (fn1 122 w.heap.size) (z0, true, true), rfl, ⟨w.heap.size, rfl, ?_, ?_⟩⟩, ?_⟩
  · first | (simp; done) | (simp; omega)
  · simp
  · go_grown

theorem neq_span (a0 a1 b0 b1 : Int) (W : World) : (binOp .neq 27 (.agg #[.int .i64 a0, .int .i64 a1, .bool false]) (.agg #[.int .i64 b0, .int .i64 b1, .bool false])).run Tryz.prog W = .ok (.bool (!decide (a0 = b0 ∧ a1 = b1))) W := by
  by_cases h1 : a0 = b0 <;> by_cases h2 : a1 = b1 <;> go_simp <;> simp [h1, h2]

set_option maxRecDepth 10000 in
set_option maxHeartbeats 1600000 in
theorem same_in (a b : Sp) (hw : (a.2.2 || b.2.2) = false) (w : World) : Calls Tryz.prog 105 #[spv a, spv b] w fun e w' => e = .returned (.tuple #[.bool (sameP a b).1, .bool (sameP a b).2]) ∧ Below w.heap.size w w' := by
  obtain ⟨a0, a1, aw⟩ := a
  obtain ⟨b0, b1, bw⟩ := b
  obtain ⟨rfl, rfl⟩ : aw = false ∧ bw = false := by cases aw <;> cases bw <;> simp at hw ⊢
  obtain ⟨hA, hB, hW⟩ := both w (a0, a1, false) (b0, b1, false)
  unfold spo at hA hB hW
  dsimp only at hA hB hW
  have HW := hid hW
  have heq := neq_span a0 a1 b0 b1
  unfold sameP
  dsimp only
  clear hA hB hW hw
  by_cases h1 : a0 ≤ b1
  · by_cases h2 : a0 = a1
    · subst h2
      go_enter Tryz.func105, Tryz.ntmps105
      go_wp2_with fail
      go_quiet (fail)
      go_wp2_with fail
      refine bodyPost_ret (v := _) (by simp [results, Tryz.results105, go_sem]; rfl) rfl ⟨by simp [h1], below_drewN HW.out _⟩
    · have n2 : (a0 != a1) = true := by simpa using h2
      have m2 : decide (a0 ≠ a1) = true := by simpa using h2
      go_enter Tryz.func105, Tryz.ntmps105
      go_wp2_with fail
      go_quiet (fail)
      go_wp2_with fail
      refine bodyPost_ret (v := _) (by simp [results, Tryz.results105, go_sem]; rfl) rfl ⟨by simp [h1, h2], below_drewN HW.out _⟩
  · have n1 : decide (a0 ≤ b1) = false := decide_eq_false h1
    by_cases h2 : a0 = a1
    · subst h2
      go_enter Tryz.func105, Tryz.ntmps105
      go_wp2_with fail
      go_quiet (fail)
      go_wp2_with fail
      refine bodyPost_ret (v := _) (by simp [results, Tryz.results105, go_sem]; rfl) rfl ⟨by simp; intro h; omega, below_drewN HW.out _⟩
    · have n2 : (a0 != a1) = true := by simpa using h2
      have m2 : decide (a0 ≠ a1) = true := by simpa using h2
      go_enter Tryz.func105, Tryz.ntmps105
      go_wp2_with fail
      go_quiet (fail)
      go_wp2_with fail
      refine bodyPost_ret (v := _) (by simp [results, Tryz.results105, go_sem]; rfl) rfl ⟨by simp [h2]; intro h; omega, below_drewN HW.out _⟩
set_option maxHeartbeats 1600000 in
theorem below_in (a b : Sp) (w : World) : Calls Tryz.prog 106 #[spv a, spv b] w fun e w' => e = .returned (.tuple #[.bool (decide (a.1 < b.2.1)), .bool (decide (a.2.1 ≥ b.1))]) ∧ Below w.heap.size w w' := by
  obtain ⟨a0, a1, aw⟩ := a
  obtain ⟨b0, b1, bw⟩ := b
  dsimp only
  go_enter Tryz.func106, Tryz.ntmps106
  go_wp2_with fail
  go_quiet (fail)
  go_wp2_with fail
  refine bodyPost_ret (v := .tuple #[.bool (decide (a0 < b1)), .bool (decide (a1 ≥ b0))]) (by simp [results, Tryz.results106, go_sem]) rfl ⟨rfl, below_drewN ?_ _⟩
  go_grown
set_option maxHeartbeats 1600000 in
theorem most_in (a b : Sp) (w : World) : Calls Tryz.prog 107 #[spv a, spv b] w fun e w' => e = .returned (.tuple #[.bool (decide (a.1 ≤ b.2.1)), .bool (decide (a.2.1 > b.1))]) ∧ Below w.heap.size w w' := by
  obtain ⟨a0, a1, aw⟩ := a
  obtain ⟨b0, b1, bw⟩ := b
  dsimp only
  go_enter Tryz.func107, Tryz.ntmps107
  go_wp2_with fail
  go_quiet (fail)
  go_wp2_with fail
  refine bodyPost_ret (v := .tuple #[.bool (decide (a0 ≤ b1)), .bool (decide (a1 > b0))]) (by simp [results, Tryz.results107, go_sem]) rfl ⟨rfl, below_drewN ?_ _⟩
  go_grown
end Go.Proofs.YtaofdckdmffaiaaGreatDoor.StaI
/- What an op makes of two that can come, by the program. -/
namespace Go.Proofs.YtaofdckdmffaiaaGreatDoor.StaI
open Go.RowKit
open PrtW PrtM ItmW ItmM FrmM StaM StaS FixF FixS FixT FixTi

/-- the op's value: what it asks, by the op -/
def OpV (w : World) (x : Int) (v : Value) : Prop :=
  (x = 3 ∧ OpR w 101 v) ∨ (x = 4 ∧ OpR w 102 v) ∨ (x = 5 ∧ OpR w 103 v) ∨
  (x = 6 ∧ OpC w 105 v) ∨ (x = 7 ∧ OpC w 106 v) ∨ ((x ≠ 3 ∧ x ≠ 4 ∧ x ≠ 5 ∧ x ≠ 6 ∧ x ≠ 7) ∧ OpC w 107 v)
theorem OpR.on {w w' : World} {K : FuncId} {v : Value} (h : OpR w K v) (hB : Below w.heap.size w w') : OpR w' K v := by
  obtain ⟨p, rfl, hp, hc⟩ := h
  exact ⟨p, rfl, Nat.lt_of_lt_of_le hp hB.size, by rw [hB.cell (p := ⟨p, 0, none⟩) hp]; exact hc⟩
theorem OpC.on {w w' : World} {K : FuncId} {v : Value} (h : OpC w K v) (hB : Below w.heap.size w w') : OpC w' K v := by
  obtain ⟨p, rfl, hp, hc⟩ := h
  exact ⟨p, rfl, Nat.lt_of_lt_of_le hp hB.size, by rw [hB.cell (p := ⟨p, 0, none⟩) hp]; exact hc⟩
theorem OpV.on {w w' : World} {x : Int} {v : Value} (h : OpV w x v) (hB : Below w.heap.size w w') : OpV w' x v := by
  rcases h with ⟨e, h⟩ | ⟨e, h⟩ | ⟨e, h⟩ | ⟨e, h⟩ | ⟨e, h⟩ | ⟨e, h⟩
  · exact .inl ⟨e, h.on hB⟩
  · exact .inr (.inl ⟨e, h.on hB⟩)
  · exact .inr (.inr (.inl ⟨e, h.on hB⟩))
  · exact .inr (.inr (.inr (.inl ⟨e, h.on hB⟩)))
  · exact .inr (.inr (.inr (.inr (.inl ⟨e, h.on hB⟩))))
  · exact .inr (.inr (.inr (.inr (.inr ⟨e, h.on hB⟩))))
/-- what an op, other than 'and' and 'or', makes of two spans -/
def opO (x : Int) (a b : Sp) : Lk := if x = 3 ∨ x = 4 ∨ x = 5 then (twoS (opR x) a b, false, false) else (z0, cmpR x a b)
theorem join_op {x : Int} {a b : Lk} (h9 : x ≠ 9) (h10 : x ≠ 10) : joinO x a b = opO x a.1 b.1 := by unfold joinO opO; rw [if_neg h9, if_neg h10]
/-- what it makes of a wrong one -/
def wrO (x : Int) : Lk := if x = 3 ∨ x = 4 ∨ x = 5 then (wrongS, false, false) else (z0, true, true)
theorem op_wrong {x : Int} {a b : Sp} (h : (a.2.2 || b.2.2) = true) : opO x a b = wrO x := by
  unfold opO wrO
  by_cases hx : x = 3 ∨ x = 4 ∨ x = 5
  · rw [if_pos hx, if_pos hx, two_wrong h]
  · rw [if_neg hx, if_neg hx]
    unfold cmpR
    rw [if_pos h]
set_option maxRecDepth 10000 in
set_option maxHeartbeats 800000 in
/-- the closure of an op, and what it answers where neither span is wrong -/
theorem fv_call {w : World} {x : Int} {v : Value} (h : OpV w x v) (a b : Sp) (ha : okS a) (hb : okS b) (hw : (a.2.2 || b.2.2) = false) :
    ∃ K p, v = opv (fn1 K p) (wrO x) ∧ (∀ W, (callFunc K #[spv a, spv b, pv p]).run Tryz.prog W = .ok (.enter K #[spv a, spv b, pv p]) W) ∧
      ∀ W, Below w.heap.size w W → Calls Tryz.prog K #[spv a, spv b, pv p] W fun e w' => e = .returned (lkv (opO x a b)) ∧ Below W.heap.size W w' := by
  have num : ∀ (F : FuncId) (f : Int → Int → Int × Int), OpR w F v → wrO x = (wrongS, false, false) → opO x a b = (joinS (cor f a b), false, false) → (∀ m n W, (callFunc F #[.int .i64 m, .int .i64 n]).run Tryz.prog W = .ok (.enter F #[.int .i64 m, .int .i64 n]) W) → (∀ m n W, Calls Tryz.prog F #[.int .i64 m, .int .i64 n] W fun e w' => e = .returned (numV (f m n).1 (f m n).2) ∧ Below W.heap.size W w') →
      ∃ K p, v = opv (fn1 K p) (wrO x) ∧ (∀ W, (callFunc K #[spv a, spv b, pv p]).run Tryz.prog W = .ok (.enter K #[spv a, spv b, pv p]) W) ∧ ∀ W, Below w.heap.size w W → Calls Tryz.prog K #[spv a, spv b, pv p] W fun e w' => e = .returned (lkv (opO x a b)) ∧ Below W.heap.size W w' := by
    intro F f ⟨p, hv, hp, hc⟩ hwr ho he hcall
    refine ⟨_, p, by rw [hwr]; exact hv, fun _ => rfl, fun W hB => ?_⟩
    rw [ho]
    exact reck_call F f a b p W (by rw [hB.cell (p := ⟨p, 0, none⟩) hp]; exact hc) (Nat.lt_of_lt_of_le hp hB.size) he hcall
  have cmp : ∀ (F : FuncId) (c : Bool × Bool), OpC w F v → wrO x = (z0, true, true) → opO x a b = (z0, c) → (∀ W, (callFunc F #[spv a, spv b]).run Tryz.prog W = .ok (.enter F #[spv a, spv b]) W) → (∀ W, Calls Tryz.prog F #[spv a, spv b] W fun e w' => e = .returned (.tuple #[.bool c.1, .bool c.2]) ∧ Below W.heap.size W w') →
      ∃ K p, v = opv (fn1 K p) (wrO x) ∧ (∀ W, (callFunc K #[spv a, spv b, pv p]).run Tryz.prog W = .ok (.enter K #[spv a, spv b, pv p]) W) ∧ ∀ W, Below w.heap.size w W → Calls Tryz.prog K #[spv a, spv b, pv p] W fun e w' => e = .returned (lkv (opO x a b)) ∧ Below W.heap.size W w' := by
    intro F c ⟨p, hv, hp, hc⟩ hwr ho he hcall
    refine ⟨_, p, by rw [hwr]; exact hv, fun _ => rfl, fun W hB => ?_⟩
    rw [ho]
    exact comp_call F c a b p W (by rw [hB.cell (p := ⟨p, 0, none⟩) hp]; exact hc) (Nat.lt_of_lt_of_le hp hB.size) he hcall
  have two : ∀ f, twoS f a b = joinS (cor f a b) := fun f => two_no hw
  have cm : ¬ (a.2.2 || b.2.2) = true := by rw [hw]; decide
  rcases h with ⟨rfl, h⟩ | ⟨rfl, h⟩ | ⟨rfl, h⟩ | ⟨rfl, h⟩ | ⟨rfl, h⟩ | ⟨hx, h⟩
  · exact num _ plusR h rfl (by unfold opO; rw [if_pos (.inl rfl), two]; rfl) (fun _ _ _ => rfl) (fun m n W => plus_face m n W)
  · exact num _ minusR h rfl (by unfold opO; rw [if_pos (.inr (.inl rfl)), two]; rfl) (fun _ _ _ => rfl) (fun m n W => minus_face m n W)
  · exact num _ timesR h rfl (by unfold opO; rw [if_pos (.inr (.inr rfl)), two]; rfl) (fun _ _ _ => rfl) (fun m n W => times_face m n W)
  · exact cmp _ (sameP a b) h rfl (by unfold opO; rw [if_neg (by decide), same_same ha hb hw]) (fun _ => rfl) (fun W => same_in a b hw W)
  · exact cmp _ (decide (a.1 < b.2.1), decide (a.2.1 ≥ b.1)) h rfl (by unfold opO cmpR; rw [if_neg (by decide), if_neg cm, if_neg (by decide), if_pos rfl]) (fun _ => rfl) (fun W => below_in a b W)
  · exact cmp _ (decide (a.1 ≤ b.2.1), decide (a.2.1 > b.1)) h (by unfold wrO; rw [if_neg (by omega)]) (by unfold opO cmpR; rw [if_neg (by omega), if_neg cm, if_neg (by omega), if_neg (by omega)]) (fun _ => rfl) (fun W => most_in a b W)
/-- of a wrong one the op's value tells by itself -/
theorem fv_wrong {w : World} {x : Int} {v : Value} (h : OpV w x v) : ∃ K p, v = opv (fn1 K p) (wrO x) := by
  rcases h with ⟨rfl, p, h, _⟩ | ⟨rfl, p, h, _⟩ | ⟨rfl, p, h, _⟩ | ⟨rfl, p, h, _⟩ | ⟨rfl, p, h, _⟩ | ⟨hx, p, h, _⟩
  · exact ⟨_, p, h⟩
  · exact ⟨_, p, h⟩
  · exact ⟨_, p, h⟩
  · exact ⟨_, p, h⟩
  · exact ⟨_, p, h⟩
  · exact ⟨_, p, by rw [show wrO x = (z0, true, true) by unfold wrO; rw [if_neg (by omega)]]; exact h⟩

theorem OpR.not_at {w : World} {K : FuncId} {v : Value} {g : Nat} (h : OpR w K v) {u : Value} (hg : w.cell? ⟨g, 0, none⟩ = some u) (hu : u ≠ fn0 K) : ∃ p, v = opv (fn1 112 p) (wrongS, false, false) ∧ p ≠ g ∧ p < w.heap.size ∧ w.cell? ⟨p, 0, none⟩ = some (fn0 K) := by
  obtain ⟨p, e, hp, hc⟩ := h
  exact ⟨p, e, fun e2 => by rw [e2, hg] at hc; exact hu (Option.some.inj hc), hp, hc⟩
theorem OpC.not_at {w : World} {K : FuncId} {v : Value} {g : Nat} (h : OpC w K v) {u : Value} (hg : w.cell? ⟨g, 0, none⟩ = some u) (hu : u ≠ fn0 K) : ∃ p, v = opv (fn1 122 p) (z0, true, true) ∧ p ≠ g ∧ p < w.heap.size ∧ w.cell? ⟨p, 0, none⟩ = some (fn0 K) := by
  obtain ⟨p, e, hp, hc⟩ := h
  exact ⟨p, e, fun e2 => by rw [e2, hg] at hc; exact hu (Option.some.inj hc), hp, hc⟩
theorem zero_op {w w1 : World} (hB : Below (w.alloc (.cells #[.nilFunc, .int .i64 0, .int .i64 0, .bool false, .bool false, .bool false] 116)).heap.size (w.alloc (.cells #[.nilFunc, .int .i64 0, .int .i64 0, .bool false, .bool false, .bool false] 116)) w1) :
    w1.cell? ⟨w.heap.size, 0, none⟩ = some .nilFunc ∧ w1.cell? ⟨w.heap.size, 1, none⟩ = some (.int .i64 0) ∧ w1.cell? ⟨w.heap.size, 2, none⟩ = some (.int .i64 0) ∧ w1.cell? ⟨w.heap.size, 3, none⟩ = some (.bool false) ∧ w1.cell? ⟨w.heap.size, 4, none⟩ = some (.bool false) ∧ w1.cell? ⟨w.heap.size, 5, none⟩ = some (.bool false) ∧ (∀ j, w1.frozen? ⟨w.heap.size, j, none⟩ = false) := by
  have h := hB.block w.heap.size (by simp)
  rw [heap_alloc_new] at h
  exact ⟨by simp [World.cell?, h], by simp [World.cell?, h], by simp [World.cell?, h], by simp [World.cell?, h], by simp [World.cell?, h], by simp [World.cell?, h], fun j => by simp [World.frozen?, h]⟩

set_option maxRecDepth 10000 in
set_option maxHeartbeats 3200000 in
theorem span_op_in (x : Int) (w : World) : Calls Tryz.prog 85 #[.int .i64 x] w fun e w' => (∃ v, e = .returned v ∧ OpV w' x v) ∧ Below w.heap.size w w' := by
  go_enter Tryz.func85, Tryz.ntmps85
  by_cases h3 : x = 3
  · subst h3
    go_wp2_with fail
    refine (reckoned_in 101 _).mono ?_
    rintro e w1 ⟨⟨v, rfl, hv⟩, hB1⟩
    obtain ⟨x0, x1, x2, x3, x4, x5, xf⟩ := zero_op hB1
    obtain ⟨p, rfl, hpg, hpl, hpc⟩ := hv.not_at x0 (by intro e; cases e)
    have HP := hid hpc
    have HB1 : Hid (Below w.heap.size w w1) := (ItmS.below_one w _).trans (hB1.mono (by simp))
    unfold wrongS
    dsimp only
    clear hpc hv hB1
    go_wp2_with fail
    refine bodyPost_ret (v := opv (fn1 112 p) (wrongS, false, false)) (by simp [results, Tryz.results85, go_sem, x0, x1, x2, x3, x4, x5, wrongS]) rfl ⟨⟨opv (fn1 112 p) (wrongS, false, false), rfl, .inl ⟨rfl, ⟨p, rfl, ?_, ?_⟩⟩⟩, ?_⟩
    · first | omega | (simp; omega)
    · repeat (refine cell_set ?_ _ _ _ (fun e => hpg e.symm))
      exact HP.out
    · repeat (refine Below.setCell ?_ (by simp) _)
      exact HB1.out
  have e3 : (x == 3) = false := by simp [h3]
  by_cases h4 : x = 4
  · subst h4
    go_wp2_with fail
    refine (reckoned_in 102 _).mono ?_
    rintro e w1 ⟨⟨v, rfl, hv⟩, hB1⟩
    obtain ⟨x0, x1, x2, x3, x4, x5, xf⟩ := zero_op hB1
    obtain ⟨p, rfl, hpg, hpl, hpc⟩ := hv.not_at x0 (by intro e; cases e)
    have HP := hid hpc
    have HB1 : Hid (Below w.heap.size w w1) := (ItmS.below_one w _).trans (hB1.mono (by simp))
    unfold wrongS
    dsimp only
    clear hpc hv hB1
    go_wp2_with fail
    refine bodyPost_ret (v := opv (fn1 112 p) (wrongS, false, false)) (by simp [results, Tryz.results85, go_sem, x0, x1, x2, x3, x4, x5, wrongS]) rfl ⟨⟨opv (fn1 112 p) (wrongS, false, false), rfl, .inr (.inl ⟨rfl, ⟨p, rfl, ?_, ?_⟩⟩)⟩, ?_⟩
    · first | omega | (simp; omega)
    · repeat (refine cell_set ?_ _ _ _ (fun e => hpg e.symm))
      exact HP.out
    · repeat (refine Below.setCell ?_ (by simp) _)
      exact HB1.out
  have e4 : (x == 4) = false := by simp [h4]
  by_cases h5 : x = 5
  · subst h5
    go_wp2_with fail
    refine (reckoned_in 103 _).mono ?_
    rintro e w1 ⟨⟨v, rfl, hv⟩, hB1⟩
    obtain ⟨x0, x1, x2, x3, x4, x5, xf⟩ := zero_op hB1
    obtain ⟨p, rfl, hpg, hpl, hpc⟩ := hv.not_at x0 (by intro e; cases e)
    have HP := hid hpc
    have HB1 : Hid (Below w.heap.size w w1) := (ItmS.below_one w _).trans (hB1.mono (by simp))
    unfold wrongS
    dsimp only
    clear hpc hv hB1
    go_wp2_with fail
    refine bodyPost_ret (v := opv (fn1 112 p) (wrongS, false, false)) (by simp [results, Tryz.results85, go_sem, x0, x1, x2, x3, x4, x5, wrongS]) rfl ⟨⟨opv (fn1 112 p) (wrongS, false, false), rfl, .inr (.inr (.inl ⟨rfl, ⟨p, rfl, ?_, ?_⟩⟩))⟩, ?_⟩
    · first | omega | (simp; omega)
    · repeat (refine cell_set ?_ _ _ _ (fun e => hpg e.symm))
      exact HP.out
    · repeat (refine Below.setCell ?_ (by simp) _)
      exact HB1.out
  have e5 : (x == 5) = false := by simp [h5]
  by_cases h6 : x = 6
  · subst h6
    go_wp2_with fail
    refine (compared_in 105 _).mono ?_
    rintro e w1 ⟨⟨v, rfl, hv⟩, hB1⟩
    obtain ⟨x0, x1, x2, x3, x4, x5, xf⟩ := zero_op hB1
    obtain ⟨p, rfl, hpg, hpl, hpc⟩ := hv.not_at x0 (by intro e; cases e)
    have HP := hid hpc
    have HB1 : Hid (Below w.heap.size w w1) := (ItmS.below_one w _).trans (hB1.mono (by simp))
    unfold z0
    dsimp only
    clear hpc hv hB1
    go_wp2_with fail
    refine bodyPost_ret (v := opv (fn1 122 p) (z0, true, true)) (by simp [results, Tryz.results85, go_sem, x0, x1, x2, x3, x4, x5, z0]) rfl ⟨⟨opv (fn1 122 p) (z0, true, true), rfl, .inr (.inr (.inr (.inl ⟨rfl, ⟨p, rfl, ?_, ?_⟩⟩)))⟩, ?_⟩
    · first | omega | (simp; omega)
    · repeat (refine cell_set ?_ _ _ _ (fun e => hpg e.symm))
      exact HP.out
    · repeat (refine Below.setCell ?_ (by simp) _)
      exact HB1.out
  have e6 : (x == 6) = false := by simp [h6]
  by_cases h7 : x = 7
  · subst h7
    go_wp2_with fail
    refine (compared_in 106 _).mono ?_
    rintro e w1 ⟨⟨v, rfl, hv⟩, hB1⟩
    obtain ⟨x0, x1, x2, x3, x4, x5, xf⟩ := zero_op hB1
    obtain ⟨p, rfl, hpg, hpl, hpc⟩ := hv.not_at x0 (by intro e; cases e)
    have HP := hid hpc
    have HB1 : Hid (Below w.heap.size w w1) := (ItmS.below_one w _).trans (hB1.mono (by simp))
    unfold z0
    dsimp only
    clear hpc hv hB1
    go_wp2_with fail
    refine bodyPost_ret (v := opv (fn1 122 p) (z0, true, true)) (by simp [results, Tryz.results85, go_sem, x0, x1, x2, x3, x4, x5, z0]) rfl ⟨⟨opv (fn1 122 p) (z0, true, true), rfl, .inr (.inr (.inr (.inr (.inl ⟨rfl, ⟨p, rfl, ?_, ?_⟩⟩))))⟩, ?_⟩
    · first | omega | (simp; omega)
    · repeat (refine cell_set ?_ _ _ _ (fun e => hpg e.symm))
      exact HP.out
    · repeat (refine Below.setCell ?_ (by simp) _)
      exact HB1.out
  have e7 : (x == 7) = false := by simp [h7]
  go_wp2_with fail
  refine (compared_in 107 _).mono ?_
  rintro e w1 ⟨⟨v, rfl, hv⟩, hB1⟩
  obtain ⟨x0, x1, x2, x3, x4, x5, xf⟩ := zero_op hB1
  obtain ⟨p, rfl, hpg, hpl, hpc⟩ := hv.not_at x0 (by intro e; cases e)
  have HP := hid hpc
  have HB1 : Hid (Below w.heap.size w w1) := (ItmS.below_one w _).trans (hB1.mono (by simp))
  unfold z0
  dsimp only
  clear hpc hv hB1
  go_wp2_with fail
  refine bodyPost_ret (v := opv (fn1 122 p) (z0, true, true)) (by simp [results, Tryz.results85, go_sem, x0, x1, x2, x3, x4, x5, z0]) rfl ⟨⟨opv (fn1 122 p) (z0, true, true), rfl, .inr (.inr (.inr (.inr (.inr (⟨⟨h3, h4, h5, h6, h7⟩, ⟨p, rfl, ?_, ?_⟩⟩)))))⟩, ?_⟩
  · first | omega | (simp; omega)
  · repeat (refine cell_set ?_ _ _ _ (fun e => hpg e.symm))
    exact HP.out
  · repeat (refine Below.setCell ?_ (by simp) _)
    exact HB1.out

set_option maxRecDepth 10000 in
set_option maxHeartbeats 3200000 in
theorem op_of (x : Int) (v : Value) (a b : Sp) (w : World) (ha : okS a) (hb : okS b) (hv : OpV w x v) : Calls Tryz.prog 86 #[v, spv a, spv b] w fun e w' => e = .returned (lkv (opO x a b)) ∧ Below w.heap.size w w' := by
  obtain ⟨r, hr⟩ : ∃ r, Hid (opO x a b = r) := ⟨_, rfl⟩
  rw [hr.out]
  obtain ⟨⟨r0, r1, r2⟩, r3, r4⟩ := r
  by_cases hw : (a.2.2 || b.2.2) = true
  · obtain ⟨K, p, rfl⟩ := fv_wrong hv
    have hwr := (op_wrong (x := x) hw).symm.trans hr.out
    rw [hwr]
    obtain ⟨a0, a1, aw⟩ := a
    obtain ⟨b0, b1, bw⟩ := b
    clear hr hv ha hb hwr
    cases aw
    · cases bw
      · cases hw
      · go_enter Tryz.func86, Tryz.ntmps86
        go_wp2_with fail
        refine bodyPost_ret (v := lkv ((r0, r1, r2), r3, r4)) (by simp [results, Tryz.results86, go_sem]) rfl ⟨rfl, by go_grown⟩
    · go_enter Tryz.func86, Tryz.ntmps86
      go_wp2_with fail
      refine bodyPost_ret (v := lkv ((r0, r1, r2), r3, r4)) (by simp [results, Tryz.results86, go_sem]) rfl ⟨rfl, by go_grown⟩
  · have hw2 : (a.2.2 || b.2.2) = false := by simpa using hw
    obtain ⟨K, p, rfl, hent, hcall⟩ := fv_call hv a b ha hb hw2
    rw [hr.out] at hcall
    have HC := hid hcall
    obtain ⟨a0, a1, aw⟩ := a
    obtain ⟨b0, b1, bw⟩ := b
    generalize wrO x = wr at *
    obtain ⟨⟨q0, q1, q2⟩, q3, q4⟩ := wr
    obtain ⟨rfl, rfl⟩ : aw = false ∧ bw = false := by cases aw <;> cases bw <;> simp at hw ⊢
    clear hr hv ha hb hcall hw hw2
    have hR := R5.new (((w.alloc (.cells #[fn1 K p, .int .i64 q0, .int .i64 q1, .bool q2, .bool q3, .bool q4] 116)).alloc (spo (a0, a1, false))).alloc (spo (b0, b1, false))) (z0, false, false)
    unfold lko spo z0 at hR
    dsimp only at hR hent ⊢
    simp only [World.size_alloc] at hR
    have HR := hid hR
    have HB0 : Hid (Below w.heap.size w ((((w.alloc (.cells #[fn1 K p, .int .i64 q0, .int .i64 q1, .bool q2, .bool q3, .bool q4] 116)).alloc (.cells #[.int .i64 a0, .int .i64 a1, .bool false] 27)).alloc (.cells #[.int .i64 b0, .int .i64 b1, .bool false] 27)).alloc (.cells #[.int .i64 0, .int .i64 0, .bool false, .bool false, .bool false] 59))) := by show Below _ _ _; go_grown
    clear hR
    go_enter Tryz.func86, Tryz.ntmps86
    go_wp2_with fail
    refine (HC.out _ HB0.out).mono ?_
    rintro e w1 ⟨rfl, hB1⟩
    have HB1 : Hid (Below w.heap.size w w1) := HB0.out.trans (hB1.mono HB0.out.size)
    obtain ⟨x0, x1, x2, x3, x4, xf⟩ := (HR.out.on hB1).cells
    dsimp only at x0 x1 x2 x3 x4
    clear hB1
    go_wp2_with fail
    refine bodyPost_ret (v := lkv ((r0, r1, r2), r3, r4)) (by simp [results, Tryz.results86, go_sem, x0, x1, x2, x3, x4]) rfl ⟨rfl, ?_⟩
    repeat (refine Below.setCell ?_ (by simp only; omega) _)
    exact HB1.out
end Go.Proofs.YtaofdckdmffaiaaGreatDoor.StaI
/- What comes of two by an op, and of a leaf, by the program. -/
namespace Go.Proofs.YtaofdckdmffaiaaGreatDoor.StaI
open Go.RowKit
open PrtW PrtM ItmW ItmM FrmM StaM StaS FixF FixS FixT FixTi
open FrmI (fieldQ Blk)

/-- two that came in, and a third one -/
theorem three5 (w : World) (a b z : Lk) : R5 (((w.alloc (lko a)).alloc (lko b)).alloc (lko z)) w.heap.size a ∧ R5 (((w.alloc (lko a)).alloc (lko b)).alloc (lko z)) (w.heap.size + 1) b ∧ R5 (((w.alloc (lko a)).alloc (lko b)).alloc (lko z)) (w.heap.size + 1 + 1) z ∧
    Below w.heap.size w (((w.alloc (lko a)).alloc (lko b)).alloc (lko z)) := by
  have hA := ((R5.new w a).alloc (lko b)).alloc (lko z)
  have hB := (R5.new (w.alloc (lko a)) b).alloc (lko z)
  have hZ := R5.new ((w.alloc (lko a)).alloc (lko b)) z
  simp only [World.size_alloc] at hB hZ
  refine ⟨hA, hB, hZ, ?_⟩
  go_grown

set_option maxRecDepth 10000 in
set_option maxHeartbeats 3200000 in
theorem impl_joined (x : Int) (a b : Lk) (w : World) (ha : okS a.1) (hb : okS b.1) : Calls Tryz.prog 70 #[.int .i64 x, lkv a, lkv b] w fun e w' => e = .returned (lkv (joinO x a b)) ∧ Below w.heap.size w w' := by
  obtain ⟨r, hr⟩ : ∃ r, Hid (joinO x a b = r) := ⟨_, rfl⟩
  rw [hr.out]
  obtain ⟨⟨r0, r1, r2⟩, r3, r4⟩ := r
  obtain ⟨⟨a0, a1, aw⟩, ay, an⟩ := a
  obtain ⟨⟨b0, b1, bw⟩, bY, bn⟩ := b
  obtain ⟨hA, hB, hZ, hW⟩ := three5 w ((a0, a1, aw), ay, an) ((b0, b1, bw), bY, bn) (z0, false, false)
  unfold lko z0 at hA hB hZ hW
  dsimp only at hA hB hZ hW ha hb ⊢
  by_cases h9 : x = 9
  · subst h9
    have hj : ((0, 0, false), ay && bY, an || bn) = (((r0, r1, r2), r3, r4) : Lk) := by rw [← hr.out]; rfl
    injection hj with e0 e1
    injection e0 with e0 e2
    injection e2 with e2 e3
    injection e1 with e1 e4
    subst e0 e2 e3 e1 e4
    clear hr hA hB hZ ha hb
    cases ay <;> cases an
    all_goals (
      go_enter Tryz.func70, Tryz.ntmps70
      go_wp2_with fail
      refine bodyPost_ret (v := _) (by simp [results, Tryz.results70, go_sem]; rfl) rfl ⟨by simp, by go_grown⟩)
  by_cases h10 : x = 10
  · subst h10
    have hj : ((0, 0, false), ay || bY, an && bn) = (((r0, r1, r2), r3, r4) : Lk) := by rw [← hr.out]; rfl
    injection hj with e0 e1
    injection e0 with e0 e2
    injection e2 with e2 e3
    injection e1 with e1 e4
    subst e0 e2 e3 e1 e4
    clear hr hA hB hZ ha hb
    cases ay <;> cases an
    all_goals (
      go_enter Tryz.func70, Tryz.ntmps70
      go_wp2_with fail
      refine bodyPost_ret (v := _) (by simp [results, Tryz.results70, go_sem]; rfl) rfl ⟨by simp, by go_grown⟩)
  have HJ : Hid (opO x (a0, a1, aw) (b0, b1, bw) = ((r0, r1, r2), r3, r4)) := by show _ = _; rw [← hr.out, join_op h9 h10]
  have HO1 := hid ha
  have HO2 := hid hb
  have e9 : (x == 9) = false := by simp [h9]
  have e10 : (x == 10) = false := by simp [h10]
  clear hr ha hb
  go_enter Tryz.func70, Tryz.ntmps70
  go_upto_region 6 with fail
  obtain ⟨W1, hW1⟩ : ∃ W1, Hid (((w.alloc (.cells #[.int .i64 a0, .int .i64 a1, .bool aw, .bool ay, .bool an] 59)).alloc (.cells #[.int .i64 b0, .int .i64 b1, .bool bw, .bool bY, .bool bn] 59)).alloc (.cells #[.int .i64 0, .int .i64 0, .bool false, .bool false, .bool false] 59) = W1) := ⟨_, rfl⟩
  rw [hW1.out] at hA hB hZ hW ⊢
  have HBW := hid hW
  have hS0 := HdL.refl hZ
  have hal := hA.lt
  have hbl := hB.lt
  obtain ⟨p0, p1, p2, -⟩ := hA.cells
  obtain ⟨q0, q1, q2, -⟩ := hB.cells
  have HAll : Hid (∀ w', HdL W1 (w.heap.size + 1 + 1) w' → HdL W1 (w.heap.size + 1 + 1) w' ∧ (w'.cell? ⟨w.heap.size, 0, none⟩ = some (.int .i64 a0) ∧ w'.cell? ⟨w.heap.size, 1, none⟩ = some (.int .i64 a1) ∧ w'.cell? ⟨w.heap.size, 2, none⟩ = some (.bool aw)) ∧ (w'.cell? ⟨w.heap.size + 1, 0, none⟩ = some (.int .i64 b0) ∧ w'.cell? ⟨w.heap.size + 1, 1, none⟩ = some (.int .i64 b1) ∧ w'.cell? ⟨w.heap.size + 1, 2, none⟩ = some (.bool bw))) := fun w' hS =>
    ⟨hS, ⟨by rw [hS.cell hal (by omega)]; exact p0, by rw [hS.cell hal (by omega)]; exact p1, by rw [hS.cell hal (by omega)]; exact p2⟩, ⟨by rw [hS.cell hbl (by omega)]; exact q0, by rw [hS.cell hbl (by omega)]; exact q1, by rw [hS.cell hbl (by omega)]; exact q2⟩⟩
  clear p0 p1 p2 q0 q1 q2 hA hB hZ hW hW1
  refine wp_region_held_drew (S := (fun w' => HdL W1 (w.heap.size + 1 + 1) w' ∧ (w'.cell? ⟨w.heap.size, 0, none⟩ = some (.int .i64 a0) ∧ w'.cell? ⟨w.heap.size, 1, none⟩ = some (.int .i64 a1) ∧ w'.cell? ⟨w.heap.size, 2, none⟩ = some (.bool aw)) ∧ (w'.cell? ⟨w.heap.size + 1, 0, none⟩ = some (.int .i64 b0) ∧ w'.cell? ⟨w.heap.size + 1, 1, none⟩ = some (.int .i64 b1) ∧ w'.cell? ⟨w.heap.size + 1, 2, none⟩ = some (.bool bw)))) (by kernel_rfl) ?_ (fun hHeld => ?_)
  · (try dsimp only) <;> (first | exact HAll.out _ hSn | exact HAll.out _ hS0)
  refine wpAnyH_take (i := 0) (oi := { dst := some 38, op := Go.Op.move (Go.Operand.tmp 0), type := 2, pos := "l08_static.go:96", after := #[], guard := none }) (v := ?_) rfl (by kernel_rfl) (by kernel_rfl) (by kernel_rfl) (fun _ _ _ h => h) (Or.inl ⟨by rfl, ?yld1⟩) hHeld ?nxt1
  case yld1 => (intro w hSw; (try dsimp only at hSw); go_simp) <;> with_reducible rfl
  (try simp only [Act.put, List.setIfInBounds_toArray, List.set_cons_zero, List.set_cons_succ])
  refine wpAnyH_take (i := 2) (oi := { dst := some 40, op := Go.Op.fieldAddr 59 (Go.Operand.tmp 4) 0, type := 0, pos := "l08_static.go:96", after := #[], guard := none }) (v := ?_) rfl (by kernel_rfl) (by kernel_rfl) (by kernel_rfl) (fun _ _ _ h => h) (Or.inl ⟨by rfl, ?yld2⟩) hHeld ?nxt2
  case yld2 => (intro w hSw; (try dsimp only at hSw); go_simp) <;> with_reducible rfl
  (try simp only [Act.put, List.setIfInBounds_toArray, List.set_cons_zero, List.set_cons_succ])
  refine wpAnyH_take (i := 3) (oi := { dst := some 41, op := Go.Op.load 27 (Go.Operand.tmp 40), type := 27, pos := "l08_static.go:96", after := #[{ on := 2, ground := Go.Ground.data }], guard := none }) (v := ?_) rfl (by kernel_rfl) (by kernel_rfl) (by kernel_rfl) (fun _ _ _ h => h) (Or.inl ⟨by rfl, ?yld3⟩) hHeld ?nxt3
  case yld3 => (intro w hSw; (try dsimp only at hSw); go_simp) <;> with_reducible rfl
  (try simp only [Act.put, List.setIfInBounds_toArray, List.set_cons_zero, List.set_cons_succ])
  refine wpAnyH_take (i := 4) (oi := { dst := some 42, op := Go.Op.fieldAddr 59 (Go.Operand.tmp 5) 0, type := 0, pos := "l08_static.go:96", after := #[], guard := none }) (v := ?_) rfl (by kernel_rfl) (by kernel_rfl) (by kernel_rfl) (fun _ _ _ h => h) (Or.inl ⟨by rfl, ?yld4⟩) hHeld ?nxt4
  case yld4 => (intro w hSw; (try dsimp only at hSw); go_simp) <;> with_reducible rfl
  (try simp only [Act.put, List.setIfInBounds_toArray, List.set_cons_zero, List.set_cons_succ])
  refine wpAnyH_take (i := 5) (oi := { dst := some 43, op := Go.Op.load 27 (Go.Operand.tmp 42), type := 27, pos := "l08_static.go:96", after := #[{ on := 4, ground := Go.Ground.data }], guard := none }) (v := ?_) rfl (by kernel_rfl) (by kernel_rfl) (by kernel_rfl) (fun _ _ _ h => h) (Or.inl ⟨by rfl, ?yld5⟩) hHeld ?nxt5
  case yld5 => (intro w hSw; (try dsimp only at hSw); go_simp) <;> with_reducible rfl
  (try simp only [Act.put, List.setIfInBounds_toArray, List.set_cons_zero, List.set_cons_succ])
  refine wpAnyH_ready (rs := [1]) (by kernel_rfl) (by simp) ?_
  refine AllReadyH.cons (o := { dst := some 39, op := Go.Op.call { callee := Go.Callee.value (Go.Operand.func 85), args := #[Go.Operand.tmp 38], argTypes := #[2] }, type := 116, pos := "l08_static.go:96", after := #[{ on := 0, ground := Go.Ground.data }], guard := none }) rfl (fun K hK => ?_) AllReadyH.nil
  go_simp
  go_at_call 85
  have hp := hHeld.1
  refine (span_op_in x _).mono ?_
  rintro e w' ⟨⟨v, rfl, hv⟩, hB⟩
  have HV := hid hv
  have hSn := hp.on hB
  clear hp hB hv
  (try go_wp2_with fail)
  refine hK.out _ _ ?_ (fun hHeld2 => ?_)
  · (try dsimp only) <;> (first | exact HAll.out _ hSn | exact HAll.out _ hS0)
  clear hK K hHeld
  have hHeld := hHeld2
  clear hHeld2
  (try simp only [Act.put, List.setIfInBounds_toArray, List.set_cons_zero, List.set_cons_succ])
  refine wpAnyH_ready (rs := [6]) (by kernel_rfl) (by simp) ?_
  refine AllReadyH.cons (o := { dst := some 44, op := Go.Op.call { callee := Go.Callee.value (Go.Operand.func 86), args := #[Go.Operand.tmp 39, Go.Operand.tmp 41, Go.Operand.tmp 43], argTypes := #[116, 27, 27] }, type := 59, pos := "l08_static.go:96", after := #[{ on := 1, ground := Go.Ground.data }, { on := 3, ground := Go.Ground.data }, { on := 5, ground := Go.Ground.data }, { on := 1, ground := Go.Ground.chain }], guard := none }) rfl (fun K hK => ?_) AllReadyH.nil
  go_simp
  go_at_call 86
  have hp := hHeld.1
  refine (op_of x v (a0, a1, aw) (b0, b1, bw) _ HO1.out HO2.out HV.out).mono ?_
  rintro e w'' ⟨rfl, hB⟩
  rw [HJ.out]
  have hSn := hp.on hB
  clear hp hB
  (try go_wp2_with fail)
  refine hK.out _ _ ?_ (fun hHeld2 => ?_)
  · (try dsimp only) <;> (first | exact HAll.out _ hSn | exact HAll.out _ hS0)
  clear hK K hHeld
  have hHeld := hHeld2
  clear hHeld2
  (try simp only [Act.put, List.setIfInBounds_toArray, List.set_cons_zero, List.set_cons_succ])
  refine wpAnyH_ready (rs := [7]) (by kernel_rfl) (by simp) ?_
  refine AllReadyH.cons (o := { dst := none, op := Go.Op.store 59 (Go.Operand.tmp 6) (Go.Operand.tmp 44), type := 0, pos := "l08_static.go:96", after := #[{ on := 6, ground := Go.Ground.data }, { on := 6, ground := Go.Ground.chain }, { on := 0, ground := Go.Ground.phase }, { on := 1, ground := Go.Ground.phase }, { on := 2, ground := Go.Ground.phase }, { on := 3, ground := Go.Ground.phase }, { on := 4, ground := Go.Ground.phase }, { on := 5, ground := Go.Ground.phase }, { on := 6, ground := Go.Ground.phase }], guard := none }) rfl (fun K hK => ?_) AllReadyH.nil
  obtain ⟨⟨v0, y0⟩, f0⟩ := hHeld.1.room 0 (by decide)
  obtain ⟨⟨v1, y1⟩, f1⟩ := hHeld.1.room 1 (by decide)
  obtain ⟨⟨v2, y2⟩, f2⟩ := hHeld.1.room 2 (by decide)
  obtain ⟨⟨v3, y3⟩, f3⟩ := hHeld.1.room 3 (by decide)
  obtain ⟨⟨v4, y4⟩, f4⟩ := hHeld.1.room 4 (by decide)
  go_simp
  have hSn := ((((hHeld.1.put 0 (.int .i64 r0)).put 1 (.int .i64 r1)).put 2 (.bool r2)).put 3 (.bool r3)).put 4 (.bool r4)
  refine hK.out _ _ ?_ (fun hHeld2 => ?_)
  · (try dsimp only) <;> (first | exact HAll.out _ hSn | exact HAll.out _ hS0)
  clear hK K hHeld
  have hHeld := hHeld2
  clear hHeld2
  (try simp only [Act.put, List.setIfInBounds_toArray, List.set_cons_zero, List.set_cons_succ])
  refine wpAnyH_done (by kernel_rfl) ?_ _
  have HBL := hid (hHeld.1.below HBW.out (by omega))
  clear hHeld hS0 HAll
  go_wp2_with fail
  refine bodyPost_ret (v := lkv ((r0, r1, r2), r3, r4)) (by simp [results, Tryz.results70, go_sem, y0, y1, y2, y3, y4]) rfl ⟨rfl, HBL.out⟩
end Go.Proofs.YtaofdckdmffaiaaGreatDoor.StaI
/- What can come of a leaf, by the program. -/
namespace Go.Proofs.YtaofdckdmffaiaaGreatDoor.StaI
open Go.RowKit
open PrtW PrtM PrtS PrtI TexM ItmW ItmM FrmM StaM StaS
open FrmI (fieldQ impl_field)

set_option maxHeartbeats 800000 in
theorem impl_field_span (q : It) (a : Option Addr) (c : Nat) (w : World) : Calls Tryz.prog 87 #[itv q a c] w fun e w' => e = .returned (spv (fieldS q)) ∧ Below w.heap.size w w' := by
  obtain ⟨k, s, ty, lo, hi, t, ps, hd⟩ := q
  unfold itv
  dsimp only [ik, inm, ity, ilo, ihi, itx, iex, ihd]
  by_cases h6 : k = 6
  · subst h6
    rw [show fieldS (6, s, ty, lo, hi, t, ps, hd) = (-1000000000, 1000000000, false) from rfl]
    go_enter Tryz.func87, Tryz.ntmps87
    go_wp2
    refine bodyPost_ret (v := spv (-1000000000, 1000000000, false)) (by simp [results, Tryz.results87, go_sem]) rfl ⟨rfl, by go_grown⟩
  · rw [show fieldS (k, s, ty, lo, hi, t, ps, hd) = (lo, hi, false) by unfold fieldS; exact if_neg h6]
    have e6 : (k == 6) = false := by simp [h6]
    go_enter Tryz.func87, Tryz.ntmps87
    go_wp2
    refine bodyPost_ret (v := spv (lo, hi, false)) (by simp [results, Tryz.results87, go_sem]) rfl ⟨rfl, by go_grown⟩

set_option maxRecDepth 10000 in
set_option maxHeartbeats 1600000 in
theorem impl_leaf (la : Option Addr) (lcap : Nat) (ls : List It) (x n : Int) (t : ByteArray) (w : World) (hx : x = 1 ∨ x = 2 ∨ x = 12 ∨ x = 13) (hL : Its w la ls) :
    Calls Tryz.prog 71 #[.slice la ls.length lcap, .agg #[.int .i64 x, .int .i64 n, .string t]] w fun e w' => e = .returned (lkv (leafO ls (x, n, t))) ∧ Below w.heap.size w w' := by
  have HL := hid hL
  clear hL
  by_cases h1 : x = 1
  · subst h1
    rw [show leafO ls (1, n, t) = ((n, n, false), false, false) from rfl]
    clear hx
    go_enter Tryz.func71, Tryz.ntmps71
    go_wp2_with fail
    refine bodyPost_ret (v := lkv ((n, n, false), false, false)) (by simp [results, Tryz.results71, go_sem]) rfl ⟨rfl, by go_grown⟩
  by_cases h2 : x = 2
  · subst h2
    obtain ⟨q, hq⟩ : ∃ q, Hid (fieldQ ls ls.length t = q) := ⟨_, rfl⟩
    obtain ⟨f, hf⟩ : ∃ f, Hid (fieldS q = f) := ⟨_, rfl⟩
    rw [show leafO ls (2, n, t) = (f, false, false) by rw [← hf.out, ← hq.out]; rfl]
    obtain ⟨f0, f1, f2⟩ := f
    clear hx
    have hR := R5.new (w.alloc (.cells #[.int .i64 2, .int .i64 n, .string t] 56)) (z0, false, false)
    unfold lko z0 at hR
    dsimp only at hR
    simp only [World.size_alloc] at hR
    have HR := hid hR
    have HB0 : Hid (Below w.heap.size w ((w.alloc (.cells #[.int .i64 2, .int .i64 n, .string t] 56)).alloc (.cells #[.int .i64 0, .int .i64 0, .bool false, .bool false, .bool false] 59))) := by show Below _ _ _; go_grown
    clear hR
    go_enter Tryz.func71, Tryz.ntmps71
    go_wp2_with fail
    refine (impl_field la lcap ls t _ (HL.out.on HB0.out)).mono ?_
    rintro e w1 ⟨⟨ai, ci, rfl, -, -⟩, hB1⟩
    rw [hq.out]
    have HB1 : Hid (Below w.heap.size w w1) := HB0.out.trans (hB1.mono HB0.out.size)
    have HR1 := hid (HR.out.on hB1)
    clear hB1
    go_wp2_with fail
    refine (impl_field_span q ai ci _).mono ?_
    rintro e w2 ⟨rfl, hB2⟩
    rw [hf.out]
    have HB2 : Hid (Below w.heap.size w w2) := HB1.out.trans (hB2.mono HB1.out.size)
    obtain ⟨x0, x1, x2, x3, x4, xf⟩ := (HR1.out.on hB2).cells
    dsimp only at x0 x1 x2 x3 x4
    clear hB2
    go_wp2_with fail
    refine bodyPost_ret (v := lkv ((f0, f1, f2), false, false)) (by simp [results, Tryz.results71, go_sem, x0, x1, x2, x3, x4]) rfl ⟨rfl, ?_⟩
    repeat (refine Below.setCell ?_ (by simp only; omega) _)
    exact HB2.out
  · have e1 : (x == 1) = false := by simp [h1]
    have e2 : (x == 2) = false := by simp [h2]
    rw [show leafO ls (x, n, t) = (z0, true, true) by unfold leafO; rw [if_neg h1, if_neg h2]]
    unfold z0
    clear hx
    go_enter Tryz.func71, Tryz.ntmps71
    go_wp2_with fail
    refine bodyPost_ret (v := lkv ((0, 0, false), true, true)) (by simp [results, Tryz.results71, go_sem]) rfl ⟨rfl, by go_grown⟩

set_option maxRecDepth 10000 in
set_option maxHeartbeats 3200000 in
theorem head_leaf (la : Option Addr) (lcap : Nat) (ls : List It) (k : Nat) (n : Int) (t : ByteArray) (r : List Pt) (b o cap : Nat) (w0 w : World) (hw0 : Below w0.heap.size w0 w) (hp : partB ((k : Int), n, t) = true) (h0 : many (k : Int) = 0)
    (hP : Parts w0 (some ⟨b, o, none⟩) (((k : Int), n, t) :: r)) (hcap : r.length + 1 ≤ cap) (hlen : r.length + 1 ≤ 20) (hE : EnvS w) (hL : Its w la ls) :
    Calls Tryz.prog 56 #[.slice la ls.length lcap, .slice (some ⟨b, o, none⟩) (r.length + 1) cap] w fun e w' => (∃ a' cap', e = .returned (.tuple #[lkv (leafO ls ((k : Int), n, t)), .slice a' r.length cap']) ∧ Parts w0 a' r ∧ r.length ≤ cap') ∧ Below w.heap.size w w' := by
  obtain ⟨b', o', x, n', t', hab, hb, hg, hf, c0, c1, c2⟩ := parts_at (hP.on hw0) (show 0 < (((k : Int), n, t) :: r).length by simp)
  cases hab
  have hpe : ((k : Int), n, t) = (x, n', t') := hg
  injection hpe with e1 e2
  injection e2 with e3 e4
  subst e1 e3 e4
  simp only [Nat.zero_mul, Nat.add_zero] at c0 c1 c2
  have hin := part_in hp
  have hk13 : k < 14 := by omega
  have hk13' : (k : Int) < 14 := by omega
  have hx : (k : Int) = 1 ∨ (k : Int) = 2 ∨ (k : Int) = 12 ∨ (k : Int) = 13 := leaf_op hp h0
  have HP1 := hid (parts_tail hP b o rfl)
  obtain ⟨e0, e1, e2, e3, e4, e5, e6⟩ := hE.2 k hk13
  have hg0 := hE.1
  have hg1 : 0 < w.heap.size := by omega
  have hg2 : 1 < w.heap.size + 1 := by omega
  have hmi := many_inner k (by omega) (by omega)
  rw [h0] at hmi
  have hs1 : innerF k = 0 := by omega
  rw [hs1] at e1
  have HLs := hid hL
  obtain ⟨rr, hrr⟩ : ∃ rr, Hid (leafO ls ((k : Int), n, t) = rr) := ⟨_, rfl⟩
  rw [hrr.out]
  have HL := hrr
  obtain ⟨⟨r0, r1, r2⟩, r3, r4⟩ := rr
  clear hg hf hP hrr hE hp h0 hmi hs1 hw0 hL
  go_enter Tryz.func56, Tryz.ntmps56
  go_upto_region 10 with fail
  obtain ⟨W1, hW1⟩ : ∃ W1, Hid ((w.alloc (.cells #[.int .i64 0, .int .i64 0, .bool false, .bool false, .bool false] 59)).alloc (.cells #[.int .i64 (k : Int), .int .i64 n, .string t] 56) = W1) := ⟨_, rfl⟩
  have hBW : Below w.heap.size w ((w.alloc (.cells #[.int .i64 0, .int .i64 0, .bool false, .bool false, .bool false] 59)).alloc (.cells #[.int .i64 (k : Int), .int .i64 n, .string t] 56)) := by go_grown
  have hR := (R5.new w (z0, false, false)).alloc (.cells #[.int .i64 (k : Int), .int .i64 n, .string t] 56)
  have hq0 := P3.new (w.alloc (.cells #[.int .i64 0, .int .i64 0, .bool false, .bool false, .bool false] 59)) (k : Int) n t
  unfold lko z0 at hR
  dsimp only at hR
  simp only [World.size_alloc] at hq0
  rw [hW1.out] at hBW hR hq0 ⊢
  have HBW := hid hBW
  have hS0 := HdL.refl hR
  have hpl := hq0.lt
  obtain ⟨p0, p1, p2⟩ := hq0.cells
  have HAll : Hid (∀ w', HdL W1 w.heap.size w' → HdL W1 w.heap.size w' ∧ w'.cell? ⟨w.heap.size + 1, 0, none⟩ = some (.int .i64 (k : Int)) ∧ w'.cell? ⟨w.heap.size + 1, 1, none⟩ = some (.int .i64 n) ∧ w'.cell? ⟨w.heap.size + 1, 2, none⟩ = some (.string t)) := fun w' hS =>
    ⟨hS, by rw [hS.cell hpl (by omega)]; exact p0, by rw [hS.cell hpl (by omega)]; exact p1, by rw [hS.cell hpl (by omega)]; exact p2⟩
  clear e0 e1 e2 e3 e4 e5 e6 c0 c1 c2 hq0 hR hW1 hBW p0 p1 p2
  by_cases hc1 : cap = 1
  · subst hc1
    obtain rfl : r = [] := List.length_eq_zero_iff.1 (by omega)
    refine wp_region_held_drew (S := (fun w' => HdL W1 w.heap.size w' ∧ w'.cell? ⟨w.heap.size + 1, 0, none⟩ = some (.int .i64 (k : Int)) ∧ w'.cell? ⟨w.heap.size + 1, 1, none⟩ = some (.int .i64 n) ∧ w'.cell? ⟨w.heap.size + 1, 2, none⟩ = some (.string t))) (by kernel_rfl) ?_ (fun hHeld => ?_)
    · (try dsimp only) <;> (first | exact HAll.out _ hSn | exact HAll.out _ hS0)
    refine wpAnyH_take (i := 0) (oi := { dst := some 56, op := Go.Op.move (Go.Operand.tmp 0), type := 29, pos := "l08_static.go:129", after := #[], guard := none }) (v := ?_) rfl (by kernel_rfl) (by kernel_rfl) (by kernel_rfl) (fun _ _ _ h => h) (Or.inl ⟨by rfl, ?yld1⟩) hHeld ?nxt1
    case yld1 => (intro w hSw; (try dsimp only at hSw); go_simp) <;> with_reducible rfl
    (try simp only [Act.put, List.setIfInBounds_toArray, List.set_cons_zero, List.set_cons_succ])
    refine wpAnyH_take (i := 1) (oi := { dst := some 57, op := Go.Op.load 56 (Go.Operand.tmp 6), type := 56, pos := "l08_static.go:129", after := #[], guard := none }) (v := ?_) rfl (by kernel_rfl) (by kernel_rfl) (by kernel_rfl) (fun _ _ _ h => h) (Or.inl ⟨by rfl, ?yld2⟩) hHeld ?nxt2
    case yld2 => (intro w hSw; (try dsimp only at hSw); go_simp) <;> with_reducible rfl
    (try simp only [Act.put, List.setIfInBounds_toArray, List.set_cons_zero, List.set_cons_succ])
    refine wpAnyH_take (i := 3) (oi := { dst := some 59, op := Go.Op.move (Go.Operand.tmp 1), type := 31, pos := "l08_static.go:129", after := #[], guard := none }) (v := ?_) rfl (by kernel_rfl) (by kernel_rfl) (by kernel_rfl) (fun _ _ _ h => h) (Or.inl ⟨by rfl, ?yld3⟩) hHeld ?nxt3
    case yld3 => (intro w hSw; (try dsimp only at hSw); go_simp) <;> with_reducible rfl
    (try simp only [Act.put, List.setIfInBounds_toArray, List.set_cons_zero, List.set_cons_succ])
    refine wpAnyH_take (i := 4) (oi := { dst := some 60, op := Go.Op.slice 31 (Go.Operand.tmp 59) (some (Go.Operand.const (Go.Value.int Go.IntKind.i64 1))) none none, type := 31, pos := "l08_static.go:129", after := #[{ on := 3, ground := Go.Ground.data }], guard := none }) (v := ?_) rfl (by kernel_rfl) (by kernel_rfl) (by kernel_rfl) (fun _ _ _ h => h) (Or.inl ⟨by rfl, ?yld4⟩) hHeld ?nxt4
    case yld4 => (intro w hSw; (try dsimp only at hSw); go_simp) <;> with_reducible rfl
    (try simp only [Act.put, List.setIfInBounds_toArray, List.set_cons_zero, List.set_cons_succ])
    refine wpAnyH_ready (rs := [2]) (by kernel_rfl) (by simp) ?_
    refine AllReadyH.cons (o := { dst := some 58, op := Go.Op.call { callee := Go.Callee.value (Go.Operand.func 71), args := #[Go.Operand.tmp 56, Go.Operand.tmp 57], argTypes := #[29, 56] }, type := 59, pos := "l08_static.go:129", after := #[{ on := 0, ground := Go.Ground.data }, { on := 1, ground := Go.Ground.data }], guard := none }) rfl (fun K hK => ?_) AllReadyH.nil
    go_simp
    go_at_call 71
    have hp := hHeld.1
    refine (impl_leaf la lcap ls (k : Int) n t _ hx (HLs.out.on (hp.below HBW.out (Nat.le_refl _)))).mono ?_
    rintro e w' ⟨rfl, hB⟩
    rw [HL.out]
    have hSn := hp.on hB
    clear hp hB
    (try go_wp2_with fail)
    refine hK.out _ _ ?_ (fun hHeld2 => ?_)
    · (try dsimp only) <;> (first | exact HAll.out _ hSn | exact HAll.out _ hS0)
    clear hK K hHeld
    have hHeld := hHeld2
    clear hHeld2
    (try simp only [Act.put, List.setIfInBounds_toArray, List.set_cons_zero, List.set_cons_succ])
    refine wpAnyH_ready (rs := [5]) (by kernel_rfl) (by simp) ?_
    refine AllReadyH.cons (o := { dst := none, op := Go.Op.store 59 (Go.Operand.tmp 4) (Go.Operand.tmp 58), type := 0, pos := "l08_static.go:129", after := #[{ on := 2, ground := Go.Ground.data }, { on := 2, ground := Go.Ground.chain }, { on := 0, ground := Go.Ground.phase }, { on := 1, ground := Go.Ground.phase }, { on := 2, ground := Go.Ground.phase }, { on := 3, ground := Go.Ground.textOnly Go.Departure.lateStores }, { on := 4, ground := Go.Ground.textOnly Go.Departure.lateStoresUnsure }], guard := none }) rfl (fun K hK => ?_) AllReadyH.nil
    obtain ⟨⟨v0, y0⟩, f0⟩ := hHeld.1.room 0 (by decide)
    obtain ⟨⟨v1, y1⟩, f1⟩ := hHeld.1.room 1 (by decide)
    obtain ⟨⟨v2, y2⟩, f2⟩ := hHeld.1.room 2 (by decide)
    obtain ⟨⟨v3, y3⟩, f3⟩ := hHeld.1.room 3 (by decide)
    obtain ⟨⟨v4, y4⟩, f4⟩ := hHeld.1.room 4 (by decide)
    go_simp
    have hSn := ((((hHeld.1.put 0 (.int .i64 r0)).put 1 (.int .i64 r1)).put 2 (.bool r2)).put 3 (.bool r3)).put 4 (.bool r4)
    refine hK.out _ _ ?_ (fun hHeld2 => ?_)
    · (try dsimp only) <;> (first | exact HAll.out _ hSn | exact HAll.out _ hS0)
    clear hK K hHeld
    have hHeld := hHeld2
    clear hHeld2
    (try simp only [Act.put, List.setIfInBounds_toArray, List.set_cons_zero, List.set_cons_succ])
    refine wpAnyH_take (i := 6) (oi := { dst := some 5, op := Go.Op.assign (Go.Operand.tmp 60), type := 31, pos := "l08_static.go:129", after := #[{ on := 4, ground := Go.Ground.data }, { on := 5, ground := Go.Ground.chain }, { on := 0, ground := Go.Ground.phase }, { on := 1, ground := Go.Ground.phase }, { on := 2, ground := Go.Ground.phase }, { on := 3, ground := Go.Ground.phase }, { on := 4, ground := Go.Ground.phase }, { on := 5, ground := Go.Ground.phase }], guard := none }) (v := ?_) rfl (by kernel_rfl) (by kernel_rfl) (by kernel_rfl) (fun _ _ _ h => h) (Or.inl ⟨by rfl, ?yld5⟩) hHeld ?nxt5
    case yld5 => (intro w hSw; (try dsimp only at hSw); go_simp) <;> with_reducible rfl
    (try simp only [Act.put, List.setIfInBounds_toArray, List.set_cons_zero, List.set_cons_succ])
    refine wpAnyH_done (by kernel_rfl) ?_ _
    have HBL := hid (hHeld.1.below HBW.out (Nat.le_refl _))
    clear hHeld hS0 HAll
    go_wp2_with fail
    refine bodyPost_ret (v := _) (by simp [results, Tryz.results56, go_sem, y0, y1, y2, y3, y4]; exact ⟨rfl, rfl⟩) rfl ⟨⟨_, _, rfl, Parts.nil _ _, Nat.zero_le _⟩, HBL.out⟩
  · have hc2 : ¬ (cap : Int) = 1 := by omega
    have hc3 : (1 : Int) ≤ (r.length : Int) + 1 := by omega
    refine wp_region_held_drew (S := (fun w' => HdL W1 w.heap.size w' ∧ w'.cell? ⟨w.heap.size + 1, 0, none⟩ = some (.int .i64 (k : Int)) ∧ w'.cell? ⟨w.heap.size + 1, 1, none⟩ = some (.int .i64 n) ∧ w'.cell? ⟨w.heap.size + 1, 2, none⟩ = some (.string t))) (by kernel_rfl) ?_ (fun hHeld => ?_)
    · (try dsimp only) <;> (first | exact HAll.out _ hSn | exact HAll.out _ hS0)
    refine wpAnyH_take (i := 0) (oi := { dst := some 56, op := Go.Op.move (Go.Operand.tmp 0), type := 29, pos := "l08_static.go:129", after := #[], guard := none }) (v := ?_) rfl (by kernel_rfl) (by kernel_rfl) (by kernel_rfl) (fun _ _ _ h => h) (Or.inl ⟨by rfl, ?yld6⟩) hHeld ?nxt6
    case yld6 => (intro w hSw; (try dsimp only at hSw); go_simp) <;> with_reducible rfl
    (try simp only [Act.put, List.setIfInBounds_toArray, List.set_cons_zero, List.set_cons_succ])
    refine wpAnyH_take (i := 1) (oi := { dst := some 57, op := Go.Op.load 56 (Go.Operand.tmp 6), type := 56, pos := "l08_static.go:129", after := #[], guard := none }) (v := ?_) rfl (by kernel_rfl) (by kernel_rfl) (by kernel_rfl) (fun _ _ _ h => h) (Or.inl ⟨by rfl, ?yld7⟩) hHeld ?nxt7
    case yld7 => (intro w hSw; (try dsimp only at hSw); go_simp) <;> with_reducible rfl
    (try simp only [Act.put, List.setIfInBounds_toArray, List.set_cons_zero, List.set_cons_succ])
    refine wpAnyH_take (i := 3) (oi := { dst := some 59, op := Go.Op.move (Go.Operand.tmp 1), type := 31, pos := "l08_static.go:129", after := #[], guard := none }) (v := ?_) rfl (by kernel_rfl) (by kernel_rfl) (by kernel_rfl) (fun _ _ _ h => h) (Or.inl ⟨by rfl, ?yld8⟩) hHeld ?nxt8
    case yld8 => (intro w hSw; (try dsimp only at hSw); go_simp) <;> with_reducible rfl
    (try simp only [Act.put, List.setIfInBounds_toArray, List.set_cons_zero, List.set_cons_succ])
    refine wpAnyH_take (i := 4) (oi := { dst := some 60, op := Go.Op.slice 31 (Go.Operand.tmp 59) (some (Go.Operand.const (Go.Value.int Go.IntKind.i64 1))) none none, type := 31, pos := "l08_static.go:129", after := #[{ on := 3, ground := Go.Ground.data }], guard := none }) (v := ?_) rfl (by kernel_rfl) (by kernel_rfl) (by kernel_rfl) (fun _ _ _ h => h) (Or.inl ⟨by rfl, ?yld9⟩) hHeld ?nxt9
    case yld9 => (intro w hSw; (try dsimp only at hSw); go_simp) <;> with_reducible rfl
    (try simp only [Act.put, List.setIfInBounds_toArray, List.set_cons_zero, List.set_cons_succ])
    refine wpAnyH_ready (rs := [2]) (by kernel_rfl) (by simp) ?_
    refine AllReadyH.cons (o := { dst := some 58, op := Go.Op.call { callee := Go.Callee.value (Go.Operand.func 71), args := #[Go.Operand.tmp 56, Go.Operand.tmp 57], argTypes := #[29, 56] }, type := 59, pos := "l08_static.go:129", after := #[{ on := 0, ground := Go.Ground.data }, { on := 1, ground := Go.Ground.data }], guard := none }) rfl (fun K hK => ?_) AllReadyH.nil
    go_simp
    go_at_call 71
    have hp := hHeld.1
    refine (impl_leaf la lcap ls (k : Int) n t _ hx (HLs.out.on (hp.below HBW.out (Nat.le_refl _)))).mono ?_
    rintro e w' ⟨rfl, hB⟩
    rw [HL.out]
    have hSn := hp.on hB
    clear hp hB
    (try go_wp2_with fail)
    refine hK.out _ _ ?_ (fun hHeld2 => ?_)
    · (try dsimp only) <;> (first | exact HAll.out _ hSn | exact HAll.out _ hS0)
    clear hK K hHeld
    have hHeld := hHeld2
    clear hHeld2
    (try simp only [Act.put, List.setIfInBounds_toArray, List.set_cons_zero, List.set_cons_succ])
    refine wpAnyH_ready (rs := [5]) (by kernel_rfl) (by simp) ?_
    refine AllReadyH.cons (o := { dst := none, op := Go.Op.store 59 (Go.Operand.tmp 4) (Go.Operand.tmp 58), type := 0, pos := "l08_static.go:129", after := #[{ on := 2, ground := Go.Ground.data }, { on := 2, ground := Go.Ground.chain }, { on := 0, ground := Go.Ground.phase }, { on := 1, ground := Go.Ground.phase }, { on := 2, ground := Go.Ground.phase }, { on := 3, ground := Go.Ground.textOnly Go.Departure.lateStores }, { on := 4, ground := Go.Ground.textOnly Go.Departure.lateStoresUnsure }], guard := none }) rfl (fun K hK => ?_) AllReadyH.nil
    obtain ⟨⟨v0, y0⟩, f0⟩ := hHeld.1.room 0 (by decide)
    obtain ⟨⟨v1, y1⟩, f1⟩ := hHeld.1.room 1 (by decide)
    obtain ⟨⟨v2, y2⟩, f2⟩ := hHeld.1.room 2 (by decide)
    obtain ⟨⟨v3, y3⟩, f3⟩ := hHeld.1.room 3 (by decide)
    obtain ⟨⟨v4, y4⟩, f4⟩ := hHeld.1.room 4 (by decide)
    go_simp
    have hSn := ((((hHeld.1.put 0 (.int .i64 r0)).put 1 (.int .i64 r1)).put 2 (.bool r2)).put 3 (.bool r3)).put 4 (.bool r4)
    refine hK.out _ _ ?_ (fun hHeld2 => ?_)
    · (try dsimp only) <;> (first | exact HAll.out _ hSn | exact HAll.out _ hS0)
    clear hK K hHeld
    have hHeld := hHeld2
    clear hHeld2
    (try simp only [Act.put, List.setIfInBounds_toArray, List.set_cons_zero, List.set_cons_succ])
    refine wpAnyH_take (i := 6) (oi := { dst := some 5, op := Go.Op.assign (Go.Operand.tmp 60), type := 31, pos := "l08_static.go:129", after := #[{ on := 4, ground := Go.Ground.data }, { on := 5, ground := Go.Ground.chain }, { on := 0, ground := Go.Ground.phase }, { on := 1, ground := Go.Ground.phase }, { on := 2, ground := Go.Ground.phase }, { on := 3, ground := Go.Ground.phase }, { on := 4, ground := Go.Ground.phase }, { on := 5, ground := Go.Ground.phase }], guard := none }) (v := ?_) rfl (by kernel_rfl) (by kernel_rfl) (by kernel_rfl) (fun _ _ _ h => h) (Or.inl ⟨by rfl, ?yld10⟩) hHeld ?nxt10
    case yld10 => (intro w hSw; (try dsimp only at hSw); go_simp) <;> with_reducible rfl
    (try simp only [Act.put, List.setIfInBounds_toArray, List.set_cons_zero, List.set_cons_succ])
    refine wpAnyH_done (by kernel_rfl) ?_ _
    have HBL := hid (hHeld.1.below HBW.out (Nat.le_refl _))
    clear hHeld hS0 HAll
    go_wp2_with fail
    refine bodyPost_ret (v := .tuple #[lkv ((r0, r1, r2), r3, r4), .slice (some ⟨b, o + 3, none⟩) r.length (cap - 1)]) (by simp [results, Tryz.results56, go_sem, y0, y1, y2, y3, y4]) rfl ⟨⟨_, _, rfl, HP1.out, by omega⟩, HBL.out⟩
end Go.Proofs.YtaofdckdmffaiaaGreatDoor.StaI
/- What can come of the expression at the head, by the program. -/
namespace Go.Proofs.YtaofdckdmffaiaaGreatDoor.StaI
open Go.RowKit
open PrtW PrtM PrtS PrtI TexM ItmW ItmM FrmM StaM StaS

set_option maxRecDepth 10000 in
set_option maxHeartbeats 3200000 in
theorem impl_head (la : Option Addr) (lcap : Nat) (ls : List It) (hfo : formB ls = true) (w0 : World) : ∀ (d : Nat) (l r : List Pt) (a : Option Addr) (cap : Nat) (w : World), Below w0.heap.size w0 w → behind d l = some r → l.length ≤ 20 → Uses ls l → Parts w0 a l → l.length ≤ cap → EnvS w → Its w la ls →
    Calls Tryz.prog 56 #[.slice la ls.length lcap, .slice a l.length cap] w fun e w' => (∃ a' cap', e = .returned (.tuple #[lkv (lk ls d l), .slice a' r.length cap']) ∧ Parts w0 a' r ∧ r.length ≤ cap') ∧ Below w.heap.size w w' := by
  intro d
  induction d with
  | zero => intro l r a cap w _ h; cases h
  | succ d ih =>
    intro l r a cap w hw0 hbd hlen hus hP hcap hE hL
    have HI := hid ih
    clear ih
    cases l with
    | nil => cases hbd
    | cons p q =>
    obtain ⟨b, o, x, n, t, rfl, hb, hg, hf, c0, c1, c2⟩ := parts_at (hP.on hw0) (show 0 < (p :: q).length by simp)
    have hpe : p = (x, n, t) := hg
    subst hpe
    obtain ⟨hp, hcs⟩ := behind_cases hbd
    have hin := part_in hp
    obtain ⟨k, rfl⟩ : ∃ k : Nat, x = k := ⟨x.toNat, by omega⟩
    have hl1 : ((((k : Int), n, t) :: q).length : Nat) = q.length + 1 := by simp
    simp only at hcs
    rcases hcs with ⟨h0, rfl⟩ | ⟨h0, hb1⟩ | ⟨h0, r1, hb1, hb2⟩
    · rw [hl1] at hlen hcap ⊢
      rw [show lk ls (d + 1) (((k : Int), n, t) :: r) = leafO ls ((k : Int), n, t) by rw [lk_succ, if_pos h0]]
      exact head_leaf la lcap ls k n t r b o cap w0 w hw0 hp h0 hP hcap hlen hE hL
    all_goals
      simp only [Nat.zero_mul, Nat.add_zero] at c0 c1 c2
      have hk13 : k < 14 := by omega
      have hk13' : (k : Int) < 14 := by omega
      have HP1 := hid (parts_tail hP b o rfl)
      rw [hl1] at hlen hcap ⊢
      obtain ⟨e0, e1, e2, e3, e4, e5, e6⟩ := hE.2 k hk13
      have hg0 := hE.1
      have hg1 : 0 < w.heap.size := by omega
      have hg2 : 1 < w.heap.size + 1 := by omega
      have hmi := many_inner k (by omega) (by omega)
      rw [h0] at hmi
      rw [← hmi] at e1
      clear hmi
      have HW0 := hid hw0
      have HE := hid hE
      have HL := hid hL
      have HUt := hid hus.tail
      have hR := (R5.new w (z0, false, false)).alloc (.cells #[.int .i64 (k : Int), .int .i64 n, .string t] 56)
      have hq0 := P3.new (w.alloc (.cells #[.int .i64 0, .int .i64 0, .bool false, .bool false, .bool false] 59)) (k : Int) n t
      unfold lko z0 at hR
      dsimp only at hR
      simp only [World.size_alloc] at hq0
      have HR := hid hR
      have HQ := hid hq0
      have HBW : Hid (Below w.heap.size w ((w.alloc (.cells #[.int .i64 0, .int .i64 0, .bool false, .bool false, .bool false] 59)).alloc (.cells #[.int .i64 (k : Int), .int .i64 n, .string t] 56))) := by show Below _ _ _; go_grown
      clear hR hq0 hus
    · have hq := (behind_suffix _ _ _ hb1).2
      have hcn : ¬ cap = 1 := by omega
      have hql : q.length ≤ 20 := by omega
      have hqc : q.length ≤ cap - 1 := by omega
      obtain ⟨s, hs⟩ : ∃ s, Hid (lk ls d q = s) := ⟨_, rfl⟩
      obtain ⟨⟨s0, s1, s2⟩, s3, s4⟩ := s
      rw [show lk ls (d + 1) (((k : Int), n, t) :: q) = (z0, s4, s3) by rw [lk_succ, if_neg (by rw [h0]; decide), if_pos h0, hs.out]]
      unfold z0
      have HB1 := hid hb1
      clear hbd hP hE hL hf hg hp hb1 hw0 HQ
      go_enter Tryz.func56, Tryz.ntmps56
      go_wp2_with fail
      refine (HI.out q r _ _ _ (HW0.out.trans (HBW.out.mono HW0.out.size)) HB1.out hql HUt.out HP1.out hqc (HE.out.on HBW.out) (HL.out.on HBW.out)).mono ?_
      rintro e w2 ⟨⟨a', cap', rfl, hP3, hc3⟩, hB2⟩
      rw [hs.out]
      have HW2 : Hid (Below w.heap.size w w2) := HBW.out.trans (hB2.mono HBW.out.size)
      have HR2 := hid (HR.out.on hB2)
      have HP3 := hid hP3
      clear hB2 HR HBW hP3 e0 e1 e2 e3 e4 e5 e6 c0 c1 c2
      have hlt := HR2.out.lt
      obtain ⟨x0, x1, x2, x3, x4, xf⟩ := HR2.out.cells
      dsimp only at x0 x1 x2 x3 x4
      go_wp2_with fail
      refine bodyPost_ret (v := .tuple #[lkv ((0, 0, false), s4, s3), .slice a' r.length cap']) (by simp [results, Tryz.results56, go_sem, x0, x1, x2, x3, x4, hlt]) rfl ⟨⟨_, _, rfl, HP3.out, hc3⟩, ?_⟩
      repeat (first | refine Below.setCell ?_ (by simp) _ | refine Below.alloc ?_ (by have := HW2.out.size; simp; omega) _)
      exact HW2.out
    · have hq := (behind_suffix _ _ _ hb1).2
      have hq2 := (behind_suffix _ _ _ hb2).2
      have hcn : ¬ cap = 1 := by omega
      have hql : q.length ≤ 20 := by omega
      have hql2 : r1.length ≤ 20 := by omega
      have hqc : q.length ≤ cap - 1 := by omega
      have hk310 := many_two h0
      obtain ⟨rr, hrr⟩ : ∃ rr, Hid (lk ls (d + 1) (((k : Int), n, t) :: q) = rr) := ⟨_, rfl⟩
      rw [hrr.out]
      obtain ⟨s, hs⟩ : ∃ s, Hid (lk ls d q = s) := ⟨_, rfl⟩
      obtain ⟨s', hs'⟩ : ∃ s', Hid (lk ls d r1 = s') := ⟨_, rfl⟩
      have HTw : Hid (joinO (k : Int) s s' = rr) := by
        show _ = _
        rw [← hrr.out, ← hs.out, ← hs'.out, lk_succ, if_neg (by rw [h0]; decide), if_neg (by rw [h0]; decide)]
        rw [show rest d q = r1 by unfold rest; rw [hb1]; rfl]
      have HO1 : Hid (okS s.1) := by show okS _; rw [← hs.out]; exact lk_ok hfo _ _ _ hb1 HUt.out
      have HU2 := hid (HUt.out.suffix (behind_suffix _ _ _ hb1).1)
      have HO2 : Hid (okS s'.1) := by show okS _; rw [← hs'.out]; exact lk_ok hfo _ _ _ hb2 HU2.out
      have HB1 := hid hb1
      have HB2 := hid hb2
      obtain ⟨⟨r0, r1', r2⟩, r3, r4⟩ := rr
      obtain ⟨⟨s0, s1, s2⟩, s3, s4⟩ := s
      obtain ⟨⟨t0, t1, t2⟩, t3, t4⟩ := s'
      clear hbd hP hE hL hf hg hp hb1 hb2 hrr hw0 h0
      go_enter Tryz.func56, Tryz.ntmps56
      go_wp2_with fail
      refine (HI.out q r1 _ _ _ (HW0.out.trans (HBW.out.mono HW0.out.size)) HB1.out hql HUt.out HP1.out hqc (HE.out.on HBW.out) (HL.out.on HBW.out)).mono ?_
      rintro e w2 ⟨⟨a', cap', rfl, hP3, hc3⟩, hB2⟩
      rw [hs.out]
      have HW2 : Hid (Below w.heap.size w w2) := HBW.out.trans (hB2.mono HBW.out.size)
      have HR2 := hid (HR.out.on hB2)
      have HQ2 := hid (HQ.out.on hB2)
      have HP3 := hid hP3
      clear hB2 HR HQ hP3 e0 e1 e2 e3 e4 e5 e6 c0 c1 c2 HBW
      go_wp2_with fail
      have hb2 : Below w2.heap.size w2 (w2.alloc (.cells #[.int .i64 s0, .int .i64 s1, .bool s2, .bool s3, .bool s4] 59)) := ItmS.below_one w2 _
      refine (HI.out r1 r a' cap' _ (HW0.out.trans ((HW2.out.trans (hb2.mono HW2.out.size)).mono HW0.out.size)) HB2.out hql2 HU2.out HP3.out hc3 ((HE.out.on HW2.out).on hb2) ((HL.out.on HW2.out).on hb2)).mono ?_
      rintro e w3 ⟨⟨a4, cap4, rfl, hP4, hc4⟩, hB3⟩
      rw [hs'.out]
      have hb3 : Below w2.heap.size w2 w3 := hb2.trans (hB3.mono hb2.size)
      have HW3 : Hid (Below w.heap.size w w3) := HW2.out.trans (hb3.mono HW2.out.size)
      have HR3 := hid (HR2.out.on hb3)
      have HQ3 := hid (HQ2.out.on hb3)
      have HA3 : Hid (R5 w3 w2.heap.size ((s0, s1, s2), s3, s4)) := (R5.new w2 ((s0, s1, s2), s3, s4)).on hB3
      have HP4 := hid hP4
      clear hB3 hb3 hb2 hP4 HR2 HQ2 HW2 HP3
      generalize hg9 : w2.heap.size = g9 at *
      clear hg9
      obtain ⟨q0, q1, q2⟩ := HQ3.out.cells
      have hql3 := HQ3.out.lt
      obtain ⟨a0, a1, a2, a3, a4', af⟩ := HA3.out.cells
      have hal := HA3.out.lt
      dsimp only at a0 a1 a2 a3 a4'
      go_wp2_with fail
      refine (impl_joined (k : Int) ((s0, s1, s2), s3, s4) ((t0, t1, t2), t3, t4) _ HO1.out HO2.out).mono ?_
      rintro e w4 ⟨rfl, hB4⟩
      rw [HTw.out]
      have hb4 : Below w3.heap.size w3 w4 := (ItmS.below_one w3 _).trans (hB4.mono (by simp))
      have HW4 : Hid (Below w.heap.size w w4) := HW3.out.trans (hb4.mono HW3.out.size)
      obtain ⟨x0, x1, x2, x3, x4, xf⟩ := (HR3.out.on hb4).cells
      dsimp only at x0 x1 x2 x3 x4
      clear hB4 hb4 q0 q1 q2 a0 a1 a2 a3 a4' af HA3 HQ3 HR3
      go_wp2_with fail
      refine bodyPost_ret (v := .tuple #[lkv ((r0, r1', r2), r3, r4), .slice a4 r.length cap4]) (by simp [results, Tryz.results56, go_sem, x0, x1, x2, x3, x4]) rfl ⟨⟨_, _, rfl, HP4.out, hc4⟩, ?_⟩
      repeat (refine Below.setCell ?_ (by simp) _)
      exact HW4.out
end Go.Proofs.YtaofdckdmffaiaaGreatDoor.StaI
/- SpanOf, CanBe and CanNot of the program. -/
namespace Go.Proofs.YtaofdckdmffaiaaGreatDoor.StaI
open Go.RowKit
open PrtW PrtM PrtS PrtI TexM ItmW ItmM FrmM StaM StaS
open FrmI (EnvF ErrIs nameNew nn_empty)
open ItmI (tellsI)

/-- what the program makes of a form and an expression that is to tell so -/
def outF (ls : List It) (ps : List Pt) (y : Int) : Lk := if rightFX ls ps = true ∧ tellsI ps = y then lk ls 6 ps else (z0, false, false)
theorem tells_num {ps : List Pt} : tellsI ps = 1 ↔ rightB ps = true ∧ truthB ps = false := by
  unfold tellsI
  cases ht : truthB ps
  · cases hr : rightB ps <;> simp
  · simp
theorem tells_truth {ps : List Pt} : tellsI ps = 2 ↔ truthB ps = true := by
  unfold tellsI
  cases ht : truthB ps
  · cases hr : rightB ps <;> simp
  · simp
theorem fx_right {ls : List It} {ps : List Pt} (h : rightFX ls ps = true) : rightB ps = true := (fx_form h).2.1
theorem out_span (ls : List It) (ps : List Pt) : (outF ls ps 1).1 = spanR ls ps := by
  unfold outF spanR
  by_cases h : rightFX ls ps = true ∧ truthB ps = false
  · rw [if_pos h, if_pos ⟨h.1, tells_num.2 ⟨fx_right h.1, h.2⟩⟩]
  · rw [if_neg h, if_neg (fun a => h ⟨a.1, (tells_num.1 a.2).2⟩)]
theorem out_can (ls : List It) (ps : List Pt) : (outF ls ps 2).2.1 = canR ls ps := by
  unfold outF canR
  by_cases h : rightFX ls ps = true ∧ truthB ps = true
  · rw [if_pos h, if_pos ⟨h.1, tells_truth.2 h.2⟩]
  · rw [if_neg h, if_neg (fun a => h ⟨a.1, tells_truth.1 a.2⟩)]
theorem out_canNot (ls : List It) (ps : List Pt) : (outF ls ps 2).2.2 = canNotR ls ps := by
  unfold outF canNotR
  by_cases h : rightFX ls ps = true ∧ truthB ps = true
  · rw [if_pos h, if_pos ⟨h.1, tells_truth.2 h.2⟩]
  · rw [if_neg h, if_neg (fun a => h ⟨a.1, tells_truth.1 a.2⟩)]

set_option maxRecDepth 10000 in
set_option maxHeartbeats 1600000 in
theorem impl_outlook (la : Option Addr) (lcap : Nat) (ls : List It) (a : Option Addr) (cap : Nat) (ps : List Pt) (y : Int) (hy : y = 1 ∨ y = 2) (w : World) (hL : Its w la ls) (hlc : ls.length ≤ lcap) (hP : Parts w a ps) (hpc : ps.length ≤ cap) (hE : EnvF w) :
    Calls Tryz.prog 36 #[.slice la ls.length lcap, .slice a ps.length cap, .int .i64 y] w fun e w' => e = .returned (lkv (outF ls ps y)) ∧ Below w.heap.size w w' := by
  have HP := hid hP
  have HL := hid hL
  have HE := hid hE
  clear hP hL hE
  obtain ⟨r, hr⟩ : ∃ r, Hid (outF ls ps y = r) := ⟨_, rfl⟩
  rw [hr.out]
  obtain ⟨⟨r0, r1, r2⟩, r3, r4⟩ := r
  have hz : ¬ (rightFX ls ps = true ∧ tellsI ps = y) → r0 = 0 ∧ r1 = 0 ∧ r2 = false ∧ r3 = false ∧ r4 = false := fun h => by
    have h1 := hr.out
    unfold outF z0 at h1
    rw [if_neg h] at h1
    injection h1 with h2 h3
    injection h2 with h2 h4
    injection h4 with h4 h5
    injection h3 with h3 h6
    exact ⟨h2.symm, h4.symm, h5.symm, h3.symm, h6.symm⟩
  have HB0 : Hid (Below w.heap.size w (w.alloc (.cells #[.int .i64 0, .int .i64 0, .bool false, .bool false, .bool false] 59))) := ItmS.below_one w _
  have HR0 := hid (R5.new w (z0, false, false))
  unfold lko z0 at HR0
  dsimp only at HR0
  obtain ⟨f, hf⟩ : ∃ f, Hid (formB ls = f) := ⟨_, rfl⟩
  obtain ⟨g, hg⟩ : ∃ g, Hid (tellsI ps = g) := ⟨_, rfl⟩
  obtain ⟨u, hu⟩ : ∃ u, Hid (usesB ls ls.length ps = u) := ⟨_, rfl⟩
  go_enter Tryz.func36, Tryz.ntmps36
  go_wp2_with fail
  refine (FrmI.impl_form la lcap ls _ (HL.out.on HB0.out) hlc (HE.out.on HB0.out)).mono ?_
  rintro e w1 ⟨rfl, hB1⟩
  rw [hf.out]
  have HB1 : Hid (Below w.heap.size w w1) := HB0.out.trans (hB1.mono HB0.out.size)
  have HR1 := hid (HR0.out.on hB1)
  clear hB1 HR0 HB0
  cases f
  · obtain ⟨rfl, rfl, rfl, rfl, rfl⟩ := hz (fun h => by have := (fx_form h.1).1; rw [hf.out] at this; cases this)
    clear hz hr
    obtain ⟨x0, x1, x2, x3, x4, xf⟩ := HR1.out.cells
    dsimp only at x0 x1 x2 x3 x4
    go_wp2_with fail
    refine bodyPost_ret (v := lkv ((0, 0, false), false, false)) (by simp [results, Tryz.results36, go_sem, x0, x1, x2, x3, x4]) rfl ⟨rfl, ?_⟩
    repeat (refine Below.setCell ?_ (by simp) _)
    exact HB1.out
  go_wp2_with fail
  refine (ItmI.expr_tells a cap ps _ (HP.out.on HB1.out) hpc (HE.out.1.1.on HB1.out)).mono ?_
  rintro e w2 ⟨rfl, hB2⟩
  rw [hg.out]
  have HB2 : Hid (Below w.heap.size w w2) := HB1.out.trans (hB2.mono HB1.out.size)
  have HR2 := hid (HR1.out.on hB2)
  clear hB2 HR1 HB1
  by_cases hgy : g = y
  · subst hgy
    have hri : rightB ps = true := by
      rcases hy with e | e
      · exact (tells_num.1 (hg.out.trans e)).1
      · have := tells_truth.1 (hg.out.trans e)
        unfold truthB at this
        rw [Bool.and_eq_true] at this
        exact this.1
    have HRi := hid hri
    clear hri
    go_wp2_with fail
    refine (FrmI.not_behind la lcap ls 0 ByteArray.empty 0 0 0 ByteArray.empty a cap ps false w2 (HL.out.on HB2.out) (fun i hi => (behind_at ((form_at hf.out).2.1 i hi)).1) (HP.out.on HB2.out) (FrmI.right_all HRi.out) (HE.out.on HB2.out)).mono ?_
    rintro e w3 ⟨⟨v, rfl, hv⟩, hB3⟩
    rw [nn_empty (by rw [ByteArray.toList_eq]; rfl), Bool.true_and, hu.out] at hv
    have HB3 : Hid (Below w.heap.size w w3) := HB2.out.trans (hB3.mono HB2.out.size)
    have HR3 := hid (HR2.out.on hB3)
    clear hB3 HR2
    rcases hv with ⟨rfl, rfl⟩ | ⟨rfl, tp, pe, rfl⟩
    · have hfx : rightFX ls ps = true := by rw [fx_yes hf.out HRi.out]; exact hu.out
      have HQ : Hid (lk ls 6 ps = ((r0, r1, r2), r3, r4)) := by show _ = _; rw [← hr.out]; unfold outF; rw [if_pos ⟨hfx, hg.out⟩]
      obtain ⟨h20, hbh⟩ := right_behind HRi.out
      have HBh := hid hbh
      clear hz hr hbh hfx
      go_wp2_with fail
      refine (impl_head la lcap ls hf.out w3 6 ps [] a cap w3 (Below.refl _ _) HBh.out h20 (uses_of hu.out) (HP.out.on HB3.out) hpc (HE.out.1.1.on HB3.out) (HL.out.on HB3.out)).mono ?_
      rintro e w4 ⟨⟨a', cap', rfl, -, -⟩, hB4⟩
      rw [HQ.out]
      have HB4 : Hid (Below w.heap.size w w4) := HB3.out.trans (hB4.mono HB3.out.size)
      have HR4 := hid (HR3.out.on hB4)
      clear hB4 HR3
      obtain ⟨x0, x1, x2, x3, x4, xf⟩ := HR4.out.cells
      have hrl := HR4.out.lt
      dsimp only at x0 x1 x2 x3 x4
      go_wp2_with fail
      refine bodyPost_ret (v := lkv ((r0, r1, r2), r3, r4)) (by simp [results, Tryz.results36, go_sem, x0, x1, x2, x3, x4, hrl]) rfl ⟨rfl, ?_⟩
      repeat (first | refine Below.setCell ?_ (by simp) _ | refine Below.alloc ?_ (by have := HB4.out.size; simp; omega) _)
      exact HB4.out
    · obtain ⟨rfl, rfl, rfl, rfl, rfl⟩ := hz (fun h => by have := (fx_form h.1).2.2; rw [hu.out] at this; cases this)
      clear hz hr
      obtain ⟨x0, x1, x2, x3, x4, xf⟩ := HR3.out.cells
      dsimp only at x0 x1 x2 x3 x4
      go_wp2_with fail
      refine bodyPost_ret (v := lkv ((0, 0, false), false, false)) (by simp [results, Tryz.results36, go_sem, x0, x1, x2, x3, x4]) rfl ⟨rfl, ?_⟩
      repeat (refine Below.setCell ?_ (by simp) _)
      exact HB3.out
  · obtain ⟨rfl, rfl, rfl, rfl, rfl⟩ := hz (fun h => hgy (hg.out.symm.trans h.2))
    have hne : (g != y) = true := by simpa using hgy
    clear hz hr
    obtain ⟨x0, x1, x2, x3, x4, xf⟩ := HR2.out.cells
    dsimp only at x0 x1 x2 x3 x4
    go_wp2_with fail
    refine bodyPost_ret (v := lkv ((0, 0, false), false, false)) (by simp [results, Tryz.results36, go_sem, x0, x1, x2, x3, x4]) rfl ⟨rfl, ?_⟩
    repeat (refine Below.setCell ?_ (by simp) _)
    exact HB2.out

theorem fld0 (a b : Int) (c d e : Bool) (W : World) : (Instr.field 59 (.agg #[.int .i64 a, .int .i64 b, .bool c, .bool d, .bool e]) 0).run Tryz.prog W = .ok (.agg #[.int .i64 a, .int .i64 b, .bool c]) W := by kernel_rfl
theorem fld1 (a b : Int) (c d e : Bool) (W : World) : (Instr.field 59 (.agg #[.int .i64 a, .int .i64 b, .bool c, .bool d, .bool e]) 1).run Tryz.prog W = .ok (.bool d) W := by kernel_rfl
theorem fld2 (a b : Int) (c d e : Bool) (W : World) : (Instr.field 59 (.agg #[.int .i64 a, .int .i64 b, .bool c, .bool d, .bool e]) 2).run Tryz.prog W = .ok (.bool e) W := by kernel_rfl
set_option maxRecDepth 10000 in
set_option maxHeartbeats 800000 in
theorem impl_span_of (la : Option Addr) (lcap : Nat) (ls : List It) (a : Option Addr) (cap : Nat) (ps : List Pt) (w : World) (hL : Its w la ls) (hlc : ls.length ≤ lcap) (hP : Parts w a ps) (hpc : ps.length ≤ cap) (hE : EnvF w) :
    Calls Tryz.prog 13 #[.slice la ls.length lcap, .slice a ps.length cap] w fun e w' => e = .returned (spv (spanR ls ps)) ∧ Below w.heap.size w w' := by
  rw [← out_span]
  obtain ⟨r, hr⟩ : ∃ r, Hid (outF ls ps 1 = r) := ⟨_, rfl⟩
  rw [hr.out]
  obtain ⟨⟨r0, r1, r2⟩, r3, r4⟩ := r
  have HB0 : Hid (Below w.heap.size w (w.alloc (.cells #[.int .i64 0, .int .i64 0, .bool false] 27))) := ItmS.below_one w _
  have HR0 := hid (R3.new w z0)
  unfold z0 at HR0
  dsimp only at HR0
  have HO := hid (impl_outlook la lcap ls a cap ps 1 (.inl rfl) _ (hL.on HB0.out) hlc (hP.on HB0.out) hpc (hE.on HB0.out))
  have hf0 := fld0
  clear hL hP hE
  go_enter Tryz.func13, Tryz.ntmps13
  go_wp2_with fail
  refine HO.out.mono ?_
  rintro e w1 ⟨rfl, hB1⟩
  rw [hr.out]
  have HB1 : Hid (Below w.heap.size w w1) := HB0.out.trans (hB1.mono HB0.out.size)
  obtain ⟨x0, x1, x2, xf⟩ := (HR0.out.on hB1).cells
  dsimp only at x0 x1 x2
  clear hB1
  go_wp2_with fail
  refine bodyPost_ret (v := spv (r0, r1, r2)) (by simp [results, Tryz.results13, go_sem, x0, x1, x2]) rfl ⟨rfl, ?_⟩
  repeat (refine Below.setCell ?_ (by simp) _)
  exact HB1.out
set_option maxRecDepth 10000 in
set_option maxHeartbeats 800000 in
theorem impl_can_be (la : Option Addr) (lcap : Nat) (ls : List It) (a : Option Addr) (cap : Nat) (ps : List Pt) (w : World) (hL : Its w la ls) (hlc : ls.length ≤ lcap) (hP : Parts w a ps) (hpc : ps.length ≤ cap) (hE : EnvF w) :
    Calls Tryz.prog 18 #[.slice la ls.length lcap, .slice a ps.length cap] w fun e w' => e = .returned (.bool (canR ls ps)) ∧ Below w.heap.size w w' := by
  rw [← out_can]
  obtain ⟨r, hr⟩ : ∃ r, Hid (outF ls ps 2 = r) := ⟨_, rfl⟩
  rw [hr.out]
  obtain ⟨⟨r0, r1, r2⟩, r3, r4⟩ := r
  have HO := hid (impl_outlook la lcap ls a cap ps 2 (.inr rfl) _ hL hlc hP hpc hE)
  have hf1 := fld1
  clear hL hP hE
  go_enter Tryz.func18, Tryz.ntmps18
  go_wp2_with fail
  refine HO.out.mono ?_
  rintro e w1 ⟨rfl, hB1⟩
  rw [hr.out]
  have HB1 := hid hB1
  clear hB1
  go_wp2_with fail
  go_ret
  exact ⟨rfl, HB1.out⟩
set_option maxRecDepth 10000 in
set_option maxHeartbeats 800000 in
theorem impl_can_not (la : Option Addr) (lcap : Nat) (ls : List It) (a : Option Addr) (cap : Nat) (ps : List Pt) (w : World) (hL : Its w la ls) (hlc : ls.length ≤ lcap) (hP : Parts w a ps) (hpc : ps.length ≤ cap) (hE : EnvF w) :
    Calls Tryz.prog 20 #[.slice la ls.length lcap, .slice a ps.length cap] w fun e w' => e = .returned (.bool (canNotR ls ps)) ∧ Below w.heap.size w w' := by
  rw [← out_canNot]
  obtain ⟨r, hr⟩ : ∃ r, Hid (outF ls ps 2 = r) := ⟨_, rfl⟩
  rw [hr.out]
  obtain ⟨⟨r0, r1, r2⟩, r3, r4⟩ := r
  have HO := hid (impl_outlook la lcap ls a cap ps 2 (.inr rfl) _ hL hlc hP hpc hE)
  have hf2 := fld2
  clear hL hP hE
  go_enter Tryz.func20, Tryz.ntmps20
  go_wp2_with fail
  refine HO.out.mono ?_
  rintro e w1 ⟨rfl, hB1⟩
  rw [hr.out]
  have HB1 := hid hB1
  clear hB1
  go_wp2_with fail
  go_ret
  exact ⟨rfl, HB1.out⟩
end Go.Proofs.YtaofdckdmffaiaaGreatDoor.StaI
