/- Texts of ours, laid together: ScopeMany, ScopeGhost. -/
import Derived.Scope
import Derived.ScopeJumps
/- A scope with several labels: what holds at each jump, and a measure that every pass from a label lowers. After the guide's own law for one label. No program is named here. -/
namespace Go.Proofs.YtecopedjjfimoaaGreatDoor.ScopeM
open Go

/-- As Q; by a goto to label l: J l. -/
def jumps (J : Nat → Act → World → Prop) (Q : Exit → Act → World → Prop) : Exit → Act → World → Prop
  | .goto l, a, w => J l a w
  | e, a, w => Q e a w

theorem jumps_goto (J : Nat → Act → World → Prop) (Q : Exit → Act → World → Prop) (l : Nat) (a : Act) (w : World) (h : J l a w) : jumps J Q (.goto l) a w := h
theorem jumps_ret (J : Nat → Act → World → Prop) (Q : Exit → Act → World → Prop) (a : Act) (w : World) : jumps J Q .ret a w = Q .ret a w := rfl

theorem wp_scope_many {P : Program} {a : Act} {w : World} {Q : Exit → Act → World → Prop} {c : Code} (R : Nat → Code) (J : Nat → Act → World → Prop) (μ : Nat → Act → World → Nat)
    (hf : ∀ l a w, J l a w → findLabel c l = some (R l))
    (first : c.wp P (jumps J Q) a w)
    (pass : ∀ l a w, J l a w → (R l).wp P (jumps (fun l' a' w' => J l' a' w' ∧ μ l' a' w' < μ l a w) Q) a w) : (Code.scope c).wp P Q a w := by
  intro b k cs
  have key : ∀ n l a w, μ l a w = n → J l a w → ∃ e a' w', Q e a' w' ∧ Arrives P (lone (b.at a (.code (R l) :: .inScope c :: k)) cs w) b k cs e a' w' := by
    intro n
    induction n using Nat.strongRecOn with
    | _ n ih =>
      intro l a w hn hJ
      obtain ⟨e, a₁, w₁, hq, harr⟩ := pass l a w hJ b (.inScope c :: k) cs
      cases e with
      | normal => exact ⟨.normal, a₁, w₁, hq, Steps.trans harr (.one step_inScope)⟩
      | exit id => exact ⟨.exit id, a₁, w₁, hq, fun k' hk => harr k' (by simp [exitTo, hk])⟩
      | goto l' =>
        obtain ⟨hJ', hlt⟩ := hq
        have hg : gotoIn l' (.inScope c :: k) = some (.code (R l') :: .inScope c :: k) := by simp [gotoIn, hf l' a₁ w₁ hJ']
        obtain ⟨e₂, a₂, w₂, hq₂, harr₂⟩ := ih _ (by omega) l' a₁ w₁ rfl hJ'
        exact ⟨e₂, a₂, w₂, hq₂, .of_steps (harr _ hg) harr₂⟩
      | ret => exact ⟨_, a₁, w₁, hq, harr⟩
      | panic ch => exact ⟨_, a₁, w₁, hq, harr⟩
      | outgrown => exact ⟨_, a₁, w₁, hq, harr⟩
  obtain ⟨e, a₁, w₁, hq, harr⟩ := first b (.inScope c :: k) cs
  cases e with
  | normal => exact ⟨.normal, a₁, w₁, hq, .head step_scope (Steps.trans harr (.one step_inScope))⟩
  | exit id => exact ⟨.exit id, a₁, w₁, hq, fun k' hk => .head step_scope (harr k' (by simp [exitTo, hk]))⟩
  | goto l' =>
    have hJ' : J l' a₁ w₁ := hq
    have hg : gotoIn l' (.inScope c :: k) = some (.code (R l') :: .inScope c :: k) := by simp [gotoIn, hf l' a₁ w₁ hJ']
    obtain ⟨e₂, a₂, w₂, hq₂, harr₂⟩ := key _ l' a₁ w₁ rfl hJ'
    exact ⟨e₂, a₂, w₂, hq₂, .of_steps (.head step_scope (harr _ hg)) harr₂⟩
  | ret => exact ⟨_, a₁, w₁, hq, .of_steps (.one step_scope) harr⟩
  | panic ch => exact ⟨_, a₁, w₁, hq, .of_steps (.one step_scope) harr⟩
  | outgrown => exact ⟨_, a₁, w₁, hq, .of_steps (.one step_scope) harr⟩

/-- three labels, 0, 1 and 2 -/
def three (J0 J1 J2 : Act → World → Prop) : Nat → Act → World → Prop
  | 0 => J0
  | 1 => J1
  | 2 => J2
  | _ => fun _ _ => False
def threeN (m0 m1 m2 : Act → World → Nat) : Nat → Act → World → Nat
  | 0 => m0
  | 1 => m1
  | 2 => m2
  | _ => fun _ _ => 0
def threeC (r0 r1 r2 : Code) : Nat → Code
  | 0 => r0
  | 1 => r1
  | _ => r2

theorem wp_mono_jumps {P : Program} {a : Act} {w : World} {Q : Exit → Act → World → Prop} {c : Code} {J J' : Nat → Act → World → Prop} (h : c.wp P (jumps J Q) a w) (hj : ∀ l a w, J l a w → J' l a w) : c.wp P (jumps J' Q) a w := by
  intro b k cs
  obtain ⟨e, a₁, w₁, hq, harr⟩ := h b k cs
  refine ⟨e, a₁, w₁, ?_, harr⟩
  cases e with
  | goto l => exact hj l a₁ w₁ hq
  | normal => exact hq
  | exit id => exact hq
  | ret => exact hq
  | panic ch => exact hq
  | outgrown => exact hq

theorem wp_scope_three {P : Program} {a : Act} {w : World} {Q : Exit → Act → World → Prop} {c r0 r1 r2 : Code} (J0 J1 J2 : Act → World → Prop) (m0 m1 m2 : Act → World → Nat)
    (h0 : findLabel c 0 = some r0) (h1 : findLabel c 1 = some r1) (h2 : findLabel c 2 = some r2)
    (first : c.wp P (jumps (three J0 J1 J2) Q) a w)
    (p0 : ∀ a w, J0 a w → r0.wp P (jumps (three (fun a' w' => J0 a' w' ∧ m0 a' w' < m0 a w) (fun a' w' => J1 a' w' ∧ m1 a' w' < m0 a w) (fun a' w' => J2 a' w' ∧ m2 a' w' < m0 a w)) Q) a w)
    (p1 : ∀ a w, J1 a w → r1.wp P (jumps (three (fun a' w' => J0 a' w' ∧ m0 a' w' < m1 a w) (fun a' w' => J1 a' w' ∧ m1 a' w' < m1 a w) (fun a' w' => J2 a' w' ∧ m2 a' w' < m1 a w)) Q) a w)
    (p2 : ∀ a w, J2 a w → r2.wp P (jumps (three (fun a' w' => J0 a' w' ∧ m0 a' w' < m2 a w) (fun a' w' => J1 a' w' ∧ m1 a' w' < m2 a w) (fun a' w' => J2 a' w' ∧ m2 a' w' < m2 a w)) Q) a w) :
    (Code.scope c).wp P Q a w := by
  refine wp_scope_many (threeC r0 r1 r2) (three J0 J1 J2) (threeN m0 m1 m2) ?_ first ?_
  · intro l a w hJ
    match l, hJ with
    | 0, _ => exact h0
    | 1, _ => exact h1
    | 2, _ => exact h2
    | _ + 3, hJ => exact absurd hJ id
  · have up : ∀ (n : Nat) l a' w', three (fun a' w' => J0 a' w' ∧ m0 a' w' < n) (fun a' w' => J1 a' w' ∧ m1 a' w' < n) (fun a' w' => J2 a' w' ∧ m2 a' w' < n) l a' w' →
        three J0 J1 J2 l a' w' ∧ threeN m0 m1 m2 l a' w' < n := by
      intro n l a' w' hj
      match l, hj with
      | 0, hj => exact hj
      | 1, hj => exact hj
      | 2, hj => exact hj
      | _ + 3, hj => exact absurd hj id
    intro l a w hJ
    match l, hJ with
    | 0, hJ => exact wp_mono_jumps (p0 a w hJ) (up _)
    | 1, hJ => exact wp_mono_jumps (p1 a w hJ) (up _)
    | 2, hJ => exact wp_mono_jumps (p2 a w hJ) (up _)
    | _ + 3, hJ => exact absurd hJ id
end Go.Proofs.YtecopedjjfimoaaGreatDoor.ScopeM
/- A scope with several labels: what holds at each jump, with a number of one's own that every pass from a label lowers. No program is named here. -/
namespace Go.Proofs.YtecopedjjfimoaaGreatDoor.ScopeM
open Go

theorem wp_scope_ghost {P : Program} {a : Act} {w : World} {Q : Exit → Act → World → Prop} {c : Code} (R : Nat → Code) (J : Nat → Nat → Act → World → Prop)
    (hf : ∀ l n a w, J l n a w → findLabel c l = some (R l))
    (first : c.wp P (jumps (fun l a w => ∃ n, J l n a w) Q) a w)
    (pass : ∀ l n a w, J l n a w → (R l).wp P (jumps (fun l' a' w' => ∃ n', n' < n ∧ J l' n' a' w') Q) a w) : (Code.scope c).wp P Q a w := by
  intro b k cs
  have key : ∀ n l a w, J l n a w → ∃ e a' w', Q e a' w' ∧ Arrives P (lone (b.at a (.code (R l) :: .inScope c :: k)) cs w) b k cs e a' w' := by
    intro n
    induction n using Nat.strongRecOn with
    | _ n ih =>
      intro l a w hJ
      obtain ⟨e, a₁, w₁, hq, harr⟩ := pass l n a w hJ b (.inScope c :: k) cs
      cases e with
      | normal => exact ⟨.normal, a₁, w₁, hq, Steps.trans harr (.one step_inScope)⟩
      | exit id => exact ⟨.exit id, a₁, w₁, hq, fun k' hk => harr k' (by simp [exitTo, hk])⟩
      | goto l' =>
        obtain ⟨n', hlt, hJ'⟩ := hq
        have hg : gotoIn l' (.inScope c :: k) = some (.code (R l') :: .inScope c :: k) := by simp [gotoIn, hf l' n' a₁ w₁ hJ']
        obtain ⟨e₂, a₂, w₂, hq₂, harr₂⟩ := ih n' hlt l' a₁ w₁ hJ'
        exact ⟨e₂, a₂, w₂, hq₂, .of_steps (harr _ hg) harr₂⟩
      | ret => exact ⟨_, a₁, w₁, hq, harr⟩
      | panic ch => exact ⟨_, a₁, w₁, hq, harr⟩
      | outgrown => exact ⟨_, a₁, w₁, hq, harr⟩
  obtain ⟨e, a₁, w₁, hq, harr⟩ := first b (.inScope c :: k) cs
  cases e with
  | normal => exact ⟨.normal, a₁, w₁, hq, .head step_scope (Steps.trans harr (.one step_inScope))⟩
  | exit id => exact ⟨.exit id, a₁, w₁, hq, fun k' hk => .head step_scope (harr k' (by simp [exitTo, hk]))⟩
  | goto l' =>
    obtain ⟨n', hJ'⟩ := hq
    have hg : gotoIn l' (.inScope c :: k) = some (.code (R l') :: .inScope c :: k) := by simp [gotoIn, hf l' n' a₁ w₁ hJ']
    obtain ⟨e₂, a₂, w₂, hq₂, harr₂⟩ := key n' l' a₁ w₁ hJ'
    exact ⟨e₂, a₂, w₂, hq₂, .of_steps (.head step_scope (harr _ hg)) harr₂⟩
  | ret => exact ⟨_, a₁, w₁, hq, .of_steps (.one step_scope) harr⟩
  | panic ch => exact ⟨_, a₁, w₁, hq, .of_steps (.one step_scope) harr⟩
  | outgrown => exact ⟨_, a₁, w₁, hq, .of_steps (.one step_scope) harr⟩

/-- four labels -/
def four (A B C D : Act → World → Prop) : Nat → Act → World → Prop
  | 0 => A
  | 1 => B
  | 2 => C
  | 3 => D
  | _ => fun _ _ => False
def fourN (A B C D : Nat → Act → World → Prop) : Nat → Nat → Act → World → Prop
  | 0 => A
  | 1 => B
  | 2 => C
  | 3 => D
  | _ => fun _ _ _ => False
def fourC (r0 r1 r2 r3 : Code) : Nat → Code
  | 0 => r0
  | 1 => r1
  | 2 => r2
  | _ => r3
theorem wp_after_skip {P : Program} {a : Act} {w : World} {Q : Exit → Act → World → Prop} {c : Code} (h : c.wp P Q a w) : (Code.seq .skip c).wp P Q a w := wp_seq (wp_skip h)

theorem wp_scope_four {P : Program} {a : Act} {w : World} {Q : Exit → Act → World → Prop} {c r0 r1 r2 r3 : Code} (J0 J1 J2 J3 : Nat → Act → World → Prop)
    (h0 : findLabel c 0 = some (.seq .skip r0)) (h1 : findLabel c 1 = some (.seq .skip r1)) (h2 : findLabel c 2 = some (.seq .skip r2)) (h3 : findLabel c 3 = some (.seq .skip r3))
    (p0 : ∀ n a w, J0 n a w → r0.wp P (jumps (four (fun a' w' => ∃ n', n' < n ∧ J0 n' a' w') (fun a' w' => ∃ n', n' < n ∧ J1 n' a' w') (fun a' w' => ∃ n', n' < n ∧ J2 n' a' w') (fun a' w' => ∃ n', n' < n ∧ J3 n' a' w')) Q) a w)
    (p1 : ∀ n a w, J1 n a w → r1.wp P (jumps (four (fun a' w' => ∃ n', n' < n ∧ J0 n' a' w') (fun a' w' => ∃ n', n' < n ∧ J1 n' a' w') (fun a' w' => ∃ n', n' < n ∧ J2 n' a' w') (fun a' w' => ∃ n', n' < n ∧ J3 n' a' w')) Q) a w)
    (p2 : ∀ n a w, J2 n a w → r2.wp P (jumps (four (fun a' w' => ∃ n', n' < n ∧ J0 n' a' w') (fun a' w' => ∃ n', n' < n ∧ J1 n' a' w') (fun a' w' => ∃ n', n' < n ∧ J2 n' a' w') (fun a' w' => ∃ n', n' < n ∧ J3 n' a' w')) Q) a w)
    (p3 : ∀ n a w, J3 n a w → r3.wp P (jumps (four (fun a' w' => ∃ n', n' < n ∧ J0 n' a' w') (fun a' w' => ∃ n', n' < n ∧ J1 n' a' w') (fun a' w' => ∃ n', n' < n ∧ J2 n' a' w') (fun a' w' => ∃ n', n' < n ∧ J3 n' a' w')) Q) a w)
    (first : (∀ n a w, J0 n a w → r0.wp P (jumps (four (fun a' w' => ∃ n', J0 n' a' w') (fun a' w' => ∃ n', J1 n' a' w') (fun a' w' => ∃ n', J2 n' a' w') (fun a' w' => ∃ n', J3 n' a' w')) Q) a w) →
      c.wp P (jumps (four (fun a' w' => ∃ n', J0 n' a' w') (fun a' w' => ∃ n', J1 n' a' w') (fun a' w' => ∃ n', J2 n' a' w') (fun a' w' => ∃ n', J3 n' a' w')) Q) a w) :
    (Code.scope c).wp P Q a w := by
  have lift : ∀ l a' w', four (fun a' w' => ∃ n', J0 n' a' w') (fun a' w' => ∃ n', J1 n' a' w') (fun a' w' => ∃ n', J2 n' a' w') (fun a' w' => ∃ n', J3 n' a' w') l a' w' → ∃ n, fourN J0 J1 J2 J3 l n a' w' := by
    intro l a' w' h
    match l, h with
    | 0, h => exact h
    | 1, h => exact h
    | 2, h => exact h
    | 3, h => exact h
    | _ + 4, h => exact absurd h id
  have lift2 : ∀ (n : Nat) l a' w', four (fun a' w' => ∃ n', n' < n ∧ J0 n' a' w') (fun a' w' => ∃ n', n' < n ∧ J1 n' a' w') (fun a' w' => ∃ n', n' < n ∧ J2 n' a' w') (fun a' w' => ∃ n', n' < n ∧ J3 n' a' w') l a' w' → ∃ n', n' < n ∧ fourN J0 J1 J2 J3 l n' a' w' := by
    intro n l a' w' h
    match l, h with
    | 0, h => exact h
    | 1, h => exact h
    | 2, h => exact h
    | 3, h => exact h
    | _ + 4, h => exact absurd h id
  have drop : ∀ (n : Nat) l a' w', four (fun a' w' => ∃ n', n' < n ∧ J0 n' a' w') (fun a' w' => ∃ n', n' < n ∧ J1 n' a' w') (fun a' w' => ∃ n', n' < n ∧ J2 n' a' w') (fun a' w' => ∃ n', n' < n ∧ J3 n' a' w') l a' w' →
      four (fun a' w' => ∃ n', J0 n' a' w') (fun a' w' => ∃ n', J1 n' a' w') (fun a' w' => ∃ n', J2 n' a' w') (fun a' w' => ∃ n', J3 n' a' w') l a' w' := by
    intro n l a' w' h
    match l, h with
    | 0, h => exact ⟨_, h.choose_spec.2⟩
    | 1, h => exact ⟨_, h.choose_spec.2⟩
    | 2, h => exact ⟨_, h.choose_spec.2⟩
    | 3, h => exact ⟨_, h.choose_spec.2⟩
    | _ + 4, h => exact absurd h id
  refine wp_scope_ghost (fourC (.seq .skip r0) (.seq .skip r1) (.seq .skip r2) (.seq .skip r3)) (fourN J0 J1 J2 J3) ?_ (wp_mono_jumps (first fun n a w h => wp_mono_jumps (p0 n a w h) (drop n)) lift) ?_
  · intro l n a w hJ
    match l, hJ with
    | 0, _ => exact h0
    | 1, _ => exact h1
    | 2, _ => exact h2
    | 3, _ => exact h3
    | _ + 4, hJ => exact absurd hJ id
  · intro l n a w hJ
    match l, hJ with
    | 0, hJ => exact wp_after_skip (wp_mono_jumps (p0 n a w hJ) (lift2 n))
    | 1, hJ => exact wp_after_skip (wp_mono_jumps (p1 n a w hJ) (lift2 n))
    | 2, hJ => exact wp_after_skip (wp_mono_jumps (p2 n a w hJ) (lift2 n))
    | 3, hJ => exact wp_after_skip (wp_mono_jumps (p3 n a w hJ) (lift2 n))
    | _ + 4, hJ => exact absurd hJ id
end Go.Proofs.YtecopedjjfimoaaGreatDoor.ScopeM
