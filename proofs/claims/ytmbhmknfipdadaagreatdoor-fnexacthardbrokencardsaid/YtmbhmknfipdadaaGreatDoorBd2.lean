/- Texts of ours, laid together. -/
import Derived.RangeFuncWrites
namespace Go.Proofs.YtmbhmknfipdadaaGreatDoor.RngW
open Go Go.RowKit
variable {F : Fence} {n : Nat} {P : Program}
def rcd (fn : FuncId) (tmps : Array Value) (ps : Array Tmp) (assign body : Code) (D : Nat) (st : LoopState) (pe : Option Code) : Loop := { state := st, pending := pe, fn, tmps, params := ps, assign, body, defers := D }
def RecL (fn : FuncId) (tmps : Array Value) (ps : Array Tmp) (assign body : Code) (l D : Nat) (st : LoopState) (pe : Option Code) (W : World) : Prop :=
 W.heap[l]? = some (.loop (rcd fn tmps ps assign body D st pe)) ∧ W.heap[D]? = some (.deferred (some []))
section
variable {fn : FuncId} {tmps : Array Value} {ps : Array Tmp} {assign body : Code} {l D : Nat} {st st' : LoopState} {pe pe' : Option Code} {W W' : World}
theorem RecL.lt (h : RecL fn tmps ps assign body l D st pe W) : l < W.heap.size := (Array.getElem?_eq_some_iff.1 h.1).1
theorem RecL.of_blocks (h : RecL fn tmps ps assign body l D st pe W) (h1 : W'.heap[l]? = W.heap[l]?) (h2 : W'.heap[D]? = W.heap[D]?) : RecL fn tmps ps assign body l D st pe W' := ⟨h1.trans h.1, h2.trans h.2⟩
theorem RecL.put (h : RecL fn tmps ps assign body l D st pe W) (hne : D ≠ l) : RecL fn tmps ps assign body l D st' pe' (W.putObj l (.loop (rcd fn tmps ps assign body D st' pe'))) :=
 ⟨World.putObj_heap_same h.lt, (World.putObj_heap_other hne).trans h.2⟩
end
theorem range_at {g : Operand} {ps : Array Tmp} {assign body : Code} {Q : Exit → Act → World → Prop} {a : Act} {w : World}
  (hro : F.round = none) (h1 : 1 ≤ n) {gf : Nat} {lb : Array Value} (hg : a.eval g = .func (.func gf) #[] lb) (hFg : F.fn gf) (eg : ∀ args w, (callFunc gf args).run P w = .ok (.enter gf args) w)
  (Qd : World → Prop) (Qx : Code → World → Prop)
  (hcall : ∀ (fn : FuncId) (W : World), F.fn fn → W.heap.size = w.heap.size + 2 → Below w.heap.size w W → RecL fn a.tmps ps assign body (w.heap.size + 1) w.heap.size .ready none W →
   CallsIn F (n - 1) P gf (#[.func (.yield (w.heap.size + 1)) #[] #[]] ++ lb) W fun e W' => (∃ v, e = .returned v) ∧
    ((RecL fn a.tmps ps assign body (w.heap.size + 1) w.heap.size .ready none W' ∧ Qd W') ∨ ∃ c, RecL fn a.tmps ps assign body (w.heap.size + 1) w.heap.size .done (some c) W' ∧ Qx c W'))
  (hdone : ∀ (W : World) (o : Obj), Qd W → (W.putObj (w.heap.size + 1) o).heap[w.heap.size]? = some (.deferred (some [])) → Q .normal { a with defers := { target := .collected w.heap.size, args := #[] } :: a.defers } (W.putObj (w.heap.size + 1) o))
  (hstop : ∀ (c : Code) (W : World) (o : Obj), Qx c W → (W.putObj (w.heap.size + 1) o).heap[w.heap.size]? = some (.deferred (some [])) → c.wpIn F n P Q { a with defers := { target := .collected w.heap.size, args := #[] } :: a.defers } (W.putObj (w.heap.size + 1) o)) :
  (Code.rangeFunc g ps assign body).wpIn F n P Q a w := by
 refine wpIn_rangeFunc (fun fn hfn => ?_)
 rw [hro]
 obtain ⟨W1, hW1⟩ : ∃ W1, (w.alloc (.deferred (some []))).alloc (.loop (rcd fn a.tmps ps assign body w.heap.size .ready none)) = W1 := ⟨_, rfl⟩
 have hB : Below w.heap.size w W1 := by
  rw [← hW1]; exact ((Below.refl _ w).alloc (Nat.le_refl _) _).alloc (by simp) _
 have hL : RecL fn a.tmps ps assign body (w.heap.size + 1) w.heap.size .ready none W1 := by
  have h2 := World.alloc_heap_new (w.alloc (.deferred (some []))) (.loop (rcd fn a.tmps ps assign body w.heap.size .ready none))
  rw [World.size_alloc, hW1] at h2
  exact ⟨h2, by rw [← hW1]; exact (Below.heap_alloc _ _ _ (by simp)).trans (World.alloc_heap_new w _)⟩
 have hS : W1.heap.size = w.heap.size + 2 := by rw [← hW1]; simp
 have hE : (Instr.enterLoop fn a.tmps ps assign body none).run P w = .ok (w.heap.size + 1, [{ target := .collected w.heap.size, args := #[] }]) W1 := by
  rw [← hW1]; exact run_enterLoop_outer _ _ _ _ _
 refine ⟨w.heap.size + 1, [{ target := .collected w.heap.size, args := #[] }], W1, { target := .fn (.func gf) lb, args := #[.func (.yield (w.heap.size + 1)) #[] #[]] }, W1, gf,
  #[.func (.yield (w.heap.size + 1)) #[] #[]] ++ lb, W1, hE, ?_, ?_, ?_, fun _ => h1, ?_⟩
 ·simp only [resolve, hg]
  simp [go_sem]
 ·intro f' hf'
  simp [Target.leads] at hf'
  subst hf'
  exact hFg
 ·simp [invoke, go_sem, eg]
 ·refine (hcall fn W1 hfn hS hB hL).mono ?_
  rintro e W2 ⟨⟨v, rfl⟩, (⟨hr, hd⟩ | ⟨c, hr, hx⟩)⟩
  ·exact ⟨none, _, run_endLoop hr.1 (by simp [rcd]), hdone _ _ hd ((World.putObj_heap_other (by omega)).trans hr.2)⟩
  ·exact ⟨some c, _, run_endLoop hr.1 (by simp [rcd]), hstop _ _ _ hx ((World.putObj_heap_other (by omega)).trans hr.2)⟩
theorem range_one {g : Operand} {ps : Array Tmp} {assign body : Code} {Q : Exit → Act → World → Prop} {a : Act} {w : World} (id : Nat)
  (hro : F.round = none) (h1 : 1 ≤ n) {gf : Nat} {lb : Array Value} (hg : a.eval g = .func (.func gf) #[] lb) (hFg : F.fn gf) (eg : ∀ args w, (callFunc gf args).run P w = .ok (.enter gf args) w)
  (Qd : World → Prop)
  (hcall : ∀ (fn : FuncId) (W : World), F.fn fn → W.heap.size = w.heap.size + 2 → Below w.heap.size w W → RecL fn a.tmps ps assign body (w.heap.size + 1) w.heap.size .ready none W →
   CallsIn F (n - 1) P gf (#[.func (.yield (w.heap.size + 1)) #[] #[]] ++ lb) W fun e W' => (∃ v, e = .returned v) ∧
    ((RecL fn a.tmps ps assign body (w.heap.size + 1) w.heap.size .ready none W' ∧ Qd W') ∨ (RecL fn a.tmps ps assign body (w.heap.size + 1) w.heap.size .done (some (.exit id)) W' ∧ Qd W')))
  (hex : ∀ a W, Q .normal a W → Q (.exit id) a W)
  (hgo : ∀ (W : World) (o : Obj), Qd W → (W.putObj (w.heap.size + 1) o).heap[w.heap.size]? = some (.deferred (some [])) → Q .normal { a with defers := { target := .collected w.heap.size, args := #[] } :: a.defers } (W.putObj (w.heap.size + 1) o)) :
  (Code.rangeFunc g ps assign body).wpIn F n P Q a w := by
 refine range_at hro h1 hg hFg eg Qd (fun c W => c = .exit id ∧ Qd W) (fun fn W hfn hS hB hL => (hcall fn W hfn hS hB hL).mono ?_) hgo (fun c W o h hD => ?_)
 ·rintro e W' ⟨hv, (h | h)⟩
  ·exact ⟨hv, .inl h⟩
  ·exact ⟨hv, .inr ⟨_, h.1, rfl, h.2⟩⟩
 ·obtain ⟨rfl, h⟩ := h
  exact wpIn_exit (hex _ _ (hgo W o h hD))
def RoundQ (fn : FuncId) (tmps : Array Value) (ps : Array Tmp) (assign body : Code) (l D : Nat) (R : Ending → World → Prop) : Exit → Act → World → Prop
 | .normal, _, W => RecL fn tmps ps assign body l D .busy none W ∧ R (.returned (.bool true)) (W.putObj l (.loop (rcd fn tmps ps assign body D .ready none)))
 | .ret, _, W => RecL fn tmps ps assign body l D .busy none W ∧ R (.returned (.bool false)) (W.putObj l (.loop (rcd fn tmps ps assign body D .done (some .ret))))
 | .exit id, _, W => RecL fn tmps ps assign body l D .busy none W ∧ R (.returned (.bool false)) (W.putObj l (.loop (rcd fn tmps ps assign body D .done (some (.exit id)))))
 | .goto t, _, W => RecL fn tmps ps assign body l D .busy none W ∧ R (.returned (.bool false)) (W.putObj l (.loop (rcd fn tmps ps assign body D .done (some (.goto t)))))
 | .panic _, _, _ => False
 | .outgrown, _, _ => False
theorem round_at {fn : FuncId} {tmps : Array Value} {ps : Array Tmp} {assign body : Code} {l D : Nat} {W : World} {args : Array Value} {R : Ending → World → Prop}
  (hfn : F.fn fn) (hps : args.size = ps.size) (hR : RecL fn tmps ps assign body l D .ready none W)
  (h : assign.wpIn (F.inRound l) n P (Exit.then (fun a₁ W2 => RecL fn tmps ps assign body l D .ready none W2 ∧ body.wpIn (F.inRound l) n P (RoundQ fn tmps ps assign body l D R) a₁ (W2.putObj l (.loop (rcd fn tmps ps assign body D .busy none)))) (fun _ _ _ => False))
   { tmps := (ps.zip args).foldl (fun t (p, v) => t.setIfInBounds p v) tmps, defers := [] } W) :
  YieldAt F n P l args W R := by
 refine ⟨fn, _, assign, body, run_yield hR.1 hps, roundIn_of_wpIn hfn (wpIn_mono h ?_)⟩
 intro e a1 W2 hq
 cases e with
 | normal =>
  refine ⟨_, run_beginRound hq.1.1 rfl, wpIn_mono hq.2 ?_⟩
  intro e a3 W3 hp
  cases e with
  | normal => exact ⟨_, _, run_endRound none hp.1.1, hp.2⟩
  | ret => exact ⟨_, _, run_endRound (some .ret) hp.1.1, hp.2⟩
  | exit id => exact ⟨_, _, run_endRound (some (.exit id)) hp.1.1, hp.2⟩
  | goto t => exact ⟨_, _, run_endRound (some (.goto t)) hp.1.1, hp.2⟩
  | panic ch => exact hp.elim
  | outgrown => exact hp.elim
 | exit id => exact hq.elim
 | goto t => exact hq.elim
 | ret => exact hq.elim
 | panic ch => exact hq.elim
 | outgrown => exact hq.elim
def RoundP (RL : LoopState → Option Code → World → Prop) (ob : LoopState → Option Code → Obj) (l : Nat) (R : Ending → World → Prop) : Exit → Act → World → Prop
 | .normal, _, W => RL .busy none W ∧ R (.returned (.bool true)) (W.putObj l (ob .ready none))
 | .ret, _, W => RL .busy none W ∧ R (.returned (.bool false)) (W.putObj l (ob .done (some .ret)))
 | .exit id, _, W => RL .busy none W ∧ R (.returned (.bool false)) (W.putObj l (ob .done (some (.exit id))))
 | .goto t, _, W => RL .busy none W ∧ R (.returned (.bool false)) (W.putObj l (ob .done (some (.goto t))))
 | .panic _, _, _ => False
 | .outgrown, _, _ => False
theorem round_at3 {fn : FuncId} {tmps : Array Value} {p : Tmp} {assign body : Code} {l D : Nat} {W : World} {v : Value} {R : Ending → World → Prop} (A : (LoopState → Option Code → World → Prop) → Ending → World → Prop)
  (hfn : F.fn fn) (hne : D ≠ l) (hR : RecL fn tmps #[p] assign body l D .ready none W) (hA : ∀ e W', A (fun st pe => RecL fn tmps #[p] assign body l D st pe) e W' → R e W')
  (h : ∀ (RL : LoopState → Option Code → World → Prop) (ob : LoopState → Option Code → Obj), RL .ready none W → (∀ st pe W W', RL st pe W → W'.heap[l]? = W.heap[l]? → W'.heap[D]? = W.heap[D]? → RL st pe W') → (∀ st pe st' pe' W, RL st pe W → RL st' pe' (W.putObj l (ob st' pe'))) →
   assign.wpIn (F.inRound l) n P (Exit.then (fun a₁ W2 => RL .ready none W2 ∧ body.wpIn (F.inRound l) n P (RoundP RL ob l (A RL)) a₁ (W2.putObj l (ob .busy none))) (fun _ _ _ => False)) { tmps := tmps.setIfInBounds p v, defers := [] } W) :
  YieldAt F n P l #[v] W R := by
 refine round_at hfn rfl hR ?_
 have e : ((#[p] : Array Tmp).zip #[v]).foldl (fun t (x : Tmp × Value) => t.setIfInBounds x.1 x.2) tmps = tmps.setIfInBounds p v := by simp
 have e2 : { tmps := ((#[p] : Array Tmp).zip #[v]).foldl (fun t (x : Tmp × Value) => t.setIfInBounds x.1 x.2) tmps, defers := [] } = ({ tmps := tmps.setIfInBounds p v, defers := [] } : Act) := by rw [e]
 refine e2 ▸ (wpIn_mono (h (fun st pe => RecL fn tmps #[p] assign body l D st pe) (fun st pe => .loop (rcd fn tmps #[p] assign body D st pe)) hR (fun st pe W W' h1 h2 h3 => h1.of_blocks h2 h3) (fun st pe st' pe' W h1 => h1.put hne)) ?_)
 intro e a W1 hq
 cases e with
 | normal =>
  refine ⟨hq.1, wpIn_mono hq.2 ?_⟩
  intro e a W2 hp
  cases e with
  | normal => exact ⟨hp.1, hA _ _ hp.2⟩
  | ret => exact ⟨hp.1, hA _ _ hp.2⟩
  | exit id => exact ⟨hp.1, hA _ _ hp.2⟩
  | goto t => exact ⟨hp.1, hA _ _ hp.2⟩
  | panic ch => exact hp
  | outgrown => exact hp
 | exit id => exact hq
 | goto t => exact hq
 | ret => exact hq
 | panic ch => exact hq
 | outgrown => exact hq
end Go.Proofs.YtmbhmknfipdadaaGreatDoor.RngW
