/- Texts of ours, laid together. -/
import Derived.RegionTactic
import Derived.Test.YtmbhmknfipdadaaGreatDoorBd4
import Derived.Defers
import Derived.Recover
import Derived.Laws.Pointers
import Derived.BigRegion
import Derived.OpenShut
import Derived.Laws.MakeOwn
import Derived.Handy
import Derived.WalkSmall
namespace Go.Proofs.YtmbhmknfipdadaaGreatDoor.AnyO
open Go.RowKit
def more (L : Nat → Bool) (i : Nat) : Nat → Bool := fun j => j == i || L j
section
variable {P : Program} {ops : Array Oper} {Q : Exit → Act → World → Prop}
theorem ready_mem {md : Region.Mode} {listed : Array Bool} {i : Nat} (h : i ∈ Region.ready md ops listed) :
  ∃ o, ops[i]? = some o ∧ i < ops.size ∧ listed.getD i true = false ∧ ∀ e ∈ o.after, Region.binds md e = true → listed.getD e.on false = true := by
 unfold Region.ready at h
 obtain ⟨h1, h2⟩ := List.mem_filter.1 h
 have hi : i < ops.size := by simpa using h1
 rw [Array.getElem?_eq_getElem hi] at h2 ⊢
 refine ⟨ops[i], rfl, hi, ?_, ?_⟩
 ·revert h2; cases listed.getD i true <;> simp
 ·intro e he hb
  simp only [Option.map_some, Option.getD_some, Bool.and_eq_true] at h2
  have := Array.all_eq_true'.1 h2.2 e he
  simp [hb] at this
  simpa using this
theorem ready_of {md : Region.Mode} {listed : Array Bool} {i : Nat} (hi : i < ops.size) (hl : listed.getD i true = false)
  (h : ∀ e ∈ ops[i].after, Region.binds md e = true → listed.getD e.on false = true) : i ∈ Region.ready md ops listed := by
 unfold Region.ready
 refine List.mem_filter.2 ⟨by simpa using hi, ?_⟩
 rw [Array.getElem?_eq_getElem hi]
 simp only [hl, Option.map_some, Option.getD_some, Bool.not_false, Bool.true_and]
 refine Array.all_eq_true'.2 fun e he => ?_
 cases hb : Region.binds md e with
 | false => rfl
 | true => rw [h e he hb]; rfl
theorem all_run {md : Region.Mode} {listed : Array Bool} (hs : listed.size = ops.size) (hord : ∀ i (h : i < ops.size), ∀ e ∈ ops[i].after, Region.binds md e = true → e.on < i)
  (hr : Region.ready md ops listed = []) : ∀ i, i < ops.size → listed.getD i false = true := by
 intro i
 induction i using Nat.strongRecOn with
 | _ i ih =>
  intro hi
  cases hl : listed.getD i true with
  | true => simp only [Array.getD_eq_getD_getElem?] at hl ⊢; rw [Array.getElem?_eq_getElem (by omega)] at hl ⊢; simpa using hl
  | false =>
   have := ready_of (md := md) hi hl (fun e he hb => ih e.on (hord i hi e he hb) (by have := hord i hi e he hb; omega))
   rw [hr] at this; cases this
theorem any_by {md : Region.Mode} {Inv : (Nat → Bool) → Act → World → Prop}
  (hord : ∀ i (h : i < ops.size), ∀ e ∈ ops[i].after, Region.binds md e = true → e.on < i)
  (hstep : ∀ i (h : i < ops.size) (L : Nat → Bool) (a : Act) (w : World), Inv L a w → L i = false → (∀ e ∈ ops[i].after, Region.binds md e = true → L e.on = true) →
   wpOp P ops Q i (Inv (more L i)) a w)
  (hend : ∀ (L : Nat → Bool) (a : Act) (w : World), Inv L a w → (∀ i, i < ops.size → L i = true) → Q .normal a w) :
  ∀ (fuel : Nat) (listed : Array Bool) (a : Act) (w : World), listed.size = ops.size → listed.toList.count false ≤ fuel → Inv (fun i => listed.getD i false) a w →
   wpAny P md ops Q fuel listed a w := by
 intro fuel
 induction fuel with
 | zero =>
  intro listed a w hs hc hI
  have hr : Region.ready md ops listed = [] := by
   rw [List.eq_nil_iff_forall_not_mem]
   intro i hi
   obtain ⟨o, _, hi2, hl, _⟩ := ready_mem hi
   have hz : listed.toList.count false = 0 := by omega
   rw [List.count_eq_zero] at hz
   refine hz ?_
   simp only [Array.getD_eq_getD_getElem?] at hl; rw [Array.getElem?_eq_getElem (by omega)] at hl
   simp at hl
   rw [← hl]; simp
  exact ⟨hr, hend _ _ _ hI (all_run hs hord hr)⟩
 | succ fuel ih =>
  intro listed a w hs hc hI
  refine ⟨fun hr => hend _ _ _ hI (all_run hs hord hr), fun i hi => ?_⟩
  obtain ⟨o, ho, hi2, hl, hd⟩ := ready_mem hi
  have hl2 : listed[i]'(by omega) = false := by
   simp only [Array.getD_eq_getD_getElem?] at hl; rw [Array.getElem?_eq_getElem (by omega)] at hl
   simpa using hl
  have hl3 : listed.getD i false = false := by
   simp only [Array.getD_eq_getD_getElem?]; rw [Array.getElem?_eq_getElem (by omega)]; simpa using hl2
  have ho2 : ops[i] = o := by rw [Array.getElem?_eq_getElem hi2] at ho; simpa using ho
  refine wpOp_mono ?_ (hstep i hi2 (fun i => listed.getD i false) a w hI hl3 (by rw [ho2]; exact hd))
  intro a' w' hI'
  refine ih _ _ _ (by simpa using hs) ?_ ?_
  ·rw [Array.toList_setIfInBounds, List.count_set (by simpa using (by omega : i < listed.size))]
   have : listed.toList[i]'(by simpa using (by omega : i < listed.size)) = false := by simpa using hl2
   have hp : 0 < listed.toList.count false := List.count_pos_iff.2 (this ▸ List.getElem_mem _)
   rw [this, if_pos (by rfl), if_neg (by decide)]; omega
  ·have : (fun j => (listed.setIfInBounds i true).getD j false) = more (fun i => listed.getD i false) i := by
    funext j
    unfold more
    simp only [Array.getD_eq_getD_getElem?, Array.getElem?_setIfInBounds]
    by_cases hj : i = j
    ·subst hj; rw [if_pos rfl, if_pos (by omega)]; simp
    ·rw [if_neg hj]; simp [show ¬ j = i from fun h => hj h.symm]
   rw [this]; exact hI'
def ordB (ops : Array Oper) : Bool := (List.range ops.size).all fun i => ((ops[i]?).map fun o => o.after.all fun e => !Region.binds .any e || decide (e.on < i)).getD true
theorem ord_of (h : ordB ops = true) : ∀ i (h : i < ops.size), ∀ e ∈ ops[i].after, Region.binds .any e = true → e.on < i := by
 intro i hi e he hb
 have h1 := List.all_eq_true.1 h i (by simpa using hi)
 rw [Array.getElem?_eq_getElem hi] at h1
 simp only [Option.map_some, Option.getD_some] at h1
 have := Array.all_eq_true'.1 h1 e he
 rw [hb] at this
 simpa using this
def waitsB (ops : Array Oper) (i j : Nat) : Bool := ((ops[i]?).map fun o => o.after.any fun e => e.on == j && Region.binds .any e).getD false
theorem waits_of {L : Nat → Bool} {i : Nat} (h : i < ops.size) (hd : ∀ e ∈ ops[i].after, Region.binds .any e = true → L e.on = true) (j : Nat) (hj : waitsB ops i j = true) : L j = true := by
 unfold waitsB at hj
 rw [Array.getElem?_eq_getElem h] at hj
 simp only [Option.map_some, Option.getD_some] at hj
 obtain ⟨e, he, hb⟩ := Array.any_eq_true'.1 hj
 simp only [Bool.and_eq_true, beq_iff_eq] at hb
 rw [← hb.1]; exact hd e he hb.2
theorem region_by {id : Nat} {a : Act} {w : World} (n : Nat) (Inv : (Nat → Bool) → Act → World → Prop) (hm : P.follows .mixedOrders = true)
  (hord : ordB ops = true) (hn : ops.size = n)
  (hstart : Inv (fun _ => false) a w.drew)
  (hstep : ∀ i, i < n → ∀ (L : Nat → Bool) (a : Act) (w : World), Inv L a w → (∀ j, waitsB ops i j = true → L j = true) → wpOp P ops Q i (Inv (more L i)) a w)
  (hend : ∀ (L : Nat → Bool) (a : Act) (w : World), Inv L a w → (∀ i, i < n → L i = true) → Q .normal a w) :
  (Code.region id ops true).wp P Q a w := by
 subst hn
 refine wp_region_any hm (any_by (ord_of hord) (fun i hi L a w hI _ hd => hstep i hi L a w hI (waits_of hi hd)) hend _ _ _ _ (by simp) (by simp) ?_)
 have : (fun i => (Array.replicate ops.size false).getD i false) = fun _ => false := by
  funext i; simp only [Array.getD_eq_getD_getElem?, Array.getElem?_replicate]; split <;> rfl
 rw [this]; exact hstart
end
open Go.RowKit
theorem region_by2 {P : Program} {ops : Array Oper} {Q : Exit → Act → World → Prop} {id : Nat} {a : Act} {w : World} (n : Nat) (Inv : (Nat → Bool) → Act → World → Prop) (hm : P.follows .mixedOrders = true)
  (hord : ordB ops = true) (hn : ops.size = n)
  (hstart : Inv (fun _ => false) a w.drew)
  (hstep : ∀ i, i < n → ∀ (L : Nat → Bool) (a : Act) (w : World), Inv L a w → L i = false → (∀ j, waitsB ops i j = true → L j = true) → wpOp P ops Q i (Inv (more L i)) a w)
  (hend : ∀ (L : Nat → Bool) (a : Act) (w : World), Inv L a w → (∀ i, i < n → L i = true) → Q .normal a w) :
  (Code.region id ops true).wp P Q a w := by
 subst hn
 refine wp_region_any hm (any_by (ord_of hord) (fun i hi L a w hI hl hd => hstep i hi L a w hI hl (waits_of hi hd)) hend _ _ _ _ (by simp) (by simp) ?_)
 have : (fun i => (Array.replicate ops.size false).getD i false) = fun _ => false := by
  funext i; simp only [Array.getD_eq_getD_getElem?, Array.getElem?_replicate]; split <;> rfl
 rw [this]; exact hstart
end Go.Proofs.YtmbhmknfipdadaaGreatDoor.AnyO
namespace Go.Proofs.YtmbhmknfipdadaaGreatDoor.FixF
open Go.RowKit
theorem assert_hit (v : Value) (w : World) : (Instr.typeAssert (.iface 142 v) 20 142 true).run Tryz.prog w = .ok (.tuple #[v, .bool true]) w := by kernel_rfl
theorem assert_nil (w : World) : (Instr.typeAssert .nilIface 20 142 true).run Tryz.prog w = .ok (.tuple #[.agg #[.int .i64 0], .bool false]) w := by kernel_rfl
set_option maxHeartbeats 1000000 in
theorem catch_panicking (b : Nat) (c x0 x1 x2 : Int) (w : World) (hc0 : w.cell? ⟨b, 0, none⟩ = some (.int .i64 x0)) (hc1 : w.cell? ⟨b, 1, none⟩ = some (.int .i64 x1)) (hc2 : w.cell? ⟨b, 2, none⟩ = some (.int .i64 x2))
  (hz : ∀ o, w.frozen? ⟨b, o, none⟩ = false) (hb : b < w.heap.size) :
  CallsD Tryz.prog 210 #[.pointer (some ⟨b, 0, none⟩)] (.panicking (FixH.ill c)) w fun e u' w' =>
   e = .returned (.tuple #[]) ∧ u' = .panicking [{ v := .iface 142 (.agg #[.int .i64 c]), recovered := true }] ∧
    w' = (((w.alloc (.cells #[.int .i64 c] 142)).setCell ⟨b, 0, none⟩ (.int .i64 0)).setCell ⟨b, 1, none⟩ (.int .i64 0)).setCell ⟨b, 2, none⟩ (.int .i64 c) := by
 unfold FixH.ill
 have ha := assert_hit
 refine callsD_of_wpS Tryz.func210 rfl fun c₀ cs hu => ?_
 apply wpS_seq
 apply wpS_region
 simp [wpOpsS, go_sem, recoverD, hu, Tryz.ntmps210, Exit.thenS, ha]
 apply wpS_seq
 apply wpS_region
 simp [wpOpsS, go_sem, Exit.thenS]
 refine wpS_cond (t := true) (by simp [Act.eval, Array.replicate]) ?_
 simp only [if_true]
 apply wpS_region
 simp [wpOpsS, go_sem, hc0, hc1, hc2, hz, hb, bodyPostS, results, Tryz.results210]
set_option maxHeartbeats 1000000 in
theorem catch_idle (p : Addr) (w : World) :
  CallsD Tryz.prog 210 #[.pointer (some p)] .returning w fun e u' w' =>
   e = .returned (.tuple #[]) ∧ u' = .returning ∧ w' = w.alloc (.cells #[.int .i64 0] 142) := by
 have ha := assert_nil
 refine callsD_of_wpS Tryz.func210 rfl fun c₀ cs hu => ?_
 apply wpS_seq
 apply wpS_region
 simp [wpOpsS, go_sem, recoverD, hu, Tryz.ntmps210, Exit.thenS, ha]
 apply wpS_seq
 apply wpS_region
 simp [wpOpsS, go_sem, Exit.thenS]
 refine wpS_cond (t := false) (by simp [Act.eval, Array.replicate]) ?_
 simp only [Bool.false_eq_true, if_false]
 refine wpS_of_wp (wp_skip ?_)
 cases c₀
 simp_all [bodyPostS, results, Tryz.results210]
theorem lt_of_cell {w : World} {b o : Nat} {v : Value} (h : w.cell? ⟨b, o, none⟩ = some v) : b < w.heap.size := by
 rcases Nat.lt_or_ge b w.heap.size with h1 | h1
 ·exact h1
 ·have : w.heap[b]? = none := by rw [getElem?_neg]; omega
  simp [World.cell?, this] at h
def numV (n c : Int) : Value := .agg #[.int .i64 n, .int .i64 0, .int .i64 c]
set_option maxHeartbeats 1000000 in
theorem faced_num (K : FuncId) (caps : Array Value) (n : Int) (w : World) (hent : ∀ W, (callFunc K caps).run Tryz.prog W = .ok (.enter K caps) W)
  (hcall : Calls Tryz.prog K caps (w.alloc (.cells #[.int .i64 0, .int .i64 0, .int .i64 0] 206)) fun e w' =>
   e = .returned (.int .i64 n) ∧ Below (w.heap.size + 1) (w.alloc (.cells #[.int .i64 0, .int .i64 0, .int .i64 0] 206)) w') :
  Calls Tryz.prog 179 #[.func (.func K) #[] caps] w fun e w' => e = .returned (numV n 0) ∧ Below w.heap.size w w' := by
 have hmf : ∀ (fn : Fn) (first cap : Array Value) (w : World), (Instr.makeFunc fn first cap).run Tryz.prog w = .ok (.func fn first cap) w := fun _ _ _ _ => rfl
 go_enter_defers Tryz.func179, Tryz.ntmps179
 go_wp2_with fail
 refine hcall.mono ?_
 rintro e w1 ⟨rfl, hB⟩
 clear hcall hent
 have hc : ∀ o, o < 3 → w1.cell? ⟨w.heap.size, o, none⟩ = some (.int .i64 0) := fun o ho => by
  rw [hB.cell (p := ⟨w.heap.size, o, none⟩) (by simp)]
  rcases (show o = 0 ∨ o = 1 ∨ o = 2 by omega) with rfl | rfl | rfl <;> simp
 have hc0 := hc 0 (by omega)
 have hc1 := hc 1 (by omega)
 have hc2 := hc 2 (by omega)
 have hf : ∀ o, w1.frozen? ⟨w.heap.size, o, none⟩ = false := fun o => by rw [hB.frozen (p := ⟨w.heap.size, o, none⟩) (by simp)]; simp
 have HB : Hid (Below w.heap.size w w1) := ((Below.refl _ _).alloc (Nat.le_refl _) _).trans (hB.mono (by simp))
 clear hc hB
 go_wp2
 have hsz : w.heap.size < w1.heap.size := by
  have := lt_of_cell hc0
  exact this
 refine leaves_cons (f := 210) (args := #[.pointer (some ⟨w.heap.size, 0, none⟩)]) (by simp) (by simp [go_sem]) ?_
 refine (catch_idle ⟨w.heap.size, 0, none⟩ _).mono ?_
 rintro e u' w'' ⟨rfl, rfl, rfl⟩
 refine ⟨numV n 0, ?_, rfl, ?_⟩
 ·simp [results, Tryz.results179, go_sem, hc0, hc1, hc2, hsz, numV]
 ·exact ((((HB.out.setCell (Nat.le_refl _) _).setCell (Nat.le_refl _) _).setCell (Nat.le_refl _) _).alloc (by simp; omega) _)
set_option maxHeartbeats 1000000 in
theorem faced_ill (K : FuncId) (caps : Array Value) (c : Int) (w : World) (hent : ∀ W, (callFunc K caps).run Tryz.prog W = .ok (.enter K caps) W)
  (hcall : Calls Tryz.prog K caps (w.alloc (.cells #[.int .i64 0, .int .i64 0, .int .i64 0] 206)) fun e w' =>
   e = .panicked (FixH.ill c) ∧ Below (w.heap.size + 1) (w.alloc (.cells #[.int .i64 0, .int .i64 0, .int .i64 0] 206)) w') :
  Calls Tryz.prog 179 #[.func (.func K) #[] caps] w fun e w' => e = .returned (numV 0 c) ∧ Below w.heap.size w w' := by
 have hmf : ∀ (fn : Fn) (first cap : Array Value) (w : World), (Instr.makeFunc fn first cap).run Tryz.prog w = .ok (.func fn first cap) w := fun _ _ _ _ => rfl
 go_enter_defers Tryz.func179, Tryz.ntmps179
 go_wp2_with fail
 refine hcall.mono ?_
 rintro e w1 ⟨rfl, hB⟩
 clear hcall hent
 have hc : ∀ o, o < 3 → w1.cell? ⟨w.heap.size, o, none⟩ = some (.int .i64 0) := fun o ho => by
  rw [hB.cell (p := ⟨w.heap.size, o, none⟩) (by simp)]
  rcases (show o = 0 ∨ o = 1 ∨ o = 2 by omega) with rfl | rfl | rfl <;> simp
 have hc0 := hc 0 (by omega)
 have hc1 := hc 1 (by omega)
 have hc2 := hc 2 (by omega)
 have hf : ∀ o, w1.frozen? ⟨w.heap.size, o, none⟩ = false := fun o => by rw [hB.frozen (p := ⟨w.heap.size, o, none⟩) (by simp)]; simp
 have HB : Hid (Below w.heap.size w w1) := ((Below.refl _ _).alloc (Nat.le_refl _) _).trans (hB.mono (by simp))
 have hsz : w.heap.size < w1.heap.size := lt_of_cell hc0
 clear hc hB
 go_wp2
 refine leaves_cons (f := 210) (args := #[.pointer (some ⟨w.heap.size, 0, none⟩)]) (by simp) (by simp [go_sem]) ?_
 refine (catch_panicking w.heap.size c 0 0 0 _ hc0 hc1 hc2 hf hsz).mono ?_
 rintro e u' w'' ⟨rfl, rfl, rfl⟩
 refine ⟨numV 0 c, ?_, rfl, ?_⟩
 ·simp [results, Tryz.results179, go_sem, hc0, hc1, hc2, hsz, numV]
 ·exact ((((HB.out.alloc (by omega) _).setCell (Nat.le_refl _) _).setCell (Nat.le_refl _) _).setCell (Nat.le_refl _) _)
end Go.Proofs.YtmbhmknfipdadaaGreatDoor.FixF
namespace Go.Proofs.YtmbhmknfipdadaaGreatDoor.FixS
open Go.RowKit
def inB (n lo hi : Int) : Bool := decide (lo ≤ n ∧ n ≤ hi)
def inM (n : Int) : Bool := inB n (-1000000000000000) 1000000000000000
theorem inB_t {n lo hi : Int} (h : lo ≤ n ∧ n ≤ hi) : inB n lo hi = true := by unfold inB; rw [decide_eq_true_iff]; exact h
theorem inB_f {n lo hi : Int} (h : ¬ (lo ≤ n ∧ n ≤ hi)) : inB n lo hi = false := by unfold inB; rw [decide_eq_false_iff_not]; exact h
theorem inM_iff (n : Int) : inM n = true ↔ (-1000000000000000 ≤ n ∧ n ≤ 1000000000000000) := by unfold inM inB; rw [decide_eq_true_iff]
def outR (n : Int) : Int × Int := if inM n = true then (n, 0) else (0, 12)
def plusR (a b : Int) : Int × Int := if inM a = true ∧ inM b = true then outR (a + b) else (0, 1)
def minusR (a b : Int) : Int × Int := if inM a = true ∧ inM b = true then outR (a - b) else (0, 1)
set_option maxHeartbeats 400000 in
theorem is_any (n lo hi : Int) (w : World) :
  Calls Tryz.prog 60 #[.int .i64 n, .int .i64 lo, .int .i64 hi] w fun e w' => e = .returned (.bool (inB n lo hi)) ∧ w' = w := by
 by_cases h : lo ≤ n
 ·by_cases h2 : n ≤ hi
  ·rw [inB_t ⟨h, h2⟩]
   go_enter Tryz.func60, Tryz.ntmps60
   go_wp2
   go_ret
   exact ⟨rfl, rfl⟩
  ·rw [inB_f (by omega)]
   go_enter Tryz.func60, Tryz.ntmps60
   go_wp2
   go_ret
   exact ⟨rfl, rfl⟩
 ·rw [inB_f (by omega)]
  go_enter Tryz.func60, Tryz.ntmps60
  go_wp2
  go_ret
  exact ⟨rfl, rfl⟩
theorem num_any (n : Int) (w : World) :
  Calls Tryz.prog 197 #[.int .i64 n] w fun e w' => e = .returned (.bool (inM n)) ∧ w' = w := by
 go_enter Tryz.func197, Tryz.ntmps197
 go_wp2_with (first | (go_at_call 60; refine (is_any _ _ _ _).mono ?_; rintro e w' ⟨rfl, rfl⟩))
 go_ret
 exact ⟨rfl, rfl⟩
theorem ill_any (c : Int) (w : World) :
  Calls Tryz.prog 198 #[.int .i64 c] w fun e w' => e = .returned (FixF.numV 0 c) ∧ Below w.heap.size w w' := by
 go_enter Tryz.func198, Tryz.ntmps198
 go_wp2
 refine bodyPost_ret (v := FixF.numV 0 c) (by simp [results, Tryz.results198, go_sem, FixF.numV]) rfl ⟨rfl, ?_⟩
 exact (Below.refl _ _).alloc (Nat.le_refl _) _
theorem below_out {w w1 : World} {t : TypeId} {x y z : Value} {B : Nat} (hB : Below B (w.alloc (.cells #[x, y, z] t)) w1) (hb : w.heap.size < B) : Below w.heap.size w w1 :=
 ((Below.refl _ _).alloc (Nat.le_refl _) _).trans (hB.mono (Nat.le_of_lt hb))
theorem cells_out {w w1 : World} {t : TypeId} {B : Nat} (hB : Below B (w.alloc (.cells #[.int .i64 0, .int .i64 0, .int .i64 0] t)) w1) (hb : w.heap.size < B) :
  w1.cell? ⟨w.heap.size, 0, none⟩ = some (.int .i64 0) ∧ w1.cell? ⟨w.heap.size, 1, none⟩ = some (.int .i64 0) ∧ w1.cell? ⟨w.heap.size, 2, none⟩ = some (.int .i64 0) ∧
   (∀ o, w1.frozen? ⟨w.heap.size, o, none⟩ = false) := by
 refine ⟨?_, ?_, ?_, fun o => ?_⟩
 ·rw [hB.cell (p := ⟨w.heap.size, 0, none⟩) hb]; simp
 ·rw [hB.cell (p := ⟨w.heap.size, 1, none⟩) hb]; simp
 ·rw [hB.cell (p := ⟨w.heap.size, 2, none⟩) hb]; simp
 ·rw [hB.frozen (p := ⟨w.heap.size, o, none⟩) hb]; simp
set_option maxHeartbeats 400000 in
theorem out_any (n : Int) (w : World) :
  Calls Tryz.prog 199 #[.int .i64 n] w fun e w' => e = .returned (FixF.numV (outR n).1 (outR n).2) ∧ Below w.heap.size w w' := by
 unfold outR
 cases h : inM n
 ·go_enter Tryz.func199, Tryz.ntmps199
  go_wp2_with (first | (go_at_call 197; refine (num_any _ _).mono ?_; rintro e w' ⟨rfl, rfl⟩))
  refine (ill_any 12 _).mono ?_
  rintro e w1 ⟨rfl, hB⟩
  obtain ⟨hc0, hc1, hc2, hf⟩ := cells_out hB (by simp)
  have HB : Hid (Below w.heap.size w w1) := below_out hB (by simp)
  clear hB
  unfold FixF.numV
  go_wp2
  refine bodyPost_ret (v := FixF.numV 0 12) (by simp [results, Tryz.results199, go_sem, FixF.numV, hc0, hc1, hc2]) rfl ⟨rfl, ?_⟩
  exact (((HB.out).setCell (Nat.le_refl _) _).setCell (Nat.le_refl _) _).setCell (Nat.le_refl _) _
 ·go_enter Tryz.func199, Tryz.ntmps199
  go_wp2_with (first | (go_at_call 197; refine (num_any _ _).mono ?_; rintro e w' ⟨rfl, rfl⟩))
  refine bodyPost_ret (v := FixF.numV n 0) (by simp [results, Tryz.results199, go_sem, FixF.numV]) rfl ⟨rfl, ?_⟩
  exact (Below.refl _ _).alloc (Nat.le_refl _) _
set_option maxRecDepth 10000 in
set_option maxHeartbeats 800000 in
theorem plus_any (a b : Int) (w : World) :
  Calls Tryz.prog 170 #[.int .i64 a, .int .i64 b] w fun e w' => e = .returned (FixF.numV (plusR a b).1 (plusR a b).2) ∧ Below w.heap.size w w' := by
 by_cases hab : inM a = true ∧ inM b = true
 ·have hR : Hid (plusR a b = outR (a + b)) := by show plusR a b = _; unfold plusR; rw [if_pos hab]
  obtain ⟨ha, hb⟩ := hab
  have hia := (inM_iff a).1 ha
  have hib := (inM_iff b).1 hb
  rw [hR.out]
  clear hR
  obtain ⟨r, hr⟩ : ∃ r, Hid (outR (a + b) = r) := ⟨_, rfl⟩
  rw [hr.out]
  go_enter Tryz.func170, Tryz.ntmps170
  go_wp2_with (first | (go_at_call 197; refine (num_any _ _).mono ?_; rintro e w' ⟨rfl, rfl⟩))
  refine (out_any _ _).mono ?_
  rintro e w1 ⟨rfl, hB⟩
  obtain ⟨hc0, hc1, hc2, hf⟩ := cells_out hB (by simp)
  have HB : Hid (Below w.heap.size w w1) := below_out hB (by simp)
  clear hB
  rw [hr.out]
  clear hr
  unfold FixF.numV
  go_wp2
  refine bodyPost_ret (v := FixF.numV r.1 r.2) (by simp [results, Tryz.results170, go_sem, FixF.numV, hc0, hc1, hc2]) rfl ⟨rfl, ?_⟩
  exact (((HB.out).setCell (Nat.le_refl _) _).setCell (Nat.le_refl _) _).setCell (Nat.le_refl _) _
 ·have hR : Hid (plusR a b = (0, 1)) := by show plusR a b = _; unfold plusR; rw [if_neg hab]
  rw [hR.out]
  clear hR
  by_cases ha : inM a = true
  ·have hb : inM b = false := by cases h : inM b with
    | false => rfl
    | true => exact absurd ⟨ha, h⟩ hab
   clear hab
   go_enter Tryz.func170, Tryz.ntmps170
   go_wp2_with (first | (go_at_call 197; refine (num_any _ _).mono ?_; rintro e w' ⟨rfl, rfl⟩))
   refine (ill_any _ _).mono ?_
   rintro e w1 ⟨rfl, hB⟩
   obtain ⟨hc0, hc1, hc2, hf⟩ := cells_out hB (by simp)
   have HB : Hid (Below w.heap.size w w1) := below_out hB (by simp)
   clear hB
   unfold FixF.numV
   go_wp2
   refine bodyPost_ret (v := FixF.numV 0 1) (by simp [results, Tryz.results170, go_sem, FixF.numV, hc0, hc1, hc2]) rfl ⟨rfl, ?_⟩
   exact (((HB.out).setCell (Nat.le_refl _) _).setCell (Nat.le_refl _) _).setCell (Nat.le_refl _) _
  ·have ha2 : inM a = false := by simpa using ha
   clear hab ha
   go_enter Tryz.func170, Tryz.ntmps170
   go_wp2_with (first | (go_at_call 197; refine (num_any _ _).mono ?_; rintro e w' ⟨rfl, rfl⟩))
   refine (ill_any _ _).mono ?_
   rintro e w1 ⟨rfl, hB⟩
   obtain ⟨hc0, hc1, hc2, hf⟩ := cells_out hB (by simp)
   have HB : Hid (Below w.heap.size w w1) := below_out hB (by simp)
   clear hB
   unfold FixF.numV
   go_wp2
   refine bodyPost_ret (v := FixF.numV 0 1) (by simp [results, Tryz.results170, go_sem, FixF.numV, hc0, hc1, hc2]) rfl ⟨rfl, ?_⟩
   exact (((HB.out).setCell (Nat.le_refl _) _).setCell (Nat.le_refl _) _).setCell (Nat.le_refl _) _
set_option maxRecDepth 10000 in
set_option maxHeartbeats 800000 in
theorem minus_any (a b : Int) (w : World) :
  Calls Tryz.prog 171 #[.int .i64 a, .int .i64 b] w fun e w' => e = .returned (FixF.numV (minusR a b).1 (minusR a b).2) ∧ Below w.heap.size w w' := by
 by_cases hab : inM a = true ∧ inM b = true
 ·have hR : Hid (minusR a b = outR (a - b)) := by show minusR a b = _; unfold minusR; rw [if_pos hab]
  obtain ⟨ha, hb⟩ := hab
  have hia := (inM_iff a).1 ha
  have hib := (inM_iff b).1 hb
  rw [hR.out]
  clear hR
  obtain ⟨r, hr⟩ : ∃ r, Hid (outR (a - b) = r) := ⟨_, rfl⟩
  rw [hr.out]
  go_enter Tryz.func171, Tryz.ntmps171
  go_wp2_with (first | (go_at_call 197; refine (num_any _ _).mono ?_; rintro e w' ⟨rfl, rfl⟩))
  refine (out_any _ _).mono ?_
  rintro e w1 ⟨rfl, hB⟩
  obtain ⟨hc0, hc1, hc2, hf⟩ := cells_out hB (by simp)
  have HB : Hid (Below w.heap.size w w1) := below_out hB (by simp)
  clear hB
  rw [hr.out]
  clear hr
  unfold FixF.numV
  go_wp2
  refine bodyPost_ret (v := FixF.numV r.1 r.2) (by simp [results, Tryz.results171, go_sem, FixF.numV, hc0, hc1, hc2]) rfl ⟨rfl, ?_⟩
  exact (((HB.out).setCell (Nat.le_refl _) _).setCell (Nat.le_refl _) _).setCell (Nat.le_refl _) _
 ·have hR : Hid (minusR a b = (0, 1)) := by show minusR a b = _; unfold minusR; rw [if_neg hab]
  rw [hR.out]
  clear hR
  by_cases ha : inM a = true
  ·have hb : inM b = false := by cases h : inM b with
    | false => rfl
    | true => exact absurd ⟨ha, h⟩ hab
   clear hab
   go_enter Tryz.func171, Tryz.ntmps171
   go_wp2_with (first | (go_at_call 197; refine (num_any _ _).mono ?_; rintro e w' ⟨rfl, rfl⟩))
   refine (ill_any _ _).mono ?_
   rintro e w1 ⟨rfl, hB⟩
   obtain ⟨hc0, hc1, hc2, hf⟩ := cells_out hB (by simp)
   have HB : Hid (Below w.heap.size w w1) := below_out hB (by simp)
   clear hB
   unfold FixF.numV
   go_wp2
   refine bodyPost_ret (v := FixF.numV 0 1) (by simp [results, Tryz.results171, go_sem, FixF.numV, hc0, hc1, hc2]) rfl ⟨rfl, ?_⟩
   exact (((HB.out).setCell (Nat.le_refl _) _).setCell (Nat.le_refl _) _).setCell (Nat.le_refl _) _
  ·have ha2 : inM a = false := by simpa using ha
   clear hab ha
   go_enter Tryz.func171, Tryz.ntmps171
   go_wp2_with (first | (go_at_call 197; refine (num_any _ _).mono ?_; rintro e w' ⟨rfl, rfl⟩))
   refine (ill_any _ _).mono ?_
   rintro e w1 ⟨rfl, hB⟩
   obtain ⟨hc0, hc1, hc2, hf⟩ := cells_out hB (by simp)
   have HB : Hid (Below w.heap.size w w1) := below_out hB (by simp)
   clear hB
   unfold FixF.numV
   go_wp2
   refine bodyPost_ret (v := FixF.numV 0 1) (by simp [results, Tryz.results171, go_sem, FixF.numV, hc0, hc1, hc2]) rfl ⟨rfl, ?_⟩
   exact (((HB.out).setCell (Nat.le_refl _) _).setCell (Nat.le_refl _) _).setCell (Nat.le_refl _) _
end Go.Proofs.YtmbhmknfipdadaaGreatDoor.FixS
namespace Go.Proofs.YtmbhmknfipdadaaGreatDoor.ValW
open Go.RowKit
def Codes (w : World) (a : Option Addr) (zs : List Int) : Prop :=
 zs.length ≤ 1048576 ∧ (0 < zs.length → ∃ b o, a = some ⟨b, o, none⟩ ∧ b < w.heap.size ∧ ∀ i, i < zs.length → w.cell? ⟨b, o + i, none⟩ = some (.int .i64 (zs.getD i 0)))
theorem Codes.on {w w' : World} {a : Option Addr} {zs : List Int} (h : Codes w a zs) (hB : Below w.heap.size w w') : Codes w' a zs := by
 refine ⟨h.1, fun hp => ?_⟩
 obtain ⟨b, o, ha, hb, hc⟩ := h.2 hp
 exact ⟨b, o, ha, Nat.lt_of_lt_of_le hb hB.size, fun i hi => by rw [hB.cell (p := ⟨b, o + i, none⟩) hb]; exact hc i hi⟩
theorem Codes.alloc {w : World} {a : Option Addr} {zs : List Int} (h : Codes w a zs) (o : Obj) : Codes (w.alloc o) a zs := h.on ((Below.refl _ _).alloc (Nat.le_refl _) o)
theorem Codes.setCell {w : World} {g off : Nat} {zs : List Int} (h : Codes w (some ⟨g, off, none⟩) zs) {p : Addr} (hp : p.block ≠ g) (v : Value) : Codes (w.setCell p v) (some ⟨g, off, none⟩) zs := by
 refine ⟨h.1, fun hl => ?_⟩
 obtain ⟨b, o, ha, hb, hc⟩ := h.2 hl
 cases ha
 exact ⟨g, off, rfl, by simpa using hb, fun i hi => by rw [World.cell?_setCell_other w p ⟨g, off + i, none⟩ _ (by intro e; apply hp; rw [e])]; exact hc i hi⟩
theorem Codes.nil (w : World) (a : Option Addr) : Codes w a [] := ⟨Nat.zero_le _, fun h => absurd h (Nat.lt_irrefl _)⟩
theorem bcell {W w1 : World} (hb : Below W.heap.size W w1) : (∀ b o, b < W.heap.size → w1.cell? ⟨b, o, none⟩ = W.cell? ⟨b, o, none⟩) ∧ (∀ b o, b < W.heap.size → w1.frozen? ⟨b, o, none⟩ = W.frozen? ⟨b, o, none⟩) :=
 ⟨fun b o h => hb.cell (p := ⟨b, o, none⟩) h, fun b o h => hb.frozen (p := ⟨b, o, none⟩) h⟩
abbrev av (k n : Int) (a : Option Addr) (len cap : Nat) (t : ByteArray) : Value := .agg #[.int .i64 k, .int .i64 n, .slice a len cap, .string t]
def cellsI (zs : List Int) : List Value := zs.map (.int .i64)
def rowI (n : Nat) (l : List Int) : List Value := cellsI l ++ List.replicate (n - l.length) (.int .i64 0)
theorem made_row (z : Nat) : (madeCells #[Value.int IntKind.i64 0] z).toList = rowI z [] := by
 unfold madeCells rowI cellsI
 apply List.ext_getElem
 ·simp
 ·intro i h1 h2; simp [Nat.mod_one]
theorem row_set (zs : List Int) (k : Nat) (h : k < zs.length) :
  (rowI zs.length (zs.take k)).toArray.setIfInBounds k (.int .i64 (zs.getD k 0)) = (rowI zs.length (zs.take (k + 1))).toArray := by
 have hl : (cellsI (zs.take k)).length = k := by simp [cellsI]; omega
 have e1 : zs.length - (zs.take k).length = (zs.length - (zs.take (k + 1)).length) + 1 := by simp; omega
 have e2 : zs.take (k + 1) = zs.take k ++ [zs.getD k 0] := by
  rw [List.take_succ_eq_append_getElem h]; simp [List.getD, List.getElem?_eq_getElem h]
 unfold rowI
 rw [List.setIfInBounds_toArray, e1, List.replicate_succ, List.set_append_right _ _ (by omega), hl, Nat.sub_self, List.set_cons_zero]
 congr 1
 conv => rhs; rw [e2]
 simp [cellsI]; omega
theorem row_full (zs : List Int) : rowI zs.length zs = cellsI zs := by simp [rowI]
theorem codes_of_row {w : World} {g : Nat} {T : TypeId} {zs : List Int} (h : w.heap[g]? = some (.cells (cellsI zs).toArray T (0, 0))) (hl : zs.length ≤ 1048576) : Codes w (some ⟨g, 0, none⟩) zs := by
 refine ⟨hl, fun _ => ⟨g, 0, rfl, (Array.getElem?_eq_some_iff.1 h).1, fun i hi => ?_⟩⟩
 simp [World.cell?, h, cellsI, List.getD, List.getElem?_eq_getElem hi]
theorem Tryz.infoI : (Tryz.prog.info? 2).map (fun i => (i.zero, i.size, i.bytes)) = some (some (.int .i64 0), 1, 8) := by kernel_rfl
open Go.RowKit
set_option maxRecDepth 10000 in
set_option maxHeartbeats 400000 in
theorem eqInts (a a' : Option Addr) (cap cap' : Nat) (zs : List Int) (w : World) (hc : Codes w a zs) (hc' : Codes w a' zs) :
  Calls Tryz.prog 103 #[.slice a zs.length cap, .slice a' zs.length cap'] w fun e w' => e = .returned (.bool true) ∧ Below w.heap.size w w' := by
 have HC : Hid (Codes w a zs) := hc
 have HC' : Hid (Codes w a' zs) := hc'
 have hl := hc.1
 clear hc hc'
 go_enter Tryz.func103, Tryz.ntmps103
 go_wp2
 go_loopw [5] (fun i wr => ∃ k : Nat, k ≤ zs.length ∧ i = .int .i64 k ∧ Below w.heap.size w wr) (fun i _ => zs.length - (intOf i).toNat)
 case atStart => exact ⟨0, Nat.zero_le _, rfl, Below.refl _ _⟩
 case round =>
  obtain ⟨k, hk, rfl, hbel⟩ := hrel
  by_cases hlt : k < zs.length
  ·obtain ⟨_, h1⟩ := HC.out
   obtain ⟨_, h2⟩ := HC'.out
   obtain ⟨b, o, rfl, hb, hcs⟩ := h1 (by omega)
   obtain ⟨b', o', rfl, hb', hcs'⟩ := h2 (by omega)
   have hcell : wr.cell? ⟨b, o + k, none⟩ = some (.int .i64 (zs.getD k 0)) := (hbel.cell hb).trans (hcs k hlt)
   have hcell' : wr.cell? ⟨b', o' + k, none⟩ = some (.int .i64 (zs.getD k 0)) := (hbel.cell hb').trans (hcs' k hlt)
   generalize zs.getD k 0 = v at hcell hcell'
   have HB : Hid (Below w.heap.size w wr) := hbel
   clear hcs hcs' h1 h2 HC HC' hbel
   go_wp2
   go_region
   go_wp2
   refine ⟨⟨k + 1, by omega, by go_num, HB.out.drew⟩, by simp [intOf]; omega⟩
  ·go_wp2
   go_ret
   exact ⟨rfl, hbel⟩
set_option maxHeartbeats 400000 in
theorem eqVal (k n : Int) (a a' : Option Addr) (cap cap' : Nat) (zs : List Int) (t : ByteArray) (w : World) (hc : Codes w a zs) (hc' : Codes w a' zs) :
  Calls Tryz.prog 72 #[av k n a zs.length cap t, av k n a' zs.length cap' t] w fun e w' => e = .returned (.bool true) ∧ Below w.heap.size w w' := by
 have HC : Hid (Codes w a zs) := hc
 have HC' : Hid (Codes w a' zs) := hc'
 clear hc hc'
 go_enter Tryz.func72, Tryz.ntmps72
 go_wp2_with fail
 refine (eqInts a a' cap cap' zs _ (HC.out.on ?hb) (HC'.out.on ?hb)).mono ?_
 case hb => go_grown
 rintro e w1 ⟨rfl, hB1⟩
 have HB : Hid (Below w.heap.size w w1) := Below.trans ?hb (hB1.mono (by simp; omega))
 case hb => go_grown
 obtain ⟨hcl, hfz⟩ := bcell hB1
 simp only [World.size_alloc] at hcl hfz
 clear hB1 HC HC'
 go_wp2
 go_ret
 exact ⟨rfl, HB.out⟩
open Go.RowKit
theorem szInts_no (a : Option Addr) (len cap : Nat) (left : Int) (w : World) (h0 : 0 ≤ left) (h1 : left ≤ 1048576) (h : left < len) (hm : len ≤ maxLen) :
  Calls Tryz.prog 79 #[.slice a len cap, .int .i64 left] w fun e w' => e = .returned (.int .i64 (-1)) ∧ w' = w := by
 unfold maxLen at hm
 go_enter Tryz.func79, Tryz.ntmps79
 go_wp2
 go_ret
 exact ⟨rfl, rfl⟩
theorem szInts_yes (a : Option Addr) (len cap : Nat) (left : Int) (w : World) (h1 : left ≤ 1048576) (h : ¬ left < len) :
  Calls Tryz.prog 79 #[.slice a len cap, .int .i64 left] w fun e w' => e = .returned (.int .i64 (left - len)) ∧ w' = w := by
 go_enter Tryz.func79, Tryz.ntmps79
 go_wp2
 go_ret
 exact ⟨rfl, rfl⟩
theorem sz_no (k n : Int) (a : Option Addr) (len cap : Nat) (t : ByteArray) (left : Int) (w : World) (h0 : 0 ≤ left) (h1 : left ≤ 1048576) (h : left < len + t.size) (hm : len ≤ maxLen) (ht : t.size ≤ maxLen) :
  Calls Tryz.prog 51 #[av k n a len cap t, .int .i64 left] w fun e w' => e = .returned (.int .i64 (-1)) ∧ Below w.heap.size w w' := by
 by_cases hl : left < len
 ·unfold maxLen at ht
  go_enter Tryz.func51, Tryz.ntmps51
  go_wp2_with (go_at_call 79; refine (szInts_no a len cap left _ h0 h1 hl hm).mono ?_; rintro e w' ⟨rfl, rfl⟩)
  go_ret
  exact ⟨rfl, (Below.refl _ _).alloc (Nat.le_refl _) _⟩
 ·unfold maxLen at ht
  go_enter Tryz.func51, Tryz.ntmps51
  go_wp2_with (go_at_call 79; refine (szInts_yes a len cap left _ h1 hl).mono ?_; rintro e w' ⟨rfl, rfl⟩)
  go_ret
  exact ⟨rfl, (Below.refl _ _).alloc (Nat.le_refl _) _⟩
theorem sz_yes (k n : Int) (a : Option Addr) (len cap : Nat) (t : ByteArray) (left : Int) (w : World) (h1 : left ≤ 1048576) (h : ¬ left < len + t.size) :
  Calls Tryz.prog 51 #[av k n a len cap t, .int .i64 left] w fun e w' => e = .returned (.int .i64 (left - len - t.size)) ∧ Below w.heap.size w w' := by
 go_enter Tryz.func51, Tryz.ntmps51
 go_wp2_with (go_at_call 79; refine (szInts_yes a len cap left _ h1 (by omega)).mono ?_; rintro e w' ⟨rfl, rfl⟩)
 go_ret
 exact ⟨rfl, (Below.refl _ _).alloc (Nat.le_refl _) _⟩
set_option maxRecDepth 10000 in
set_option maxHeartbeats 400000 in
theorem toIntsO (a : Option Addr) (cap : Nat) (zs : List Int) (w : World) (hc : Codes w a zs) :
  Calls Tryz.prog 89 #[.slice a zs.length cap] w fun e w' => e = .returned (.slice (some ⟨w.heap.size, 0, none⟩) zs.length zs.length) ∧ w'.heap[w.heap.size]? = some (.cells (cellsI zs).toArray 2 (0, 0)) ∧ Below w.heap.size w w' := by
 obtain ⟨i0, hi, hz0, hz1, hz2⟩ := info_parts Tryz.infoI
 obtain ⟨hl, hc⟩ := hc
 have HC : Hid (0 < zs.length → ∃ b o, a = some ⟨b, o, none⟩ ∧ b < w.heap.size ∧ ∀ i, i < zs.length → w.cell? ⟨b, o + i, none⟩ = some (.int .i64 (zs.getD i 0))) := hc
 clear hc
 go_enter Tryz.func89, Tryz.ntmps89
 go_wp2_with (first | (at_make; refine wpList_make_full _ rfl _ _ 50 rfl w.heap.size 2 i0 (.int .i64 0) 1 Tryz.underlying50 hi hz0 hz1 _ _ _ _ zs.length rfl rfl rfl rfl ?m1 ?m2 ?m3 ?_))
 case m1 => rw [hz2]; omega
 case m2 => unfold maxLen; omega
 case m3 => exact Nat.le_refl _
 intro w1 hown hgrow
 obtain ⟨cur, hrow⟩ : ∃ cur : List Value, cur = rowI zs.length [] ∧ w1.heap[w.heap.size]? = some (.cells cur.toArray 2 (0, 0)) := by
  rw [made_row] at hown
  obtain ⟨_, hv⟩ := hown
  rcases hv with ⟨h0, _⟩ | ⟨g, cap, cu, h0, _, hg, _, _, hs, ht⟩
  ·cases h0
  ·cases h0
   refine ⟨rowI zs.length [], rfl, ?_⟩
   rw [hg, ← ht, List.take_of_length_le (by simp; omega)]
 obtain ⟨HCur, hrow1⟩ := hrow
 have hB1 : Below w.heap.size w w1 := (Below.refl _ _).grown hgrow (Nat.le_refl _) (fun k hk => by cases hk)
 clear hown hgrow
 subst HCur
 go_wp2
 go_loopw [4] (fun i wr => ∃ k : Nat, k ≤ zs.length ∧ i = .int .i64 k ∧ Hid (wr.heap[w.heap.size]? = some (.cells (rowI zs.length (zs.take k)).toArray 2 (0, 0))) ∧ Below w.heap.size w wr) (fun i _ => zs.length - (intOf i).toNat)
 case atStart => exact ⟨0, Nat.zero_le _, rfl, hrow1, hB1⟩
 case round =>
  obtain ⟨k, hk, rfl, hrow, hbel⟩ := hrel
  clear hrow1 hB1
  by_cases hlt : k < zs.length
  ·obtain ⟨b, o, rfl, hb, hcs⟩ := HC.out (by omega)
   have hcell : wr.cell? ⟨b, o + k, none⟩ = some (.int .i64 (zs.getD k 0)) := (hbel.cell hb).trans (hcs k hlt)
   have hfr : wr.frozen? ⟨w.heap.size, k, none⟩ = false := by simp [World.frozen?, hrow.out]
   have hold : wr.cell? ⟨w.heap.size, k, none⟩ = some (.int .i64 0) := by
    have e : (rowI zs.length (zs.take k))[k]? = some (.int .i64 0) := by
     have hl2 : (cellsI (zs.take k)).length = k := by simp [cellsI]; omega
     unfold rowI; rw [List.getElem?_append_right (Nat.le_of_eq hl2), hl2, Nat.sub_self, List.getElem?_replicate, if_pos (by rw [List.length_take]; omega)]
    simp [World.cell?, hrow.out, e]
   clear hcs
   have HR : Hid ((wr.setCell ⟨w.heap.size, k, none⟩ (.int .i64 (zs.getD k 0))).heap[w.heap.size]? = some (.cells (rowI zs.length (zs.take (k + 1))).toArray 2 (0, 0))) := by
    have := row_set zs k hlt
    show _ = _
    rw [← this]; simp [World.setCell, Array.getElem?_modify, hrow.out]
   have HB : Hid (Below w.heap.size w (wr.setCell ⟨w.heap.size, k, none⟩ (.int .i64 (zs.getD k 0)))) := hbel.setCell (Nat.le_refl _) _
   generalize hv : zs.getD k 0 = v at *
   clear hrow hbel
   go_wp2
   refine ⟨⟨k + 1, by omega, by go_num, HR, HB.out⟩, by simp [intOf]; omega⟩
  ·go_wp2
   go_ret
   refine ⟨rfl, ?_, hbel⟩
   have := hrow.out
   rw [List.take_of_length_le (by omega), row_full] at this
   exact this
theorem blk_other {w : World} {g : Nat} {x : Obj} (h : w.heap[g]? = some x) {p : Addr} (hp : p.block ≠ g) (v : Value) : (w.setCell p v).heap[g]? = some x := by
 rw [Below.heap_setCell w p v g (Ne.symm hp)]; exact h
theorem toValO (k n : Int) (a : Option Addr) (cap : Nat) (zs : List Int) (t : ByteArray) (w : World) (hc : Codes w a zs) :
  Calls Tryz.prog 62 #[av k n a zs.length cap t] w fun e w' => ∃ g', e = .returned (av k n (some ⟨g', 0, none⟩) zs.length zs.length t) ∧ w.heap.size ≤ g' ∧ w'.heap[g']? = some (.cells (cellsI zs).toArray 2 (0, 0)) ∧ Below w.heap.size w w' := by
 have HC : Hid (Codes w a zs) := hc
 clear hc
 go_enter Tryz.func62, Tryz.ntmps62
 go_wp2_with fail
 refine (toIntsO a cap zs _ (HC.out.on ?hb)).mono ?_
 case hb => go_grown
 rintro e w1 ⟨rfl, hc1, hB1⟩
 have HB : Hid (Below w.heap.size w w1) := Below.trans ?hb (hB1.mono (by simp; omega))
 case hb => go_grown
 have HC1 : Hid (w1.heap[w.heap.size + 1 + 1 + 1]? = some (.cells (cellsI zs).toArray 2 (0, 0))) := by show _ = _; simpa using hc1
 obtain ⟨hcl, hfz⟩ := bcell hB1
 have hz : w.heap.size + 1 + 1 < w1.heap.size := by have := hB1.size; simp at this; omega
 simp only [World.size_alloc] at hcl hfz
 clear hc1 hB1 HC
 go_wp2
 refine bodyPost_ret (v := av k n (some ⟨w.heap.size + 1 + 1 + 1, 0, none⟩) zs.length zs.length t) (by simp [results, Tryz.results62, go_sem, hcl]) rfl ⟨_, rfl, by omega, ?_, ?_⟩
 ·repeat (refine blk_other ?_ (by simp) _)
  exact HC1.out
 ·repeat (refine Below.setCell ?_ (show w.heap.size ≤ _ by simp only; omega) _)
  exact HB.out
end Go.Proofs.YtmbhmknfipdadaaGreatDoor.ValW
namespace Go.Proofs.YtmbhmknfipdadaaGreatDoor.ValI
open Go.RowKit
def At4 (w : World) (b : Nat) (v0 v1 v2 v3 : Value) : Prop := w.cell? ⟨b, 0, none⟩ = some v0 ∧ w.cell? ⟨b, 1, none⟩ = some v1 ∧ w.cell? ⟨b, 2, none⟩ = some v2 ∧ w.cell? ⟨b, 3, none⟩ = some v3 ∧ b < w.heap.size
theorem At4.on {w w' : World} {b : Nat} {v0 v1 v2 v3 : Value} (h : At4 w b v0 v1 v2 v3) (hB : Below w.heap.size w w') : At4 w' b v0 v1 v2 v3 := by
 obtain ⟨h0, h1, h2, h3, hb⟩ := h
 exact ⟨by rw [hB.cell (p := ⟨b, 0, none⟩) hb]; exact h0, by rw [hB.cell (p := ⟨b, 1, none⟩) hb]; exact h1, by rw [hB.cell (p := ⟨b, 2, none⟩) hb]; exact h2, by rw [hB.cell (p := ⟨b, 3, none⟩) hb]; exact h3, Nat.lt_of_lt_of_le hb hB.size⟩
theorem At4.laid (w : World) (T : TypeId) (v0 v1 v2 v3 : Value) : At4 (w.alloc (.cells #[v0, v1, v2, v3] T)) w.heap.size v0 v1 v2 v3 := ⟨by simp, by simp, by simp, by simp, by simp⟩
end Go.Proofs.YtmbhmknfipdadaaGreatDoor.ValI
namespace Go.Proofs.YtmbhmknfipdadaaGreatDoor.FixC
open Go.RowKit
open FixS FixF FixH
theorem below_drewN' (w : World) (n : Nat) (B : Nat) : Below B w (w.drewN n) := below_drewN (Below.refl _ _) n
def endE (r : Int × Int) : Ending := if r.2 = 0 then .returned (.int .i64 r.1) else .panicked (ill r.2)
theorem endE_ok {r : Int × Int} (h : r.2 = 0) : endE r = .returned (.int .i64 r.1) := by unfold endE; rw [if_pos h]
theorem endE_no {r : Int × Int} (h : ¬ r.2 = 0) : endE r = .panicked (ill r.2) := by unfold endE; rw [if_neg h]
theorem plus_no (a b : Int) (h : ¬ ((-1000000000000000 ≤ a ∧ a ≤ 1000000000000000) ∧ (-1000000000000000 ≤ b ∧ b ≤ 1000000000000000))) : plusR a b = (0, 1) := by
 unfold plusR; rw [if_neg (by rw [inM_iff, inM_iff]; exact h)]
theorem plus_yes (a b : Int) (h : -1000000000000000 ≤ a ∧ a ≤ 1000000000000000) (h2 : -1000000000000000 ≤ b ∧ b ≤ 1000000000000000) : plusR a b = outR (a + b) := by
 unfold plusR; rw [if_pos ⟨(inM_iff a).2 h, (inM_iff b).2 h2⟩]
theorem minus_no (a b : Int) (h : ¬ ((-1000000000000000 ≤ a ∧ a ≤ 1000000000000000) ∧ (-1000000000000000 ≤ b ∧ b ≤ 1000000000000000))) : minusR a b = (0, 1) := by
 unfold minusR; rw [if_neg (by rw [inM_iff, inM_iff]; exact h)]
theorem minus_yes (a b : Int) (h : -1000000000000000 ≤ a ∧ a ≤ 1000000000000000) (h2 : -1000000000000000 ≤ b ∧ b ≤ 1000000000000000) : minusR a b = outR (a - b) := by
 unfold minusR; rw [if_pos ⟨(inM_iff a).2 h, (inM_iff b).2 h2⟩]
theorem reckoned_end (n : Int) (w : World) : Calls Tryz.prog 181 #[.int .i64 n] w fun e w' => e = endE (outR n) ∧ Below w.heap.size w w' := by
 refine (reckoned_any n w).mono ?_
 rintro e w' ⟨⟨rfl, hin⟩ | ⟨rfl, hout⟩, rfl⟩
 ·exact ⟨by unfold outR; rw [if_pos ((inM_iff n).2 hin)]; rfl, Below.refl _ _⟩
 ·exact ⟨by unfold outR; rw [if_neg (fun h => hout ((inM_iff n).1 h))]; rfl, Below.refl _ _⟩
set_option maxRecDepth 10000 in
set_option maxHeartbeats 1600000 in
theorem plus_call (a b : Int) (p0 p1 : Addr) (w : World) (hp0 : w.cell? p0 = some (.int .i64 a)) (hb0 : p0.block < w.heap.size) (hp1 : w.cell? p1 = some (.int .i64 b)) (hb1 : p1.block < w.heap.size) :
  Calls Tryz.prog 180 #[.pointer (some p0), .pointer (some p1)] w fun e w' => e = endE (plusR a b) ∧ Below w.heap.size w w' := by
 go_enter Tryz.func180, Tryz.ntmps180
 go_wp2_with fail
 refine AnyO.region_by 7 (fun L act W => Below w.heap.size w W ∧ ∃ x2 x3 x4 x5 x6 x7 x8 : Value, act = { tmps := #[.pointer (some p0), .pointer (some p1), x2, x3, x4, x5, x6, x7, x8], defers := [] } ∧
  (L 0 = true → x3 = .int .i64 a) ∧
  (L 1 = true → x4 = .int .i64 a) ∧
  (L 1 = true → -1000000000000000 ≤ a ∧ a ≤ 1000000000000000) ∧
  (L 2 = true → x5 = .int .i64 b) ∧
  (L 3 = true → x6 = .int .i64 b) ∧
  (L 3 = true → -1000000000000000 ≤ b ∧ b ≤ 1000000000000000) ∧
  (L 4 = true → x7 = .int .i64 (a + b)) ∧
  (L 4 = true → (-1000000000000000 ≤ a ∧ a ≤ 1000000000000000) ∧ (-1000000000000000 ≤ b ∧ b ≤ 1000000000000000)) ∧
  (L 5 = true → x8 = .int .i64 (plusR a b).1) ∧
  (L 5 = true → (plusR a b).2 = 0) ∧
  (L 6 = true → x2 = .int .i64 (plusR a b).1)) (by kernel_rfl) (by kernel_rfl) (by kernel_rfl) ?start ?step ?fin
 case start => exact ⟨below_drewN' _ 1 _, _, _, _, _, _, _, _, rfl, by simp, by simp, by simp, by simp, by simp, by simp, by simp, by simp, by simp, by simp, by simp⟩
 case step =>
  rintro i hi L act W ⟨hB, x2, x3, x4, x5, x6, x7, x8, rfl, h0x, h1x, h1y, h2x, h3x, h3y, h4x, h4y, h5x, h5y, h6x⟩ hd
  have hcases : i = 0 ∨ i = 1 ∨ i = 2 ∨ i = 3 ∨ i = 4 ∨ i = 5 ∨ i = 6 := by omega
  rcases hcases with rfl | rfl | rfl | rfl | rfl | rfl | rfl
  ·have hc : W.cell? p0 = some (.int .i64 a) := by rw [hB.cell hb0]; exact hp0
   refine wpOp_step rfl (fun K hK => ?_)
   clear hi hd
   go_simp
   exact hK _ _ ⟨hB, _, _, _, _, _, _, _, rfl, fun _ => rfl, h1x, h1y, h2x, h3x, h3y, h4x, h4y, h5x, h5y, h6x⟩
  ·have hx := h0x (hd 0 (by kernel_rfl))
   subst hx
   refine wpOp_step rfl (fun K hK => ?_)
   clear hi hd
   go_simp
   refine (FixH.handed_any a _).mono ?_
   rintro e w' ⟨⟨rfl, hin⟩ | ⟨rfl, hout⟩, rfl⟩
   ·exact hK _ _ ⟨hB, _, _, _, _, _, _, _, rfl, h0x, fun _ => rfl, fun _ => hin, h2x, h3x, h3y, h4x, h4y, h5x, h5y, h6x⟩
   ·exact ⟨rfl, by rw [plus_no _ _ (fun h => hout (h.1))]; rfl, hB⟩
  ·have hc : W.cell? p1 = some (.int .i64 b) := by rw [hB.cell hb1]; exact hp1
   refine wpOp_step rfl (fun K hK => ?_)
   clear hi hd
   go_simp
   exact hK _ _ ⟨hB, _, _, _, _, _, _, _, rfl, h0x, h1x, h1y, fun _ => rfl, h3x, h3y, h4x, h4y, h5x, h5y, h6x⟩
  ·have hx := h2x (hd 2 (by kernel_rfl))
   subst hx
   refine wpOp_step rfl (fun K hK => ?_)
   clear hi hd
   go_simp
   refine (FixH.handed_any b _).mono ?_
   rintro e w' ⟨⟨rfl, hin⟩ | ⟨rfl, hout⟩, rfl⟩
   ·exact hK _ _ ⟨hB, _, _, _, _, _, _, _, rfl, h0x, h1x, h1y, h2x, fun _ => rfl, fun _ => hin, h4x, h4y, h5x, h5y, h6x⟩
   ·exact ⟨rfl, by rw [plus_no _ _ (fun h => hout (h.2))]; rfl, hB⟩
  ·have e0 := h1x (hd 1 (by kernel_rfl))
   have g0 := h1y (hd 1 (by kernel_rfl))
   have e1 := h3x (hd 3 (by kernel_rfl))
   have g1 := h3y (hd 3 (by kernel_rfl))
   subst e0 e1
   have hwr : IntKind.i64.wrap (a + b) = a + b := by rw [IntKind.wrap_i64]; omega
   refine wpOp_step rfl (fun K hK => ?_)
   clear hi hd
   go_simp
   try rw [hwr]
   exact hK _ _ ⟨hB, _, _, _, _, _, _, _, rfl, h0x, h1x, h1y, h2x, h3x, h3y, fun _ => rfl, fun _ => ⟨g0, g1⟩, h5x, h5y, h6x⟩
  ·have e0 := h4x (hd 4 (by kernel_rfl))
   obtain ⟨g0, g1⟩ := h4y (hd 4 (by kernel_rfl))
   subst e0
   have hR : Hid (plusR a b = _) := plus_yes _ _ g0 g1
   refine wpOp_step rfl (fun K hK => ?_)
   clear hi hd
   go_simp
   refine (reckoned_end _ _).mono ?_
   rintro e w' ⟨he, hB2⟩
   rw [← hR.out] at he
   have hB3 := hB.trans (hB2.mono hB.size)
   by_cases hz : (plusR a b).2 = 0
   ·rw [endE_ok hz] at he
    subst he
    exact hK _ _ ⟨hB3, _, _, _, _, _, _, _, rfl, h0x, h1x, h1y, h2x, h3x, h3y, h4x, h4y, fun _ => rfl, fun _ => hz, h6x⟩
   ·rw [endE_no hz] at he
    subst he
    exact ⟨rfl, (endE_no hz).symm, hB3⟩
  ·have hx := h5x (hd 5 (by kernel_rfl))
   subst hx
   refine wpOp_step rfl (fun K hK => ?_)
   clear hi hd
   generalize hgr : (plusR a b).1 = gr at *
   go_simp
   exact hK _ _ ⟨hB, _, _, _, _, _, _, _, rfl, h0x, h1x, h1y, h2x, h3x, h3y, h4x, h4y, h5x, h5y, fun _ => rfl⟩
 case fin =>
  rintro L act W ⟨hB, x2, x3, x4, x5, x6, x7, x8, rfl, h0x, h1x, h1y, h2x, h3x, h3y, h4x, h4y, h5x, h5y, h6x⟩ hall
  have hx := h6x (hall 6 (by omega))
  have hz : Hid ((plusR a b).2 = 0) := h5y (hall 5 (by omega))
  subst hx
  clear h0x h1x h1y h2x h3x h3y h4x h4y h5x h5y h6x hall
  go_wp2
  go_ret
  exact ⟨(endE_ok hz.out).symm, hB⟩
set_option maxRecDepth 10000 in
set_option maxHeartbeats 1600000 in
theorem minus_call (a b : Int) (p0 p1 : Addr) (w : World) (hp0 : w.cell? p0 = some (.int .i64 a)) (hb0 : p0.block < w.heap.size) (hp1 : w.cell? p1 = some (.int .i64 b)) (hb1 : p1.block < w.heap.size) :
  Calls Tryz.prog 183 #[.pointer (some p0), .pointer (some p1)] w fun e w' => e = endE (minusR a b) ∧ Below w.heap.size w w' := by
 go_enter Tryz.func183, Tryz.ntmps183
 go_wp2_with fail
 refine AnyO.region_by 7 (fun L act W => Below w.heap.size w W ∧ ∃ x2 x3 x4 x5 x6 x7 x8 : Value, act = { tmps := #[.pointer (some p0), .pointer (some p1), x2, x3, x4, x5, x6, x7, x8], defers := [] } ∧
  (L 0 = true → x3 = .int .i64 a) ∧
  (L 1 = true → x4 = .int .i64 a) ∧
  (L 1 = true → -1000000000000000 ≤ a ∧ a ≤ 1000000000000000) ∧
  (L 2 = true → x5 = .int .i64 b) ∧
  (L 3 = true → x6 = .int .i64 b) ∧
  (L 3 = true → -1000000000000000 ≤ b ∧ b ≤ 1000000000000000) ∧
  (L 4 = true → x7 = .int .i64 (a - b)) ∧
  (L 4 = true → (-1000000000000000 ≤ a ∧ a ≤ 1000000000000000) ∧ (-1000000000000000 ≤ b ∧ b ≤ 1000000000000000)) ∧
  (L 5 = true → x8 = .int .i64 (minusR a b).1) ∧
  (L 5 = true → (minusR a b).2 = 0) ∧
  (L 6 = true → x2 = .int .i64 (minusR a b).1)) (by kernel_rfl) (by kernel_rfl) (by kernel_rfl) ?start ?step ?fin
 case start => exact ⟨below_drewN' _ 1 _, _, _, _, _, _, _, _, rfl, by simp, by simp, by simp, by simp, by simp, by simp, by simp, by simp, by simp, by simp, by simp⟩
 case step =>
  rintro i hi L act W ⟨hB, x2, x3, x4, x5, x6, x7, x8, rfl, h0x, h1x, h1y, h2x, h3x, h3y, h4x, h4y, h5x, h5y, h6x⟩ hd
  have hcases : i = 0 ∨ i = 1 ∨ i = 2 ∨ i = 3 ∨ i = 4 ∨ i = 5 ∨ i = 6 := by omega
  rcases hcases with rfl | rfl | rfl | rfl | rfl | rfl | rfl
  ·have hc : W.cell? p0 = some (.int .i64 a) := by rw [hB.cell hb0]; exact hp0
   refine wpOp_step rfl (fun K hK => ?_)
   clear hi hd
   go_simp
   exact hK _ _ ⟨hB, _, _, _, _, _, _, _, rfl, fun _ => rfl, h1x, h1y, h2x, h3x, h3y, h4x, h4y, h5x, h5y, h6x⟩
  ·have hx := h0x (hd 0 (by kernel_rfl))
   subst hx
   refine wpOp_step rfl (fun K hK => ?_)
   clear hi hd
   go_simp
   refine (FixH.handed_any a _).mono ?_
   rintro e w' ⟨⟨rfl, hin⟩ | ⟨rfl, hout⟩, rfl⟩
   ·exact hK _ _ ⟨hB, _, _, _, _, _, _, _, rfl, h0x, fun _ => rfl, fun _ => hin, h2x, h3x, h3y, h4x, h4y, h5x, h5y, h6x⟩
   ·exact ⟨rfl, by rw [minus_no _ _ (fun h => hout (h.1))]; rfl, hB⟩
  ·have hc : W.cell? p1 = some (.int .i64 b) := by rw [hB.cell hb1]; exact hp1
   refine wpOp_step rfl (fun K hK => ?_)
   clear hi hd
   go_simp
   exact hK _ _ ⟨hB, _, _, _, _, _, _, _, rfl, h0x, h1x, h1y, fun _ => rfl, h3x, h3y, h4x, h4y, h5x, h5y, h6x⟩
  ·have hx := h2x (hd 2 (by kernel_rfl))
   subst hx
   refine wpOp_step rfl (fun K hK => ?_)
   clear hi hd
   go_simp
   refine (FixH.handed_any b _).mono ?_
   rintro e w' ⟨⟨rfl, hin⟩ | ⟨rfl, hout⟩, rfl⟩
   ·exact hK _ _ ⟨hB, _, _, _, _, _, _, _, rfl, h0x, h1x, h1y, h2x, fun _ => rfl, fun _ => hin, h4x, h4y, h5x, h5y, h6x⟩
   ·exact ⟨rfl, by rw [minus_no _ _ (fun h => hout (h.2))]; rfl, hB⟩
  ·have e0 := h1x (hd 1 (by kernel_rfl))
   have g0 := h1y (hd 1 (by kernel_rfl))
   have e1 := h3x (hd 3 (by kernel_rfl))
   have g1 := h3y (hd 3 (by kernel_rfl))
   subst e0 e1
   have hwr : IntKind.i64.wrap (a - b) = a - b := by rw [IntKind.wrap_i64]; omega
   refine wpOp_step rfl (fun K hK => ?_)
   clear hi hd
   go_simp
   try rw [hwr]
   exact hK _ _ ⟨hB, _, _, _, _, _, _, _, rfl, h0x, h1x, h1y, h2x, h3x, h3y, fun _ => rfl, fun _ => ⟨g0, g1⟩, h5x, h5y, h6x⟩
  ·have e0 := h4x (hd 4 (by kernel_rfl))
   obtain ⟨g0, g1⟩ := h4y (hd 4 (by kernel_rfl))
   subst e0
   have hR : Hid (minusR a b = _) := minus_yes _ _ g0 g1
   refine wpOp_step rfl (fun K hK => ?_)
   clear hi hd
   go_simp
   refine (reckoned_end _ _).mono ?_
   rintro e w' ⟨he, hB2⟩
   rw [← hR.out] at he
   have hB3 := hB.trans (hB2.mono hB.size)
   by_cases hz : (minusR a b).2 = 0
   ·rw [endE_ok hz] at he
    subst he
    exact hK _ _ ⟨hB3, _, _, _, _, _, _, _, rfl, h0x, h1x, h1y, h2x, h3x, h3y, h4x, h4y, fun _ => rfl, fun _ => hz, h6x⟩
   ·rw [endE_no hz] at he
    subst he
    exact ⟨rfl, (endE_no hz).symm, hB3⟩
  ·have hx := h5x (hd 5 (by kernel_rfl))
   subst hx
   refine wpOp_step rfl (fun K hK => ?_)
   clear hi hd
   generalize hgr : (minusR a b).1 = gr at *
   go_simp
   exact hK _ _ ⟨hB, _, _, _, _, _, _, _, rfl, h0x, h1x, h1y, h2x, h3x, h3y, h4x, h4y, h5x, h5y, fun _ => rfl⟩
 case fin =>
  rintro L act W ⟨hB, x2, x3, x4, x5, x6, x7, x8, rfl, h0x, h1x, h1y, h2x, h3x, h3y, h4x, h4y, h5x, h5y, h6x⟩ hall
  have hx := h6x (hall 6 (by omega))
  have hz : Hid ((minusR a b).2 = 0) := h5y (hall 5 (by omega))
  subst hx
  clear h0x h1x h1y h2x h3x h3y h4x h4y h5x h5y h6x hall
  go_wp2
  go_ret
  exact ⟨(endE_ok hz.out).symm, hB⟩
end Go.Proofs.YtmbhmknfipdadaaGreatDoor.FixC
namespace Go.Proofs.YtmbhmknfipdadaaGreatDoor.FixT
open Go.RowKit
open FixS FixF FixH FixC
theorem faced_any (K : FuncId) (caps : Array Value) (r : Int × Int) (w : World) (hz : ¬ r.2 = 0 → r.1 = 0) (hent : ∀ W, (callFunc K caps).run Tryz.prog W = .ok (.enter K caps) W)
  (hcall : Calls Tryz.prog K caps (w.alloc (.cells #[.int .i64 0, .int .i64 0, .int .i64 0] 206)) fun e w' =>
   e = endE r ∧ Below (w.alloc (.cells #[.int .i64 0, .int .i64 0, .int .i64 0] 206)).heap.size (w.alloc (.cells #[.int .i64 0, .int .i64 0, .int .i64 0] 206)) w') :
  Calls Tryz.prog 179 #[.func (.func K) #[] caps] w fun e w' => e = .returned (numV r.1 r.2) ∧ Below w.heap.size w w' := by
 have hs : (w.alloc (.cells #[.int .i64 0, .int .i64 0, .int .i64 0] 206)).heap.size = w.heap.size + 1 := by simp
 rw [hs] at hcall
 by_cases h : r.2 = 0
 ·rw [endE_ok h] at hcall; rw [h]; exact faced_num K caps r.1 w hent hcall
 ·rw [endE_no h] at hcall; rw [hz h]; exact faced_ill K caps r.2 w hent hcall
theorem out_zero (n : Int) : ¬ (outR n).2 = 0 → (outR n).1 = 0 := by
 unfold outR; split
 ·intro h; exact absurd rfl h
 ·intro _; rfl
theorem cells_out' {w w1 : World} {b B : Nat} (hB : Below B w w1) (hb : b < B) (h0 : w.cell? ⟨b, 0, none⟩ = some (.int .i64 0)) (h1 : w.cell? ⟨b, 1, none⟩ = some (.int .i64 0)) (h2 : w.cell? ⟨b, 2, none⟩ = some (.int .i64 0))
  (hf : ∀ o, w.frozen? ⟨b, o, none⟩ = false) :
  w1.cell? ⟨b, 0, none⟩ = some (.int .i64 0) ∧ w1.cell? ⟨b, 1, none⟩ = some (.int .i64 0) ∧ w1.cell? ⟨b, 2, none⟩ = some (.int .i64 0) ∧ (∀ o, w1.frozen? ⟨b, o, none⟩ = false) :=
 ⟨by rw [hB.cell (p := ⟨b, 0, none⟩) hb]; exact h0, by rw [hB.cell (p := ⟨b, 1, none⟩) hb]; exact h1, by rw [hB.cell (p := ⟨b, 2, none⟩) hb]; exact h2,
  fun o => by rw [hB.frozen (p := ⟨b, o, none⟩) hb]; exact hf o⟩
theorem plus_zero (a b : Int) : ¬ (plusR a b).2 = 0 → (plusR a b).1 = 0 := by
 unfold plusR; split
 ·exact out_zero _
 ·intro _; rfl
theorem minus_zero (a b : Int) : ¬ (minusR a b).2 = 0 → (minusR a b).1 = 0 := by
 unfold minusR; split
 ·exact out_zero _
 ·intro _; rfl
set_option maxRecDepth 10000 in
set_option maxHeartbeats 1600000 in
theorem plus_face (a b : Int) (w : World) :
  Calls Tryz.prog 144 #[.int .i64 a, .int .i64 b] w fun e w' => e = .returned (numV (plusR a b).1 (plusR a b).2) ∧ Below w.heap.size w w' := by
 have hmf : ∀ (fn : Fn) (first cap : Array Value) (w : World), (Instr.makeFunc fn first cap).run Tryz.prog w = .ok (.func fn first cap) w := fun _ _ _ _ => rfl
 obtain ⟨r, hr⟩ : ∃ r, Hid (plusR a b = r) := ⟨_, rfl⟩
 rw [hr.out]
 go_enter Tryz.func144, Tryz.ntmps144
 go_wp2_with fail
 refine (faced_any 180 _ r _ ?_ ?_ ?_).mono ?_
 ·rw [← hr.out]; exact plus_zero a b
 ·intro W; rfl
 ·rw [← hr.out]
  refine plus_call a b _ _ _ ?_ ?_ ?_ ?_
  all_goals first | (simp; done) | (go_simp; done) | (simp; omega)
 rintro e w1 ⟨rfl, hB⟩
 obtain ⟨hc0, hc1, hc2, hf⟩ := cells_out' hB (b := w.heap.size + 1 + 1) (by simp) (by first | (go_simp; done) | simp) (by first | (go_simp; done) | simp) (by first | (go_simp; done) | simp) (by intro o; first | (go_simp; done) | simp)
 have HB : Hid (Below w.heap.size w w1) := ((((Below.refl _ _).alloc (Nat.le_refl _) _).alloc (by simp; try omega) _).alloc (by simp; try omega) _).trans (hB.mono (by simp; try omega))
 clear hB hr
 unfold numV
 go_wp2
 refine bodyPost_ret (v := numV r.1 r.2) (by simp [results, Tryz.results144, go_sem, numV, hc0, hc1, hc2]) rfl ⟨rfl, ?_⟩
 exact (((HB.out).setCell (by simp; try omega) _).setCell (by simp; try omega) _).setCell (by simp; try omega) _
set_option maxRecDepth 10000 in
set_option maxHeartbeats 1600000 in
theorem minus_face (a b : Int) (w : World) :
  Calls Tryz.prog 145 #[.int .i64 a, .int .i64 b] w fun e w' => e = .returned (numV (minusR a b).1 (minusR a b).2) ∧ Below w.heap.size w w' := by
 have hmf : ∀ (fn : Fn) (first cap : Array Value) (w : World), (Instr.makeFunc fn first cap).run Tryz.prog w = .ok (.func fn first cap) w := fun _ _ _ _ => rfl
 obtain ⟨r, hr⟩ : ∃ r, Hid (minusR a b = r) := ⟨_, rfl⟩
 rw [hr.out]
 go_enter Tryz.func145, Tryz.ntmps145
 go_wp2_with fail
 refine (faced_any 183 _ r _ ?_ ?_ ?_).mono ?_
 ·rw [← hr.out]; exact minus_zero a b
 ·intro W; rfl
 ·rw [← hr.out]
  refine minus_call a b _ _ _ ?_ ?_ ?_ ?_
  all_goals first | (simp; done) | (go_simp; done) | (simp; omega)
 rintro e w1 ⟨rfl, hB⟩
 obtain ⟨hc0, hc1, hc2, hf⟩ := cells_out' hB (b := w.heap.size + 1 + 1) (by simp) (by first | (go_simp; done) | simp) (by first | (go_simp; done) | simp) (by first | (go_simp; done) | simp) (by intro o; first | (go_simp; done) | simp)
 have HB : Hid (Below w.heap.size w w1) := ((((Below.refl _ _).alloc (Nat.le_refl _) _).alloc (by simp; try omega) _).alloc (by simp; try omega) _).trans (hB.mono (by simp; try omega))
 clear hB hr
 unfold numV
 go_wp2
 refine bodyPost_ret (v := numV r.1 r.2) (by simp [results, Tryz.results145, go_sem, numV, hc0, hc1, hc2]) rfl ⟨rfl, ?_⟩
 exact (((HB.out).setCell (by simp; try omega) _).setCell (by simp; try omega) _).setCell (by simp; try omega) _
end Go.Proofs.YtmbhmknfipdadaaGreatDoor.FixT
