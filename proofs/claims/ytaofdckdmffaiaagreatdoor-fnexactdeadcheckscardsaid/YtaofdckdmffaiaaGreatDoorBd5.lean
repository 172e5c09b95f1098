/- Texts of ours, laid together: AnyOrder, AnyOrder2. -/
import Derived.Test.YtaofdckdmffaiaaGreatDoorProg
import Derived.WalkKit
import Derived.WalkSpells
import Derived.WalkLawsBesides
import Derived.RegionTactic
/- A region that draws its order, by an invariant over what has been run: each operation, once what it waits for has been run, keeps the invariant or leaves the region as it may. -/
namespace Go.Proofs.YtaofdckdmffaiaaGreatDoor.AnyO
open Go.RowKit

/-- what has been run, with one operation more -/
def more (L : Nat → Bool) (i : Nat) : Nat → Bool := fun j => j == i || L j

section
variable {P : Program} {ops : Array Oper} {Q : Exit → Act → World → Prop}

theorem ready_mem {md : Region.Mode} {listed : Array Bool} {i : Nat} (h : i ∈ Region.ready md ops listed) :
    ∃ o, ops[i]? = some o ∧ i < ops.size ∧ listed.getD i true = false ∧ ∀ e ∈ o.after, Region.binds md e = true → listed.getD e.on false = true := by
  unfold Region.ready at h
  obtain ⟨h1, h2⟩ := List.mem_filter.1 h
  have hi : i < ops.size := by simpa using h1
  rw [Array.getElem?_eq_getElem hi] at h2 ⊢
  refine ⟨ops[i], rfl, hi, ?_, ?_⟩
  · revert h2; cases listed.getD i true <;> simp
  · intro e he hb
    simp only [Option.map_some, Option.getD_some, Bool.and_eq_true] at h2
    have := Array.all_eq_true'.1 h2.2 e he
    simp [hb] at this
    simpa using this

theorem ready_of {md : Region.Mode} {listed : Array Bool} {i : Nat} (hi : i < ops.size) (hl : listed.getD i true = false)
    (h : ∀ e ∈ ops[i].after, Region.binds md e = true → listed.getD e.on false = true) : i ∈ Region.ready md ops listed := by
  unfold Region.ready
  refine List.mem_filter.2 ⟨by simpa using hi, ?_⟩
  rw [Array.getElem?_eq_getElem hi]
  simp only [hl, Option.map_some, Option.getD_some, Bool.not_false, Bool.true_and]
  refine Array.all_eq_true'.2 fun e he => ?_
  cases hb : Region.binds md e with
  | false => rfl
  | true => rw [h e he hb]; rfl

/-- nothing is ready any more: all has been run -/
theorem all_run {md : Region.Mode} {listed : Array Bool} (hs : listed.size = ops.size) (hord : ∀ i (h : i < ops.size), ∀ e ∈ ops[i].after, Region.binds md e = true → e.on < i)
    (hr : Region.ready md ops listed = []) : ∀ i, i < ops.size → listed.getD i false = true := by
  intro i
  induction i using Nat.strongRecOn with
  | _ i ih =>
    intro hi
    cases hl : listed.getD i true with
    | true => simp only [Array.getD_eq_getD_getElem?] at hl ⊢; rw [Array.getElem?_eq_getElem (by omega)] at hl ⊢; simpa using hl
    | false =>
      have := ready_of (md := md) hi hl (fun e he hb => ih e.on (hord i hi e he hb) (by have := hord i hi e he hb; omega))
      rw [hr] at this; cases this

theorem any_by {md : Region.Mode} {Inv : (Nat → Bool) → Act → World → Prop}
    (hord : ∀ i (h : i < ops.size), ∀ e ∈ ops[i].after, Region.binds md e = true → e.on < i)
    (hstep : ∀ i (h : i < ops.size) (L : Nat → Bool) (a : Act) (w : World), Inv L a w → L i = false → (∀ e ∈ ops[i].after, Region.binds md e = true → L e.on = true) →
      wpOp P ops Q i (Inv (more L i)) a w)
    (hend : ∀ (L : Nat → Bool) (a : Act) (w : World), Inv L a w → (∀ i, i < ops.size → L i = true) → Q .normal a w) :
    ∀ (fuel : Nat) (listed : Array Bool) (a : Act) (w : World), listed.size = ops.size → listed.toList.count false ≤ fuel → Inv (fun i => listed.getD i false) a w →
      wpAny P md ops Q fuel listed a w := by
  intro fuel
  induction fuel with
  | zero =>
    intro listed a w hs hc hI
    have hr : Region.ready md ops listed = [] := by
      rw [List.eq_nil_iff_forall_not_mem]
      intro i hi
      obtain ⟨o, _, hi2, hl, _⟩ := ready_mem hi
      have hz : listed.toList.count false = 0 := by omega
      rw [List.count_eq_zero] at hz
      refine hz ?_
      simp only [Array.getD_eq_getD_getElem?] at hl; rw [Array.getElem?_eq_getElem (by omega)] at hl
      simp at hl
      rw [← hl]; simp
    exact ⟨hr, hend _ _ _ hI (all_run hs hord hr)⟩
  | succ fuel ih =>
    intro listed a w hs hc hI
    refine ⟨fun hr => hend _ _ _ hI (all_run hs hord hr), fun i hi => ?_⟩
    obtain ⟨o, ho, hi2, hl, hd⟩ := ready_mem hi
    have hl2 : listed[i]'(by omega) = false := by
      simp only [Array.getD_eq_getD_getElem?] at hl; rw [Array.getElem?_eq_getElem (by omega)] at hl
      simpa using hl
    have hl3 : listed.getD i false = false := by
      simp only [Array.getD_eq_getD_getElem?]; rw [Array.getElem?_eq_getElem (by omega)]; simpa using hl2
    have ho2 : ops[i] = o := by rw [Array.getElem?_eq_getElem hi2] at ho; simpa using ho
    refine wpOp_mono ?_ (hstep i hi2 (fun i => listed.getD i false) a w hI hl3 (by rw [ho2]; exact hd))
    intro a' w' hI'
    refine ih _ _ _ (by simpa using hs) ?_ ?_
    · rw [Array.toList_setIfInBounds, List.count_set (by simpa using (by omega : i < listed.size))]
      have : listed.toList[i]'(by simpa using (by omega : i < listed.size)) = false := by simpa using hl2
      have hp : 0 < listed.toList.count false := List.count_pos_iff.2 (this ▸ List.getElem_mem _)
      rw [this, if_pos (by rfl), if_neg (by decide)]; omega
    · have : (fun j => (listed.setIfInBounds i true).getD j false) = more (fun i => listed.getD i false) i := by
        funext j
        unfold more
        simp only [Array.getD_eq_getD_getElem?, Array.getElem?_setIfInBounds]
        by_cases hj : i = j
        · subst hj; rw [if_pos rfl, if_pos (by omega)]; simp
        · rw [if_neg hj]; simp [show ¬ j = i from fun h => hj h.symm]
      rw [this]; exact hI'

/-- each operation waits for earlier ones alone -/
def ordB (ops : Array Oper) : Bool := (List.range ops.size).all fun i => ((ops[i]?).map fun o => o.after.all fun e => !Region.binds .any e || decide (e.on < i)).getD true
theorem ord_of (h : ordB ops = true) : ∀ i (h : i < ops.size), ∀ e ∈ ops[i].after, Region.binds .any e = true → e.on < i := by
  intro i hi e he hb
  have h1 := List.all_eq_true.1 h i (by simpa using hi)
  rw [Array.getElem?_eq_getElem hi] at h1
  simp only [Option.map_some, Option.getD_some] at h1
  have := Array.all_eq_true'.1 h1 e he
  rw [hb] at this
  simpa using this

/-- does operation i wait for operation j? -/
def waitsB (ops : Array Oper) (i j : Nat) : Bool := ((ops[i]?).map fun o => o.after.any fun e => e.on == j && Region.binds .any e).getD false
theorem waits_of {L : Nat → Bool} {i : Nat} (h : i < ops.size) (hd : ∀ e ∈ ops[i].after, Region.binds .any e = true → L e.on = true) (j : Nat) (hj : waitsB ops i j = true) : L j = true := by
  unfold waitsB at hj
  rw [Array.getElem?_eq_getElem h] at hj
  simp only [Option.map_some, Option.getD_some] at hj
  obtain ⟨e, he, hb⟩ := Array.any_eq_true'.1 hj
  simp only [Bool.and_eq_true, beq_iff_eq] at hb
  rw [← hb.1]; exact hd e he hb.2

theorem region_by {id : Nat} {a : Act} {w : World} (n : Nat) (Inv : (Nat → Bool) → Act → World → Prop) (hm : P.follows .mixedOrders = true)
    (hord : ordB ops = true) (hn : ops.size = n)
    (hstart : Inv (fun _ => false) a w.drew)
    (hstep : ∀ i, i < n → ∀ (L : Nat → Bool) (a : Act) (w : World), Inv L a w → (∀ j, waitsB ops i j = true → L j = true) → wpOp P ops Q i (Inv (more L i)) a w)
    (hend : ∀ (L : Nat → Bool) (a : Act) (w : World), Inv L a w → (∀ i, i < n → L i = true) → Q .normal a w) :
    (Code.region id ops true).wp P Q a w := by
  subst hn
  refine wp_region_any hm (any_by (ord_of hord) (fun i hi L a w hI _ hd => hstep i hi L a w hI (waits_of hi hd)) hend _ _ _ _ (by simp) (by simp) ?_)
  have : (fun i => (Array.replicate ops.size false).getD i false) = fun _ => false := by
    funext i; simp only [Array.getD_eq_getD_getElem?, Array.getElem?_replicate]; split <;> rfl
  rw [this]; exact hstart
end
end Go.Proofs.YtaofdckdmffaiaaGreatDoor.AnyO
/- As region_by, the operation at hand having not been run. -/
namespace Go.Proofs.YtaofdckdmffaiaaGreatDoor.AnyO
open Go.RowKit

theorem region_by2 {P : Program} {ops : Array Oper} {Q : Exit → Act → World → Prop} {id : Nat} {a : Act} {w : World} (n : Nat) (Inv : (Nat → Bool) → Act → World → Prop) (hm : P.follows .mixedOrders = true)
    (hord : ordB ops = true) (hn : ops.size = n)
    (hstart : Inv (fun _ => false) a w.drew)
    (hstep : ∀ i, i < n → ∀ (L : Nat → Bool) (a : Act) (w : World), Inv L a w → L i = false → (∀ j, waitsB ops i j = true → L j = true) → wpOp P ops Q i (Inv (more L i)) a w)
    (hend : ∀ (L : Nat → Bool) (a : Act) (w : World), Inv L a w → (∀ i, i < n → L i = true) → Q .normal a w) :
    (Code.region id ops true).wp P Q a w := by
  subst hn
  refine wp_region_any hm (any_by (ord_of hord) (fun i hi L a w hI hl hd => hstep i hi L a w hI hl (waits_of hi hd)) hend _ _ _ _ (by simp) (by simp) ?_)
  have : (fun i => (Array.replicate ops.size false).getD i false) = fun _ => false := by
    funext i; simp only [Array.getD_eq_getD_getElem?, Array.getElem?_replicate]; split <;> rfl
  rw [this]; exact hstart
end Go.Proofs.YtaofdckdmffaiaaGreatDoor.AnyO
