/- Texts of ours, laid together. -/
import Derived.Test.YtmbhmknfipdadaaGreatDoorBd39
namespace Go.Proofs.YtmbhmknfipdadaaGreatDoor.RteS
open Go.RowKit
open PrtW ItmW FrmM RteM
open AnsW (An an0 Ans)
open AnsO (OwnR Ax)
abbrev strB (P : List ByteArray) : List Value := P.map Value.string
def OwnT (W : World) (base : Nat) (v : Value) (P : List ByteArray) : Prop := W.ownsRow base 9 1 v P.length (strB P)
theorem own_block {W : World} {base k n : Nat} {e : TypeId} {v : Value} {xs : List Value} (h : W.ownsRow base e k v n xs) {b : Nat} (hb : v.ownBlock = some b) : ∃ cs, W.heap[b]? = some (.cells cs e (0, 0)) := by
 rcases h.2 with ⟨rfl, _⟩ | ⟨g, cap, cur, rfl, _, hg, _⟩
 ·cases hb
 ·cases hb; exact ⟨cur, hg⟩
theorem own_shape {W : World} {base k n : Nat} {e : TypeId} {v : Value} {xs : List Value} (h : W.ownsRow base e k v n xs) : ∃ a c, v = .slice a n c ∧ (v ≠ .slice none 0 0 → n ≤ c) := by
 rcases h.2 with ⟨rfl, rfl⟩ | ⟨g, cap, cur, rfl, _, _, hc, _⟩
 ·exact ⟨none, 0, rfl, fun h => absurd rfl h⟩
 ·exact ⟨_, _, rfl, fun _ => hc⟩
theorem own_below {W W' : World} {base k n : Nat} {e : TypeId} {v : Value} {xs : List Value} (h : W.ownsRow base e k v n xs) (hB : Below W.heap.size W W') : W'.ownsRow base e k v n xs := by
 obtain ⟨h1, h2⟩ := h
 refine ⟨h1, ?_⟩
 rcases h2 with h2 | ⟨g, cap, cur, hv, hb, hg, r⟩
 ·exact .inl h2
 ·exact .inr ⟨g, cap, cur, hv, hb, by rw [hB.block g (ItmW.blk_lt hg)]; exact hg, r⟩
theorem good_fit {p : An} (h : AnsW.good p = true) : AnsW.Fit p := by
 unfold AnsW.good at h
 rw [Bool.and_eq_true] at h
 obtain ⟨h1, h3⟩ := h
 have hs20 : (AnsW.nm p).size ≤ 20 := (of_decide_eq_true h1).2.1
 have hrt : ValM.right (AnsW.kd p) (AnsW.nu p) (AnsW.cd p) (AnsW.tx p) = true := by unfold ValK.answeredB at h3; simp at h3; exact h3.1
 refine ⟨by omega, ?_⟩
 rcases ValM.kinds hrt with ⟨_, _, _, h⟩ | ⟨_, _, _, _, h⟩ | ⟨_, _, _, _, h⟩ | ⟨_, _, _, h⟩ | ⟨_, _, _, _, h⟩ <;> omega
def RtS (W : World) (b0 : Nat) (vP vK vB : Value) (P : List ByteArray) (K : List An) (B : List ByteArray) : Prop :=
 OwnT W b0 vP P ∧ OwnT W b0 vB B ∧ (vK = .slice none 0 0 ∧ K = [] ∨ ∃ qs, OwnR W b0 vK qs ∧ qs.map Prod.fst = K) ∧ ∀ b, vP.ownBlock = some b → vB.ownBlock ≠ some b
section
variable {W W' : World} {b0 : Nat} {vP vK vB : Value} {P B : List ByteArray} {K : List An}
theorem RtS.nil (W : World) (b0 : Nat) : RtS W b0 (.slice none 0 0) (.slice none 0 0) (.slice none 0 0) [] [] [] := ⟨World.ownsRow_nil _ _ _ _, World.ownsRow_nil _ _ _ _, .inl ⟨rfl, rfl⟩, fun b h => by cases h⟩
theorem RtS.on (h : RtS W b0 vP vK vB P K B) (hB : Below W.heap.size W W') : RtS W' b0 vP vK vB P K B := by
 refine ⟨own_below h.1 hB, own_below h.2.1 hB, ?_, h.2.2.2⟩
 rcases h.2.2.1 with h1 | ⟨qs, h1, h2⟩
 ·exact .inl h1
 ·exact .inr ⟨qs, h1.on hB, h2⟩
theorem own_set {base k n : Nat} {e : TypeId} {v : Value} {xs : List Value} (h : W.ownsRow base e k v n xs) {b : Nat} (hb : b < base) (j : Nat) (u : Value) : (W.setCell ⟨b, j, none⟩ u).ownsRow base e k v n xs := ownsRow_setCell_below h (a := ⟨b, j, none⟩) hb u
theorem RtS.set (h : RtS W b0 vP vK vB P K B) {b : Nat} (hb : b < b0) (ht : ∃ cs T fz, W.heap[b]? = some (.cells cs T fz) ∧ T ≠ 2) (j : Nat) (u : Value) : RtS (W.setCell ⟨b, j, none⟩ u) b0 vP vK vB P K B := by
 refine ⟨own_set h.1 hb j u, own_set h.2.1 hb j u, ?_, h.2.2.2⟩
 rcases h.2.2.1 with h1 | ⟨qs, h1, h2⟩
 ·exact .inl h1
 ·exact .inr ⟨qs, h1.set hb ht j u, h2⟩
theorem RtS.ans (h : RtS W b0 vP vK vB P K B) (hr : AnsW.rightA K = true) : ∃ ak ck, vK = .slice ak K.length ck ∧ Ans W ak K := by
 rcases h.2.2.1 with ⟨rfl, rfl⟩ | ⟨qs, h1, rfl⟩
 ·exact ⟨none, 0, rfl, Ans.nil _ _⟩
 ·obtain ⟨g, c, rfl⟩ := h1.2.2
  have hg := AnsW.right_ris hr
  have hl : qs.length = (qs.map Prod.fst).length := by simp
  exact ⟨some ⟨g, 0, none⟩, c, by rw [← hl], h1.ans (by omega) (fun q hq => good_fit (hg.2.2 _ (List.mem_map.2 ⟨q, hq, rfl⟩)))⟩
theorem RtS.grown {v' : Value} {N : List ByteArray} (hT : OwnT W b0 v' N) (h : vK = .slice none 0 0 ∧ K = [] ∨ ∃ qs, OwnR W b0 vK qs ∧ qs.map Prod.fst = K) (hg : W.grownBy W' v'.ownBlock) : vK = .slice none 0 0 ∧ K = [] ∨ ∃ qs, OwnR W' b0 vK qs ∧ qs.map Prod.fst = K := by
 rcases h with h1 | ⟨qs, h1, h2⟩
 ·exact .inl h1
 ·refine .inr ⟨qs, h1.kept hg (fun b hb => ?_) (fun b hb e => ?_), h2⟩
  ·obtain ⟨cs, hc⟩ := own_block hT hb
   exact ⟨cs, _, _, hc, by decide⟩
  ·obtain ⟨cs, hc⟩ := own_block hT e
   obtain ⟨cs2, hc2⟩ := own_block h1.1 hb
   rw [hc] at hc2
   injection hc2 with hc2
   injection hc2 with _ hc3
   exact absurd hc3 (by decide)
theorem RtS.pushP {v' : Value} {s : ByteArray} (h : RtS W b0 vP vK vB P K B) (hown : W'.ownsRow b0 9 1 v' (P.length + 1) (strB P ++ [.string s])) (hg : W.grownBy W' vP.ownBlock) (hat : v'.ownBlock = vP.ownBlock ∨ v'.ownBlock = some W.heap.size) : RtS W' b0 v' vK vB (P ++ [s]) K B := by
 refine ⟨by unfold OwnT; simpa [strB] using hown, h.2.1.kept hg ?_, RtS.grown h.1 h.2.2.1 hg, fun b hb e => ?_⟩
 ·cases hv : vB.ownBlock with
  | none => exact .inl rfl
  | some b => exact .inr (fun e => h.2.2.2 b e.symm hv)
 ·rcases hat with h1 | h1
  ·exact h.2.2.2 b (h1.symm.trans hb) e
  ·rw [h1] at hb
   cases hb
   have := (h.2.1.lt _ e).2
   omega
theorem RtS.pushB {v' : Value} {s : ByteArray} (h : RtS W b0 vP vK vB P K B) (hown : W'.ownsRow b0 9 1 v' (B.length + 1) (strB B ++ [.string s])) (hg : W.grownBy W' vB.ownBlock) (hat : v'.ownBlock = vB.ownBlock ∨ v'.ownBlock = some W.heap.size) : RtS W' b0 vP vK v' P K (B ++ [s]) := by
 refine ⟨h.1.kept hg ?_, by unfold OwnT; simpa [strB] using hown, RtS.grown h.2.1 h.2.2.1 hg, fun b hb e => ?_⟩
 ·cases hv : vP.ownBlock with
  | none => exact .inl rfl
  | some b => exact .inr (fun e => h.2.2.2 b hv e.symm)
 ·rcases hat with h1 | h1
  ·exact h.2.2.2 b hb (h1.symm.trans e)
  ·rw [h1] at e
   cases e
   have := (h.1.lt _ hb).2
   omega
theorem RtS.putK {v' : Value} {qs : List Ax} {b1 : Nat} (h : RtS W b0 vP vK vB P K B) (hO : OwnR W b1 v' qs) (hb : b0 ≤ b1) : RtS W b0 vP v' vB P (qs.map Prod.fst) B := ⟨h.1, h.2.1, .inr ⟨qs, hO.base hb, rfl⟩, h.2.2.2⟩
end
def RoB (W : World) (O : Nat) (vP vK vB : Value) (cur : ByteArray) (dn : Bool) : Prop := W.heap[O]? = some (.cells #[vP, vK, vB, .string cur, .bool dn] 29 (0, 0))
section
variable {W W' : World} {O : Nat} {vP vK vB : Value} {cur : ByteArray} {dn : Bool}
theorem RoB.on (h : RoB W O vP vK vB cur dn) (hB : Below W.heap.size W W') : RoB W' O vP vK vB cur dn := by
 unfold RoB at h ⊢
 rw [hB.block O (ItmW.blk_lt h)]; exact h
theorem RoB.cells (h : RoB W O vP vK vB cur dn) : (W.cell? ⟨O, 0, none⟩ = some vP ∧ W.cell? ⟨O, 1, none⟩ = some vK ∧ W.cell? ⟨O, 2, none⟩ = some vB ∧ W.cell? ⟨O, 3, none⟩ = some (.string cur) ∧ W.cell? ⟨O, 4, none⟩ = some (.bool dn)) ∧ (∀ j, W.frozen? ⟨O, j, none⟩ = false) ∧ O < W.heap.size := by
 unfold RoB at h
 exact ⟨⟨by simp [World.cell?, h], by simp [World.cell?, h], by simp [World.cell?, h], by simp [World.cell?, h], by simp [World.cell?, h]⟩, fun j => by simp [World.frozen?, h], ItmW.blk_lt h⟩
theorem RoB.ty (h : RoB W O vP vK vB cur dn) : ∃ cs T fz, W.heap[O]? = some (.cells cs T fz) ∧ T ≠ 2 := ⟨_, _, _, h, by decide⟩
theorem RoB.setP (h : RoB W O vP vK vB cur dn) (v : Value) : RoB (W.setCell ⟨O, 0, none⟩ v) O v vK vB cur dn := by
 unfold RoB at h ⊢
 rw [PrtW.blk_set _ _ _ _ _ _ h]; simp only [List.setIfInBounds_toArray, List.set_cons_zero]
theorem RoB.setK (h : RoB W O vP vK vB cur dn) (v : Value) : RoB (W.setCell ⟨O, 1, none⟩ v) O vP v vB cur dn := by
 unfold RoB at h ⊢
 rw [PrtW.blk_set _ _ _ _ _ _ h]; simp only [List.setIfInBounds_toArray, List.set_cons_zero, List.set_cons_succ]
theorem RoB.setB (h : RoB W O vP vK vB cur dn) (v : Value) : RoB (W.setCell ⟨O, 2, none⟩ v) O vP vK v cur dn := by
 unfold RoB at h ⊢
 rw [PrtW.blk_set _ _ _ _ _ _ h]; simp only [List.setIfInBounds_toArray, List.set_cons_zero, List.set_cons_succ]
theorem RoB.setC (h : RoB W O vP vK vB cur dn) (s : ByteArray) : RoB (W.setCell ⟨O, 3, none⟩ (.string s)) O vP vK vB s dn := by
 unfold RoB at h ⊢
 rw [PrtW.blk_set _ _ _ _ _ _ h]; simp only [List.setIfInBounds_toArray, List.set_cons_zero, List.set_cons_succ]
theorem RoB.setD (h : RoB W O vP vK vB cur dn) (b : Bool) : RoB (W.setCell ⟨O, 4, none⟩ (.bool b)) O vP vK vB cur b := by
 unfold RoB at h ⊢
 rw [PrtW.blk_set _ _ _ _ _ _ h]; simp only [List.setIfInBounds_toArray, List.set_cons_zero, List.set_cons_succ]
theorem RoB.grown {row : Option Nat} (h : RoB W O vP vK vB cur dn) (hg : W.grownBy W' row) (hne : row ≠ some O) : RoB W' O vP vK vB cur dn := by
 unfold RoB at h ⊢
 rw [hg.block O (ItmW.blk_lt h) (fun e => hne e.symm)]; exact h
theorem RoB.five (h : RoB W O vP vK vB cur dn) (uP uK uB : Value) (c : ByteArray) (d : Bool) : RoB (((((W.setCell ⟨O, 0, none⟩ uP).setCell ⟨O, 1, none⟩ uK).setCell ⟨O, 2, none⟩ uB).setCell ⟨O, 3, none⟩ (.string c)).setCell ⟨O, 4, none⟩ (.bool d)) O uP uK uB c d := ((((h.setP uP).setK uK).setB uB).setC c).setD d
theorem RoB.other (h : RoB W O vP vK vB cur dn) {b : Nat} (hb : b ≠ O) (j : Nat) (u : Value) : RoB (W.setCell ⟨b, j, none⟩ u) O vP vK vB cur dn := by
 unfold RoB at h ⊢
 rw [Below.heap_setCell _ _ _ _ (fun e => hb e.symm)]; exact h
end
end Go.Proofs.YtmbhmknfipdadaaGreatDoor.RteS
