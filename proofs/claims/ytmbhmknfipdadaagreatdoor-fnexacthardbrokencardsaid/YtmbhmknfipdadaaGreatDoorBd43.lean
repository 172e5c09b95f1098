/- Texts of ours, laid together. -/
import Derived.Test.YtmbhmknfipdadaaGreatDoorBd37
import Derived.Test.YtmbhmknfipdadaaGreatDoorBd38
import Derived.Test.YtmbhmknfipdadaaGreatDoorBd30
namespace Go.Proofs.YtmbhmknfipdadaaGreatDoor.AnsL
open Go.RowKit
open AnsW ValW ValI RdS RdI RdL
theorem marked_block {w w' : World} {a : Option Addr} {zs : List Int} {k : Int} (h : Marked w w' a zs k) {j : Nat} (hj : j < w.heap.size) (hn : ∀ b o, a = some ⟨b, o, none⟩ → 0 < zs.length → j ≠ b) : w'.heap[j]? = w.heap[j]? := h.2.2.2.2.1 j hj hn
theorem codes_marked {w w' : World} {a a' : Option Addr} {zs ys : List Int} {k : Int} (h : Codes w a' ys) (hM : Marked w w' a zs k) (hn : ∀ b o b' o', a = some ⟨b, o, none⟩ → a' = some ⟨b', o', none⟩ → 0 < zs.length → 0 < ys.length → b' ≠ b) : Codes w' a' ys := by
 refine ⟨h.1, fun hp => ?_⟩
 obtain ⟨b, o, ha, hl, hc⟩ := h.2 hp
 exact ⟨b, o, ha, Nat.lt_of_lt_of_le hl hM.2.2.2.1, fun i hi => by rw [World.cell?_of_block (w := w) (marked_block hM hl (fun b1 o1 h1 h2 => hn b1 o1 b o h1 ha h2 hp))]; exact hc i hi⟩
open Go.RowKit
open AnsW ValW ValI RdS RdI RdL BookW
theorem hid {p : Prop} (h : p) : Hid p := h
def mk (n : Nat) : ByteArray := ⟨(MarkT.markL n).toArray⟩
def pos (len : Nat → Nat) (i : Nat) : Nat := 1 + 4 * i + tot len i
def MoA (w : World) (lo E g n k : Nat) (len : Nat → Nat) (ads : Nat → Option Addr × Nat) : Prop :=
 (lo ≤ g ∧ g < E ∧ E ≤ w.heap.size) ∧
 (∃ cs : Array Value, w.heap[g]? = some (.cells cs 61 (0, 0)) ∧ cs.size = n * 5 ∧ (∀ i, i < n → cs[i * 5 + 3]? = some (.slice (ads i).1 (len i) (ads i).2)) ∧
  ∀ i, i < k → cs[i * 5]? = some (.string (mk (pos len i))) ∧ cs[i * 5 + 1]? = some (.int .i64 ((pos len i : Nat) + 1 : Int)) ∧ cs[i * 5 + 2]? = some (.int .i64 ((pos len i : Nat) + 1 + 1 : Int)) ∧ cs[i * 5 + 4]? = some (.string (mk (pos len i + 3 + len i)))) ∧
 (∀ i, i < k → Codes w (ads i).1 (marks ((pos len i : Nat) + 1 + 1 + 1 : Int) (len i))) ∧
 (∀ i, k ≤ i → i < n → ∃ zs : List Int, zs.length = len i ∧ Codes w (ads i).1 zs ∧ Free w (ads i).1 zs) ∧
 (∀ i, i < n → ∀ b o, (ads i).1 = some ⟨b, o, none⟩ → 0 < len i → lo ≤ b ∧ b < E ∧ b ≠ g) ∧
 (∀ i j b o o', i < n → j < n → i ≠ j → (ads i).1 = some ⟨b, o, none⟩ → 0 < len i → (ads j).1 = some ⟨b, o', none⟩ → 0 < len j → False)
theorem MoA.on {w w' : World} {lo E g n k : Nat} {len : Nat → Nat} {ads : Nat → Option Addr × Nat} (h : MoA w lo E g n k len ads) (hB : Below w.heap.size w w') : MoA w' lo E g n k len ads := by
 obtain ⟨⟨a1, a2, a3⟩, ⟨cs, hg, b2, b3, b4⟩, c, d, e, f⟩ := h
 refine ⟨⟨a1, a2, Nat.le_trans a3 hB.size⟩, ⟨cs, by rw [hB.block g (blk_lt hg)]; exact hg, b2, b3, b4⟩, fun i hi => (c i hi).on hB, fun i h1 h2 => ?_, e, f⟩
 obtain ⟨zs, z1, z2, z3⟩ := d i h1 h2
 exact ⟨zs, z1, z2.on hB, z3.on hB⟩
theorem MoA.room {w : World} {lo E g n k : Nat} {len : Nat → Nat} {ads : Nat → Option Addr × Nat} (h : MoA w lo E g n k len ads) {j : Nat} (hj : j < n * 5) : (∃ v, w.cell? ⟨g, j, none⟩ = some v) ∧ w.frozen? ⟨g, j, none⟩ = false := by
 obtain ⟨_, ⟨cs, hg, hs, _⟩, _⟩ := h
 refine ⟨⟨cs[j]'(by omega), ?_⟩, by simp [World.frozen?, hg]⟩
 simp [World.cell?, hg, show j < cs.size by omega]
theorem MoA.slice {w : World} {lo E g n k : Nat} {len : Nat → Nat} {ads : Nat → Option Addr × Nat} (h : MoA w lo E g n k len ads) {i : Nat} (hi : i < n) : w.cell? ⟨g, i * 5 + 3, none⟩ = some (.slice (ads i).1 (len i) (ads i).2) := by
 obtain ⟨_, ⟨cs, hg, hs, hc, _⟩, _⟩ := h
 simp [World.cell?, hg, hc i hi]
theorem MoA.has {w : World} {lo E g n k : Nat} {len : Nat → Nat} {ads : Nat → Option Addr × Nat} (h : MoA w lo E g n k len ads) {i : Nat} (hi : i < k) :
  w.cell? ⟨g, i * 5, none⟩ = some (.string (mk (pos len i))) ∧ w.cell? ⟨g, i * 5 + 1, none⟩ = some (.int .i64 ((pos len i : Nat) + 1 : Int)) ∧ w.cell? ⟨g, i * 5 + 2, none⟩ = some (.int .i64 ((pos len i : Nat) + 1 + 1 : Int)) ∧ w.cell? ⟨g, i * 5 + 4, none⟩ = some (.string (mk (pos len i + 3 + len i))) := by
 obtain ⟨_, ⟨cs, hg, hs, _, hc⟩, _⟩ := h
 obtain ⟨c0, c1, c2, c4⟩ := hc i hi
 simp [World.cell?, hg, c0, c1, c2, c4]
theorem codes_set2 {w : World} {a : Option Addr} {zs : List Int} {p : Addr} (h : Codes w a zs) (hne : ∀ b o, a = some ⟨b, o, none⟩ → 0 < zs.length → p.block ≠ b) (v : Value) : Codes (w.setCell p v) a zs := by
 refine ⟨h.1, fun hp => ?_⟩
 obtain ⟨b, o, ha, hb, hc⟩ := h.2 hp
 exact ⟨b, o, ha, by simpa using hb, fun i hi => by rw [World.cell?_setCell_other w p ⟨b, o + i, none⟩ _ (by intro e; exact hne b o ha hp (by rw [e]))]; exact hc i hi⟩
theorem free_marked {w w' : World} {a a' : Option Addr} {zs ys : List Int} {k : Int} (h : Free w a' ys) (hM : Marked w w' a zs k) (hn : ∀ b o b' o', a = some ⟨b, o, none⟩ → a' = some ⟨b', o', none⟩ → 0 < zs.length → 0 < ys.length → b' ≠ b) : Free w' a' ys := fun b o ha i hi => by
 obtain ⟨hl, hf⟩ := h b o ha i hi
 exact ⟨Nat.lt_of_lt_of_le hl hM.2.2.2.1, by rw [World.frozen?_of_block (w := w) (marked_block hM hl (fun b1 o1 h1 h2 => hn b1 o1 b o h1 ha h2 (by omega)))]; exact hf⟩
def put3 (w : World) (g o : Nat) (v0 v1 v2 : Value) : World := ((w.setCell ⟨g, o, none⟩ v0).setCell ⟨g, o + 1, none⟩ v1).setCell ⟨g, o + 2, none⟩ v2
theorem put3_heap {w : World} {g : Nat} {cs : Array Value} {T : TypeId} (h : w.heap[g]? = some (.cells cs T (0, 0))) (o : Nat) (v0 v1 v2 : Value) : (put3 w g o v0 v1 v2).heap[g]? = some (.cells (((cs.setIfInBounds o v0).setIfInBounds (o + 1) v1).setIfInBounds (o + 2) v2) T (0, 0)) := by
 unfold put3
 exact blk_set _ _ _ _ _ _ (blk_set _ _ _ _ _ _ (blk_set _ _ _ _ _ _ h))
theorem put3_codes {w : World} {g : Nat} {a : Option Addr} {zs : List Int} (h : Codes w a zs) (hne : ∀ b o, a = some ⟨b, o, none⟩ → 0 < zs.length → g ≠ b) (o : Nat) (v0 v1 v2 : Value) : Codes (put3 w g o v0 v1 v2) a zs := by
 unfold put3
 exact codes_set2 (codes_set2 (codes_set2 h hne v0) hne v1) hne v2
theorem put3_free {w : World} {g : Nat} {a : Option Addr} {zs : List Int} (h : Free w a zs) (o : Nat) (v0 v1 v2 : Value) : Free (put3 w g o v0 v1 v2) a zs := by
 unfold put3
 exact free_set (free_set (free_set h _ _) _ _) _ _
theorem put3_size (w : World) (g o : Nat) (v0 v1 v2 : Value) : (put3 w g o v0 v1 v2).heap.size = w.heap.size := by unfold put3; simp
theorem MoA.next {w1 w2 w3 : World} {lo E g n i : Nat} {len : Nat → Nat} {ads : Nat → Option Addr × Nat} {zs : List Int} (h : MoA w1 lo E g n i len ads) (hi : i < n) (hz : zs.length = len i)
  (hM : Marked (put3 w1 g (i * 5) (.string (mk (pos len i))) (.int .i64 ((pos len i : Nat) + 1 : Int)) (.int .i64 ((pos len i : Nat) + 1 + 1 : Int))) w2 (ads i).1 zs ((pos len i : Nat) + 1 + 1 + 1 : Int)) (hB : Below w2.heap.size w2 w3) :
  MoA (w3.setCell ⟨g, i * 5 + 4, none⟩ (.string (mk (pos len i + 3 + len i)))) lo E g n (i + 1) len ads ∧ Within w1 (w3.setCell ⟨g, i * 5 + 4, none⟩ (.string (mk (pos len i + 3 + len i)))) lo E ∧ (∃ v, w3.cell? ⟨g, i * 5 + 4, none⟩ = some v) ∧ w3.frozen? ⟨g, i * 5 + 4, none⟩ = false := by
 obtain ⟨⟨a1, a2, a3⟩, ⟨cs, hg, b2, b3, b4⟩, c, d, e, f⟩ := h
 have hp := put3_heap hg (i * 5) (.string (mk (pos len i))) (.int .i64 ((pos len i : Nat) + 1 : Int)) (.int .i64 ((pos len i : Nat) + 1 + 1 : Int))
 have hs2 := hM.2.2.2.1
 rw [put3_size] at hs2
 have hne : ∀ b o, (ads i).1 = some ⟨b, o, none⟩ → 0 < zs.length → g ≠ b := fun b o ha hl => (e i hi b o ha (by omega)).2.2.symm
 have h2 : w2.heap[g]? = _ := (marked_block hM (by rw [put3_size]; exact blk_lt hg) hne).trans hp
 have h3 : w3.heap[g]? = _ := (hB.block g (blk_lt h2)).trans h2
 have h4 := blk_set w3 g (i * 5 + 4) (.string (mk (pos len i + 3 + len i))) _ _ h3
 have hs3 := hB.size
 refine ⟨⟨⟨a1, a2, by simp; omega⟩, ⟨_, h4, by simpa using b2, fun j hj => ?_, fun j hj => ?_⟩, fun j hj => ?_, fun j h1 h2 => ?_, e, f⟩, ?_, ⟨cs[i * 5 + 4]'(by omega), by simp [World.cell?, h3, show i * 5 + 4 < cs.size by omega]⟩, by simp [World.frozen?, h3]⟩
 ·simp only [Array.getElem?_setIfInBounds, Array.size_setIfInBounds]
  rw [if_neg (by omega), if_neg (by omega), if_neg (by omega), if_neg (by omega)]
  exact b3 j hj
 ·simp only [Array.getElem?_setIfInBounds, Array.size_setIfInBounds]
  by_cases hji : j = i
  ·subst hji
   refine ⟨?_, ?_, ?_, ?_⟩
   ·rw [if_neg (by omega), if_neg (by omega), if_neg (by omega), if_pos rfl, if_pos (by omega)]
   ·rw [if_neg (by omega), if_neg (by omega), if_pos rfl, if_pos (by omega)]
   ·rw [if_neg (by omega), if_pos rfl, if_pos (by omega)]
   ·rw [if_pos rfl, if_pos (by omega)]
  ·obtain ⟨c0, c1, c2, c4⟩ := b4 j (by omega)
   refine ⟨?_, ?_, ?_, ?_⟩
   all_goals
    rw [if_neg (by omega), if_neg (by omega), if_neg (by omega), if_neg (by omega)]
    assumption
 ·have hnej : ∀ b o, (ads j).1 = some ⟨b, o, none⟩ → 0 < (marks ((pos len j : Nat) + 1 + 1 + 1 : Int) (len j)).length → g ≠ b := fun b o ha hl => by
   rw [marks_len] at hl
   exact (e j (by omega) b o ha hl).2.2.symm
  refine codes_set2 ?_ hnej _
  by_cases hji : j = i
  ·subst hji
   have := hM.2.2.2.2.2
   rw [hz] at this
   exact this.on hB
  ·refine Codes.on ?_ hB
   refine codes_marked (put3_codes (c j (by omega)) hnej _ _ _ _) hM (fun b o b' o' h1 h2 l1 l2 eb => ?_)
   rw [marks_len] at l2
   subst eb
   exact f i j _ _ _ hi (by omega) (fun e => hji e.symm) h1 (by omega) h2 l2
 ·obtain ⟨ys, y1, y2, y3⟩ := d j (by omega) h2
  have hnej : ∀ b o, (ads j).1 = some ⟨b, o, none⟩ → 0 < ys.length → g ≠ b := fun b o ha hl => (e j h2 b o ha (by omega)).2.2.symm
  have hap : ∀ b o b' o', (ads i).1 = some ⟨b, o, none⟩ → (ads j).1 = some ⟨b', o', none⟩ → 0 < zs.length → 0 < ys.length → b' ≠ b := fun b o b' o' h1 h3 l1 l2 eb => by
   subst eb
   exact f i j _ _ _ hi h2 (by omega) h1 (by omega) h3 (by omega)
  exact ⟨ys, y1, codes_set2 ((codes_marked (put3_codes y2 hnej _ _ _ _) hM hap).on hB) hnej _, free_set ((free_marked (put3_free y3 _ _ _ _) hM hap).on hB) _ _⟩
 ·refine ⟨?_, ?_, ?_, by simp; omega, fun j hj hn => ?_⟩
  ·show w3.os = _
   rw [hB.os, hM.1]; rfl
  ·show w3.tape = _
   rw [hB.tape, hM.2.1]; rfl
  ·show w3.output = _
   rw [hB.output, hM.2.2.1]; rfl
  ·rw [Below.heap_setCell _ _ _ _ (by simp only; omega), hB.block j (by omega), marked_block hM (by rw [put3_size]; exact hj) (fun b o ha hl => by have := e i hi b o ha (by omega); omega)]
   unfold put3
   rw [Below.heap_setCell _ _ _ _ (by simp only; omega), Below.heap_setCell _ _ _ _ (by simp only; omega), Below.heap_setCell _ _ _ _ (by simp only; omega)]
open Go.RowKit
open AnsW ValW ValI RdS RdI RdL BookW
def posX (k0 : Nat) (len : Nat → Nat) (i : Nat) : Nat := k0 + 4 * i + tot len i
theorem posX_next (k0 : Nat) (len : Nat → Nat) (i : Nat) : posX k0 len (i + 1) = posX k0 len i + 3 + len i + 1 := by
 unfold posX
 show k0 + 4 * (i + 1) + (tot len i + len i) = _
 omega
theorem posX_zero (k0 : Nat) (len : Nat → Nat) : posX k0 len 0 = k0 := rfl
def WithinS (w w' : World) (S : Nat → Prop) : Prop := w'.os = w.os ∧ w'.tape = w.tape ∧ w'.output = w.output ∧ w.heap.size ≤ w'.heap.size ∧ ∀ j, j < w.heap.size → ¬ S j → w'.heap[j]? = w.heap[j]?
theorem WithinS.refl (w : World) (S : Nat → Prop) : WithinS w w S := ⟨rfl, rfl, rfl, Nat.le_refl _, fun _ _ _ => rfl⟩
theorem WithinS.on {w w' w'' : World} {S : Nat → Prop} (h : WithinS w w' S) (hB : Below w'.heap.size w' w'') : WithinS w w'' S :=
 ⟨hB.os.trans h.1, hB.tape.trans h.2.1, hB.output.trans h.2.2.1, Nat.le_trans h.2.2.2.1 hB.size, fun j hj hn => (hB.block j (Nat.lt_of_lt_of_le hj h.2.2.2.1)).trans (h.2.2.2.2 j hj hn)⟩
theorem WithinS.trans {w w' w'' : World} {S : Nat → Prop} (h : WithinS w w' S) (k : WithinS w' w'' S) : WithinS w w'' S :=
 ⟨k.1.trans h.1, k.2.1.trans h.2.1, k.2.2.1.trans h.2.2.1, Nat.le_trans h.2.2.2.1 k.2.2.2.1, fun j hj hn => (k.2.2.2.2 j (Nat.lt_of_lt_of_le hj h.2.2.2.1) hn).trans (h.2.2.2.2 j hj hn)⟩
theorem WithinS.below {w w' : World} {S : Nat → Prop} {B : Nat} (h : WithinS w w' S) (hg : ∀ j, S j → B ≤ j) (hs : B ≤ w.heap.size) : Below B w w' :=
 ⟨h.1, h.2.1, h.2.2.1, h.2.2.2.1, fun j hj => h.2.2.2.2 j (by omega) (fun hS => by have := hg j hS; omega)⟩
def MoX (k0 : Nat) (w : World) (S : Nat → Prop) (g n k : Nat) (len : Nat → Nat) (ads : Nat → Option Addr × Nat) : Prop :=
 (S g ∧ ∀ j, S j → j < w.heap.size) ∧
 (∃ cs : Array Value, w.heap[g]? = some (.cells cs 61 (0, 0)) ∧ cs.size = n * 5 ∧ (∀ i, i < n → cs[i * 5 + 3]? = some (.slice (ads i).1 (len i) (ads i).2)) ∧
  ∀ i, i < k → cs[i * 5]? = some (.string (mk (posX k0 len i))) ∧ cs[i * 5 + 1]? = some (.int .i64 ((posX k0 len i : Nat) + 1 : Int)) ∧ cs[i * 5 + 2]? = some (.int .i64 ((posX k0 len i : Nat) + 1 + 1 : Int)) ∧ cs[i * 5 + 4]? = some (.string (mk (posX k0 len i + 3 + len i)))) ∧
 (∀ i, i < k → Codes w (ads i).1 (marks ((posX k0 len i : Nat) + 1 + 1 + 1 : Int) (len i))) ∧
 (∀ i, k ≤ i → i < n → ∃ zs : List Int, zs.length = len i ∧ Codes w (ads i).1 zs ∧ Free w (ads i).1 zs) ∧
 (∀ i, i < n → ∀ b o, (ads i).1 = some ⟨b, o, none⟩ → 0 < len i → S b ∧ b ≠ g) ∧
 (∀ i j b o o', i < n → j < n → i ≠ j → (ads i).1 = some ⟨b, o, none⟩ → 0 < len i → (ads j).1 = some ⟨b, o', none⟩ → 0 < len j → False)
theorem MoX.on {k0 : Nat} {w w' : World} {S : Nat → Prop} {g n k : Nat} {len : Nat → Nat} {ads : Nat → Option Addr × Nat} (h : MoX k0 w S g n k len ads) (hB : Below w.heap.size w w') : MoX k0 w' S g n k len ads := by
 obtain ⟨⟨a1, a2⟩, ⟨cs, hg, b2, b3, b4⟩, c, d, e, f⟩ := h
 refine ⟨⟨a1, fun j hj => Nat.lt_of_lt_of_le (a2 j hj) hB.size⟩, ⟨cs, by rw [hB.block g (blk_lt hg)]; exact hg, b2, b3, b4⟩, fun i hi => (c i hi).on hB, fun i h1 h2 => ?_, e, f⟩
 obtain ⟨zs, z1, z2, z3⟩ := d i h1 h2
 exact ⟨zs, z1, z2.on hB, z3.on hB⟩
theorem MoX.room {k0 : Nat} {w : World} {S : Nat → Prop} {g n k : Nat} {len : Nat → Nat} {ads : Nat → Option Addr × Nat} (h : MoX k0 w S g n k len ads) {j : Nat} (hj : j < n * 5) : (∃ v, w.cell? ⟨g, j, none⟩ = some v) ∧ w.frozen? ⟨g, j, none⟩ = false := by
 obtain ⟨_, ⟨cs, hg, hs, _⟩, _⟩ := h
 refine ⟨⟨cs[j]'(by omega), ?_⟩, by simp [World.frozen?, hg]⟩
 simp [World.cell?, hg, show j < cs.size by omega]
theorem MoX.slice {k0 : Nat} {w : World} {S : Nat → Prop} {g n k : Nat} {len : Nat → Nat} {ads : Nat → Option Addr × Nat} (h : MoX k0 w S g n k len ads) {i : Nat} (hi : i < n) : w.cell? ⟨g, i * 5 + 3, none⟩ = some (.slice (ads i).1 (len i) (ads i).2) := by
 obtain ⟨_, ⟨cs, hg, hs, hc, _⟩, _⟩ := h
 simp [World.cell?, hg, hc i hi]
theorem MoX.has {k0 : Nat} {w : World} {S : Nat → Prop} {g n k : Nat} {len : Nat → Nat} {ads : Nat → Option Addr × Nat} (h : MoX k0 w S g n k len ads) {i : Nat} (hi : i < k) :
  w.cell? ⟨g, i * 5, none⟩ = some (.string (mk (posX k0 len i))) ∧ w.cell? ⟨g, i * 5 + 1, none⟩ = some (.int .i64 ((posX k0 len i : Nat) + 1 : Int)) ∧ w.cell? ⟨g, i * 5 + 2, none⟩ = some (.int .i64 ((posX k0 len i : Nat) + 1 + 1 : Int)) ∧ w.cell? ⟨g, i * 5 + 4, none⟩ = some (.string (mk (posX k0 len i + 3 + len i))) := by
 obtain ⟨_, ⟨cs, hg, hs, _, hc⟩, _⟩ := h
 obtain ⟨c0, c1, c2, c4⟩ := hc i hi
 simp [World.cell?, hg, c0, c1, c2, c4]
theorem MoX.nextX {k0 : Nat} {w1 w2 w3 : World} {S : Nat → Prop} {g n i : Nat} {len : Nat → Nat} {ads : Nat → Option Addr × Nat} {zs : List Int} (h : MoX k0 w1 S g n i len ads) (hi : i < n) (hz : zs.length = len i)
  (hM : Marked (put3 w1 g (i * 5) (.string (mk (posX k0 len i))) (.int .i64 ((posX k0 len i : Nat) + 1 : Int)) (.int .i64 ((posX k0 len i : Nat) + 1 + 1 : Int))) w2 (ads i).1 zs ((posX k0 len i : Nat) + 1 + 1 + 1 : Int)) (hB : Below w2.heap.size w2 w3) :
  MoX k0 (w3.setCell ⟨g, i * 5 + 4, none⟩ (.string (mk (posX k0 len i + 3 + len i)))) S g n (i + 1) len ads ∧ WithinS w1 (w3.setCell ⟨g, i * 5 + 4, none⟩ (.string (mk (posX k0 len i + 3 + len i)))) S ∧ (∃ v, w3.cell? ⟨g, i * 5 + 4, none⟩ = some v) ∧ w3.frozen? ⟨g, i * 5 + 4, none⟩ = false := by
 obtain ⟨⟨a1, a2⟩, ⟨cs, hg, b2, b3, b4⟩, c, d, e, f⟩ := h
 have hp := put3_heap hg (i * 5) (.string (mk (posX k0 len i))) (.int .i64 ((posX k0 len i : Nat) + 1 : Int)) (.int .i64 ((posX k0 len i : Nat) + 1 + 1 : Int))
 have hs2 := hM.2.2.2.1
 rw [put3_size] at hs2
 have hne : ∀ b o, (ads i).1 = some ⟨b, o, none⟩ → 0 < zs.length → g ≠ b := fun b o ha hl => (e i hi b o ha (by omega)).2.symm
 have h2 : w2.heap[g]? = _ := (marked_block hM (by rw [put3_size]; exact blk_lt hg) hne).trans hp
 have h3 : w3.heap[g]? = _ := (hB.block g (blk_lt h2)).trans h2
 have h4 := blk_set w3 g (i * 5 + 4) (.string (mk (posX k0 len i + 3 + len i))) _ _ h3
 have hs3 := hB.size
 refine ⟨⟨⟨a1, fun j hj => by have := a2 j hj; simp; omega⟩, ⟨_, h4, by simpa using b2, fun j hj => ?_, fun j hj => ?_⟩, fun j hj => ?_, fun j h1 h2 => ?_, e, f⟩, ?_, ⟨cs[i * 5 + 4]'(by omega), by simp [World.cell?, h3, show i * 5 + 4 < cs.size by omega]⟩, by simp [World.frozen?, h3]⟩
 ·simp only [Array.getElem?_setIfInBounds, Array.size_setIfInBounds]
  rw [if_neg (by omega), if_neg (by omega), if_neg (by omega), if_neg (by omega)]
  exact b3 j hj
 ·simp only [Array.getElem?_setIfInBounds, Array.size_setIfInBounds]
  by_cases hji : j = i
  ·subst hji
   refine ⟨?_, ?_, ?_, ?_⟩
   ·rw [if_neg (by omega), if_neg (by omega), if_neg (by omega), if_pos rfl, if_pos (by omega)]
   ·rw [if_neg (by omega), if_neg (by omega), if_pos rfl, if_pos (by omega)]
   ·rw [if_neg (by omega), if_pos rfl, if_pos (by omega)]
   ·rw [if_pos rfl, if_pos (by omega)]
  ·obtain ⟨c0, c1, c2, c4⟩ := b4 j (by omega)
   refine ⟨?_, ?_, ?_, ?_⟩
   all_goals
    rw [if_neg (by omega), if_neg (by omega), if_neg (by omega), if_neg (by omega)]
    assumption
 ·have hnej : ∀ b o, (ads j).1 = some ⟨b, o, none⟩ → 0 < (marks ((posX k0 len j : Nat) + 1 + 1 + 1 : Int) (len j)).length → g ≠ b := fun b o ha hl => by
   rw [marks_len] at hl
   exact (e j (by omega) b o ha hl).2.symm
  refine codes_set2 ?_ hnej _
  by_cases hji : j = i
  ·subst hji
   have := hM.2.2.2.2.2
   rw [hz] at this
   exact this.on hB
  ·refine Codes.on ?_ hB
   refine codes_marked (put3_codes (c j (by omega)) hnej _ _ _ _) hM (fun b o b' o' h1 h2 l1 l2 eb => ?_)
   rw [marks_len] at l2
   subst eb
   exact f i j _ _ _ hi (by omega) (fun e => hji e.symm) h1 (by omega) h2 l2
 ·obtain ⟨ys, y1, y2, y3⟩ := d j (by omega) h2
  have hnej : ∀ b o, (ads j).1 = some ⟨b, o, none⟩ → 0 < ys.length → g ≠ b := fun b o ha hl => (e j h2 b o ha (by omega)).2.symm
  have hap : ∀ b o b' o', (ads i).1 = some ⟨b, o, none⟩ → (ads j).1 = some ⟨b', o', none⟩ → 0 < zs.length → 0 < ys.length → b' ≠ b := fun b o b' o' h1 h3 l1 l2 eb => by
   subst eb
   exact f i j _ _ _ hi h2 (by omega) h1 (by omega) h3 (by omega)
  exact ⟨ys, y1, codes_set2 ((codes_marked (put3_codes y2 hnej _ _ _ _) hM hap).on hB) hnej _, free_set ((free_marked (put3_free y3 _ _ _ _) hM hap).on hB) _ _⟩
 ·refine ⟨?_, ?_, ?_, by simp; omega, fun j hj hn => ?_⟩
  ·show w3.os = _
   rw [hB.os, hM.1]; rfl
  ·show w3.tape = _
   rw [hB.tape, hM.2.1]; rfl
  ·show w3.output = _
   rw [hB.output, hM.2.2.1]; rfl
  ·rw [Below.heap_setCell _ _ _ _ (fun eb => hn (by rw [eb]; exact a1)), hB.block j (by omega), marked_block hM (by rw [put3_size]; exact hj) (fun b o ha hl eb => hn (by rw [eb]; exact (e i hi b o ha (by omega)).1))]
   unfold put3
   rw [Below.heap_setCell _ _ _ _ (fun eb => hn (by rw [eb]; exact a1)), Below.heap_setCell _ _ _ _ (fun eb => hn (by rw [eb]; exact a1)), Below.heap_setCell _ _ _ _ (fun eb => hn (by rw [eb]; exact a1))]
set_option maxRecDepth 10000 in
set_option maxHeartbeats 3200000 in
theorem mark_ownX (k0 : Nat) (hka : 1 ≤ k0) (hkz : k0 ≤ 80000000) (S : Nat → Prop) (g n cap : Nat) (len : Nat → Nat) (ads : Nat → Option Addr × Nat) (w : World) (hM : MoX k0 w S g n 0 len ads) (hn : n ≤ 1048576) (ht : tot len n ≤ 1048576) :
  Calls Tryz.prog 17 #[.slice (some ⟨g, 0, none⟩) n cap, .int .i64 (k0 : Int)] w fun r w' => r = .returned (.int .i64 (posX k0 len n : Nat)) ∧ MoX k0 w' S g n n len ads ∧ WithinS w w' S := by
 have HM := hid hM
 clear hM
 go_enter Tryz.func17, Tryz.ntmps17
 go_wp2
 go_loopw [1, 5] (fun kv iv wr => ∃ i : Nat, i ≤ n ∧ iv = .int .i64 i ∧ kv = .int .i64 (posX k0 len i : Nat) ∧ Hid (MoX k0 wr S g n i len ads) ∧ Hid (WithinS w wr S)) (fun _ i _ => n - (intOf i).toNat)
 case atStart => exact ⟨0, Nat.zero_le _, rfl, by rw [posX_zero], HM, WithinS.refl _ _⟩
 case round =>
  obtain ⟨i, hi, rfl, rfl, hA, hW⟩ := hrel
  by_cases hlt : i < n
  ·have htl := tot_le len (show i + 1 ≤ n by omega)
   have hts : tot len (i + 1) = tot len i + len i := rfl
   have hpn := posX_next k0 len i
   obtain ⟨kk, hkk⟩ : ∃ kk, posX k0 len i = kk := ⟨_, rfl⟩
   have hk1 : 1 ≤ kk := by rw [← hkk]; unfold posX; omega
   have hkb : kk ≤ 90000000 := by rw [← hkk]; unfold posX; omega
   have hlen : len i ≤ 1048576 := by omega
   have HNX := hid (fun w1 w2 w3 zs (h : MoX k0 w1 S g n i len ads) => MoX.nextX (w2 := w2) (w3 := w3) (zs := zs) h hlt)
   rw [hkk] at hpn ⊢
   rw [hkk] at HNX
   have HPN := hid hpn
   clear htl hts hkk hpn
   go_wp2_with fail
   refine (MarkT.mark_text kk wr hk1 (by omega)).mono ?_
   rintro r w1 ⟨rfl, hB1⟩
   have HA1 := hid (hA.out.on hB1)
   have HW1 := hid (hW.out.on hB1)
   obtain ⟨T1, hT1⟩ : ∃ T : ByteArray, Hid (mk kk = T) := ⟨_, rfl⟩
   have hT1' : (⟨(MarkT.markL kk).toArray⟩ : ByteArray) = T1 := hT1.out
   rw [hT1']
   rw [hT1.out] at HNX
   clear hB1 hA hW hT1'
   obtain ⟨⟨v0, r0⟩, f0⟩ := HA1.out.room (j := i * 5) (by omega)
   obtain ⟨⟨v1, r1⟩, f1⟩ := HA1.out.room (j := i * 5 + 1) (by omega)
   obtain ⟨⟨v2, r2⟩, f2⟩ := HA1.out.room (j := i * 5 + 2) (by omega)
   have r3 := HA1.out.slice hlt
   obtain ⟨zs, hz, hcd, hfr⟩ := HA1.out.2.2.2.1 i (Nat.le_refl _) hlt
   have hgb := fun b o (h : (ads i).1 = some ⟨b, o, none⟩) (hp : 0 < len i) => (HA1.out.2.2.2.2.1 i hlt b o h hp).2
   have HC2 := hid (put3_codes hcd (g := g) (fun b o h hp => (hgb b o h (by omega)).symm) (i * 5) (.string T1) (.int .i64 ((kk : Int) + 1)) (.int .i64 ((kk : Int) + 1 + 1)))
   have HF2 := hid (put3_free hfr (g := g) (i * 5) (.string T1) (.int .i64 ((kk : Int) + 1)) (.int .i64 ((kk : Int) + 1 + 1)))
   have HZ := hid hz
   clear hcd hfr hgb
   have HNX1 := hid (fun w2 w3 => HNX.out w1 w2 w3 zs HA1.out hz)
   clear HNX hz
   rw [← HZ.out] at r3 hlen
   rw [← HZ.out] at HPN HNX1
   obtain ⟨kn, hkn⟩ : ∃ kn, kk + 3 + zs.length = kn := ⟨_, rfl⟩
   have hkn2 : (kk : Int) + 1 + 1 + 1 + (zs.length : Int) = (kn : Int) := by omega
   have hkn1 : 1 ≤ kn := by omega
   have hkn3 : kn ≤ 95000000 := by omega
   rw [hkn] at HNX1 HPN
   generalize (ads i).1 = ai at *
   generalize (ads i).2 = ci at *
   clear hkn
   go_wp2_with fail
   refine (mark_ints ai ci zs ((kk : Int) + 1 + 1 + 1) (put3 w1 g (i * 5) (.string T1) (.int .i64 ((kk : Int) + 1)) (.int .i64 ((kk : Int) + 1 + 1))) HC2.out HF2.out (by omega) (by omega)).mono ?_
   rintro r w2 ⟨rfl, hM2⟩
   have HNX2 := hid (fun w3 => HNX1.out w2 w3 hM2)
   rw [hkn2]
   clear hM2 HNX1 HC2 HF2 hkn2 r0 r1 r2 r3 f0 f1 f2
   go_wp2_with fail
   refine (MarkT.mark_text kn w2 hkn1 (by omega)).mono ?_
   rintro r w3 ⟨rfl, hB3⟩
   obtain ⟨hA4, hW4, ⟨v4, r4⟩, f4⟩ := HNX2.out w3 hB3
   have HA4 := hid hA4
   have HW4 := hid (HW1.out.trans hW4)
   obtain ⟨T2, hT2⟩ : ∃ T : ByteArray, Hid (mk kn = T) := ⟨_, rfl⟩
   have hT2' : (⟨(MarkT.markL kn).toArray⟩ : ByteArray) = T2 := hT2.out
   rw [hT2']
   rw [hT2.out] at HA4 HW4
   clear hA4 hW4 hB3 HNX2 hT2' HA1 HW1
   go_wp2_with fail
   refine ⟨⟨i + 1, by omega, by go_num, by rw [HPN.out]; go_num, HA4, HW4⟩, by simp [intOf]; omega⟩
  ·obtain rfl : i = n := by omega
   go_wp2
   go_ret
   exact ⟨rfl, hA.out, hW.out⟩
set_option maxRecDepth 10000 in
set_option maxHeartbeats 3200000 in
theorem held_ownX (k0 : Nat) (hka : 1 ≤ k0) (hkz : k0 ≤ 80000000) (S : Nat → Prop) (g n cap : Nat) (len : Nat → Nat) (ads : Nat → Option Addr × Nat) (w : World) (hM : MoX k0 w S g n n len ads) (hn : n ≤ 1048576) (ht : tot len n ≤ 1048576) :
  Calls Tryz.prog 41 #[.slice (some ⟨g, 0, none⟩) n cap, .int .i64 (k0 : Int)] w fun r w' => r = .returned (.int .i64 (posX k0 len n : Nat)) ∧ Below w.heap.size w w' := by
 have HM := hid hM
 clear hM
 go_enter Tryz.func41, Tryz.ntmps41
 go_wp2
 go_loopw [1, 5] (fun kv iv wr => ∃ i : Nat, i ≤ n ∧ iv = .int .i64 i ∧ kv = .int .i64 (posX k0 len i : Nat) ∧ Hid (Below w.heap.size w wr)) (fun _ i _ => n - (intOf i).toNat)
 case atStart => exact ⟨0, Nat.zero_le _, rfl, by rw [posX_zero], Below.refl _ _⟩
 case round =>
  obtain ⟨i, hi, rfl, rfl, hB⟩ := hrel
  by_cases hlt : i < n
  ·have htl := tot_le len (show i + 1 ≤ n by omega)
   have hts : tot len (i + 1) = tot len i + len i := rfl
   have HPN := hid (posX_next k0 len i)
   have HA := hid (HM.out.on hB.out)
   obtain ⟨c0, c1, c2, c4⟩ := HA.out.has hlt
   have hgl : g < wr.heap.size := by exact HA.out.1.2 g HA.out.1.1
   have hcd := HA.out.2.2.1 i hlt
   obtain ⟨kk, hkk⟩ : ∃ kk, posX k0 len i = kk := ⟨_, rfl⟩
   have hk1 : 1 ≤ kk := by rw [← hkk]; unfold posX; omega
   have hkb : kk ≤ 90000000 := by rw [← hkk]; unfold posX; omega
   have hlen : len i ≤ 1048576 := by omega
   obtain ⟨kn, hkn⟩ : ∃ kn, kk + 3 + len i = kn := ⟨_, rfl⟩
   have hkn2 : (kk : Int) + 1 + 1 + 1 + (len i : Int) = (kn : Int) := by omega
   have hkn1 : 1 ≤ kn := by omega
   have hkn3 : kn ≤ 95000000 := by omega
   rw [hkk] at c0 c1 c2 c4 hcd HPN ⊢
   rw [hkn] at HPN c4
   have c3 := HA.out.slice hlt
   have HCD := hid hcd
   have HK1 := hid hk1
   clear hcd hkk hkn htl hts HA hk1
   generalize (ads i).1 = ai at *
   generalize (ads i).2 = ci at *
   generalize len i = L at *
   obtain ⟨T1, hT1⟩ : ∃ T : ByteArray, Hid (mk kk = T) := ⟨_, rfl⟩
   have HT1 : Hid ((⟨(MarkT.markL kk).toArray⟩ : ByteArray) = T1) := hT1.out
   rw [hT1.out] at c0
   obtain ⟨T2, hT2⟩ : ∃ T : ByteArray, Hid (mk kn = T) := ⟨_, rfl⟩
   have HT2 : Hid ((⟨(MarkT.markL kn).toArray⟩ : ByteArray) = T2) := hT2.out
   rw [hT2.out] at c4
   have HC1 := hid c1
   have HC2 := hid c2
   have HC3 := hid c3
   have HC4 := hid c4
   clear c1 c2 c3 c4
   go_wp2_with fail
   have hB0 : Below wr.heap.size wr wr.drew := (Below.refl _ _).drew
   refine wp_region_held_drew (S := (fun w' => Below wr.heap.size wr w' ∧ w'.cell? ⟨g, i * 5, none⟩ = some (.string T1))) (by kernel_rfl) ?_ (fun hHeld => ?_)
   ·(try dsimp only) <;> (first | exact ⟨hBn, (hBn.cell (p := ⟨g, i * 5, none⟩) hgl).trans c0⟩ | exact ⟨hB0, c0⟩)
   refine tk 0 (some 12) rfl hHeld ?_; (try simp only [Act.put, pA, pB, pC]); refine tk 1 (some 13) rfl hHeld ?_; (try simp only [Act.put, pA, pB, pC]); refine tk 2 (some 14) rfl hHeld ?_; (try simp only [Act.put, pA, pB, pC]); refine tk 3 (some 15) rfl hHeld ?_; (try simp only [Act.put, pA, pB, pC]); refine tk 4 (some 16) rfl hHeld ?_; (try simp only [Act.put, pA, pB, pC]); refine tk 5 (some 17) rfl hHeld ?_; (try simp only [Act.put, pA, pB, pC])
   refine wpAnyH_ready (rs := [6]) (by kernel_rfl) (by simp) ?_
   refine AllReadyH.cons rfl (fun K hK => ?_) AllReadyH.nil
   go_simp
   go_at_call 36
   have hp := hHeld.1
   refine (MarkT.mark_text kk _ HK1.out (by omega)).mono ?_
   rintro e w' ⟨rfl, hB⟩
   rw [HT1.out]
   have hBn := hp.trans (hB.mono hp.size)
   clear hp hB
   (try go_wp2_with fail)
   refine hK.out _ _ ?_ (fun hHeld2 => ?_)
   ·(try dsimp only) <;> (first | exact ⟨hBn, (hBn.cell (p := ⟨g, i * 5, none⟩) hgl).trans c0⟩ | exact ⟨hB0, c0⟩)
   clear hK K hHeld
   have hHeld := hHeld2
   clear hHeld2
   (try simp only [Act.put, pA, pB, pC]); refine tk 7 (some 19) rfl hHeld ?_; (try simp only [Act.put, pA, pB, pC])
   refine wpAnyH_done (by kernel_rfl) ?_ _
   obtain ⟨w2, hw2⟩ : ∃ W, W = w' := ⟨_, rfl⟩
   subst hw2
   have hB2 : Below wr.heap.size wr w2 := hHeld.1
   have c1 := (hB2.cell (p := ⟨g, i * 5 + 1, none⟩) hgl).trans HC1.out
   have c2 := (hB2.cell (p := ⟨g, i * 5 + 2, none⟩) hgl).trans HC2.out
   have c3 := (hB2.cell (p := ⟨g, i * 5 + 3, none⟩) hgl).trans HC3.out
   have c4 := (hB2.cell (p := ⟨g, i * 5 + 4, none⟩) hgl).trans HC4.out
   have HCD2 := hid (HCD.out.on hB2)
   have HB2 : Hid (Below w.heap.size w w2) := hB.out.trans (hB2.mono hB.out.size)
   have hgl2 : g < w2.heap.size := Nat.lt_of_lt_of_le hgl hB2.size
   clear hHeld hB0 c0 hB2 HC1 HC2 HC3 HC4 HCD hB hgl
   go_wp2_with fail
   refine (held_ints ai ci L ((kk : Int) + 1 + 1 + 1) w2 HCD2.out (by omega) (by omega)).mono ?_
   rintro r w3 ⟨rfl, rfl⟩
   rw [hkn2]
   have hkn0 : ¬ (kn : Int) < 0 := by omega
   clear c1 c2 c3 hkn2
   go_wp2_with fail
   have hB0 : Below w3.heap.size w3 w3.drew := (Below.refl _ _).drew
   refine wp_region_held_drew (S := (fun w' => Below w3.heap.size w3 w' ∧ w'.cell? ⟨g, i * 5 + 4, none⟩ = some (.string T2))) (by kernel_rfl) ?_ (fun hHeld => ?_)
   ·(try dsimp only) <;> (first | exact ⟨hBn, (hBn.cell (p := ⟨g, i * 5 + 4, none⟩) hgl2).trans c4⟩ | exact ⟨hB0, c4⟩)
   refine tk 0 (some 52) rfl hHeld ?_; (try simp only [Act.put, pA, pB, pC]); refine tk 1 (some 53) rfl hHeld ?_; (try simp only [Act.put, pA, pB, pC]); refine tk 2 (some 54) rfl hHeld ?_; (try simp only [Act.put, pA, pB, pC]); refine tk 3 (some 55) rfl hHeld ?_; (try simp only [Act.put, pA, pB, pC]); refine tk 4 (some 56) rfl hHeld ?_; (try simp only [Act.put, pA, pB, pC]); refine tk 5 (some 57) rfl hHeld ?_; (try simp only [Act.put, pA, pB, pC]); refine tk 6 (some 58) rfl hHeld ?_; (try simp only [Act.put, pA, pB, pC])
   refine wpAnyH_ready (rs := [7]) (by kernel_rfl) (by simp) ?_
   refine AllReadyH.cons rfl (fun K hK => ?_) AllReadyH.nil
   go_simp
   go_at_call 36
   have hp := hHeld.1
   refine (MarkT.mark_text kn _ hkn1 (by omega)).mono ?_
   rintro e w' ⟨rfl, hB⟩
   rw [HT2.out]
   have hBn := hp.trans (hB.mono hp.size)
   clear hp hB
   (try go_wp2_with fail)
   refine hK.out _ _ ?_ (fun hHeld2 => ?_)
   ·(try dsimp only) <;> (first | exact ⟨hBn, (hBn.cell (p := ⟨g, i * 5 + 4, none⟩) hgl2).trans c4⟩ | exact ⟨hB0, c4⟩)
   clear hK K hHeld
   have hHeld := hHeld2
   clear hHeld2
   (try simp only [Act.put, pA, pB, pC]); refine tk 8 (some 60) rfl hHeld ?_; (try simp only [Act.put, pA, pB, pC])
   refine wpAnyH_done (by kernel_rfl) ?_ _
   have HBL := hid hHeld.1
   clear hHeld hB0 c4
   go_wp2_with fail
   refine ⟨⟨i + 1, by omega, by go_num, by rw [HPN.out]; go_num, HB2.out.trans (HBL.out.mono HB2.out.size)⟩, by simp [intOf]; omega⟩
  ·obtain rfl : i = n := by omega
   go_wp2
   go_ret
   exact ⟨rfl, hB.out⟩
def MbX (k0 : Nat) (w : World) (S : Nat → Prop) (a : Option Addr) (n k : Nat) (len : Nat → Nat) : Prop := 0 < n → ∃ g ads, a = some ⟨g, 0, none⟩ ∧ MoX k0 w S g n k len ads
theorem MbX.on {k0 : Nat} {w w' : World} {S : Nat → Prop} {n k : Nat} {a : Option Addr} {len : Nat → Nat} (h : MbX k0 w S a n k len) (hB : Below w.heap.size w w') : MbX k0 w' S a n k len := fun hp => by
 obtain ⟨g, ads, ha, hM⟩ := h hp
 exact ⟨g, ads, ha, hM.on hB⟩
theorem OwnA.moX {k0 : Nat} {w : World} {S : Nat → Prop} {F g : Nat} {R : List An} {ads : Nat → Option Addr × Nat} (hO : OwnA w F g R ads) (hg : S g) (hl : ∀ j, S j → j < w.heap.size) (hb : ∀ i, i < R.length → ∀ b o, (ads i).1 = some ⟨b, o, none⟩ → 0 < (cd (R.getD i an0)).length → S b) : MoX k0 w S g R.length 0 (fun i => (cd (R.getD i an0)).length) ads := by
 refine ⟨⟨hg, hl⟩, ?_, fun i hi => absurd hi (Nat.not_lt_zero _), fun i _ hi => ⟨_, rfl, (hO.2.1 i hi).1.1, (hO.2.1 i hi).1.2.1⟩, fun i hi b o ha hl => ⟨hb i hi b o ha hl, (hO.2.1 i hi).2 b o ha hl⟩, hO.2.2⟩
 obtain ⟨cs, h1, h2, h3⟩ := hO.1
 exact ⟨cs, h1, h2, fun i hi => (h3 i hi).2.2.2.1, fun i hi => absurd hi (Nat.not_lt_zero _)⟩
set_option maxHeartbeats 1600000 in
theorem mark_listX (k0 : Nat) (hka : 1 ≤ k0) (hkz : k0 ≤ 80000000) (S : Nat → Prop) (n cap : Nat) (a : Option Addr) (len : Nat → Nat) (w : World) (hM : MbX k0 w S a n 0 len) (hn : n ≤ 1048576) (ht : tot len n ≤ 1048576) :
  Calls Tryz.prog 17 #[.slice a n cap, .int .i64 (k0 : Int)] w fun r w' => r = .returned (.int .i64 (posX k0 len n : Nat)) ∧ MbX k0 w' S a n n len ∧ WithinS w w' S := by
 rcases Nat.eq_zero_or_pos n with rfl | hp
 ·clear hM hn ht hka hkz
  go_enter Tryz.func17, Tryz.ntmps17
  go_wp2
  go_loopw [1, 5] (fun k i wr => k = .int .i64 (k0 : Int) ∧ i = .int .i64 0 ∧ wr = w) (fun _ _ _ => 0)
  case atStart => exact ⟨rfl, rfl, rfl⟩
  case round =>
   obtain ⟨rfl, rfl, hw⟩ := hrel
   go_wp2
   go_ret
   obtain rfl := hw
   exact ⟨rfl, fun h => absurd h (Nat.lt_irrefl _), WithinS.refl _ _⟩
 ·obtain ⟨g, ads, rfl, h⟩ := hM hp
  refine (mark_ownX k0 hka hkz S g n cap len ads w h hn ht).mono ?_
  rintro r w' ⟨rfl, h1, h2⟩
  exact ⟨rfl, fun _ => ⟨g, ads, rfl, h1⟩, h2⟩
set_option maxHeartbeats 1600000 in
theorem held_listX (k0 : Nat) (hka : 1 ≤ k0) (hkz : k0 ≤ 80000000) (S : Nat → Prop) (n cap : Nat) (a : Option Addr) (len : Nat → Nat) (w : World) (hM : MbX k0 w S a n n len) (hn : n ≤ 1048576) (ht : tot len n ≤ 1048576) :
  Calls Tryz.prog 41 #[.slice a n cap, .int .i64 (k0 : Int)] w fun r w' => r = .returned (.int .i64 (posX k0 len n : Nat)) ∧ Below w.heap.size w w' := by
 rcases Nat.eq_zero_or_pos n with rfl | hp
 ·clear hM hn ht hka hkz
  go_enter Tryz.func41, Tryz.ntmps41
  go_wp2
  go_loopw [1, 5] (fun k i wr => k = .int .i64 (k0 : Int) ∧ i = .int .i64 0 ∧ wr = w) (fun _ _ _ => 0)
  case atStart => exact ⟨rfl, rfl, rfl⟩
  case round =>
   obtain ⟨rfl, rfl, hw⟩ := hrel
   go_wp2
   go_ret
   obtain rfl := hw
   exact ⟨rfl, Below.refl _ _⟩
 ·obtain ⟨g, ads, rfl, h⟩ := hM hp
  exact held_ownX k0 hka hkz S g n cap len ads w h hn ht
end Go.Proofs.YtmbhmknfipdadaaGreatDoor.AnsL
