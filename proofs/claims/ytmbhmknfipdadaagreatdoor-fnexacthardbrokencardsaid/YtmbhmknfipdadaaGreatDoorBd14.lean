/- Texts of ours, laid together. -/
import Derived.Test.YtmbhmknfipdadaaGreatDoorBd0
import Derived.Test.YtmbhmknfipdadaaGreatDoorBd6
import Derived.Laws.CopyOwn
import Derived.Deep.RegionLaw
import Derived.Laws.Tables
import Derived.Laws.Rows
namespace Go.Proofs.YtmbhmknfipdadaaGreatDoor.ValH
open Go.RowKit
open ValM ValW
def codes20 (zs : List Int) : List Value := (List.range 20).map fun i => .int .i64 (zs.getD i 0)
theorem codes20_eq (zs : List Int) : cellsI (zs.take 20) ++ List.replicate (20 - (zs.take 20).length) (.int .i64 0) = codes20 zs := by
 apply List.ext_getElem?
 intro i
 unfold cellsI codes20
 by_cases h1 : i < 20
 ·by_cases h2 : i < zs.length
  ·have hl : i < ((zs.take 20).map (Value.int .i64)).length := by simp; omega
   rw [List.getElem?_append_left hl]
   simp [h1, List.getD, List.getElem?_eq_getElem h2]
  ·have hl : ((zs.take 20).map (Value.int .i64)).length ≤ i := by simp; omega
   rw [List.getElem?_append_right hl, List.getElem?_replicate, if_pos (by simp; omega)]
   simp [h1, List.getD, List.getElem?_eq_none (Nat.le_of_not_lt h2)]
 ·rw [List.getElem?_eq_none (by simp; omega), List.getElem?_eq_none (by simp; omega)]
def wholeL (k n : Int) (zs : List Int) (t : ByteArray) : List Value := .int .i64 k :: .int .i64 n :: .int .i64 zs.length :: (codes20 zs ++ [.string t])
def whole0 (k n : Int) (zs : List Int) (t : ByteArray) : List Value := [.int .i64 k, .int .i64 n, .int .i64 zs.length, .int .i64 0, .int .i64 0, .int .i64 0, .int .i64 0, .int .i64 0, .int .i64 0, .int .i64 0, .int .i64 0,
 .int .i64 0, .int .i64 0, .int .i64 0, .int .i64 0, .int .i64 0, .int .i64 0, .int .i64 0, .int .i64 0, .int .i64 0, .int .i64 0, .int .i64 0, .int .i64 0, .string t]
theorem row_new2 (w : World) (o1 o2 o3 : Obj) {g : Nat} (hg : g = w.heap.size + 1 + 1) : (((w.alloc o1).alloc o2).alloc o3).heap[g]? = some o3 := by
 subst hg; have := heap_alloc_new ((w.alloc o1).alloc o2) o3; simpa using this
theorem whole_splice (k n : Int) (zs : List Int) (t : ByteArray) :
  splice (.int .i64 k :: .int .i64 n :: .int .i64 zs.length :: (List.replicate 20 (.int .i64 0) ++ [.string t])) 3 (cellsI (zs.take 20)) = wholeL k n zs t := by
 unfold splice wholeL
 have hl : (cellsI (zs.take 20)).length ≤ 20 := by simp [cellsI]; omega
 rw [← codes20_eq]
 have hd : List.drop (3 + (cellsI (zs.take 20)).length) (Value.int .i64 k :: .int .i64 n :: .int .i64 zs.length :: (List.replicate 20 (Value.int .i64 0) ++ [Value.string t])) = List.replicate (20 - (zs.take 20).length) (.int .i64 0) ++ [.string t] := by
  rw [show 3 + (cellsI (zs.take 20)).length = (cellsI (zs.take 20)).length + 3 by omega]
  simp only [List.drop_succ_cons]
  rw [List.drop_append_of_le_length (by simpa using hl), List.drop_replicate]
  simp [cellsI]
 rw [hd]
 simp
theorem whole0_cons (k n : Int) (zs : List Int) (t : ByteArray) : whole0 k n zs t = .int .i64 k :: .int .i64 n :: .int .i64 zs.length :: (List.replicate 20 (.int .i64 0) ++ [.string t]) := rfl
theorem whole0_splice (k n : Int) (zs : List Int) (t : ByteArray) : splice (whole0 k n zs t) 3 (cellsI (zs.take 20)) = wholeL k n zs t := by rw [whole0_cons, whole_splice]
theorem whole0_one (k n : Int) (zs : List Int) (t : ByteArray) : (whole0 k n zs t).toArray.all (·.oneCell') = true := by simp [whole0, Value.oneCell']
theorem wholeL_one (k n : Int) (zs : List Int) (t : ByteArray) : (wholeL k n zs t).toArray.all (·.oneCell') = true := by simp [wholeL, codes20, Value.oneCell']
theorem wholeL_len (k n : Int) (zs : List Int) (t : ByteArray) : (wholeL k n zs t).toArray.size = 24 := by simp [wholeL, codes20]
theorem Tryz.size24 : (Tryz.prog.info? 138).map (·.size) = some 24 := by kernel_rfl
theorem Tryz.sizeI : (Tryz.prog.info? 2).map (·.size) = some 1 := by kernel_rfl
theorem after_store (w : World) (o1 o2 : Obj) (T : TypeId) (cs cs' : Array Value) :
  ((((w.alloc o1).alloc o2).alloc (.cells cs T)).setRow (w.heap.size + 1 + 1) cs').heap[w.heap.size + 1 + 1]? = some (.cells cs' T (0, 0)) ∧
  ((((w.alloc o1).alloc o2).alloc (.cells cs T)).setRow (w.heap.size + 1 + 1) cs').heap[w.heap.size + 1]? = some o2 ∧
  ((((w.alloc o1).alloc o2).alloc (.cells cs T)).setRow (w.heap.size + 1 + 1) cs').heap[w.heap.size]? = some o1 ∧
  Below w.heap.size w ((((w.alloc o1).alloc o2).alloc (.cells cs T)).setRow (w.heap.size + 1 + 1) cs') := by
 have h3 := row_new2 w o1 o2 (.cells cs T) rfl
 have h2 : (((w.alloc o1).alloc o2).alloc (.cells cs T)).heap[w.heap.size + 1]? = some o2 := by
  rw [Below.heap_alloc _ _ _ (by simp)]
  have := heap_alloc_new (w.alloc o1) o2
  simpa using this
 have h1 : (((w.alloc o1).alloc o2).alloc (.cells cs T)).heap[w.heap.size]? = some o1 := by
  rw [Below.heap_alloc _ _ _ (by simp; omega), Below.heap_alloc _ _ _ (by simp)]
  exact heap_alloc_new w o1
 refine ⟨?_, ?_, ?_, ?_⟩
 ·exact setRow_heap _ _ cs cs' T _ h3
 ·rw [setRow_other _ _ _ _ (by omega)]; exact h2
 ·rw [setRow_other _ _ _ _ (by omega)]; exact h1
 ·refine below_setRow ?_ (by omega) _
  go_grown
set_option maxRecDepth 10000 in
set_option maxHeartbeats 1000000 in
theorem whole_in (k n : Int) (a : Option Addr) (cap : Nat) (zs : List Int) (t : ByteArray) (w : World) (hc : Codes w a zs) :
    Calls Tryz.prog 105 #[av k n a zs.length cap t] w fun e w' => e = .returned (.agg (wholeL k n zs t).toArray) ∧ Below w.heap.size w w' := by
  have HC : Hid (Codes w a zs) := hc
  have hl := hc.1
  clear hc
  go_enter Tryz.func105, Tryz.ntmps105
  go_wp2_with (first
    | (with_reducible show wpList _ _ _ (Oper.mk _ (Op.store 138 (Operand.tmp 3) (Operand.tmp 13)) _ _ _ _ :: _) _ _
       refine wpList_store_row rfl 138 (.tmp 3) (.tmp 13) rfl (w.heap.size + 1 + 1) (whole0 k n zs t).toArray rfl rfl 138 _ (row_new2 _ _ _ _ rfl) (by kernel_rfl) rfl (whole0_one k n zs t) ?_))
  generalize hW : World.setRow _ _ _ = W1
  obtain ⟨hg3, hg2, hg1, hB1⟩ : W1.heap[w.heap.size + 1 + 1]? = some (.cells (whole0 k n zs t).toArray 138 (0, 0)) ∧ W1.heap[w.heap.size + 1]? = some (.cells (whole0 0 0 [] ByteArray.empty).toArray 138 (0, 0)) ∧
      W1.heap[w.heap.size]? = some (.cells #[.int .i64 k, .int .i64 n, .slice a zs.length cap, .string t] 59 (0, 0)) ∧ Below w.heap.size w W1 := by
    rw [← hW]; exact after_store w _ _ _ _ _
  clear hW
  have hcell : W1.cell? ⟨w.heap.size, 2, none⟩ = some (.slice a zs.length cap) := by simp [World.cell?, hg1]
  have hsz : (cellsI (zs.take 20)).length = Nat.min zs.length 20 := by simp [cellsI, Nat.min_comm]
  have hpos : 0 < (cellsI (zs.take 20)).length → ∃ ad, a = some ad ∧ ∀ j v, (cellsI (zs.take 20))[j]? = some v → W1.cell? (ad.add j) = some v := by
    intro hp
    obtain ⟨b, o, rfl, hb, hcs⟩ := HC.out.2 (by rw [hsz] at hp; have : Nat.min zs.length 20 ≤ zs.length := Nat.min_le_left _ _; omega)
    refine ⟨_, rfl, fun j v hj => ?_⟩
    have hj2 : j < zs.length ∧ j < 20 := by
      have := (List.getElem?_eq_some_iff.1 hj).1
      simp [cellsI] at this; omega
    have hv : v = .int .i64 (zs.getD j 0) := by
      simp [cellsI, hj2.2, List.getElem?_eq_getElem hj2.1] at hj
      rw [← hj]; simp [List.getD, List.getElem?_eq_getElem hj2.1]
    have hplain : (⟨b, o, none⟩ : Addr).add j = ⟨b, o + j, none⟩ := by unfold Addr.add; split <;> simp_all
    rw [hplain, hB1.cell (p := ⟨b, o + j, none⟩) hb, hv]
    exact hcs j hj2.1
  have hone : ∀ v ∈ cellsI (zs.take 20), v.oneCell' = true := by intro v hv; unfold cellsI at hv; obtain ⟨x, _, rfl⟩ := List.mem_map.1 hv; rfl
  have HP : Hid (0 < (cellsI (zs.take 20)).length → ∃ ad, a = some ad ∧ ∀ j v, (cellsI (zs.take 20))[j]? = some v → W1.cell? (ad.add j) = some v) := hpos
  have HG3 : Hid (W1.heap[w.heap.size + 1 + 1]? = some (.cells (whole0 k n zs t).toArray 138 (0, 0))) := hg3
  have HG2 : Hid (W1.heap[w.heap.size + 1]? = some (.cells (whole0 0 0 [] ByteArray.empty).toArray 138 (0, 0))) := hg2
  have HB1 : Hid (Below w.heap.size w W1) := hB1
  have HS : Hid ((cellsI (zs.take 20)).length = Nat.min zs.length 20) := hsz
  clear hpos hg3 hg2 hg1 hB1 hsz
  go_region_law (refine step_copy_splice rfl (.tmp 15) (.tmp 17) 50 50 rfl 2 Tryz.underlying50 Tryz.sizeI _ _ _ _ _ _ rfl rfl (w.heap.size + 1 + 1) 3 (whole0 k n zs t) 138 HG3.out (cellsI (zs.take 20)) HS.out (fun h => ⟨rfl, HP.out h⟩) (by have := HS.out; have : Nat.min zs.length 20 ≤ 20 := Nat.min_le_right _ _; simp [whole0]; omega) hone (w.heap.size + 1 + 1) W1 (Below.refl _ _).drew (Nat.le_refl _) ?_; intro w4 hg4 hb4)
  rw [whole0_splice] at hg4
  have hg2 : Hid (w4.heap[w.heap.size + 1]? = some (.cells (whole0 0 0 [] ByteArray.empty).toArray 138 (0, 0))) := (hb4.block _ (by omega)).trans HG2.out
  have HB4 : Hid (Below w.heap.size w w4) := HB1.out.trans (hb4.mono (by omega))
  clear hb4 HG2 HG3 HP HC hcell HB1
  go_wp2_with (first
    | (with_reducible show wpList _ _ _ (Oper.mk _ (Op.load 138 (Operand.tmp 3)) _ _ _ _ :: _) _ _
       refine wpList_load_row rfl 138 (.tmp 3) rfl (w.heap.size + 1 + 1) rfl 138 _ _ _ hg4.out Tryz.underlying138 rfl (by rw [wholeL_len]; exact Tryz.size24) ?_)
    | (with_reducible show wpList _ _ _ (Oper.mk _ (Op.store 138 (Operand.tmp 2) (Operand.tmp 19)) _ _ _ _ :: _) _ _
       refine wpList_store_row rfl 138 (.tmp 2) (.tmp 19) rfl (w.heap.size + 1) (wholeL k n zs t).toArray rfl rfl 138 _ hg2.out (by rw [wholeL_len]; exact Tryz.size24) (by rw [wholeL_len]; rfl) (wholeL_one k n zs t) ?_))
  refine bodyPost_ret (v := .agg (wholeL k n zs t).toArray) (results_cell_row Tryz.results105 _ _ (w.heap.size + 1) 138 _ (0, 0) _ rfl (setRow_heap _ _ _ _ _ _ hg2.out) Tryz.underlying138 rfl (by rw [wholeL_len]; exact Tryz.size24)) rfl ⟨rfl, ?_⟩
  exact below_setRow HB4.out (by omega) _
end Go.Proofs.YtmbhmknfipdadaaGreatDoor.ValH
