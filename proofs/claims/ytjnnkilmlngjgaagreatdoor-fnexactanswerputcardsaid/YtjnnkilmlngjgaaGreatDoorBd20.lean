/- Texts of ours, laid together: ValRightI, ValAns. -/
import Derived.Test.YtjnnkilmlngjgaaGreatDoorBd11
import Derived.Test.YtjnnkilmlngjgaaGreatDoorBd6
import Derived.Test.YtjnnkilmlngjgaaGreatDoorBd17
import Derived.Deep.QuietTactic
import Derived.BigQuiet
/- ValueRight of the program, kind by kind. -/
namespace Go.Proofs.YtjnnkilmlngjgaaGreatDoor.ValI
open Go.RowKit
open ValM ValW ValS ValH BigFrame

theorem quiet_call {a : Act} {o : Oper} {C : World → Prop} {K : Act → Prop} (f : FuncId) (vs : Array Value) (v : Value) (he : ∀ W, (execOp a.eval o).run Tryz.prog W = .ok (.enter f vs) W)
    (hc : ∀ W, C W → Calls Tryz.prog f vs W fun e w' => e = .returned v ∧ C w') (hk : K (a.put o.dst v)) : o.quiet Tryz.prog a C K :=
  ⟨v, fun W hW => by unfold Oper.quietAt; rw [he W]; exact ⟨rfl, hc W hW⟩, hk⟩
theorem quiet_load4 {a : Act} {o : Oper} {C : World → Prop} {K : Act → Prop} (t b : Nat) (v0 v1 v2 v3 : Value) (h : o.op = .load 33 (.tmp t)) (ht : a.eval (.tmp t) = .pointer (some ⟨b, 0, none⟩))
    (hC : ∀ W, C W → At4 W b v0 v1 v2 v3) (hk : K (a.put o.dst (.agg #[v0, v1, v2, v3]))) : o.quiet Tryz.prog a C K := by
  refine ⟨_, fun W hW => ?_, hk⟩
  obtain ⟨h0, h1, h2, h3, _⟩ := hC W hW
  obtain ⟨dst, op, ty, pos, after, guard⟩ := o
  subst h
  have ht2 : a.tmps[t]?.getD undef = .pointer (some ⟨b, 0, none⟩) := by simpa [Act.eval] using ht
  simp [Oper.quietAt, go_sem, ht2, h0, h1, h2, h3]
theorem quiet_eq {a : Act} {o : Oper} {C : World → Prop} {K : Act → Prop} (x y : Nat) (k n : Int) (zs : List Int) (t : ByteArray) (k' n' : Int) (zs' : List Int) (t' : ByteArray)
    (h : o.op = .binOp .eql 101 (.tmp x) (.tmp y) 101) (hx : a.eval (.tmp x) = .agg (wholeL k n zs t).toArray) (hy : a.eval (.tmp y) = .agg (wholeL k' n' zs' t').toArray)
    (hk : K (a.put o.dst (.bool (sameW k n zs t k' n' zs' t')))) : o.quiet Tryz.prog a C K := by
  refine ⟨_, fun W hW => ?_, hk⟩
  obtain ⟨dst, op, ty, pos, after, guard⟩ := o
  subst h
  have hx2 : a.tmps[x]?.getD undef = .agg (wholeL k n zs t).toArray := by simpa [Act.eval] using hx
  have hy2 : a.tmps[y]?.getD undef = .agg (wholeL k' n' zs' t').toArray := by simpa [Act.eval] using hy
  have he := whole_eq W k n zs t k' n' zs' t'
  have hm : Tryz.prog.eqGuardType Tryz.prog.depth 101 = false := by kernel_rfl
  simp [Oper.quietAt, execOp, Act.eval, hx2, hy2, he, run_eqGuard_agg, hm, Result.andThen, Oper.quietUpon]

theorem same20_self (zs : List Int) (is : List Nat) : same20 zs zs is = true := by unfold same20; simp
theorem toList_empty (t : ByteArray) : (ByteArray.empty.toList == t.toList) = decide (t.size = 0) := by
  rw [← empty_list t, ByteArray.toList_eq, ByteArray.toList_eq]
  cases t.data.toList <;> rfl
theorem same20_nil {zs : List Int} (h : zs.length = 0) (is : List Nat) : same20 [] zs is = true := by
  have : zs = [] := List.eq_nil_of_length_eq_zero h
  subst this; exact same20_self _ _
theorem len_beq (zs : List Int) : (((([] : List Int).length : Int)) == (zs.length : Int)) = decide (zs.length = 0) := by
  rw [Bool.eq_iff_iff, beq_iff_eq, decide_eq_true_iff]; simp only [List.length_nil]; omega
theorem zero_beq (n : Int) : ((0 : Int) == n) = decide (n = 0) := by rw [Bool.eq_iff_iff]; simp; omega
theorem same_none (k n : Int) (zs : List Int) (t : ByteArray) : sameW k 0 [] ByteArray.empty k n zs t = (decide (n = 0) && decide (zs.length = 0) && decide (t.size = 0)) := by
  unfold sameW; rw [toList_empty, len_beq, zero_beq]
  by_cases h : zs.length = 0
  · rw [same20_nil h]; simp [Bool.and_assoc]
  · simp [h]
theorem same_num (k n : Int) (zs : List Int) (t : ByteArray) : sameW k n [] ByteArray.empty k n zs t = (decide (zs.length = 0) && decide (t.size = 0)) := by
  unfold sameW; rw [toList_empty, len_beq]
  by_cases h : zs.length = 0
  · rw [same20_nil h]; simp
  · simp [h]
theorem same_set (k n : Int) (zs : List Int) (t : ByteArray) : sameW k 0 zs ByteArray.empty k n zs t = (decide (n = 0) && decide (t.size = 0)) := by
  unfold sameW; rw [toList_empty, zero_beq, same20_self]; simp
theorem same_text (k n : Int) (zs : List Int) (t : ByteArray) : sameW k 0 [] t k n zs t = (decide (n = 0) && decide (zs.length = 0)) := by
  unfold sameW; rw [len_beq, zero_beq]
  by_cases h : zs.length = 0
  · rw [same20_nil h]; simp
  · simp [h]

set_option maxRecDepth 10000 in
set_option maxHeartbeats 4000000 in
theorem ir_none (k n : Int) (a : Option Addr) (cap : Nat) (zs : List Int) (t : ByteArray) (w : World) (hc : Codes w a zs) (ht : t.size ≤ maxLen) (hk : k = 0 ∨ k = 5 ∨ k = 6) :
    Calls Tryz.prog 49 #[av k n a zs.length cap t] w fun e w' => e = .returned (.bool (right k n zs t)) ∧ Below w.heap.size w w' := by
  have HK : Hid (k = 0 ∨ k = 5 ∨ k = 6) := hk
  have HT : Hid (t.size ≤ maxLen) := ht
  obtain ⟨r, hr⟩ : ∃ r, Hid (right k n zs t = r) := ⟨_, rfl⟩
  rw [hr.out]
  obtain ⟨rb, hrb⟩ : ∃ rb, Hid (true = rb) := ⟨_, rfl⟩
  have HC0 : Hid (Codes w a zs) := hc
  clear hc ht hk
  go_enter Tryz.func49, Tryz.ntmps49
  go_wp2_with fail
  refine (content_none k n a zs.length cap t _ HK.out).mono ?_
  rintro e W1 ⟨rfl, hB1⟩
  have HB : Hid (Below w.heap.size w W1) := (below_one w _).trans (hB1.mono (by simp))
  have HC : Hid (Codes W1 a zs) := HC0.out.on HB.out
  have H4 : Hid (At4 W1 w.heap.size (.int .i64 k) (.int .i64 n) (.slice a zs.length cap) (.string t)) := (At4.laid w _ _ _ _ _).on hB1
  clear hB1 HC0
  go_wp2
  cases rb with
  | true =>
    refine wp_region_quiet (C := fun W => Below W1.heap.size W1 W) (by kernel_rfl) (by kernel_rfl) (Below.refl _ _).drew ?_
    show wpQuiet _ _ _ _ [_, _, _, _, _, _, _, _, _, _, _, _, _, _, _] _
    go_big_quiet_want
    go_big_quiet_op
    first | go_big_quiet_on | (refine ⟨_, fun _ _ => rfl, ?_⟩; go_big_quiet_on)
    go_big_quiet_want
    go_big_quiet_op
    first | go_big_quiet_on | (refine ⟨_, fun _ _ => rfl, ?_⟩; go_big_quiet_on)
    go_big_quiet_want
    go_big_quiet_op
    first | go_big_quiet_on | (refine ⟨_, fun _ _ => rfl, ?_⟩; go_big_quiet_on)
    go_big_quiet_want
    go_big_quiet_op
    first | go_big_quiet_on | (refine ⟨_, fun _ _ => rfl, ?_⟩; go_big_quiet_on)
    go_big_quiet_want
    refine quiet_call 115 #[.agg #[.int .i64 k]] (.bool true) (fun W => by kernel_rfl) (fun W hW => (silence_right k W).mono fun e w' h => ⟨by rw [h.1, hrb.out], hW.trans (h.2.mono hW.size)⟩) ?_
    simp only [Act.put, List.setIfInBounds_toArray, List.set_cons_succ, List.set_cons_zero]
    go_big_quiet_on
    go_big_quiet_want
    go_big_quiet_op
    first | go_big_quiet_on | (refine ⟨_, fun _ _ => rfl, ?_⟩; go_big_quiet_on)
    go_big_quiet_want
    go_big_quiet_op
    first | go_big_quiet_on | (refine ⟨_, fun _ _ => rfl, ?_⟩; go_big_quiet_on)
    go_big_quiet_want
    go_big_quiet_op
    first | go_big_quiet_on | (refine ⟨_, fun _ _ => rfl, ?_⟩; go_big_quiet_on)
    go_big_quiet_want
    refine quiet_call 116 #[.agg #[.int .i64 k]] (av k 0 none 0 0 ByteArray.empty) (fun W => by kernel_rfl) (fun W hW => (silence_value k W).mono fun e w' h => ⟨h.1, hW.trans (h.2.mono hW.size)⟩) ?_
    simp only [Act.put, List.setIfInBounds_toArray, List.set_cons_succ, List.set_cons_zero]
    go_big_quiet_on
    go_big_quiet_want
    refine quiet_call 59 #[av k 0 none 0 0 ByteArray.empty] (.agg (wholeL k 0 [] ByteArray.empty).toArray) (fun W => by kernel_rfl) (fun W hW => (whole_in k 0 none 0 [] ByteArray.empty W (Codes.nil _ _)).mono fun e w' h => ⟨h.1, hW.trans (h.2.mono hW.size)⟩) ?_
    simp only [Act.put, List.setIfInBounds_toArray, List.set_cons_succ, List.set_cons_zero]
    go_big_quiet_on
    go_big_quiet_want
    refine quiet_load4 1 w.heap.size (.int .i64 k) (.int .i64 n) (.slice a zs.length cap) (.string t) rfl rfl (fun W hW => (H4.out.on hW)) ?_
    simp only [Act.put, List.setIfInBounds_toArray, List.set_cons_succ, List.set_cons_zero]
    go_big_quiet_on
    go_big_quiet_want
    refine quiet_call 59 #[av k n a zs.length cap t] (.agg (wholeL k n zs t).toArray) (fun W => by kernel_rfl) (fun W hW => (whole_in k n a cap zs t W (HC.out.on hW)).mono fun e w' h => ⟨h.1, hW.trans (h.2.mono hW.size)⟩) ?_
    simp only [Act.put, List.setIfInBounds_toArray, List.set_cons_succ, List.set_cons_zero]
    go_big_quiet_on
    go_big_quiet_want
    refine quiet_eq 15 17 k 0 [] ByteArray.empty k n zs t rfl rfl rfl ?_
    simp only [Act.put, List.setIfInBounds_toArray, List.set_cons_succ, List.set_cons_zero]
    go_big_quiet_on
    go_big_quiet_want
    go_big_quiet_op
    first | go_big_quiet_on | (refine ⟨_, fun _ _ => rfl, ?_⟩; go_big_quiet_on)
    go_big_quiet_want
    go_big_quiet_op
    first | go_big_quiet_on | (refine ⟨_, fun _ _ => rfl, ?_⟩; go_big_quiet_on)
    refine wpQuiet_nil ?_
    intro w2 hB2
    go_wp2
    go_ret
    exact ⟨ret_bool (by rw [← hr.out, same_none k n zs t, right_none n zs t HK.out]), HB.out.trans (hB2.mono HB.out.size)⟩
  | false => exact absurd hrb.out (by simp)

set_option maxRecDepth 10000 in
set_option maxHeartbeats 4000000 in
theorem ir_int (k n : Int) (a : Option Addr) (cap : Nat) (zs : List Int) (t : ByteArray) (w : World) (hc : Codes w a zs) (ht : t.size ≤ maxLen) (hk : k = 1) :
    Calls Tryz.prog 49 #[av k n a zs.length cap t] w fun e w' => e = .returned (.bool (right k n zs t)) ∧ Below w.heap.size w w' := by
  have HK : Hid (k = 1) := hk
  have HT : Hid (t.size ≤ maxLen) := ht
  obtain ⟨r, hr⟩ : ∃ r, Hid (right k n zs t = r) := ⟨_, rfl⟩
  rw [hr.out]
  obtain ⟨rb, hrb⟩ : ∃ rb, Hid (decide (-1000000000 ≤ n ∧ n ≤ 1000000000) = rb) := ⟨_, rfl⟩
  have HC0 : Hid (Codes w a zs) := hc
  clear hc ht hk
  go_enter Tryz.func49, Tryz.ntmps49
  go_wp2_with fail
  refine (content_int k n a zs.length cap t _ HK.out).mono ?_
  rintro e W1 ⟨rfl, hB1⟩
  have HB : Hid (Below w.heap.size w W1) := (below_one w _).trans (hB1.mono (by simp))
  have HC : Hid (Codes W1 a zs) := HC0.out.on HB.out
  have H4 : Hid (At4 W1 w.heap.size (.int .i64 k) (.int .i64 n) (.slice a zs.length cap) (.string t)) := (At4.laid w _ _ _ _ _).on hB1
  clear hB1 HC0
  go_wp2
  cases rb with
  | true =>
    refine wp_region_quiet (C := fun W => Below W1.heap.size W1 W) (by kernel_rfl) (by kernel_rfl) (Below.refl _ _).drew ?_
    show wpQuiet _ _ _ _ [_, _, _, _, _, _, _, _, _, _, _, _, _, _, _] _
    go_big_quiet_want
    go_big_quiet_op
    first | go_big_quiet_on | (refine ⟨_, fun _ _ => rfl, ?_⟩; go_big_quiet_on)
    go_big_quiet_want
    go_big_quiet_op
    first | go_big_quiet_on | (refine ⟨_, fun _ _ => rfl, ?_⟩; go_big_quiet_on)
    go_big_quiet_want
    go_big_quiet_op
    first | go_big_quiet_on | (refine ⟨_, fun _ _ => rfl, ?_⟩; go_big_quiet_on)
    go_big_quiet_want
    go_big_quiet_op
    first | go_big_quiet_on | (refine ⟨_, fun _ _ => rfl, ?_⟩; go_big_quiet_on)
    go_big_quiet_want
    refine quiet_call 117 #[.agg #[.int .i64 n]] (.bool true) (fun W => by kernel_rfl) (fun W hW => (integer_right n W).mono fun e w' h => ⟨by rw [h.1, hrb.out], hW.trans (h.2.mono hW.size)⟩) ?_
    simp only [Act.put, List.setIfInBounds_toArray, List.set_cons_succ, List.set_cons_zero]
    go_big_quiet_on
    go_big_quiet_want
    go_big_quiet_op
    first | go_big_quiet_on | (refine ⟨_, fun _ _ => rfl, ?_⟩; go_big_quiet_on)
    go_big_quiet_want
    go_big_quiet_op
    first | go_big_quiet_on | (refine ⟨_, fun _ _ => rfl, ?_⟩; go_big_quiet_on)
    go_big_quiet_want
    go_big_quiet_op
    first | go_big_quiet_on | (refine ⟨_, fun _ _ => rfl, ?_⟩; go_big_quiet_on)
    go_big_quiet_want
    refine quiet_call 118 #[.agg #[.int .i64 n]] (av 1 n none 0 0 ByteArray.empty) (fun W => by kernel_rfl) (fun W hW => (integer_value n W).mono fun e w' h => ⟨h.1, hW.trans (h.2.mono hW.size)⟩) ?_
    simp only [Act.put, List.setIfInBounds_toArray, List.set_cons_succ, List.set_cons_zero]
    go_big_quiet_on
    go_big_quiet_want
    refine quiet_call 59 #[av 1 n none 0 0 ByteArray.empty] (.agg (wholeL 1 n [] ByteArray.empty).toArray) (fun W => by kernel_rfl) (fun W hW => (whole_in 1 n none 0 [] ByteArray.empty W (Codes.nil _ _)).mono fun e w' h => ⟨h.1, hW.trans (h.2.mono hW.size)⟩) ?_
    simp only [Act.put, List.setIfInBounds_toArray, List.set_cons_succ, List.set_cons_zero]
    go_big_quiet_on
    go_big_quiet_want
    refine quiet_load4 1 w.heap.size (.int .i64 k) (.int .i64 n) (.slice a zs.length cap) (.string t) rfl rfl (fun W hW => (H4.out.on hW)) ?_
    simp only [Act.put, List.setIfInBounds_toArray, List.set_cons_succ, List.set_cons_zero]
    go_big_quiet_on
    go_big_quiet_want
    refine quiet_call 59 #[av k n a zs.length cap t] (.agg (wholeL k n zs t).toArray) (fun W => by kernel_rfl) (fun W hW => (whole_in k n a cap zs t W (HC.out.on hW)).mono fun e w' h => ⟨h.1, hW.trans (h.2.mono hW.size)⟩) ?_
    simp only [Act.put, List.setIfInBounds_toArray, List.set_cons_succ, List.set_cons_zero]
    go_big_quiet_on
    go_big_quiet_want
    refine quiet_eq 15 17 1 n [] ByteArray.empty k n zs t rfl rfl rfl ?_
    simp only [Act.put, List.setIfInBounds_toArray, List.set_cons_succ, List.set_cons_zero]
    go_big_quiet_on
    go_big_quiet_want
    go_big_quiet_op
    first | go_big_quiet_on | (refine ⟨_, fun _ _ => rfl, ?_⟩; go_big_quiet_on)
    go_big_quiet_want
    go_big_quiet_op
    first | go_big_quiet_on | (refine ⟨_, fun _ _ => rfl, ?_⟩; go_big_quiet_on)
    refine wpQuiet_nil ?_
    intro w2 hB2
    go_wp2
    go_ret
    exact ⟨ret_bool (by rw [← hr.out, HK.out, right_int, hrb.out, same_num]; rfl), HB.out.trans (hB2.mono HB.out.size)⟩
  | false =>
    refine wp_region_quiet (C := fun W => Below W1.heap.size W1 W) (by kernel_rfl) (by kernel_rfl) (Below.refl _ _).drew ?_
    show wpQuiet _ _ _ _ [_, _, _, _, _, _, _, _, _, _, _, _, _, _, _] _
    go_big_quiet_want
    go_big_quiet_op
    first | go_big_quiet_on | (refine ⟨_, fun _ _ => rfl, ?_⟩; go_big_quiet_on)
    go_big_quiet_want
    go_big_quiet_op
    first | go_big_quiet_on | (refine ⟨_, fun _ _ => rfl, ?_⟩; go_big_quiet_on)
    go_big_quiet_want
    go_big_quiet_op
    first | go_big_quiet_on | (refine ⟨_, fun _ _ => rfl, ?_⟩; go_big_quiet_on)
    go_big_quiet_want
    go_big_quiet_op
    first | go_big_quiet_on | (refine ⟨_, fun _ _ => rfl, ?_⟩; go_big_quiet_on)
    go_big_quiet_want
    refine quiet_call 117 #[.agg #[.int .i64 n]] (.bool false) (fun W => by kernel_rfl) (fun W hW => (integer_right n W).mono fun e w' h => ⟨by rw [h.1, hrb.out], hW.trans (h.2.mono hW.size)⟩) ?_
    simp only [Act.put, List.setIfInBounds_toArray, List.set_cons_succ, List.set_cons_zero]
    go_big_quiet_on
    go_big_quiet_want
    go_big_quiet_op
    first | go_big_quiet_on | (refine ⟨_, fun _ _ => rfl, ?_⟩; go_big_quiet_on)
    go_big_quiet_want
    go_big_quiet_op
    first | go_big_quiet_on | (refine ⟨_, fun _ _ => rfl, ?_⟩; go_big_quiet_on)
    go_big_quiet_skip
    go_big_quiet_skip
    go_big_quiet_skip
    go_big_quiet_skip
    go_big_quiet_skip
    go_big_quiet_skip
    go_big_quiet_want
    go_big_quiet_op
    first | go_big_quiet_on | (refine ⟨_, fun _ _ => rfl, ?_⟩; go_big_quiet_on)
    go_big_quiet_want
    go_big_quiet_op
    first | go_big_quiet_on | (refine ⟨_, fun _ _ => rfl, ?_⟩; go_big_quiet_on)
    refine wpQuiet_nil ?_
    intro w2 hB2
    go_wp2
    go_ret
    exact ⟨ret_bool (by rw [← hr.out, HK.out, right_int, hrb.out]; rfl), HB.out.trans (hB2.mono HB.out.size)⟩

set_option maxRecDepth 10000 in
set_option maxHeartbeats 4000000 in
theorem ir_code (k n : Int) (a : Option Addr) (cap : Nat) (zs : List Int) (t : ByteArray) (w : World) (hc : Codes w a zs) (ht : t.size ≤ maxLen) (hk : k = 2) :
    Calls Tryz.prog 49 #[av k n a zs.length cap t] w fun e w' => e = .returned (.bool (right k n zs t)) ∧ Below w.heap.size w w' := by
  have HK : Hid (k = 2) := hk
  have HT : Hid (t.size ≤ maxLen) := ht
  obtain ⟨r, hr⟩ : ∃ r, Hid (right k n zs t = r) := ⟨_, rfl⟩
  rw [hr.out]
  obtain ⟨rb, hrb⟩ : ∃ rb, Hid (decide (1 ≤ n ∧ n ≤ 20) = rb) := ⟨_, rfl⟩
  have HC0 : Hid (Codes w a zs) := hc
  clear hc ht hk
  go_enter Tryz.func49, Tryz.ntmps49
  go_wp2_with fail
  refine (content_code k n a zs.length cap t _ HK.out).mono ?_
  rintro e W1 ⟨rfl, hB1⟩
  have HB : Hid (Below w.heap.size w W1) := (below_one w _).trans (hB1.mono (by simp))
  have HC : Hid (Codes W1 a zs) := HC0.out.on HB.out
  have H4 : Hid (At4 W1 w.heap.size (.int .i64 k) (.int .i64 n) (.slice a zs.length cap) (.string t)) := (At4.laid w _ _ _ _ _).on hB1
  clear hB1 HC0
  go_wp2
  cases rb with
  | true =>
    refine wp_region_quiet (C := fun W => Below W1.heap.size W1 W) (by kernel_rfl) (by kernel_rfl) (Below.refl _ _).drew ?_
    show wpQuiet _ _ _ _ [_, _, _, _, _, _, _, _, _, _, _, _, _, _, _] _
    go_big_quiet_want
    go_big_quiet_op
    first | go_big_quiet_on | (refine ⟨_, fun _ _ => rfl, ?_⟩; go_big_quiet_on)
    go_big_quiet_want
    go_big_quiet_op
    first | go_big_quiet_on | (refine ⟨_, fun _ _ => rfl, ?_⟩; go_big_quiet_on)
    go_big_quiet_want
    go_big_quiet_op
    first | go_big_quiet_on | (refine ⟨_, fun _ _ => rfl, ?_⟩; go_big_quiet_on)
    go_big_quiet_want
    go_big_quiet_op
    first | go_big_quiet_on | (refine ⟨_, fun _ _ => rfl, ?_⟩; go_big_quiet_on)
    go_big_quiet_want
    refine quiet_call 120 #[.agg #[.int .i64 n]] (.bool true) (fun W => by kernel_rfl) (fun W hW => (choice_right n W).mono fun e w' h => ⟨by rw [h.1, hrb.out], hW.trans (h.2.mono hW.size)⟩) ?_
    simp only [Act.put, List.setIfInBounds_toArray, List.set_cons_succ, List.set_cons_zero]
    go_big_quiet_on
    go_big_quiet_want
    go_big_quiet_op
    first | go_big_quiet_on | (refine ⟨_, fun _ _ => rfl, ?_⟩; go_big_quiet_on)
    go_big_quiet_want
    go_big_quiet_op
    first | go_big_quiet_on | (refine ⟨_, fun _ _ => rfl, ?_⟩; go_big_quiet_on)
    go_big_quiet_want
    go_big_quiet_op
    first | go_big_quiet_on | (refine ⟨_, fun _ _ => rfl, ?_⟩; go_big_quiet_on)
    go_big_quiet_want
    refine quiet_call 121 #[.agg #[.int .i64 n]] (av 2 n none 0 0 ByteArray.empty) (fun W => by kernel_rfl) (fun W hW => (choice_value n W).mono fun e w' h => ⟨h.1, hW.trans (h.2.mono hW.size)⟩) ?_
    simp only [Act.put, List.setIfInBounds_toArray, List.set_cons_succ, List.set_cons_zero]
    go_big_quiet_on
    go_big_quiet_want
    refine quiet_call 59 #[av 2 n none 0 0 ByteArray.empty] (.agg (wholeL 2 n [] ByteArray.empty).toArray) (fun W => by kernel_rfl) (fun W hW => (whole_in 2 n none 0 [] ByteArray.empty W (Codes.nil _ _)).mono fun e w' h => ⟨h.1, hW.trans (h.2.mono hW.size)⟩) ?_
    simp only [Act.put, List.setIfInBounds_toArray, List.set_cons_succ, List.set_cons_zero]
    go_big_quiet_on
    go_big_quiet_want
    refine quiet_load4 1 w.heap.size (.int .i64 k) (.int .i64 n) (.slice a zs.length cap) (.string t) rfl rfl (fun W hW => (H4.out.on hW)) ?_
    simp only [Act.put, List.setIfInBounds_toArray, List.set_cons_succ, List.set_cons_zero]
    go_big_quiet_on
    go_big_quiet_want
    refine quiet_call 59 #[av k n a zs.length cap t] (.agg (wholeL k n zs t).toArray) (fun W => by kernel_rfl) (fun W hW => (whole_in k n a cap zs t W (HC.out.on hW)).mono fun e w' h => ⟨h.1, hW.trans (h.2.mono hW.size)⟩) ?_
    simp only [Act.put, List.setIfInBounds_toArray, List.set_cons_succ, List.set_cons_zero]
    go_big_quiet_on
    go_big_quiet_want
    refine quiet_eq 15 17 2 n [] ByteArray.empty k n zs t rfl rfl rfl ?_
    simp only [Act.put, List.setIfInBounds_toArray, List.set_cons_succ, List.set_cons_zero]
    go_big_quiet_on
    go_big_quiet_want
    go_big_quiet_op
    first | go_big_quiet_on | (refine ⟨_, fun _ _ => rfl, ?_⟩; go_big_quiet_on)
    go_big_quiet_want
    go_big_quiet_op
    first | go_big_quiet_on | (refine ⟨_, fun _ _ => rfl, ?_⟩; go_big_quiet_on)
    refine wpQuiet_nil ?_
    intro w2 hB2
    go_wp2
    go_ret
    exact ⟨ret_bool (by rw [← hr.out, HK.out, right_code, hrb.out, same_num]; rfl), HB.out.trans (hB2.mono HB.out.size)⟩
  | false =>
    refine wp_region_quiet (C := fun W => Below W1.heap.size W1 W) (by kernel_rfl) (by kernel_rfl) (Below.refl _ _).drew ?_
    show wpQuiet _ _ _ _ [_, _, _, _, _, _, _, _, _, _, _, _, _, _, _] _
    go_big_quiet_want
    go_big_quiet_op
    first | go_big_quiet_on | (refine ⟨_, fun _ _ => rfl, ?_⟩; go_big_quiet_on)
    go_big_quiet_want
    go_big_quiet_op
    first | go_big_quiet_on | (refine ⟨_, fun _ _ => rfl, ?_⟩; go_big_quiet_on)
    go_big_quiet_want
    go_big_quiet_op
    first | go_big_quiet_on | (refine ⟨_, fun _ _ => rfl, ?_⟩; go_big_quiet_on)
    go_big_quiet_want
    go_big_quiet_op
    first | go_big_quiet_on | (refine ⟨_, fun _ _ => rfl, ?_⟩; go_big_quiet_on)
    go_big_quiet_want
    refine quiet_call 120 #[.agg #[.int .i64 n]] (.bool false) (fun W => by kernel_rfl) (fun W hW => (choice_right n W).mono fun e w' h => ⟨by rw [h.1, hrb.out], hW.trans (h.2.mono hW.size)⟩) ?_
    simp only [Act.put, List.setIfInBounds_toArray, List.set_cons_succ, List.set_cons_zero]
    go_big_quiet_on
    go_big_quiet_want
    go_big_quiet_op
    first | go_big_quiet_on | (refine ⟨_, fun _ _ => rfl, ?_⟩; go_big_quiet_on)
    go_big_quiet_want
    go_big_quiet_op
    first | go_big_quiet_on | (refine ⟨_, fun _ _ => rfl, ?_⟩; go_big_quiet_on)
    go_big_quiet_skip
    go_big_quiet_skip
    go_big_quiet_skip
    go_big_quiet_skip
    go_big_quiet_skip
    go_big_quiet_skip
    go_big_quiet_want
    go_big_quiet_op
    first | go_big_quiet_on | (refine ⟨_, fun _ _ => rfl, ?_⟩; go_big_quiet_on)
    go_big_quiet_want
    go_big_quiet_op
    first | go_big_quiet_on | (refine ⟨_, fun _ _ => rfl, ?_⟩; go_big_quiet_on)
    refine wpQuiet_nil ?_
    intro w2 hB2
    go_wp2
    go_ret
    exact ⟨ret_bool (by rw [← hr.out, HK.out, right_code, hrb.out]; rfl), HB.out.trans (hB2.mono HB.out.size)⟩

set_option maxRecDepth 10000 in
set_option maxHeartbeats 4000000 in
theorem ir_set (k n : Int) (a : Option Addr) (cap : Nat) (zs : List Int) (t : ByteArray) (w : World) (hc : Codes w a zs) (ht : t.size ≤ maxLen) (hk : k = 3) :
    Calls Tryz.prog 49 #[av k n a zs.length cap t] w fun e w' => e = .returned (.bool (right k n zs t)) ∧ Below w.heap.size w w' := by
  have HK : Hid (k = 3) := hk
  have HT : Hid (t.size ≤ maxLen) := ht
  obtain ⟨r, hr⟩ : ∃ r, Hid (right k n zs t = r) := ⟨_, rfl⟩
  rw [hr.out]
  obtain ⟨rb, hrb⟩ : ∃ rb, Hid (risesB zs = rb) := ⟨_, rfl⟩
  have HC0 : Hid (Codes w a zs) := hc
  clear hc ht hk
  go_enter Tryz.func49, Tryz.ntmps49
  go_wp2_with fail
  refine (content_set k n a zs.length cap t _ HK.out).mono ?_
  rintro e W1 ⟨rfl, hB1⟩
  have HB : Hid (Below w.heap.size w W1) := (below_one w _).trans (hB1.mono (by simp))
  have HC : Hid (Codes W1 a zs) := HC0.out.on HB.out
  have H4 : Hid (At4 W1 w.heap.size (.int .i64 k) (.int .i64 n) (.slice a zs.length cap) (.string t)) := (At4.laid w _ _ _ _ _).on hB1
  clear hB1 HC0
  go_wp2
  cases rb with
  | true =>
    refine wp_region_quiet (C := fun W => Below W1.heap.size W1 W) (by kernel_rfl) (by kernel_rfl) (Below.refl _ _).drew ?_
    show wpQuiet _ _ _ _ [_, _, _, _, _, _, _, _, _, _, _, _, _, _, _] _
    go_big_quiet_want
    go_big_quiet_op
    first | go_big_quiet_on | (refine ⟨_, fun _ _ => rfl, ?_⟩; go_big_quiet_on)
    go_big_quiet_want
    go_big_quiet_op
    first | go_big_quiet_on | (refine ⟨_, fun _ _ => rfl, ?_⟩; go_big_quiet_on)
    go_big_quiet_want
    go_big_quiet_op
    first | go_big_quiet_on | (refine ⟨_, fun _ _ => rfl, ?_⟩; go_big_quiet_on)
    go_big_quiet_want
    go_big_quiet_op
    first | go_big_quiet_on | (refine ⟨_, fun _ _ => rfl, ?_⟩; go_big_quiet_on)
    go_big_quiet_want
    refine quiet_call 122 #[.agg #[.slice a zs.length cap]] (.bool true) (fun W => by kernel_rfl) (fun W hW => (choices_right a cap zs W (HC.out.on hW)).mono fun e w' h => ⟨by rw [h.1, hrb.out], hW.trans (h.2.mono hW.size)⟩) ?_
    simp only [Act.put, List.setIfInBounds_toArray, List.set_cons_succ, List.set_cons_zero]
    go_big_quiet_on
    go_big_quiet_want
    go_big_quiet_op
    first | go_big_quiet_on | (refine ⟨_, fun _ _ => rfl, ?_⟩; go_big_quiet_on)
    go_big_quiet_want
    go_big_quiet_op
    first | go_big_quiet_on | (refine ⟨_, fun _ _ => rfl, ?_⟩; go_big_quiet_on)
    go_big_quiet_want
    go_big_quiet_op
    first | go_big_quiet_on | (refine ⟨_, fun _ _ => rfl, ?_⟩; go_big_quiet_on)
    go_big_quiet_want
    refine quiet_call 123 #[.agg #[.slice a zs.length cap]] (av 3 0 a zs.length cap ByteArray.empty) (fun W => by kernel_rfl) (fun W hW => (choices_value a zs.length cap W).mono fun e w' h => ⟨h.1, hW.trans (h.2.mono hW.size)⟩) ?_
    simp only [Act.put, List.setIfInBounds_toArray, List.set_cons_succ, List.set_cons_zero]
    go_big_quiet_on
    go_big_quiet_want
    refine quiet_call 59 #[av 3 0 a zs.length cap ByteArray.empty] (.agg (wholeL 3 0 zs ByteArray.empty).toArray) (fun W => by kernel_rfl) (fun W hW => (whole_in 3 0 a cap zs ByteArray.empty W (HC.out.on hW)).mono fun e w' h => ⟨h.1, hW.trans (h.2.mono hW.size)⟩) ?_
    simp only [Act.put, List.setIfInBounds_toArray, List.set_cons_succ, List.set_cons_zero]
    go_big_quiet_on
    go_big_quiet_want
    refine quiet_load4 1 w.heap.size (.int .i64 k) (.int .i64 n) (.slice a zs.length cap) (.string t) rfl rfl (fun W hW => (H4.out.on hW)) ?_
    simp only [Act.put, List.setIfInBounds_toArray, List.set_cons_succ, List.set_cons_zero]
    go_big_quiet_on
    go_big_quiet_want
    refine quiet_call 59 #[av k n a zs.length cap t] (.agg (wholeL k n zs t).toArray) (fun W => by kernel_rfl) (fun W hW => (whole_in k n a cap zs t W (HC.out.on hW)).mono fun e w' h => ⟨h.1, hW.trans (h.2.mono hW.size)⟩) ?_
    simp only [Act.put, List.setIfInBounds_toArray, List.set_cons_succ, List.set_cons_zero]
    go_big_quiet_on
    go_big_quiet_want
    refine quiet_eq 15 17 3 0 zs ByteArray.empty k n zs t rfl rfl rfl ?_
    simp only [Act.put, List.setIfInBounds_toArray, List.set_cons_succ, List.set_cons_zero]
    go_big_quiet_on
    go_big_quiet_want
    go_big_quiet_op
    first | go_big_quiet_on | (refine ⟨_, fun _ _ => rfl, ?_⟩; go_big_quiet_on)
    go_big_quiet_want
    go_big_quiet_op
    first | go_big_quiet_on | (refine ⟨_, fun _ _ => rfl, ?_⟩; go_big_quiet_on)
    refine wpQuiet_nil ?_
    intro w2 hB2
    go_wp2
    go_ret
    exact ⟨ret_bool (by rw [← hr.out, HK.out, right_set, hrb.out, same_set]; rfl), HB.out.trans (hB2.mono HB.out.size)⟩
  | false =>
    refine wp_region_quiet (C := fun W => Below W1.heap.size W1 W) (by kernel_rfl) (by kernel_rfl) (Below.refl _ _).drew ?_
    show wpQuiet _ _ _ _ [_, _, _, _, _, _, _, _, _, _, _, _, _, _, _] _
    go_big_quiet_want
    go_big_quiet_op
    first | go_big_quiet_on | (refine ⟨_, fun _ _ => rfl, ?_⟩; go_big_quiet_on)
    go_big_quiet_want
    go_big_quiet_op
    first | go_big_quiet_on | (refine ⟨_, fun _ _ => rfl, ?_⟩; go_big_quiet_on)
    go_big_quiet_want
    go_big_quiet_op
    first | go_big_quiet_on | (refine ⟨_, fun _ _ => rfl, ?_⟩; go_big_quiet_on)
    go_big_quiet_want
    go_big_quiet_op
    first | go_big_quiet_on | (refine ⟨_, fun _ _ => rfl, ?_⟩; go_big_quiet_on)
    go_big_quiet_want
    refine quiet_call 122 #[.agg #[.slice a zs.length cap]] (.bool false) (fun W => by kernel_rfl) (fun W hW => (choices_right a cap zs W (HC.out.on hW)).mono fun e w' h => ⟨by rw [h.1, hrb.out], hW.trans (h.2.mono hW.size)⟩) ?_
    simp only [Act.put, List.setIfInBounds_toArray, List.set_cons_succ, List.set_cons_zero]
    go_big_quiet_on
    go_big_quiet_want
    go_big_quiet_op
    first | go_big_quiet_on | (refine ⟨_, fun _ _ => rfl, ?_⟩; go_big_quiet_on)
    go_big_quiet_want
    go_big_quiet_op
    first | go_big_quiet_on | (refine ⟨_, fun _ _ => rfl, ?_⟩; go_big_quiet_on)
    go_big_quiet_skip
    go_big_quiet_skip
    go_big_quiet_skip
    go_big_quiet_skip
    go_big_quiet_skip
    go_big_quiet_skip
    go_big_quiet_want
    go_big_quiet_op
    first | go_big_quiet_on | (refine ⟨_, fun _ _ => rfl, ?_⟩; go_big_quiet_on)
    go_big_quiet_want
    go_big_quiet_op
    first | go_big_quiet_on | (refine ⟨_, fun _ _ => rfl, ?_⟩; go_big_quiet_on)
    refine wpQuiet_nil ?_
    intro w2 hB2
    go_wp2
    go_ret
    exact ⟨ret_bool (by rw [← hr.out, HK.out, right_set, hrb.out]; rfl), HB.out.trans (hB2.mono HB.out.size)⟩

set_option maxRecDepth 10000 in
set_option maxHeartbeats 4000000 in
theorem ir_text (k n : Int) (a : Option Addr) (cap : Nat) (zs : List Int) (t : ByteArray) (w : World) (hc : Codes w a zs) (ht : t.size ≤ maxLen) (hk : k = 4) :
    Calls Tryz.prog 49 #[av k n a zs.length cap t] w fun e w' => e = .returned (.bool (right k n zs t)) ∧ Below w.heap.size w w' := by
  have HK : Hid (k = 4) := hk
  have HT : Hid (t.size ≤ maxLen) := ht
  obtain ⟨r, hr⟩ : ∃ r, Hid (right k n zs t = r) := ⟨_, rfl⟩
  rw [hr.out]
  obtain ⟨rb, hrb⟩ : ∃ rb, Hid ((plainB t && decide (t.size ≤ 40)) = rb) := ⟨_, rfl⟩
  have HC0 : Hid (Codes w a zs) := hc
  clear hc ht hk
  go_enter Tryz.func49, Tryz.ntmps49
  go_wp2_with fail
  refine (content_text k n a zs.length cap t _ HK.out).mono ?_
  rintro e W1 ⟨rfl, hB1⟩
  have HB : Hid (Below w.heap.size w W1) := (below_one w _).trans (hB1.mono (by simp))
  have HC : Hid (Codes W1 a zs) := HC0.out.on HB.out
  have H4 : Hid (At4 W1 w.heap.size (.int .i64 k) (.int .i64 n) (.slice a zs.length cap) (.string t)) := (At4.laid w _ _ _ _ _).on hB1
  clear hB1 HC0
  go_wp2
  cases rb with
  | true =>
    refine wp_region_quiet (C := fun W => Below W1.heap.size W1 W) (by kernel_rfl) (by kernel_rfl) (Below.refl _ _).drew ?_
    show wpQuiet _ _ _ _ [_, _, _, _, _, _, _, _, _, _, _, _, _, _, _] _
    go_big_quiet_want
    go_big_quiet_op
    first | go_big_quiet_on | (refine ⟨_, fun _ _ => rfl, ?_⟩; go_big_quiet_on)
    go_big_quiet_want
    go_big_quiet_op
    first | go_big_quiet_on | (refine ⟨_, fun _ _ => rfl, ?_⟩; go_big_quiet_on)
    go_big_quiet_want
    go_big_quiet_op
    first | go_big_quiet_on | (refine ⟨_, fun _ _ => rfl, ?_⟩; go_big_quiet_on)
    go_big_quiet_want
    go_big_quiet_op
    first | go_big_quiet_on | (refine ⟨_, fun _ _ => rfl, ?_⟩; go_big_quiet_on)
    go_big_quiet_want
    refine quiet_call 124 #[.agg #[.string t]] (.bool true) (fun W => by kernel_rfl) (fun W hW => (words_right t W HT.out).mono fun e w' h => ⟨by rw [h.1, hrb.out], hW.trans (h.2.mono hW.size)⟩) ?_
    simp only [Act.put, List.setIfInBounds_toArray, List.set_cons_succ, List.set_cons_zero]
    go_big_quiet_on
    go_big_quiet_want
    go_big_quiet_op
    first | go_big_quiet_on | (refine ⟨_, fun _ _ => rfl, ?_⟩; go_big_quiet_on)
    go_big_quiet_want
    go_big_quiet_op
    first | go_big_quiet_on | (refine ⟨_, fun _ _ => rfl, ?_⟩; go_big_quiet_on)
    go_big_quiet_want
    go_big_quiet_op
    first | go_big_quiet_on | (refine ⟨_, fun _ _ => rfl, ?_⟩; go_big_quiet_on)
    go_big_quiet_want
    refine quiet_call 125 #[.agg #[.string t]] (av 4 0 none 0 0 t) (fun W => by kernel_rfl) (fun W hW => (words_value t W).mono fun e w' h => ⟨h.1, hW.trans (h.2.mono hW.size)⟩) ?_
    simp only [Act.put, List.setIfInBounds_toArray, List.set_cons_succ, List.set_cons_zero]
    go_big_quiet_on
    go_big_quiet_want
    refine quiet_call 59 #[av 4 0 none 0 0 t] (.agg (wholeL 4 0 [] t).toArray) (fun W => by kernel_rfl) (fun W hW => (whole_in 4 0 none 0 [] t W (Codes.nil _ _)).mono fun e w' h => ⟨h.1, hW.trans (h.2.mono hW.size)⟩) ?_
    simp only [Act.put, List.setIfInBounds_toArray, List.set_cons_succ, List.set_cons_zero]
    go_big_quiet_on
    go_big_quiet_want
    refine quiet_load4 1 w.heap.size (.int .i64 k) (.int .i64 n) (.slice a zs.length cap) (.string t) rfl rfl (fun W hW => (H4.out.on hW)) ?_
    simp only [Act.put, List.setIfInBounds_toArray, List.set_cons_succ, List.set_cons_zero]
    go_big_quiet_on
    go_big_quiet_want
    refine quiet_call 59 #[av k n a zs.length cap t] (.agg (wholeL k n zs t).toArray) (fun W => by kernel_rfl) (fun W hW => (whole_in k n a cap zs t W (HC.out.on hW)).mono fun e w' h => ⟨h.1, hW.trans (h.2.mono hW.size)⟩) ?_
    simp only [Act.put, List.setIfInBounds_toArray, List.set_cons_succ, List.set_cons_zero]
    go_big_quiet_on
    go_big_quiet_want
    refine quiet_eq 15 17 4 0 [] t k n zs t rfl rfl rfl ?_
    simp only [Act.put, List.setIfInBounds_toArray, List.set_cons_succ, List.set_cons_zero]
    go_big_quiet_on
    go_big_quiet_want
    go_big_quiet_op
    first | go_big_quiet_on | (refine ⟨_, fun _ _ => rfl, ?_⟩; go_big_quiet_on)
    go_big_quiet_want
    go_big_quiet_op
    first | go_big_quiet_on | (refine ⟨_, fun _ _ => rfl, ?_⟩; go_big_quiet_on)
    refine wpQuiet_nil ?_
    intro w2 hB2
    go_wp2
    go_ret
    exact ⟨ret_bool (by rw [← hr.out, HK.out, right_text, hrb.out, same_text]; rfl), HB.out.trans (hB2.mono HB.out.size)⟩
  | false =>
    refine wp_region_quiet (C := fun W => Below W1.heap.size W1 W) (by kernel_rfl) (by kernel_rfl) (Below.refl _ _).drew ?_
    show wpQuiet _ _ _ _ [_, _, _, _, _, _, _, _, _, _, _, _, _, _, _] _
    go_big_quiet_want
    go_big_quiet_op
    first | go_big_quiet_on | (refine ⟨_, fun _ _ => rfl, ?_⟩; go_big_quiet_on)
    go_big_quiet_want
    go_big_quiet_op
    first | go_big_quiet_on | (refine ⟨_, fun _ _ => rfl, ?_⟩; go_big_quiet_on)
    go_big_quiet_want
    go_big_quiet_op
    first | go_big_quiet_on | (refine ⟨_, fun _ _ => rfl, ?_⟩; go_big_quiet_on)
    go_big_quiet_want
    go_big_quiet_op
    first | go_big_quiet_on | (refine ⟨_, fun _ _ => rfl, ?_⟩; go_big_quiet_on)
    go_big_quiet_want
    refine quiet_call 124 #[.agg #[.string t]] (.bool false) (fun W => by kernel_rfl) (fun W hW => (words_right t W HT.out).mono fun e w' h => ⟨by rw [h.1, hrb.out], hW.trans (h.2.mono hW.size)⟩) ?_
    simp only [Act.put, List.setIfInBounds_toArray, List.set_cons_succ, List.set_cons_zero]
    go_big_quiet_on
    go_big_quiet_want
    go_big_quiet_op
    first | go_big_quiet_on | (refine ⟨_, fun _ _ => rfl, ?_⟩; go_big_quiet_on)
    go_big_quiet_want
    go_big_quiet_op
    first | go_big_quiet_on | (refine ⟨_, fun _ _ => rfl, ?_⟩; go_big_quiet_on)
    go_big_quiet_skip
    go_big_quiet_skip
    go_big_quiet_skip
    go_big_quiet_skip
    go_big_quiet_skip
    go_big_quiet_skip
    go_big_quiet_want
    go_big_quiet_op
    first | go_big_quiet_on | (refine ⟨_, fun _ _ => rfl, ?_⟩; go_big_quiet_on)
    go_big_quiet_want
    go_big_quiet_op
    first | go_big_quiet_on | (refine ⟨_, fun _ _ => rfl, ?_⟩; go_big_quiet_on)
    refine wpQuiet_nil ?_
    intro w2 hB2
    go_wp2
    go_ret
    exact ⟨ret_bool (by rw [← hr.out, HK.out, right_text, hrb.out]; rfl), HB.out.trans (hB2.mono HB.out.size)⟩


theorem ir_else (k n : Int) (a : Option Addr) (cap : Nat) (zs : List Int) (t : ByteArray) (w : World) (hk : ¬ (0 ≤ k ∧ k ≤ 6)) :
    Calls Tryz.prog 49 #[av k n a zs.length cap t] w fun e w' => e = .returned (.bool (right k n zs t)) ∧ Below w.heap.size w w' := by
  rw [right_other n zs t hk]
  have HK : Hid (¬ (0 ≤ k ∧ k ≤ 6)) := hk
  clear hk
  go_enter Tryz.func49, Tryz.ntmps49
  go_wp2_with fail
  refine (content_else k n a zs.length cap t _ HK.out).mono ?_
  rintro e W1 ⟨rfl, hB1⟩
  have HB : Hid (Below w.heap.size w W1) := (below_one w _).trans (hB1.mono (by simp))
  clear hB1
  go_wp2
  go_quiet (fail)
  go_wp2
  go_ret
  exact ⟨rfl, below_drewN HB.out _⟩

theorem impl_right (k n : Int) (a : Option Addr) (cap : Nat) (zs : List Int) (t : ByteArray) (w : World) (hc : Codes w a zs) (ht : t.size ≤ maxLen) :
    Calls Tryz.prog 49 #[av k n a zs.length cap t] w fun e w' => e = .returned (.bool (right k n zs t)) ∧ Below w.heap.size w w' := by
  by_cases h : 0 ≤ k ∧ k ≤ 6
  · rcases (by omega : (k = 0 ∨ k = 5 ∨ k = 6) ∨ k = 1 ∨ k = 2 ∨ k = 3 ∨ k = 4) with h | h | h | h | h
    · exact ir_none k n a cap zs t w hc ht h
    · exact ir_int k n a cap zs t w hc ht h
    · exact ir_code k n a cap zs t w hc ht h
    · exact ir_set k n a cap zs t w hc ht h
    · exact ir_text k n a cap zs t w hc ht h
  · exact ir_else k n a cap zs t w h
end Go.Proofs.YtjnnkilmlngjgaaGreatDoor.ValI
/- Answered: what the model and the program say. -/
namespace Go.Proofs.YtjnnkilmlngjgaaGreatDoor.ValK
open Go.RowKit
open ValM ValW ValS ValI

def answeredB (k n : Int) (zs : List Int) (t : ByteArray) : Bool := right k n zs t && decide (k ≠ 0)
theorem spec_answered (k n : Int) (a : Option Addr) (cap : Nat) (zs : List Int) (t : ByteArray) (w : World) (hc : Codes w a zs) (ht : t.size ≤ maxLen) :
    Calls Tryz.prog 21 #[av k n a zs.length cap t] w fun e w' => e = .returned (.bool (answeredB k n zs t)) ∧ Below w.heap.size w w' := by
  have HC : Hid (Codes w a zs) := hc
  have HT : Hid (t.size ≤ maxLen) := ht
  unfold answeredB
  obtain ⟨r, hr⟩ : ∃ r, Hid (right k n zs t = r) := ⟨_, rfl⟩
  rw [hr.out]
  clear hc ht
  go_enter Tryz.func21, Tryz.ntmps21
  go_wp2_with fail
  refine (spec_right k n a cap zs t _ (HC.out.alloc _) HT.out).mono ?_
  rintro e w1 ⟨rfl, hB1⟩
  rw [hr.out]
  have HB : Hid (Below w.heap.size w w1) := (below_one w _).trans (hB1.mono (by simp))
  obtain ⟨c0, c1, c2, c3, hsz⟩ := (At4.laid w 33 (.int .i64 k) (.int .i64 n) (.slice a zs.length cap) (.string t)).on hB1
  clear hB1 HC
  cases r
  all_goals
    go_wp2
    go_ret
    exact ⟨ret_bool (by first | (simp; done) | (rw [Bool.eq_iff_iff]; simp)), HB.out⟩
theorem impl_answered (k n : Int) (a : Option Addr) (cap : Nat) (zs : List Int) (t : ByteArray) (w : World) (hc : Codes w a zs) (ht : t.size ≤ maxLen) :
    Calls Tryz.prog 37 #[av k n a zs.length cap t] w fun e w' => e = .returned (.bool (answeredB k n zs t)) ∧ Below w.heap.size w w' := by
  have HC : Hid (Codes w a zs) := hc
  have HT : Hid (t.size ≤ maxLen) := ht
  unfold answeredB
  obtain ⟨r, hr⟩ : ∃ r, Hid (right k n zs t = r) := ⟨_, rfl⟩
  rw [hr.out]
  clear hc ht
  by_cases hk : k = 0
  · go_enter Tryz.func37, Tryz.ntmps37
    go_wp2
    go_ret
    exact ⟨ret_bool (by simp [hk]), by go_grown⟩
  go_enter Tryz.func37, Tryz.ntmps37
  go_wp2_with fail
  refine (impl_right k n a cap zs t _ (HC.out.alloc _) HT.out).mono ?_
  rintro e w1 ⟨rfl, hB1⟩
  rw [hr.out]
  have HB : Hid (Below w.heap.size w w1) := (below_one w _).trans (hB1.mono (by simp))
  clear hB1 HC
  go_wp2
  go_ret
  exact ⟨ret_bool (by simp [hk]), HB.out⟩
end Go.Proofs.YtjnnkilmlngjgaaGreatDoor.ValK
