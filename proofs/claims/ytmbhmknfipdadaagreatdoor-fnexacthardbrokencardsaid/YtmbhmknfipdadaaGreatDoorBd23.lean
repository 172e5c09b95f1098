/- Texts of ours, laid together. -/
import Derived.Test.YtmbhmknfipdadaaGreatDoorBd11
import Derived.Test.YtmbhmknfipdadaaGreatDoorBd17
namespace Go.Proofs.YtmbhmknfipdadaaGreatDoor.ValI
open Go.RowKit
open ValM ValW ValS ValH BigFrame
theorem quiet_call {a : Act} {o : Oper} {C : World → Prop} {K : Act → Prop} (f : FuncId) (vs : Array Value) (v : Value) (he : ∀ W, (execOp a.eval o).run Tryz.prog W = .ok (.enter f vs) W)
  (hc : ∀ W, C W → Calls Tryz.prog f vs W fun e w' => e = .returned v ∧ C w') (hk : K (a.put o.dst v)) : o.quiet Tryz.prog a C K :=
 ⟨v, fun W hW => by unfold Oper.quietAt; rw [he W]; exact ⟨rfl, hc W hW⟩, hk⟩
theorem quiet_load4 {a : Act} {o : Oper} {C : World → Prop} {K : Act → Prop} (t b : Nat) (v0 v1 v2 v3 : Value) (h : o.op = .load 59 (.tmp t)) (ht : a.eval (.tmp t) = .pointer (some ⟨b, 0, none⟩))
  (hC : ∀ W, C W → At4 W b v0 v1 v2 v3) (hk : K (a.put o.dst (.agg #[v0, v1, v2, v3]))) : o.quiet Tryz.prog a C K := by
 refine ⟨_, fun W hW => ?_, hk⟩
 obtain ⟨h0, h1, h2, h3, _⟩ := hC W hW
 obtain ⟨dst, op, ty, pos, after, guard⟩ := o
 subst h
 have ht2 : a.tmps[t]?.getD undef = .pointer (some ⟨b, 0, none⟩) := by simpa [Act.eval] using ht
 simp [Oper.quietAt, go_sem, ht2, h0, h1, h2, h3]
theorem quiet_eq {a : Act} {o : Oper} {C : World → Prop} {K : Act → Prop} (x y : Nat) (k n : Int) (zs : List Int) (t : ByteArray) (k' n' : Int) (zs' : List Int) (t' : ByteArray)
  (h : o.op = .binOp .eql 138 (.tmp x) (.tmp y) 138) (hx : a.eval (.tmp x) = .agg (wholeL k n zs t).toArray) (hy : a.eval (.tmp y) = .agg (wholeL k' n' zs' t').toArray)
  (hk : K (a.put o.dst (.bool (sameW k n zs t k' n' zs' t')))) : o.quiet Tryz.prog a C K := by
 refine ⟨_, fun W hW => ?_, hk⟩
 obtain ⟨dst, op, ty, pos, after, guard⟩ := o
 subst h
 have hx2 : a.tmps[x]?.getD undef = .agg (wholeL k n zs t).toArray := by simpa [Act.eval] using hx
 have hy2 : a.tmps[y]?.getD undef = .agg (wholeL k' n' zs' t').toArray := by simpa [Act.eval] using hy
 have he := whole_eq W k n zs t k' n' zs' t'
 have hm : Tryz.prog.eqGuardType Tryz.prog.depth 138 = false := by kernel_rfl
 simp [Oper.quietAt, execOp, Act.eval, hx2, hy2, he, run_eqGuard_agg, hm, Result.andThen, Oper.quietUpon]
theorem same20_self (zs : List Int) (is : List Nat) : same20 zs zs is = true := by unfold same20; simp
theorem toList_empty (t : ByteArray) : (ByteArray.empty.toList == t.toList) = decide (t.size = 0) := by
 rw [← empty_list t, ByteArray.toList_eq, ByteArray.toList_eq]
 cases t.data.toList <;> rfl
theorem same20_nil {zs : List Int} (h : zs.length = 0) (is : List Nat) : same20 [] zs is = true := by
 have : zs = [] := List.eq_nil_of_length_eq_zero h
 subst this; exact same20_self _ _
theorem len_beq (zs : List Int) : (((([] : List Int).length : Int)) == (zs.length : Int)) = decide (zs.length = 0) := by
 rw [Bool.eq_iff_iff, beq_iff_eq, decide_eq_true_iff]; simp only [List.length_nil]; omega
theorem zero_beq (n : Int) : ((0 : Int) == n) = decide (n = 0) := by rw [Bool.eq_iff_iff]; simp; omega
theorem same_none (k n : Int) (zs : List Int) (t : ByteArray) : sameW k 0 [] ByteArray.empty k n zs t = (decide (n = 0) && decide (zs.length = 0) && decide (t.size = 0)) := by
 unfold sameW; rw [toList_empty, len_beq, zero_beq]
 by_cases h : zs.length = 0
 ·rw [same20_nil h]; simp [Bool.and_assoc]
 ·simp [h]
theorem same_num (k n : Int) (zs : List Int) (t : ByteArray) : sameW k n [] ByteArray.empty k n zs t = (decide (zs.length = 0) && decide (t.size = 0)) := by
 unfold sameW; rw [toList_empty, len_beq]
 by_cases h : zs.length = 0
 ·rw [same20_nil h]; simp
 ·simp [h]
theorem same_set (k n : Int) (zs : List Int) (t : ByteArray) : sameW k 0 zs ByteArray.empty k n zs t = (decide (n = 0) && decide (t.size = 0)) := by
 unfold sameW; rw [toList_empty, zero_beq, same20_self]; simp
theorem same_text (k n : Int) (zs : List Int) (t : ByteArray) : sameW k 0 [] t k n zs t = (decide (n = 0) && decide (zs.length = 0)) := by
 unfold sameW; rw [len_beq, zero_beq]
 by_cases h : zs.length = 0
 ·rw [same20_nil h]; simp
 ·simp [h]
set_option maxRecDepth 10000 in
set_option maxHeartbeats 4000000 in
theorem ir_none (k n : Int) (a : Option Addr) (cap : Nat) (zs : List Int) (t : ByteArray) (w : World) (hc : Codes w a zs) (ht : t.size ≤ maxLen) (hk : k = 0 ∨ k = 5 ∨ k = 6) :
  Calls Tryz.prog 75 #[av k n a zs.length cap t] w fun e w' => e = .returned (.bool (right k n zs t)) ∧ Below w.heap.size w w' := by
 have HK : Hid (k = 0 ∨ k = 5 ∨ k = 6) := hk
 have HT : Hid (t.size ≤ maxLen) := ht
 obtain ⟨r, hr⟩ : ∃ r, Hid (right k n zs t = r) := ⟨_, rfl⟩
 rw [hr.out]
 obtain ⟨rb, hrb⟩ : ∃ rb, Hid (true = rb) := ⟨_, rfl⟩
 have HC0 : Hid (Codes w a zs) := hc
 clear hc ht hk
 go_enter Tryz.func75, Tryz.ntmps75
 go_wp2_with fail
 refine (content_none k n a zs.length cap t _ HK.out).mono ?_
 rintro e W1 ⟨rfl, hB1⟩
 have HB : Hid (Below w.heap.size w W1) := (below_one w _).trans (hB1.mono (by simp))
 have HC : Hid (Codes W1 a zs) := HC0.out.on HB.out
 have H4 : Hid (At4 W1 w.heap.size (.int .i64 k) (.int .i64 n) (.slice a zs.length cap) (.string t)) := (At4.laid w _ _ _ _ _).on hB1
 clear hB1 HC0
 go_wp2
 cases rb with
 | true =>
  refine wp_region_quiet (C := fun W => Below W1.heap.size W1 W) (by kernel_rfl) (by kernel_rfl) (Below.refl _ _).drew ?_
  show wpQuiet _ _ _ _ [_, _, _, _, _, _, _, _, _, _, _, _, _, _, _] _
  go_big_quiet_want
  go_big_quiet_op
  first | go_big_quiet_on | (refine ⟨_, fun _ _ => rfl, ?_⟩; go_big_quiet_on)
  go_big_quiet_want
  go_big_quiet_op
  first | go_big_quiet_on | (refine ⟨_, fun _ _ => rfl, ?_⟩; go_big_quiet_on)
  go_big_quiet_want
  go_big_quiet_op
  first | go_big_quiet_on | (refine ⟨_, fun _ _ => rfl, ?_⟩; go_big_quiet_on)
  go_big_quiet_want
  go_big_quiet_op
  first | go_big_quiet_on | (refine ⟨_, fun _ _ => rfl, ?_⟩; go_big_quiet_on)
  go_big_quiet_want
  refine quiet_call 249 #[.agg #[.int .i64 k]] (.bool true) (fun W => by kernel_rfl) (fun W hW => (silence_right k W).mono fun e w' h => ⟨by rw [h.1, hrb.out], hW.trans (h.2.mono hW.size)⟩) ?_
  simp only [Act.put, List.setIfInBounds_toArray, List.set_cons_succ, List.set_cons_zero]
  go_big_quiet_on
  go_big_quiet_want
  go_big_quiet_op
  first | go_big_quiet_on | (refine ⟨_, fun _ _ => rfl, ?_⟩; go_big_quiet_on)
  go_big_quiet_want
  go_big_quiet_op
  first | go_big_quiet_on | (refine ⟨_, fun _ _ => rfl, ?_⟩; go_big_quiet_on)
  go_big_quiet_want
  go_big_quiet_op
  first | go_big_quiet_on | (refine ⟨_, fun _ _ => rfl, ?_⟩; go_big_quiet_on)
  go_big_quiet_want
  refine quiet_call 250 #[.agg #[.int .i64 k]] (av k 0 none 0 0 ByteArray.empty) (fun W => by kernel_rfl) (fun W hW => (silence_value k W).mono fun e w' h => ⟨h.1, hW.trans (h.2.mono hW.size)⟩) ?_
  simp only [Act.put, List.setIfInBounds_toArray, List.set_cons_succ, List.set_cons_zero]
  go_big_quiet_on
  go_big_quiet_want
  refine quiet_call 105 #[av k 0 none 0 0 ByteArray.empty] (.agg (wholeL k 0 [] ByteArray.empty).toArray) (fun W => by kernel_rfl) (fun W hW => (whole_in k 0 none 0 [] ByteArray.empty W (Codes.nil _ _)).mono fun e w' h => ⟨h.1, hW.trans (h.2.mono hW.size)⟩) ?_
  simp only [Act.put, List.setIfInBounds_toArray, List.set_cons_succ, List.set_cons_zero]
  go_big_quiet_on
  go_big_quiet_want
  refine quiet_load4 1 w.heap.size (.int .i64 k) (.int .i64 n) (.slice a zs.length cap) (.string t) rfl rfl (fun W hW => (H4.out.on hW)) ?_
  simp only [Act.put, List.setIfInBounds_toArray, List.set_cons_succ, List.set_cons_zero]
  go_big_quiet_on
  go_big_quiet_want
  refine quiet_call 105 #[av k n a zs.length cap t] (.agg (wholeL k n zs t).toArray) (fun W => by kernel_rfl) (fun W hW => (whole_in k n a cap zs t W (HC.out.on hW)).mono fun e w' h => ⟨h.1, hW.trans (h.2.mono hW.size)⟩) ?_
  simp only [Act.put, List.setIfInBounds_toArray, List.set_cons_succ, List.set_cons_zero]
  go_big_quiet_on
  go_big_quiet_want
  refine quiet_eq 15 17 k 0 [] ByteArray.empty k n zs t rfl rfl rfl ?_
  simp only [Act.put, List.setIfInBounds_toArray, List.set_cons_succ, List.set_cons_zero]
  go_big_quiet_on
  go_big_quiet_want
  go_big_quiet_op
  first | go_big_quiet_on | (refine ⟨_, fun _ _ => rfl, ?_⟩; go_big_quiet_on)
  go_big_quiet_want
  go_big_quiet_op
  first | go_big_quiet_on | (refine ⟨_, fun _ _ => rfl, ?_⟩; go_big_quiet_on)
  refine wpQuiet_nil ?_
  intro w2 hB2
  go_wp2
  go_ret
  exact ⟨ret_bool (by rw [← hr.out, same_none k n zs t, right_none n zs t HK.out]), HB.out.trans (hB2.mono HB.out.size)⟩
 | false => exact absurd hrb.out (by simp)
set_option maxRecDepth 10000 in
set_option maxHeartbeats 4000000 in
theorem ir_int (k n : Int) (a : Option Addr) (cap : Nat) (zs : List Int) (t : ByteArray) (w : World) (hc : Codes w a zs) (ht : t.size ≤ maxLen) (hk : k = 1) :
  Calls Tryz.prog 75 #[av k n a zs.length cap t] w fun e w' => e = .returned (.bool (right k n zs t)) ∧ Below w.heap.size w w' := by
 have HK : Hid (k = 1) := hk
 have HT : Hid (t.size ≤ maxLen) := ht
 obtain ⟨r, hr⟩ : ∃ r, Hid (right k n zs t = r) := ⟨_, rfl⟩
 rw [hr.out]
 obtain ⟨rb, hrb⟩ : ∃ rb, Hid (decide (-1000000000 ≤ n ∧ n ≤ 1000000000) = rb) := ⟨_, rfl⟩
 have HC0 : Hid (Codes w a zs) := hc
 clear hc ht hk
 go_enter Tryz.func75, Tryz.ntmps75
 go_wp2_with fail
 refine (content_int k n a zs.length cap t _ HK.out).mono ?_
 rintro e W1 ⟨rfl, hB1⟩
 have HB : Hid (Below w.heap.size w W1) := (below_one w _).trans (hB1.mono (by simp))
 have HC : Hid (Codes W1 a zs) := HC0.out.on HB.out
 have H4 : Hid (At4 W1 w.heap.size (.int .i64 k) (.int .i64 n) (.slice a zs.length cap) (.string t)) := (At4.laid w _ _ _ _ _).on hB1
 clear hB1 HC0
 go_wp2
 cases rb with
 | true =>
  refine wp_region_quiet (C := fun W => Below W1.heap.size W1 W) (by kernel_rfl) (by kernel_rfl) (Below.refl _ _).drew ?_
  show wpQuiet _ _ _ _ [_, _, _, _, _, _, _, _, _, _, _, _, _, _, _] _
  go_big_quiet_want
  go_big_quiet_op
  first | go_big_quiet_on | (refine ⟨_, fun _ _ => rfl, ?_⟩; go_big_quiet_on)
  go_big_quiet_want
  go_big_quiet_op
  first | go_big_quiet_on | (refine ⟨_, fun _ _ => rfl, ?_⟩; go_big_quiet_on)
  go_big_quiet_want
  go_big_quiet_op
  first | go_big_quiet_on | (refine ⟨_, fun _ _ => rfl, ?_⟩; go_big_quiet_on)
  go_big_quiet_want
  go_big_quiet_op
  first | go_big_quiet_on | (refine ⟨_, fun _ _ => rfl, ?_⟩; go_big_quiet_on)
  go_big_quiet_want
  refine quiet_call 251 #[.agg #[.int .i64 n]] (.bool true) (fun W => by kernel_rfl) (fun W hW => (integer_right n W).mono fun e w' h => ⟨by rw [h.1, hrb.out], hW.trans (h.2.mono hW.size)⟩) ?_
  simp only [Act.put, List.setIfInBounds_toArray, List.set_cons_succ, List.set_cons_zero]
  go_big_quiet_on
  go_big_quiet_want
  go_big_quiet_op
  first | go_big_quiet_on | (refine ⟨_, fun _ _ => rfl, ?_⟩; go_big_quiet_on)
  go_big_quiet_want
  go_big_quiet_op
  first | go_big_quiet_on | (refine ⟨_, fun _ _ => rfl, ?_⟩; go_big_quiet_on)
  go_big_quiet_want
  go_big_quiet_op
  first | go_big_quiet_on | (refine ⟨_, fun _ _ => rfl, ?_⟩; go_big_quiet_on)
  go_big_quiet_want
  refine quiet_call 252 #[.agg #[.int .i64 n]] (av 1 n none 0 0 ByteArray.empty) (fun W => by kernel_rfl) (fun W hW => (integer_value n W).mono fun e w' h => ⟨h.1, hW.trans (h.2.mono hW.size)⟩) ?_
  simp only [Act.put, List.setIfInBounds_toArray, List.set_cons_succ, List.set_cons_zero]
  go_big_quiet_on
  go_big_quiet_want
  refine quiet_call 105 #[av 1 n none 0 0 ByteArray.empty] (.agg (wholeL 1 n [] ByteArray.empty).toArray) (fun W => by kernel_rfl) (fun W hW => (whole_in 1 n none 0 [] ByteArray.empty W (Codes.nil _ _)).mono fun e w' h => ⟨h.1, hW.trans (h.2.mono hW.size)⟩) ?_
  simp only [Act.put, List.setIfInBounds_toArray, List.set_cons_succ, List.set_cons_zero]
  go_big_quiet_on
  go_big_quiet_want
  refine quiet_load4 1 w.heap.size (.int .i64 k) (.int .i64 n) (.slice a zs.length cap) (.string t) rfl rfl (fun W hW => (H4.out.on hW)) ?_
  simp only [Act.put, List.setIfInBounds_toArray, List.set_cons_succ, List.set_cons_zero]
  go_big_quiet_on
  go_big_quiet_want
  refine quiet_call 105 #[av k n a zs.length cap t] (.agg (wholeL k n zs t).toArray) (fun W => by kernel_rfl) (fun W hW => (whole_in k n a cap zs t W (HC.out.on hW)).mono fun e w' h => ⟨h.1, hW.trans (h.2.mono hW.size)⟩) ?_
  simp only [Act.put, List.setIfInBounds_toArray, List.set_cons_succ, List.set_cons_zero]
  go_big_quiet_on
  go_big_quiet_want
  refine quiet_eq 15 17 1 n [] ByteArray.empty k n zs t rfl rfl rfl ?_
  simp only [Act.put, List.setIfInBounds_toArray, List.set_cons_succ, List.set_cons_zero]
  go_big_quiet_on
  go_big_quiet_want
  go_big_quiet_op
  first | go_big_quiet_on | (refine ⟨_, fun _ _ => rfl, ?_⟩; go_big_quiet_on)
  go_big_quiet_want
  go_big_quiet_op
  first | go_big_quiet_on | (refine ⟨_, fun _ _ => rfl, ?_⟩; go_big_quiet_on)
  refine wpQuiet_nil ?_
  intro w2 hB2
  go_wp2
  go_ret
  exact ⟨ret_bool (by rw [← hr.out, HK.out, right_int, hrb.out, same_num]; rfl), HB.out.trans (hB2.mono HB.out.size)⟩
 | false =>
  refine wp_region_quiet (C := fun W => Below W1.heap.size W1 W) (by kernel_rfl) (by kernel_rfl) (Below.refl _ _).drew ?_
  show wpQuiet _ _ _ _ [_, _, _, _, _, _, _, _, _, _, _, _, _, _, _] _
  go_big_quiet_want
  go_big_quiet_op
  first | go_big_quiet_on | (refine ⟨_, fun _ _ => rfl, ?_⟩; go_big_quiet_on)
  go_big_quiet_want
  go_big_quiet_op
  first | go_big_quiet_on | (refine ⟨_, fun _ _ => rfl, ?_⟩; go_big_quiet_on)
  go_big_quiet_want
  go_big_quiet_op
  first | go_big_quiet_on | (refine ⟨_, fun _ _ => rfl, ?_⟩; go_big_quiet_on)
  go_big_quiet_want
  go_big_quiet_op
  first | go_big_quiet_on | (refine ⟨_, fun _ _ => rfl, ?_⟩; go_big_quiet_on)
  go_big_quiet_want
  refine quiet_call 251 #[.agg #[.int .i64 n]] (.bool false) (fun W => by kernel_rfl) (fun W hW => (integer_right n W).mono fun e w' h => ⟨by rw [h.1, hrb.out], hW.trans (h.2.mono hW.size)⟩) ?_
  simp only [Act.put, List.setIfInBounds_toArray, List.set_cons_succ, List.set_cons_zero]
  go_big_quiet_on
  go_big_quiet_want
  go_big_quiet_op
  first | go_big_quiet_on | (refine ⟨_, fun _ _ => rfl, ?_⟩; go_big_quiet_on)
  go_big_quiet_want
  go_big_quiet_op
  first | go_big_quiet_on | (refine ⟨_, fun _ _ => rfl, ?_⟩; go_big_quiet_on)
  go_big_quiet_skip
  go_big_quiet_skip
  go_big_quiet_skip
  go_big_quiet_skip
  go_big_quiet_skip
  go_big_quiet_skip
  go_big_quiet_want
  go_big_quiet_op
  first | go_big_quiet_on | (refine ⟨_, fun _ _ => rfl, ?_⟩; go_big_quiet_on)
  go_big_quiet_want
  go_big_quiet_op
  first | go_big_quiet_on | (refine ⟨_, fun _ _ => rfl, ?_⟩; go_big_quiet_on)
  refine wpQuiet_nil ?_
  intro w2 hB2
  go_wp2
  go_ret
  exact ⟨ret_bool (by rw [← hr.out, HK.out, right_int, hrb.out]; rfl), HB.out.trans (hB2.mono HB.out.size)⟩
set_option maxRecDepth 10000 in
set_option maxHeartbeats 4000000 in
theorem ir_code (k n : Int) (a : Option Addr) (cap : Nat) (zs : List Int) (t : ByteArray) (w : World) (hc : Codes w a zs) (ht : t.size ≤ maxLen) (hk : k = 2) :
  Calls Tryz.prog 75 #[av k n a zs.length cap t] w fun e w' => e = .returned (.bool (right k n zs t)) ∧ Below w.heap.size w w' := by
 have HK : Hid (k = 2) := hk
 have HT : Hid (t.size ≤ maxLen) := ht
 obtain ⟨r, hr⟩ : ∃ r, Hid (right k n zs t = r) := ⟨_, rfl⟩
 rw [hr.out]
 obtain ⟨rb, hrb⟩ : ∃ rb, Hid (decide (1 ≤ n ∧ n ≤ 20) = rb) := ⟨_, rfl⟩
 have HC0 : Hid (Codes w a zs) := hc
 clear hc ht hk
 go_enter Tryz.func75, Tryz.ntmps75
 go_wp2_with fail
 refine (content_code k n a zs.length cap t _ HK.out).mono ?_
 rintro e W1 ⟨rfl, hB1⟩
 have HB : Hid (Below w.heap.size w W1) := (below_one w _).trans (hB1.mono (by simp))
 have HC : Hid (Codes W1 a zs) := HC0.out.on HB.out
 have H4 : Hid (At4 W1 w.heap.size (.int .i64 k) (.int .i64 n) (.slice a zs.length cap) (.string t)) := (At4.laid w _ _ _ _ _).on hB1
 clear hB1 HC0
 go_wp2
 cases rb with
 | true =>
  refine wp_region_quiet (C := fun W => Below W1.heap.size W1 W) (by kernel_rfl) (by kernel_rfl) (Below.refl _ _).drew ?_
  show wpQuiet _ _ _ _ [_, _, _, _, _, _, _, _, _, _, _, _, _, _, _] _
  go_big_quiet_want
  go_big_quiet_op
  first | go_big_quiet_on | (refine ⟨_, fun _ _ => rfl, ?_⟩; go_big_quiet_on)
  go_big_quiet_want
  go_big_quiet_op
  first | go_big_quiet_on | (refine ⟨_, fun _ _ => rfl, ?_⟩; go_big_quiet_on)
  go_big_quiet_want
  go_big_quiet_op
  first | go_big_quiet_on | (refine ⟨_, fun _ _ => rfl, ?_⟩; go_big_quiet_on)
  go_big_quiet_want
  go_big_quiet_op
  first | go_big_quiet_on | (refine ⟨_, fun _ _ => rfl, ?_⟩; go_big_quiet_on)
  go_big_quiet_want
  refine quiet_call 253 #[.agg #[.int .i64 n]] (.bool true) (fun W => by kernel_rfl) (fun W hW => (choice_right n W).mono fun e w' h => ⟨by rw [h.1, hrb.out], hW.trans (h.2.mono hW.size)⟩) ?_
  simp only [Act.put, List.setIfInBounds_toArray, List.set_cons_succ, List.set_cons_zero]
  go_big_quiet_on
  go_big_quiet_want
  go_big_quiet_op
  first | go_big_quiet_on | (refine ⟨_, fun _ _ => rfl, ?_⟩; go_big_quiet_on)
  go_big_quiet_want
  go_big_quiet_op
  first | go_big_quiet_on | (refine ⟨_, fun _ _ => rfl, ?_⟩; go_big_quiet_on)
  go_big_quiet_want
  go_big_quiet_op
  first | go_big_quiet_on | (refine ⟨_, fun _ _ => rfl, ?_⟩; go_big_quiet_on)
  go_big_quiet_want
  refine quiet_call 254 #[.agg #[.int .i64 n]] (av 2 n none 0 0 ByteArray.empty) (fun W => by kernel_rfl) (fun W hW => (choice_value n W).mono fun e w' h => ⟨h.1, hW.trans (h.2.mono hW.size)⟩) ?_
  simp only [Act.put, List.setIfInBounds_toArray, List.set_cons_succ, List.set_cons_zero]
  go_big_quiet_on
  go_big_quiet_want
  refine quiet_call 105 #[av 2 n none 0 0 ByteArray.empty] (.agg (wholeL 2 n [] ByteArray.empty).toArray) (fun W => by kernel_rfl) (fun W hW => (whole_in 2 n none 0 [] ByteArray.empty W (Codes.nil _ _)).mono fun e w' h => ⟨h.1, hW.trans (h.2.mono hW.size)⟩) ?_
  simp only [Act.put, List.setIfInBounds_toArray, List.set_cons_succ, List.set_cons_zero]
  go_big_quiet_on
  go_big_quiet_want
  refine quiet_load4 1 w.heap.size (.int .i64 k) (.int .i64 n) (.slice a zs.length cap) (.string t) rfl rfl (fun W hW => (H4.out.on hW)) ?_
  simp only [Act.put, List.setIfInBounds_toArray, List.set_cons_succ, List.set_cons_zero]
  go_big_quiet_on
  go_big_quiet_want
  refine quiet_call 105 #[av k n a zs.length cap t] (.agg (wholeL k n zs t).toArray) (fun W => by kernel_rfl) (fun W hW => (whole_in k n a cap zs t W (HC.out.on hW)).mono fun e w' h => ⟨h.1, hW.trans (h.2.mono hW.size)⟩) ?_
  simp only [Act.put, List.setIfInBounds_toArray, List.set_cons_succ, List.set_cons_zero]
  go_big_quiet_on
  go_big_quiet_want
  refine quiet_eq 15 17 2 n [] ByteArray.empty k n zs t rfl rfl rfl ?_
  simp only [Act.put, List.setIfInBounds_toArray, List.set_cons_succ, List.set_cons_zero]
  go_big_quiet_on
  go_big_quiet_want
  go_big_quiet_op
  first | go_big_quiet_on | (refine ⟨_, fun _ _ => rfl, ?_⟩; go_big_quiet_on)
  go_big_quiet_want
  go_big_quiet_op
  first | go_big_quiet_on | (refine ⟨_, fun _ _ => rfl, ?_⟩; go_big_quiet_on)
  refine wpQuiet_nil ?_
  intro w2 hB2
  go_wp2
  go_ret
  exact ⟨ret_bool (by rw [← hr.out, HK.out, right_code, hrb.out, same_num]; rfl), HB.out.trans (hB2.mono HB.out.size)⟩
 | false =>
  refine wp_region_quiet (C := fun W => Below W1.heap.size W1 W) (by kernel_rfl) (by kernel_rfl) (Below.refl _ _).drew ?_
  show wpQuiet _ _ _ _ [_, _, _, _, _, _, _, _, _, _, _, _, _, _, _] _
  go_big_quiet_want
  go_big_quiet_op
  first | go_big_quiet_on | (refine ⟨_, fun _ _ => rfl, ?_⟩; go_big_quiet_on)
  go_big_quiet_want
  go_big_quiet_op
  first | go_big_quiet_on | (refine ⟨_, fun _ _ => rfl, ?_⟩; go_big_quiet_on)
  go_big_quiet_want
  go_big_quiet_op
  first | go_big_quiet_on | (refine ⟨_, fun _ _ => rfl, ?_⟩; go_big_quiet_on)
  go_big_quiet_want
  go_big_quiet_op
  first | go_big_quiet_on | (refine ⟨_, fun _ _ => rfl, ?_⟩; go_big_quiet_on)
  go_big_quiet_want
  refine quiet_call 253 #[.agg #[.int .i64 n]] (.bool false) (fun W => by kernel_rfl) (fun W hW => (choice_right n W).mono fun e w' h => ⟨by rw [h.1, hrb.out], hW.trans (h.2.mono hW.size)⟩) ?_
  simp only [Act.put, List.setIfInBounds_toArray, List.set_cons_succ, List.set_cons_zero]
  go_big_quiet_on
  go_big_quiet_want
  go_big_quiet_op
  first | go_big_quiet_on | (refine ⟨_, fun _ _ => rfl, ?_⟩; go_big_quiet_on)
  go_big_quiet_want
  go_big_quiet_op
  first | go_big_quiet_on | (refine ⟨_, fun _ _ => rfl, ?_⟩; go_big_quiet_on)
  go_big_quiet_skip
  go_big_quiet_skip
  go_big_quiet_skip
  go_big_quiet_skip
  go_big_quiet_skip
  go_big_quiet_skip
  go_big_quiet_want
  go_big_quiet_op
  first | go_big_quiet_on | (refine ⟨_, fun _ _ => rfl, ?_⟩; go_big_quiet_on)
  go_big_quiet_want
  go_big_quiet_op
  first | go_big_quiet_on | (refine ⟨_, fun _ _ => rfl, ?_⟩; go_big_quiet_on)
  refine wpQuiet_nil ?_
  intro w2 hB2
  go_wp2
  go_ret
  exact ⟨ret_bool (by rw [← hr.out, HK.out, right_code, hrb.out]; rfl), HB.out.trans (hB2.mono HB.out.size)⟩
set_option maxRecDepth 10000 in
set_option maxHeartbeats 4000000 in
theorem ir_set (k n : Int) (a : Option Addr) (cap : Nat) (zs : List Int) (t : ByteArray) (w : World) (hc : Codes w a zs) (ht : t.size ≤ maxLen) (hk : k = 3) :
  Calls Tryz.prog 75 #[av k n a zs.length cap t] w fun e w' => e = .returned (.bool (right k n zs t)) ∧ Below w.heap.size w w' := by
 have HK : Hid (k = 3) := hk
 have HT : Hid (t.size ≤ maxLen) := ht
 obtain ⟨r, hr⟩ : ∃ r, Hid (right k n zs t = r) := ⟨_, rfl⟩
 rw [hr.out]
 obtain ⟨rb, hrb⟩ : ∃ rb, Hid (risesB zs = rb) := ⟨_, rfl⟩
 have HC0 : Hid (Codes w a zs) := hc
 clear hc ht hk
 go_enter Tryz.func75, Tryz.ntmps75
 go_wp2_with fail
 refine (content_set k n a zs.length cap t _ HK.out).mono ?_
 rintro e W1 ⟨rfl, hB1⟩
 have HB : Hid (Below w.heap.size w W1) := (below_one w _).trans (hB1.mono (by simp))
 have HC : Hid (Codes W1 a zs) := HC0.out.on HB.out
 have H4 : Hid (At4 W1 w.heap.size (.int .i64 k) (.int .i64 n) (.slice a zs.length cap) (.string t)) := (At4.laid w _ _ _ _ _).on hB1
 clear hB1 HC0
 go_wp2
 cases rb with
 | true =>
  refine wp_region_quiet (C := fun W => Below W1.heap.size W1 W) (by kernel_rfl) (by kernel_rfl) (Below.refl _ _).drew ?_
  show wpQuiet _ _ _ _ [_, _, _, _, _, _, _, _, _, _, _, _, _, _, _] _
  go_big_quiet_want
  go_big_quiet_op
  first | go_big_quiet_on | (refine ⟨_, fun _ _ => rfl, ?_⟩; go_big_quiet_on)
  go_big_quiet_want
  go_big_quiet_op
  first | go_big_quiet_on | (refine ⟨_, fun _ _ => rfl, ?_⟩; go_big_quiet_on)
  go_big_quiet_want
  go_big_quiet_op
  first | go_big_quiet_on | (refine ⟨_, fun _ _ => rfl, ?_⟩; go_big_quiet_on)
  go_big_quiet_want
  go_big_quiet_op
  first | go_big_quiet_on | (refine ⟨_, fun _ _ => rfl, ?_⟩; go_big_quiet_on)
  go_big_quiet_want
  refine quiet_call 255 #[.agg #[.slice a zs.length cap]] (.bool true) (fun W => by kernel_rfl) (fun W hW => (choices_right a cap zs W (HC.out.on hW)).mono fun e w' h => ⟨by rw [h.1, hrb.out], hW.trans (h.2.mono hW.size)⟩) ?_
  simp only [Act.put, List.setIfInBounds_toArray, List.set_cons_succ, List.set_cons_zero]
  go_big_quiet_on
  go_big_quiet_want
  go_big_quiet_op
  first | go_big_quiet_on | (refine ⟨_, fun _ _ => rfl, ?_⟩; go_big_quiet_on)
  go_big_quiet_want
  go_big_quiet_op
  first | go_big_quiet_on | (refine ⟨_, fun _ _ => rfl, ?_⟩; go_big_quiet_on)
  go_big_quiet_want
  go_big_quiet_op
  first | go_big_quiet_on | (refine ⟨_, fun _ _ => rfl, ?_⟩; go_big_quiet_on)
  go_big_quiet_want
  refine quiet_call 256 #[.agg #[.slice a zs.length cap]] (av 3 0 a zs.length cap ByteArray.empty) (fun W => by kernel_rfl) (fun W hW => (choices_value a zs.length cap W).mono fun e w' h => ⟨h.1, hW.trans (h.2.mono hW.size)⟩) ?_
  simp only [Act.put, List.setIfInBounds_toArray, List.set_cons_succ, List.set_cons_zero]
  go_big_quiet_on
  go_big_quiet_want
  refine quiet_call 105 #[av 3 0 a zs.length cap ByteArray.empty] (.agg (wholeL 3 0 zs ByteArray.empty).toArray) (fun W => by kernel_rfl) (fun W hW => (whole_in 3 0 a cap zs ByteArray.empty W (HC.out.on hW)).mono fun e w' h => ⟨h.1, hW.trans (h.2.mono hW.size)⟩) ?_
  simp only [Act.put, List.setIfInBounds_toArray, List.set_cons_succ, List.set_cons_zero]
  go_big_quiet_on
  go_big_quiet_want
  refine quiet_load4 1 w.heap.size (.int .i64 k) (.int .i64 n) (.slice a zs.length cap) (.string t) rfl rfl (fun W hW => (H4.out.on hW)) ?_
  simp only [Act.put, List.setIfInBounds_toArray, List.set_cons_succ, List.set_cons_zero]
  go_big_quiet_on
  go_big_quiet_want
  refine quiet_call 105 #[av k n a zs.length cap t] (.agg (wholeL k n zs t).toArray) (fun W => by kernel_rfl) (fun W hW => (whole_in k n a cap zs t W (HC.out.on hW)).mono fun e w' h => ⟨h.1, hW.trans (h.2.mono hW.size)⟩) ?_
  simp only [Act.put, List.setIfInBounds_toArray, List.set_cons_succ, List.set_cons_zero]
  go_big_quiet_on
  go_big_quiet_want
  refine quiet_eq 15 17 3 0 zs ByteArray.empty k n zs t rfl rfl rfl ?_
  simp only [Act.put, List.setIfInBounds_toArray, List.set_cons_succ, List.set_cons_zero]
  go_big_quiet_on
  go_big_quiet_want
  go_big_quiet_op
  first | go_big_quiet_on | (refine ⟨_, fun _ _ => rfl, ?_⟩; go_big_quiet_on)
  go_big_quiet_want
  go_big_quiet_op
  first | go_big_quiet_on | (refine ⟨_, fun _ _ => rfl, ?_⟩; go_big_quiet_on)
  refine wpQuiet_nil ?_
  intro w2 hB2
  go_wp2
  go_ret
  exact ⟨ret_bool (by rw [← hr.out, HK.out, right_set, hrb.out, same_set]; rfl), HB.out.trans (hB2.mono HB.out.size)⟩
 | false =>
  refine wp_region_quiet (C := fun W => Below W1.heap.size W1 W) (by kernel_rfl) (by kernel_rfl) (Below.refl _ _).drew ?_
  show wpQuiet _ _ _ _ [_, _, _, _, _, _, _, _, _, _, _, _, _, _, _] _
  go_big_quiet_want
  go_big_quiet_op
  first | go_big_quiet_on | (refine ⟨_, fun _ _ => rfl, ?_⟩; go_big_quiet_on)
  go_big_quiet_want
  go_big_quiet_op
  first | go_big_quiet_on | (refine ⟨_, fun _ _ => rfl, ?_⟩; go_big_quiet_on)
  go_big_quiet_want
  go_big_quiet_op
  first | go_big_quiet_on | (refine ⟨_, fun _ _ => rfl, ?_⟩; go_big_quiet_on)
  go_big_quiet_want
  go_big_quiet_op
  first | go_big_quiet_on | (refine ⟨_, fun _ _ => rfl, ?_⟩; go_big_quiet_on)
  go_big_quiet_want
  refine quiet_call 255 #[.agg #[.slice a zs.length cap]] (.bool false) (fun W => by kernel_rfl) (fun W hW => (choices_right a cap zs W (HC.out.on hW)).mono fun e w' h => ⟨by rw [h.1, hrb.out], hW.trans (h.2.mono hW.size)⟩) ?_
  simp only [Act.put, List.setIfInBounds_toArray, List.set_cons_succ, List.set_cons_zero]
  go_big_quiet_on
  go_big_quiet_want
  go_big_quiet_op
  first | go_big_quiet_on | (refine ⟨_, fun _ _ => rfl, ?_⟩; go_big_quiet_on)
  go_big_quiet_want
  go_big_quiet_op
  first | go_big_quiet_on | (refine ⟨_, fun _ _ => rfl, ?_⟩; go_big_quiet_on)
  go_big_quiet_skip
  go_big_quiet_skip
  go_big_quiet_skip
  go_big_quiet_skip
  go_big_quiet_skip
  go_big_quiet_skip
  go_big_quiet_want
  go_big_quiet_op
  first | go_big_quiet_on | (refine ⟨_, fun _ _ => rfl, ?_⟩; go_big_quiet_on)
  go_big_quiet_want
  go_big_quiet_op
  first | go_big_quiet_on | (refine ⟨_, fun _ _ => rfl, ?_⟩; go_big_quiet_on)
  refine wpQuiet_nil ?_
  intro w2 hB2
  go_wp2
  go_ret
  exact ⟨ret_bool (by rw [← hr.out, HK.out, right_set, hrb.out]; rfl), HB.out.trans (hB2.mono HB.out.size)⟩
set_option maxRecDepth 10000 in
set_option maxHeartbeats 4000000 in
theorem ir_text (k n : Int) (a : Option Addr) (cap : Nat) (zs : List Int) (t : ByteArray) (w : World) (hc : Codes w a zs) (ht : t.size ≤ maxLen) (hk : k = 4) :
  Calls Tryz.prog 75 #[av k n a zs.length cap t] w fun e w' => e = .returned (.bool (right k n zs t)) ∧ Below w.heap.size w w' := by
 have HK : Hid (k = 4) := hk
 have HT : Hid (t.size ≤ maxLen) := ht
 obtain ⟨r, hr⟩ : ∃ r, Hid (right k n zs t = r) := ⟨_, rfl⟩
 rw [hr.out]
 obtain ⟨rb, hrb⟩ : ∃ rb, Hid ((plainB t && decide (t.size ≤ 40)) = rb) := ⟨_, rfl⟩
 have HC0 : Hid (Codes w a zs) := hc
 clear hc ht hk
 go_enter Tryz.func75, Tryz.ntmps75
 go_wp2_with fail
 refine (content_text k n a zs.length cap t _ HK.out).mono ?_
 rintro e W1 ⟨rfl, hB1⟩
 have HB : Hid (Below w.heap.size w W1) := (below_one w _).trans (hB1.mono (by simp))
 have HC : Hid (Codes W1 a zs) := HC0.out.on HB.out
 have H4 : Hid (At4 W1 w.heap.size (.int .i64 k) (.int .i64 n) (.slice a zs.length cap) (.string t)) := (At4.laid w _ _ _ _ _).on hB1
 clear hB1 HC0
 go_wp2
 cases rb with
 | true =>
  refine wp_region_quiet (C := fun W => Below W1.heap.size W1 W) (by kernel_rfl) (by kernel_rfl) (Below.refl _ _).drew ?_
  show wpQuiet _ _ _ _ [_, _, _, _, _, _, _, _, _, _, _, _, _, _, _] _
  go_big_quiet_want
  go_big_quiet_op
  first | go_big_quiet_on | (refine ⟨_, fun _ _ => rfl, ?_⟩; go_big_quiet_on)
  go_big_quiet_want
  go_big_quiet_op
  first | go_big_quiet_on | (refine ⟨_, fun _ _ => rfl, ?_⟩; go_big_quiet_on)
  go_big_quiet_want
  go_big_quiet_op
  first | go_big_quiet_on | (refine ⟨_, fun _ _ => rfl, ?_⟩; go_big_quiet_on)
  go_big_quiet_want
  go_big_quiet_op
  first | go_big_quiet_on | (refine ⟨_, fun _ _ => rfl, ?_⟩; go_big_quiet_on)
  go_big_quiet_want
  refine quiet_call 257 #[.agg #[.string t]] (.bool true) (fun W => by kernel_rfl) (fun W hW => (words_right t W HT.out).mono fun e w' h => ⟨by rw [h.1, hrb.out], hW.trans (h.2.mono hW.size)⟩) ?_
  simp only [Act.put, List.setIfInBounds_toArray, List.set_cons_succ, List.set_cons_zero]
  go_big_quiet_on
  go_big_quiet_want
  go_big_quiet_op
  first | go_big_quiet_on | (refine ⟨_, fun _ _ => rfl, ?_⟩; go_big_quiet_on)
  go_big_quiet_want
  go_big_quiet_op
  first | go_big_quiet_on | (refine ⟨_, fun _ _ => rfl, ?_⟩; go_big_quiet_on)
  go_big_quiet_want
  go_big_quiet_op
  first | go_big_quiet_on | (refine ⟨_, fun _ _ => rfl, ?_⟩; go_big_quiet_on)
  go_big_quiet_want
  refine quiet_call 258 #[.agg #[.string t]] (av 4 0 none 0 0 t) (fun W => by kernel_rfl) (fun W hW => (words_value t W).mono fun e w' h => ⟨h.1, hW.trans (h.2.mono hW.size)⟩) ?_
  simp only [Act.put, List.setIfInBounds_toArray, List.set_cons_succ, List.set_cons_zero]
  go_big_quiet_on
  go_big_quiet_want
  refine quiet_call 105 #[av 4 0 none 0 0 t] (.agg (wholeL 4 0 [] t).toArray) (fun W => by kernel_rfl) (fun W hW => (whole_in 4 0 none 0 [] t W (Codes.nil _ _)).mono fun e w' h => ⟨h.1, hW.trans (h.2.mono hW.size)⟩) ?_
  simp only [Act.put, List.setIfInBounds_toArray, List.set_cons_succ, List.set_cons_zero]
  go_big_quiet_on
  go_big_quiet_want
  refine quiet_load4 1 w.heap.size (.int .i64 k) (.int .i64 n) (.slice a zs.length cap) (.string t) rfl rfl (fun W hW => (H4.out.on hW)) ?_
  simp only [Act.put, List.setIfInBounds_toArray, List.set_cons_succ, List.set_cons_zero]
  go_big_quiet_on
  go_big_quiet_want
  refine quiet_call 105 #[av k n a zs.length cap t] (.agg (wholeL k n zs t).toArray) (fun W => by kernel_rfl) (fun W hW => (whole_in k n a cap zs t W (HC.out.on hW)).mono fun e w' h => ⟨h.1, hW.trans (h.2.mono hW.size)⟩) ?_
  simp only [Act.put, List.setIfInBounds_toArray, List.set_cons_succ, List.set_cons_zero]
  go_big_quiet_on
  go_big_quiet_want
  refine quiet_eq 15 17 4 0 [] t k n zs t rfl rfl rfl ?_
  simp only [Act.put, List.setIfInBounds_toArray, List.set_cons_succ, List.set_cons_zero]
  go_big_quiet_on
  go_big_quiet_want
  go_big_quiet_op
  first | go_big_quiet_on | (refine ⟨_, fun _ _ => rfl, ?_⟩; go_big_quiet_on)
  go_big_quiet_want
  go_big_quiet_op
  first | go_big_quiet_on | (refine ⟨_, fun _ _ => rfl, ?_⟩; go_big_quiet_on)
  refine wpQuiet_nil ?_
  intro w2 hB2
  go_wp2
  go_ret
  exact ⟨ret_bool (by rw [← hr.out, HK.out, right_text, hrb.out, same_text]; rfl), HB.out.trans (hB2.mono HB.out.size)⟩
 | false =>
  refine wp_region_quiet (C := fun W => Below W1.heap.size W1 W) (by kernel_rfl) (by kernel_rfl) (Below.refl _ _).drew ?_
  show wpQuiet _ _ _ _ [_, _, _, _, _, _, _, _, _, _, _, _, _, _, _] _
  go_big_quiet_want
  go_big_quiet_op
  first | go_big_quiet_on | (refine ⟨_, fun _ _ => rfl, ?_⟩; go_big_quiet_on)
  go_big_quiet_want
  go_big_quiet_op
  first | go_big_quiet_on | (refine ⟨_, fun _ _ => rfl, ?_⟩; go_big_quiet_on)
  go_big_quiet_want
  go_big_quiet_op
  first | go_big_quiet_on | (refine ⟨_, fun _ _ => rfl, ?_⟩; go_big_quiet_on)
  go_big_quiet_want
  go_big_quiet_op
  first | go_big_quiet_on | (refine ⟨_, fun _ _ => rfl, ?_⟩; go_big_quiet_on)
  go_big_quiet_want
  refine quiet_call 257 #[.agg #[.string t]] (.bool false) (fun W => by kernel_rfl) (fun W hW => (words_right t W HT.out).mono fun e w' h => ⟨by rw [h.1, hrb.out], hW.trans (h.2.mono hW.size)⟩) ?_
  simp only [Act.put, List.setIfInBounds_toArray, List.set_cons_succ, List.set_cons_zero]
  go_big_quiet_on
  go_big_quiet_want
  go_big_quiet_op
  first | go_big_quiet_on | (refine ⟨_, fun _ _ => rfl, ?_⟩; go_big_quiet_on)
  go_big_quiet_want
  go_big_quiet_op
  first | go_big_quiet_on | (refine ⟨_, fun _ _ => rfl, ?_⟩; go_big_quiet_on)
  go_big_quiet_skip
  go_big_quiet_skip
  go_big_quiet_skip
  go_big_quiet_skip
  go_big_quiet_skip
  go_big_quiet_skip
  go_big_quiet_want
  go_big_quiet_op
  first | go_big_quiet_on | (refine ⟨_, fun _ _ => rfl, ?_⟩; go_big_quiet_on)
  go_big_quiet_want
  go_big_quiet_op
  first | go_big_quiet_on | (refine ⟨_, fun _ _ => rfl, ?_⟩; go_big_quiet_on)
  refine wpQuiet_nil ?_
  intro w2 hB2
  go_wp2
  go_ret
  exact ⟨ret_bool (by rw [← hr.out, HK.out, right_text, hrb.out]; rfl), HB.out.trans (hB2.mono HB.out.size)⟩
theorem ir_else (k n : Int) (a : Option Addr) (cap : Nat) (zs : List Int) (t : ByteArray) (w : World) (hk : ¬ (0 ≤ k ∧ k ≤ 6)) :
  Calls Tryz.prog 75 #[av k n a zs.length cap t] w fun e w' => e = .returned (.bool (right k n zs t)) ∧ Below w.heap.size w w' := by
 rw [right_other n zs t hk]
 have HK : Hid (¬ (0 ≤ k ∧ k ≤ 6)) := hk
 clear hk
 go_enter Tryz.func75, Tryz.ntmps75
 go_wp2_with fail
 refine (content_else k n a zs.length cap t _ HK.out).mono ?_
 rintro e W1 ⟨rfl, hB1⟩
 have HB : Hid (Below w.heap.size w W1) := (below_one w _).trans (hB1.mono (by simp))
 clear hB1
 go_wp2
 go_quiet (fail)
 go_wp2
 go_ret
 exact ⟨rfl, below_drewN HB.out _⟩
theorem impl_right (k n : Int) (a : Option Addr) (cap : Nat) (zs : List Int) (t : ByteArray) (w : World) (hc : Codes w a zs) (ht : t.size ≤ maxLen) :
  Calls Tryz.prog 75 #[av k n a zs.length cap t] w fun e w' => e = .returned (.bool (right k n zs t)) ∧ Below w.heap.size w w' := by
 by_cases h : 0 ≤ k ∧ k ≤ 6
 ·rcases (by omega : (k = 0 ∨ k = 5 ∨ k = 6) ∨ k = 1 ∨ k = 2 ∨ k = 3 ∨ k = 4) with h | h | h | h | h
  ·exact ir_none k n a cap zs t w hc ht h
  ·exact ir_int k n a cap zs t w hc ht h
  ·exact ir_code k n a cap zs t w hc ht h
  ·exact ir_set k n a cap zs t w hc ht h
  ·exact ir_text k n a cap zs t w hc ht h
 ·exact ir_else k n a cap zs t w h
end Go.Proofs.YtmbhmknfipdadaaGreatDoor.ValI
namespace Go.Proofs.YtmbhmknfipdadaaGreatDoor.ValK
open Go.RowKit
open ValM ValW ValS ValI
def answeredB (k n : Int) (zs : List Int) (t : ByteArray) : Bool := right k n zs t && decide (k ≠ 0)
theorem spec_answered (k n : Int) (a : Option Addr) (cap : Nat) (zs : List Int) (t : ByteArray) (w : World) (hc : Codes w a zs) (ht : t.size ≤ maxLen) :
  Calls Tryz.prog 84 #[av k n a zs.length cap t] w fun e w' => e = .returned (.bool (answeredB k n zs t)) ∧ Below w.heap.size w w' := by
 have HC : Hid (Codes w a zs) := hc
 have HT : Hid (t.size ≤ maxLen) := ht
 unfold answeredB
 obtain ⟨r, hr⟩ : ∃ r, Hid (right k n zs t = r) := ⟨_, rfl⟩
 rw [hr.out]
 clear hc ht
 go_enter Tryz.func84, Tryz.ntmps84
 go_wp2_with fail
 refine (spec_right k n a cap zs t _ (HC.out.alloc _) HT.out).mono ?_
 rintro e w1 ⟨rfl, hB1⟩
 rw [hr.out]
 have HB : Hid (Below w.heap.size w w1) := (below_one w _).trans (hB1.mono (by simp))
 obtain ⟨c0, c1, c2, c3, hsz⟩ := (At4.laid w 59 (.int .i64 k) (.int .i64 n) (.slice a zs.length cap) (.string t)).on hB1
 clear hB1 HC
 cases r
 all_goals
  go_wp2
  go_ret
  exact ⟨ret_bool (by first | (simp; done) | (rw [Bool.eq_iff_iff]; simp)), HB.out⟩
theorem impl_answered (k n : Int) (a : Option Addr) (cap : Nat) (zs : List Int) (t : ByteArray) (w : World) (hc : Codes w a zs) (ht : t.size ≤ maxLen) :
  Calls Tryz.prog 45 #[av k n a zs.length cap t] w fun e w' => e = .returned (.bool (answeredB k n zs t)) ∧ Below w.heap.size w w' := by
 have HC : Hid (Codes w a zs) := hc
 have HT : Hid (t.size ≤ maxLen) := ht
 unfold answeredB
 obtain ⟨r, hr⟩ : ∃ r, Hid (right k n zs t = r) := ⟨_, rfl⟩
 rw [hr.out]
 clear hc ht
 by_cases hk : k = 0
 ·go_enter Tryz.func45, Tryz.ntmps45
  go_wp2
  go_ret
  exact ⟨ret_bool (by simp [hk]), by go_grown⟩
 go_enter Tryz.func45, Tryz.ntmps45
 go_wp2_with fail
 refine (impl_right k n a cap zs t _ (HC.out.alloc _) HT.out).mono ?_
 rintro e w1 ⟨rfl, hB1⟩
 rw [hr.out]
 have HB : Hid (Below w.heap.size w w1) := (below_one w _).trans (hB1.mono (by simp))
 clear hB1 HC
 go_wp2
 go_ret
 exact ⟨ret_bool (by simp [hk]), HB.out⟩
open Go.RowKit
open ValM ValW ValS ValI
def knownB (k n : Int) (zs : List Int) (t : ByteArray) : Bool := right k n zs t && decide (1 ≤ k ∧ k ≤ 4)
def hasB (k n : Int) (zs : List Int) (t : ByteArray) (c : Int) : Bool := right k n zs t && decide (k = 3) && zs.contains c
theorem spec_kn (k n : Int) (a : Option Addr) (len cap : Nat) (t : ByteArray) (w : World) :
  Calls Tryz.prog 115 #[av k n a len cap t] w fun e w' => e = .returned (.bool (decide (1 ≤ k ∧ k ≤ 4))) ∧ Below w.heap.size w w' := by
 by_cases h1 : 1 ≤ k
 ·go_enter Tryz.func115, Tryz.ntmps115
  go_wp2
  go_ret
  exact ⟨ret_bool (by simp [h1]), by go_grown⟩
 ·go_enter Tryz.func115, Tryz.ntmps115
  go_wp2
  go_ret
  exact ⟨ret_bool (by simp; omega), by go_grown⟩
theorem tells_silence (v : Value) (w : World) :
  Calls Tryz.prog 190 #[.iface 162 v] w fun e w' => e = .returned (.bool false) ∧ w' = w := by
 have q0 := ValT.silence_integer v
 have q1 := ValT.silence_choice v
 have q2 := ValT.silence_choices v
 have q3 := ValT.silence_words v
 go_enter Tryz.func190, Tryz.ntmps190
 go_wp2
 go_ret
 exact ⟨rfl, rfl⟩
theorem tells_integer (v : Value) (w : World) :
  Calls Tryz.prog 190 #[.iface 164 v] w fun e w' => e = .returned (.bool true) ∧ w' = w := by
 have q0 := ValT.integer_integer v
 have q1 := ValT.integer_choice v
 have q2 := ValT.integer_choices v
 have q3 := ValT.integer_words v
 go_enter Tryz.func190, Tryz.ntmps190
 go_wp2
 go_ret
 exact ⟨rfl, rfl⟩
theorem tells_choice (v : Value) (w : World) :
  Calls Tryz.prog 190 #[.iface 165 v] w fun e w' => e = .returned (.bool true) ∧ w' = w := by
 have q0 := ValT.choice_integer v
 have q1 := ValT.choice_choice v
 have q2 := ValT.choice_choices v
 have q3 := ValT.choice_words v
 go_enter Tryz.func190, Tryz.ntmps190
 go_wp2
 go_ret
 exact ⟨rfl, rfl⟩
theorem tells_choices (v : Value) (w : World) :
  Calls Tryz.prog 190 #[.iface 167 v] w fun e w' => e = .returned (.bool true) ∧ w' = w := by
 have q0 := ValT.choices_integer v
 have q1 := ValT.choices_choice v
 have q2 := ValT.choices_choices v
 have q3 := ValT.choices_words v
 go_enter Tryz.func190, Tryz.ntmps190
 go_wp2
 go_ret
 exact ⟨rfl, rfl⟩
theorem tells_words (v : Value) (w : World) :
  Calls Tryz.prog 190 #[.iface 169 v] w fun e w' => e = .returned (.bool true) ∧ w' = w := by
 have q0 := ValT.words_integer v
 have q1 := ValT.words_choice v
 have q2 := ValT.words_choices v
 have q3 := ValT.words_words v
 go_enter Tryz.func190, Tryz.ntmps190
 go_wp2
 go_ret
 exact ⟨rfl, rfl⟩
theorem ik_none (k n : Int) (a : Option Addr) (cap : Nat) (zs : List Int) (t : ByteArray) (w : World) (hc : Codes w a zs) (ht : t.size ≤ maxLen) (hr : right k n zs t = true) (hk : k = 0 ∨ k = 5 ∨ k = 6) :
  Calls Tryz.prog 154 #[av k n a zs.length cap t] w fun e w' => e = .returned (.bool false) ∧ Below w.heap.size w w' := by
 have HC : Hid (Codes w a zs) := hc
 have HT : Hid (t.size ≤ maxLen) := ht
 have HR : Hid (right k n zs t = true) := hr
 have HK : Hid (k = 0 ∨ k = 5 ∨ k = 6) := hk
 clear hc ht hr hk
 go_enter Tryz.func154, Tryz.ntmps154
 go_wp2_with fail
 refine (impl_right k n a cap zs t _ (HC.out.alloc _) HT.out).mono ?_
 rintro e w1 ⟨rfl, hB1⟩
 rw [HR.out]
 have HB : Hid (Below w.heap.size w w1) := (below_one w _).trans (hB1.mono (by simp))
 obtain ⟨c0, c1, c2, c3, hsz⟩ := (At4.laid w 59 (.int .i64 k) (.int .i64 n) (.slice a zs.length cap) (.string t)).on hB1
 clear hB1 HC
 go_wp2_with fail
 refine (content_none k n a zs.length cap t _ HK.out).mono ?_
 rintro e w2 ⟨rfl, hB2⟩
 have HB2 : Hid (Below w.heap.size w w2) := HB.out.trans (hB2.mono HB.out.size)
 clear hB2 c0 c1 c2 c3
 go_wp2_with (go_at_call 190; refine (tells_silence _ _).mono ?_; rintro e w' ⟨rfl, rfl⟩)
 go_ret
 exact ⟨rfl, HB2.out⟩
theorem ik_int (k n : Int) (a : Option Addr) (cap : Nat) (zs : List Int) (t : ByteArray) (w : World) (hc : Codes w a zs) (ht : t.size ≤ maxLen) (hr : right k n zs t = true) (hk : k = 1) :
  Calls Tryz.prog 154 #[av k n a zs.length cap t] w fun e w' => e = .returned (.bool true) ∧ Below w.heap.size w w' := by
 have HC : Hid (Codes w a zs) := hc
 have HT : Hid (t.size ≤ maxLen) := ht
 have HR : Hid (right k n zs t = true) := hr
 have HK : Hid (k = 1) := hk
 clear hc ht hr hk
 go_enter Tryz.func154, Tryz.ntmps154
 go_wp2_with fail
 refine (impl_right k n a cap zs t _ (HC.out.alloc _) HT.out).mono ?_
 rintro e w1 ⟨rfl, hB1⟩
 rw [HR.out]
 have HB : Hid (Below w.heap.size w w1) := (below_one w _).trans (hB1.mono (by simp))
 obtain ⟨c0, c1, c2, c3, hsz⟩ := (At4.laid w 59 (.int .i64 k) (.int .i64 n) (.slice a zs.length cap) (.string t)).on hB1
 clear hB1 HC
 go_wp2_with fail
 refine (content_int k n a zs.length cap t _ HK.out).mono ?_
 rintro e w2 ⟨rfl, hB2⟩
 have HB2 : Hid (Below w.heap.size w w2) := HB.out.trans (hB2.mono HB.out.size)
 clear hB2 c0 c1 c2 c3
 go_wp2_with (go_at_call 190; refine (tells_integer _ _).mono ?_; rintro e w' ⟨rfl, rfl⟩)
 go_ret
 exact ⟨rfl, HB2.out⟩
theorem ik_code (k n : Int) (a : Option Addr) (cap : Nat) (zs : List Int) (t : ByteArray) (w : World) (hc : Codes w a zs) (ht : t.size ≤ maxLen) (hr : right k n zs t = true) (hk : k = 2) :
  Calls Tryz.prog 154 #[av k n a zs.length cap t] w fun e w' => e = .returned (.bool true) ∧ Below w.heap.size w w' := by
 have HC : Hid (Codes w a zs) := hc
 have HT : Hid (t.size ≤ maxLen) := ht
 have HR : Hid (right k n zs t = true) := hr
 have HK : Hid (k = 2) := hk
 clear hc ht hr hk
 go_enter Tryz.func154, Tryz.ntmps154
 go_wp2_with fail
 refine (impl_right k n a cap zs t _ (HC.out.alloc _) HT.out).mono ?_
 rintro e w1 ⟨rfl, hB1⟩
 rw [HR.out]
 have HB : Hid (Below w.heap.size w w1) := (below_one w _).trans (hB1.mono (by simp))
 obtain ⟨c0, c1, c2, c3, hsz⟩ := (At4.laid w 59 (.int .i64 k) (.int .i64 n) (.slice a zs.length cap) (.string t)).on hB1
 clear hB1 HC
 go_wp2_with fail
 refine (content_code k n a zs.length cap t _ HK.out).mono ?_
 rintro e w2 ⟨rfl, hB2⟩
 have HB2 : Hid (Below w.heap.size w w2) := HB.out.trans (hB2.mono HB.out.size)
 clear hB2 c0 c1 c2 c3
 go_wp2_with (go_at_call 190; refine (tells_choice _ _).mono ?_; rintro e w' ⟨rfl, rfl⟩)
 go_ret
 exact ⟨rfl, HB2.out⟩
theorem ik_set (k n : Int) (a : Option Addr) (cap : Nat) (zs : List Int) (t : ByteArray) (w : World) (hc : Codes w a zs) (ht : t.size ≤ maxLen) (hr : right k n zs t = true) (hk : k = 3) :
  Calls Tryz.prog 154 #[av k n a zs.length cap t] w fun e w' => e = .returned (.bool true) ∧ Below w.heap.size w w' := by
 have HC : Hid (Codes w a zs) := hc
 have HT : Hid (t.size ≤ maxLen) := ht
 have HR : Hid (right k n zs t = true) := hr
 have HK : Hid (k = 3) := hk
 clear hc ht hr hk
 go_enter Tryz.func154, Tryz.ntmps154
 go_wp2_with fail
 refine (impl_right k n a cap zs t _ (HC.out.alloc _) HT.out).mono ?_
 rintro e w1 ⟨rfl, hB1⟩
 rw [HR.out]
 have HB : Hid (Below w.heap.size w w1) := (below_one w _).trans (hB1.mono (by simp))
 obtain ⟨c0, c1, c2, c3, hsz⟩ := (At4.laid w 59 (.int .i64 k) (.int .i64 n) (.slice a zs.length cap) (.string t)).on hB1
 clear hB1 HC
 go_wp2_with fail
 refine (content_set k n a zs.length cap t _ HK.out).mono ?_
 rintro e w2 ⟨rfl, hB2⟩
 have HB2 : Hid (Below w.heap.size w w2) := HB.out.trans (hB2.mono HB.out.size)
 clear hB2 c0 c1 c2 c3
 go_wp2_with (go_at_call 190; refine (tells_choices _ _).mono ?_; rintro e w' ⟨rfl, rfl⟩)
 go_ret
 exact ⟨rfl, HB2.out⟩
theorem ik_text (k n : Int) (a : Option Addr) (cap : Nat) (zs : List Int) (t : ByteArray) (w : World) (hc : Codes w a zs) (ht : t.size ≤ maxLen) (hr : right k n zs t = true) (hk : k = 4) :
  Calls Tryz.prog 154 #[av k n a zs.length cap t] w fun e w' => e = .returned (.bool true) ∧ Below w.heap.size w w' := by
 have HC : Hid (Codes w a zs) := hc
 have HT : Hid (t.size ≤ maxLen) := ht
 have HR : Hid (right k n zs t = true) := hr
 have HK : Hid (k = 4) := hk
 clear hc ht hr hk
 go_enter Tryz.func154, Tryz.ntmps154
 go_wp2_with fail
 refine (impl_right k n a cap zs t _ (HC.out.alloc _) HT.out).mono ?_
 rintro e w1 ⟨rfl, hB1⟩
 rw [HR.out]
 have HB : Hid (Below w.heap.size w w1) := (below_one w _).trans (hB1.mono (by simp))
 obtain ⟨c0, c1, c2, c3, hsz⟩ := (At4.laid w 59 (.int .i64 k) (.int .i64 n) (.slice a zs.length cap) (.string t)).on hB1
 clear hB1 HC
 go_wp2_with fail
 refine (content_text k n a zs.length cap t _ HK.out).mono ?_
 rintro e w2 ⟨rfl, hB2⟩
 have HB2 : Hid (Below w.heap.size w w2) := HB.out.trans (hB2.mono HB.out.size)
 clear hB2 c0 c1 c2 c3
 go_wp2_with (go_at_call 190; refine (tells_words _ _).mono ?_; rintro e w' ⟨rfl, rfl⟩)
 go_ret
 exact ⟨rfl, HB2.out⟩
theorem ik_not (k n : Int) (a : Option Addr) (cap : Nat) (zs : List Int) (t : ByteArray) (w : World) (hc : Codes w a zs) (ht : t.size ≤ maxLen) (hr : right k n zs t = false) :
  Calls Tryz.prog 154 #[av k n a zs.length cap t] w fun e w' => e = .returned (.bool false) ∧ Below w.heap.size w w' := by
 have HC : Hid (Codes w a zs) := hc
 have HT : Hid (t.size ≤ maxLen) := ht
 have HR : Hid (right k n zs t = false) := hr
 clear hc ht hr
 go_enter Tryz.func154, Tryz.ntmps154
 go_wp2_with fail
 refine (impl_right k n a cap zs t _ (HC.out.alloc _) HT.out).mono ?_
 rintro e w1 ⟨rfl, hB1⟩
 rw [HR.out]
 have HB : Hid (Below w.heap.size w w1) := (below_one w _).trans (hB1.mono (by simp))
 clear hB1 HC
 go_wp2
 go_ret
 exact ⟨rfl, HB.out⟩
theorem impl_known (k n : Int) (a : Option Addr) (cap : Nat) (zs : List Int) (t : ByteArray) (w : World) (hc : Codes w a zs) (ht : t.size ≤ maxLen) :
    Calls Tryz.prog 154 #[av k n a zs.length cap t] w fun e w' => e = .returned (.bool (knownB k n zs t)) ∧ Below w.heap.size w w' := by
  cases hr : right k n zs t with
  | false => have : knownB k n zs t = false := by unfold knownB; rw [hr]; rfl
             rw [this]; exact ik_not k n a cap zs t w hc ht hr
  | true =>
    have e : knownB k n zs t = decide (1 ≤ k ∧ k ≤ 4) := by unfold knownB; rw [hr]; rfl
    rcases kinds hr with ⟨h, _⟩ | ⟨h, _⟩ | ⟨h, _⟩ | ⟨h, _⟩ | ⟨h, _⟩
    · rw [e, decide_eq_false (by omega)]; exact ik_none k n a cap zs t w hc ht hr h
    · rw [e, decide_eq_true (by omega)]; exact ik_int k n a cap zs t w hc ht hr h
    · rw [e, decide_eq_true (by omega)]; exact ik_code k n a cap zs t w hc ht hr h
    · rw [e, decide_eq_true (by omega)]; exact ik_set k n a cap zs t w hc ht hr h
    · rw [e, decide_eq_true (by omega)]; exact ik_text k n a cap zs t w hc ht hr h
open Go.RowKit
open ValM ValW ValS ValI
theorem has_yes {zs : List Int} {c : Int} {k : Nat} (hk : k < zs.length) (h : zs.getD k 0 = c) : zs.contains c = true := by
 rw [List.contains_iff_mem, ← h]
 have : zs.getD k 0 = zs[k] := by simp [List.getD, List.getElem?_eq_getElem hk]
 rw [this]; exact List.getElem_mem hk
theorem has_no {zs : List Int} {c : Int} (h : ∀ k, k < zs.length → ¬ zs.getD k 0 = c) : zs.contains c = false := by
 rw [Bool.eq_false_iff]
 intro hc
 obtain ⟨k, hk, e⟩ := List.getElem_of_mem (List.contains_iff_mem.1 hc)
 exact h k hk (by simp [List.getD, List.getElem?_eq_getElem hk, e])
set_option maxRecDepth 10000 in
set_option maxHeartbeats 400000 in
theorem spec_hs (k n : Int) (a : Option Addr) (cap : Nat) (zs : List Int) (t : ByteArray) (c : Int) (w : World) (hc : Codes w a zs) :
  Calls Tryz.prog 134 #[av k n a zs.length cap t, .int .i64 c] w fun e w' => e = .returned (.bool (zs.contains c)) ∧ Below w.heap.size w w' := by
 obtain ⟨hl, hc⟩ := hc
 have HC : Hid (0 < zs.length → ∃ b o, a = some ⟨b, o, none⟩ ∧ b < w.heap.size ∧ ∀ i, i < zs.length → w.cell? ⟨b, o + i, none⟩ = some (.int .i64 (zs.getD i 0))) := hc
 obtain ⟨r, hr⟩ : ∃ r, Hid (zs.contains c = r) := ⟨_, rfl⟩
 rw [hr.out]
 clear hc
 go_enter Tryz.func134, Tryz.ntmps134
 go_wp2
 go_loop [5] (fun i => ∃ j : Nat, j ≤ zs.length ∧ i = .int .i64 j ∧ Hid (∀ i, i < j → ¬ zs.getD i 0 = c)) (fun i => zs.length - (intOf i).toNat)
 case atStart => exact ⟨0, Nat.zero_le _, rfl, fun j hj => absurd hj (Nat.not_lt_zero _)⟩
 case round =>
  obtain ⟨j, hj, rfl, hall⟩ := hrel
  by_cases hlt : j < zs.length
  ·obtain ⟨b, o, rfl, hb, hcs⟩ := HC.out (by omega)
   have hcell : (w.alloc (.cells #[.int .i64 k, .int .i64 n, .slice (some ⟨b, o, none⟩) zs.length cap, .string t] 59)).cell? ⟨b, o + j, none⟩ = some (.int .i64 (zs.getD j 0)) := by
    rw [World.cell?_alloc_lt _ _ ⟨b, o + j, none⟩ hb]; exact hcs j hlt
   obtain ⟨v, hv⟩ : ∃ v, Hid (zs.getD j 0 = v) := ⟨_, rfl⟩
   rw [hv.out] at hcell
   clear hcs
   by_cases h1 : v = c
   ·have hy : Hid (r = true) := hr.out.symm.trans (has_yes hlt (hv.out.trans h1))
    have h2 : (v == c) = true := by simp [h1]
    clear h1
    go_wp2
    go_ret
    exact ⟨ret_bool hy.out.symm, by go_grown⟩
   ·have h2 : (v == c) = false := by simp [h1]
    have hn : Hid (¬ zs.getD j 0 = c) := by show ¬ _; rw [hv.out]; exact h1
    clear h1
    go_wp2
    refine ⟨⟨j + 1, by omega, by go_num, fun i hi => ?_⟩, by simp [intOf]; omega⟩
    rcases Nat.lt_succ_iff_lt_or_eq.1 hi with hi' | rfl
    ·exact hall.out i hi'
    ·exact hn.out
  ·have hy : Hid (r = false) := hr.out.symm.trans (has_no (fun i hi => hall.out i (by omega)))
   go_wp2
   go_ret
   exact ⟨ret_bool hy.out.symm, by go_grown⟩
set_option maxRecDepth 10000 in
set_option maxHeartbeats 400000 in
theorem index_in (a : Option Addr) (cap : Nat) (zs : List Int) (c : Int) (w : World) (hc : Codes w a zs) :
  Calls Tryz.prog 222 #[.slice a zs.length cap, .int .i64 c] w fun e w' => ∃ i : Int, e = .returned (.int .i64 i) ∧ decide (0 ≤ i) = zs.contains c ∧ w' = w := by
 obtain ⟨hl, hc⟩ := hc
 have HC : Hid (0 < zs.length → ∃ b o, a = some ⟨b, o, none⟩ ∧ b < w.heap.size ∧ ∀ i, i < zs.length → w.cell? ⟨b, o + i, none⟩ = some (.int .i64 (zs.getD i 0))) := hc
 obtain ⟨r, hr⟩ : ∃ r, Hid (zs.contains c = r) := ⟨_, rfl⟩
 rw [hr.out]
 clear hc
 go_enter Tryz.func222, Tryz.ntmps222
 go_wp2
 go_loop [5, 8] (fun _ i => ∃ j : Nat, j ≤ zs.length ∧ i = .int .i64 j ∧ Hid (∀ i, i < j → ¬ zs.getD i 0 = c)) (fun _ i => zs.length - (intOf i).toNat)
 case atStart => exact ⟨0, Nat.zero_le _, rfl, fun j hj => absurd hj (Nat.not_lt_zero _)⟩
 case round =>
  obtain ⟨j, hj, rfl, hall⟩ := hrel
  by_cases hlt : j < zs.length
  ·obtain ⟨b, o, rfl, hb, hcs⟩ := HC.out (by omega)
   have hcell := hcs j hlt
   obtain ⟨v, hv⟩ : ∃ v, Hid (zs.getD j 0 = v) := ⟨_, rfl⟩
   rw [hv.out] at hcell
   clear hcs
   by_cases h1 : c = v
   ·have hy : Hid (r = true) := hr.out.symm.trans (has_yes hlt (hv.out.trans h1.symm))
    have h2 : (c == v) = true := by simp [h1]
    clear h1
    go_wp2
    go_ret
    exact ⟨_, rfl, by rw [hy.out]; simp, rfl⟩
   ·have h2 : (c == v) = false := by simp [h1]
    have hn : Hid (¬ zs.getD j 0 = c) := by show ¬ _; rw [hv.out]; exact fun e => h1 e.symm
    clear h1
    go_wp2
    refine ⟨⟨j + 1, by omega, by go_num, fun i hi => ?_⟩, by simp [intOf]; omega⟩
    rcases Nat.lt_succ_iff_lt_or_eq.1 hi with hi' | rfl
    ·exact hall.out i hi'
    ·exact hn.out
  ·have hy : Hid (r = false) := hr.out.symm.trans (has_no (fun i hi => hall.out i (by omega)))
   go_wp2
   go_ret
   exact ⟨_, rfl, by rw [hy.out]; rfl, rfl⟩
theorem contains_in (a : Option Addr) (cap : Nat) (zs : List Int) (c : Int) (w : World) (hc : Codes w a zs) :
  Calls Tryz.prog 215 #[.slice a zs.length cap, .int .i64 c] w fun e w' => e = .returned (.bool (zs.contains c)) ∧ w' = w := by
 have HC : Hid (Codes w a zs) := hc
 clear hc
 go_enter Tryz.func215, Tryz.ntmps215
 go_wp2_with fail
 refine (index_in a cap zs c w HC.out).mono ?_
 rintro e w' ⟨i, rfl, hi, rfl⟩
 have HI : Hid (decide (0 ≤ i) = zs.contains c) := hi
 clear hi
 go_wp2
 go_ret
 exact ⟨ret_bool (by rw [← HI.out]), rfl⟩
theorem impl_has (k n : Int) (a : Option Addr) (cap : Nat) (zs : List Int) (t : ByteArray) (c : Int) (w : World) (hc : Codes w a zs) (ht : t.size ≤ maxLen) :
  Calls Tryz.prog 189 #[av k n a zs.length cap t, .int .i64 c] w fun e w' => e = .returned (.bool (hasB k n zs t c)) ∧ Below w.heap.size w w' := by
 have HC : Hid (Codes w a zs) := hc
 have HT : Hid (t.size ≤ maxLen) := ht
 unfold hasB
 obtain ⟨r, hr⟩ : ∃ r, Hid (right k n zs t = r) := ⟨_, rfl⟩
 obtain ⟨d, hd⟩ : ∃ d, Hid (zs.contains c = d) := ⟨_, rfl⟩
 rw [hr.out, hd.out]
 clear hc ht
 by_cases hk : k = 3
 ·subst hk
  go_enter Tryz.func189, Tryz.ntmps189
  go_wp2_with fail
  refine (impl_right 3 n a cap zs t _ (HC.out.alloc _) HT.out).mono ?_
  rintro e w1 ⟨rfl, hB1⟩
  rw [hr.out]
  have HB : Hid (Below w.heap.size w w1) := (below_one w _).trans (hB1.mono (by simp))
  have HC1 : Hid (Codes w1 a zs) := HC.out.on HB.out
  obtain ⟨c0, c1, c2, c3, hsz⟩ := (At4.laid w 59 (.int .i64 3) (.int .i64 n) (.slice a zs.length cap) (.string t)).on hB1
  clear hB1 HC
  cases r
  ·go_wp2
   go_ret
   exact ⟨ret_bool (by simp), HB.out⟩
  ·go_wp2_with (go_at_call 215; refine (contains_in a cap zs c _ HC1.out).mono ?_; rintro e w' ⟨rfl, rfl⟩; rw [hd.out])
   go_ret
   exact ⟨ret_bool (by simp), HB.out⟩
 ·go_enter Tryz.func189, Tryz.ntmps189
  go_wp2
  go_ret
  exact ⟨ret_bool (by simp [hk]), by go_grown⟩
end Go.Proofs.YtmbhmknfipdadaaGreatDoor.ValK
