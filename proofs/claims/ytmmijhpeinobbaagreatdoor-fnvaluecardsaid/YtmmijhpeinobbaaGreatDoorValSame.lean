/- Two answers that are the same: of the model (l03Same, ValueSame) and of the program. -/
import Derived.Test.YtmmijhpeinobbaaGreatDoorValRightS
import Derived.Test.YtmmijhpeinobbaaGreatDoorValRightI
import Derived.Laws.Strings
namespace Go.Proofs.YtmmijhpeinobbaaGreatDoor.ValSa
open Go.RowKit
open ValM ValW ValS ValH ValI BigFrame

def sameL (k n : Int) (zs : List Int) (t : ByteArray) (k' n' : Int) (zs' : List Int) (t' : ByteArray) : Bool := decide (k = k' ∧ n = n' ∧ t.toList = t'.toList ∧ zs = zs')
def sameB (k n : Int) (zs : List Int) (t : ByteArray) (k' n' : Int) (zs' : List Int) (t' : ByteArray) : Bool := right k n zs t && (right k' n' zs' t' && sameL k n zs t k' n' zs' t')

theorem lists_eq {zs zs' : List Int} (hl : zs.length = zs'.length) (h : ∀ i, i < zs.length → zs.getD i 0 = zs'.getD i 0) : zs = zs' := by
  apply List.ext_getElem hl
  intro i h1 h2
  have := h i h1
  simpa [List.getD, List.getElem?_eq_getElem h1, List.getElem?_eq_getElem h2] using this
theorem sameW_L {k n : Int} {zs : List Int} {t : ByteArray} {k' n' : Int} {zs' : List Int} {t' : ByteArray} (h : right k n zs t = true) (h' : right k' n' zs' t' = true) :
    sameW k n zs t k' n' zs' t' = sameL k n zs t k' n' zs' t' := by
  have hl : zs.length ≤ 20 := by rcases kinds h with ⟨_, _, h, _⟩ | ⟨_, _, _, h, _⟩ | ⟨_, _, _, h, _⟩ | ⟨_, _, h, _⟩ | ⟨_, _, h, _⟩ <;> first | omega | exact rises_len h
  unfold sameW sameL
  rw [Bool.eq_iff_iff]
  simp only [Bool.and_eq_true, beq_iff_eq, decide_eq_true_iff]
  constructor
  · rintro ⟨a, b, c, d, e⟩
    refine ⟨a, b, e, lists_eq (by omega) fun i hi => ?_⟩
    have := List.all_eq_true.1 d i (by simp; omega)
    simpa using this
  · rintro ⟨a, b, e, rfl⟩
    exact ⟨a, b, rfl, same20_self _ _, e⟩

set_option maxRecDepth 10000 in
set_option maxHeartbeats 1000000 in
theorem same_in (k n : Int) (a : Option Addr) (cap : Nat) (zs : List Int) (t : ByteArray) (k' n' : Int) (a' : Option Addr) (cap' : Nat) (zs' : List Int) (t' : ByteArray) (w : World) (hc : Codes w a zs) (hc' : Codes w a' zs') :
    Calls Tryz.prog 42 #[av k n a zs.length cap t, av k' n' a' zs'.length cap' t'] w fun e w' => e = .returned (.bool (sameL k n zs t k' n' zs' t')) ∧ Below w.heap.size w w' := by
  have HC : Hid (Codes w a zs) := hc
  have HC' : Hid (Codes w a' zs') := hc'
  have hl := hc.1
  have hl' := hc'.1
  clear hc hc'
  obtain ⟨r, hr⟩ : ∃ r, Hid (sameL k n zs t k' n' zs' t' = r) := ⟨_, rfl⟩
  rw [hr.out]
  by_cases hk : k = k'
  case neg =>
    have hf : Hid (r = false) := show r = false by rw [← hr.out]; exact decide_eq_false fun h => hk h.1
    have q : (k == k') = false := by simp [hk]
    go_enter Tryz.func42, Tryz.ntmps42
    go_wp2
    go_ret
    refine ⟨ret_bool hf.out.symm, ?_⟩
    go_grown
  by_cases hn : n = n'
  case neg =>
    have hf : Hid (r = false) := show r = false by rw [← hr.out]; exact decide_eq_false fun h => hn h.2.1
    have q : (n == n') = false := by simp [hn]
    subst hk
    go_enter Tryz.func42, Tryz.ntmps42
    go_wp2
    go_ret
    refine ⟨ret_bool hf.out.symm, ?_⟩
    go_grown
  by_cases ht : t.toList = t'.toList
  case neg =>
    have hf : Hid (r = false) := show r = false by rw [← hr.out]; exact decide_eq_false fun h => ht h.2.2.1
    have q : (t.toList == t'.toList) = false := by simp [ht]
    subst hk hn
    go_enter Tryz.func42, Tryz.ntmps42
    go_wp2
    go_ret
    refine ⟨ret_bool hf.out.symm, ?_⟩
    go_grown
  have q : (t.toList == t'.toList) = true := by simp [ht]
  by_cases hz : zs.length = zs'.length
  case neg =>
    have hf : Hid (r = false) := show r = false by rw [← hr.out]; exact decide_eq_false fun h => hz (by rw [h.2.2.2])
    subst hk hn
    go_enter Tryz.func42, Tryz.ntmps42
    go_wp2
    go_ret
    refine ⟨ret_bool hf.out.symm, ?_⟩
    go_grown
  have HT : Hid (t.toList = t'.toList) := ht
  have HZ : Hid (zs.length = zs'.length) := hz
  subst hk hn
  generalize hlen : zs'.length = len' at *
  subst hz
  go_enter Tryz.func42, Tryz.ntmps42
  go_wp2
  go_loopw [5] (fun i wr => ∃ m : Nat, m ≤ zs.length ∧ i = .int .i64 m ∧ Hid (∀ j, j < m → zs.getD j 0 = zs'.getD j 0) ∧ Below w.heap.size w wr ∧ Hid (At4 wr w.heap.size (.int .i64 k) (.int .i64 n) (.slice a zs.length cap) (.string t)) ∧ Hid (At4 wr (w.heap.size + 1) (.int .i64 k) (.int .i64 n) (.slice a' zs.length cap') (.string t'))) (fun i _ => zs.length - (intOf i).toNat)
  case atStart =>
    refine ⟨0, Nat.zero_le _, rfl, fun j hj => absurd hj (Nat.not_lt_zero _), ?_, (At4.laid w _ _ _ _ _).on (below_one _ _), ?_⟩
    · go_grown
    · have := At4.laid (w.alloc (.cells #[.int .i64 k, .int .i64 n, .slice a zs.length cap, .string t] 25)) 25 (.int .i64 k) (.int .i64 n) (.slice a' zs.length cap') (.string t')
      rw [World.size_alloc] at this; exact this
  case round =>
    obtain ⟨m, hm, rfl, hall, hbel, H1, H2⟩ := hrel
    by_cases hlt : m < zs.length
    · obtain ⟨b, o, rfl, hb, hcs⟩ := HC.out.2 (by omega)
      obtain ⟨b', o', rfl, hb', hcs'⟩ := HC'.out.2 (by omega)
      have hcell : wr.cell? ⟨b, o + m, none⟩ = some (.int .i64 (zs.getD m 0)) := (hbel.cell hb).trans (hcs m hlt)
      have hcell' : wr.cell? ⟨b', o' + m, none⟩ = some (.int .i64 (zs'.getD m 0)) := (hbel.cell hb').trans (hcs' m (by omega))
      obtain ⟨v, hv⟩ : ∃ v, Hid (zs.getD m 0 = v) := ⟨_, rfl⟩
      obtain ⟨u, hu⟩ : ∃ u, Hid (zs'.getD m 0 = u) := ⟨_, rfl⟩
      rw [hv.out] at hcell
      rw [hu.out] at hcell'
      have HB : Hid (Below w.heap.size w wr) := hbel
      clear hcs hcs' hbel HC HC'
      obtain ⟨c0, c1, c2, c3, hsz⟩ := H1.out
      obtain ⟨d0, d1, d2, d3, hsz'⟩ := H2.out
      by_cases hvu : v = u
      · subst hvu
        clear c0 c1 c3 d0 d1 d3
        go_wp2
        go_quiet (fail)
        go_wp2
        refine ⟨⟨m + 1, by omega, by go_num, fun j hj => ?_, below_drewN HB.out _, ?_, ?_⟩, by simp [intOf]; omega⟩
        · rcases Nat.lt_succ_iff_lt_or_eq.1 hj with hj' | rfl
          · exact hall.out j hj'
          · rw [hv.out, hu.out]
        · exact H1.out.on (below_drewN (Below.refl _ _) _)
        · exact H2.out.on (below_drewN (Below.refl _ _) _)
      · have hf : Hid (r = false) := show r = false by
          rw [← hr.out]; refine decide_eq_false fun h => hvu ?_
          rw [← hv.out, ← hu.out, h.2.2.2]
        have hb : (v == u) = false := by simp [hvu]
        clear c0 c1 c3 d0 d1 d3
        go_wp2
        go_quiet (fail)
        go_wp2
        go_ret
        exact ⟨ret_bool hf.out.symm, below_drewN HB.out _⟩
    · obtain ⟨c0, c1, c2, c3, hsz⟩ := H1.out
      have hf : Hid (r = true) := show r = true by
        rw [← hr.out]; exact decide_eq_true ⟨rfl, rfl, HT.out, lists_eq hlen.symm fun i hi => hall.out i (by omega)⟩
      clear c0 c1 c3
      go_wp2
      go_ret
      exact ⟨ret_bool hf.out.symm, hbel⟩

/-! ValueSame of the model -/
theorem spec_same (k n : Int) (a : Option Addr) (cap : Nat) (zs : List Int) (t : ByteArray) (k' n' : Int) (a' : Option Addr) (cap' : Nat) (zs' : List Int) (t' : ByteArray) (w : World) (hc : Codes w a zs) (hc' : Codes w a' zs') (ht : t.size ≤ maxLen) (ht' : t'.size ≤ maxLen) :
    Calls Tryz.prog 15 #[av k n a zs.length cap t, av k' n' a' zs'.length cap' t'] w fun e w' => e = .returned (.bool (sameB k n zs t k' n' zs' t')) ∧ Below w.heap.size w w' := by
  have HC : Hid (Codes w a zs) := hc
  have HC' : Hid (Codes w a' zs') := hc'
  have HT : Hid (t.size ≤ maxLen) := ht
  have HT' : Hid (t'.size ≤ maxLen) := ht'
  clear hc hc' ht ht'
  obtain ⟨r, hr⟩ : ∃ r, Hid (sameB k n zs t k' n' zs' t' = r) := ⟨_, rfl⟩
  obtain ⟨x, hx⟩ : ∃ x, Hid (right k n zs t = x) := ⟨_, rfl⟩
  obtain ⟨y, hy⟩ : ∃ y, Hid (right k' n' zs' t' = y) := ⟨_, rfl⟩
  obtain ⟨z, hz⟩ : ∃ z, Hid (sameL k n zs t k' n' zs' t' = z) := ⟨_, rfl⟩
  have hxyz : Hid (r = (x && (y && z))) := by show _ = _; rw [← hr.out, ← hx.out, ← hy.out, ← hz.out]; rfl
  rw [hr.out]
  go_enter Tryz.func15, Tryz.ntmps15
  go_wp2_with fail
  refine (spec_right k n a cap zs t _ ((HC.out.alloc _).alloc _) HT.out).mono ?_
  rintro e w1 ⟨rfl, hB1⟩
  rw [hx.out]
  have HA : Hid (At4 w1 w.heap.size (.int .i64 k) (.int .i64 n) (.slice a zs.length cap) (.string t)) := ((At4.laid w _ _ _ _ _).on (below_one _ _)).on hB1
  have HA' : Hid (At4 w1 (w.heap.size + 1) (.int .i64 k') (.int .i64 n') (.slice a' zs'.length cap') (.string t')) := by
    show At4 _ _ _ _ _ _
    refine At4.on ?_ hB1
    have := At4.laid (w.alloc (.cells #[.int .i64 k, .int .i64 n, .slice a zs.length cap, .string t] 25)) 25 (.int .i64 k') (.int .i64 n') (.slice a' zs'.length cap') (.string t')
    rw [World.size_alloc] at this; exact this
  have HB1 : Hid (Below w.heap.size w w1) := ((below_one w _).trans ((below_one _ _).mono (by simp))).trans (hB1.mono (by simp; omega))
  clear hB1
  cases x with
  | false =>
    go_wp2
    go_ret
    exact ⟨ret_bool hxyz.out.symm, HB1.out⟩
  | true =>
    obtain ⟨c0, c1, c2, c3, hsz⟩ := HA'.out
    go_wp2_with fail
    refine (spec_right k' n' a' cap' zs' t' _ (HC'.out.on HB1.out) HT'.out).mono ?_
    rintro e w2 ⟨rfl, hB2⟩
    rw [hy.out]
    have HA2 : Hid (At4 w2 w.heap.size (.int .i64 k) (.int .i64 n) (.slice a zs.length cap) (.string t)) := HA.out.on hB2
    have HA2' : Hid (At4 w2 (w.heap.size + 1) (.int .i64 k') (.int .i64 n') (.slice a' zs'.length cap') (.string t')) := HA'.out.on hB2
    have HB2 : Hid (Below w.heap.size w w2) := HB1.out.trans (hB2.mono HB1.out.size)
    clear hB2 c0 c1 c2 c3 hsz HA HA' HB1
    cases y with
    | false =>
      go_wp2
      go_ret
      exact ⟨ret_bool hxyz.out.symm, HB2.out⟩
    | true =>
      obtain ⟨c0, c1, c2, c3, hsz⟩ := HA2.out
      obtain ⟨d0, d1, d2, d3, hsz'⟩ := HA2'.out
      go_wp2_with fail
      refine (same_in k n a cap zs t k' n' a' cap' zs' t' _ (HC.out.on HB2.out) (HC'.out.on HB2.out)).mono ?_
      rintro e w3 ⟨rfl, hB3⟩
      rw [hz.out]
      have HB3 : Hid (Below w.heap.size w w3) := HB2.out.trans (hB3.mono HB2.out.size)
      clear hB3 c0 c1 c2 c3 hsz d0 d1 d2 d3 hsz'
      go_wp2
      go_ret
      exact ⟨ret_bool hxyz.out.symm, HB3.out⟩

/-! ValueSame of the program -/
set_option maxHeartbeats 1000000 in
theorem impl_same (k n : Int) (a : Option Addr) (cap : Nat) (zs : List Int) (t : ByteArray) (k' n' : Int) (a' : Option Addr) (cap' : Nat) (zs' : List Int) (t' : ByteArray) (w : World) (hc : Codes w a zs) (hc' : Codes w a' zs') (ht : t.size ≤ maxLen) (ht' : t'.size ≤ maxLen) :
    Calls Tryz.prog 14 #[av k n a zs.length cap t, av k' n' a' zs'.length cap' t'] w fun e w' => e = .returned (.bool (sameB k n zs t k' n' zs' t')) ∧ Below w.heap.size w w' := by
  have HT : Hid (t.size ≤ maxLen) := ht
  have HT' : Hid (t'.size ≤ maxLen) := ht'
  obtain ⟨r, hr⟩ : ∃ r, Hid (sameB k n zs t k' n' zs' t' = r) := ⟨_, rfl⟩
  obtain ⟨x, hx⟩ : ∃ x, Hid (right k n zs t = x) := ⟨_, rfl⟩
  obtain ⟨y, hy⟩ : ∃ y, Hid (right k' n' zs' t' = y) := ⟨_, rfl⟩
  have hxyz : Hid (r = (x && (y && sameL k n zs t k' n' zs' t'))) := by show _ = _; rw [← hr.out, ← hx.out, ← hy.out]; rfl
  rw [hr.out]
  have HW : Hid (Below w.heap.size w ((w.alloc (.cells #[.int .i64 k, .int .i64 n, .slice a zs.length cap, .string t] 25)).alloc (.cells #[.int .i64 k', .int .i64 n', .slice a' zs'.length cap', .string t'] 25))) := (below_one w _).trans ((below_one _ _).mono (by simp))
  have HA : Hid (At4 ((w.alloc (.cells #[.int .i64 k, .int .i64 n, .slice a zs.length cap, .string t] 25)).alloc (.cells #[.int .i64 k', .int .i64 n', .slice a' zs'.length cap', .string t'] 25)) w.heap.size (.int .i64 k) (.int .i64 n) (.slice a zs.length cap) (.string t)) := (At4.laid w _ _ _ _ _).on (below_one _ _)
  have HA' : Hid (At4 ((w.alloc (.cells #[.int .i64 k, .int .i64 n, .slice a zs.length cap, .string t] 25)).alloc (.cells #[.int .i64 k', .int .i64 n', .slice a' zs'.length cap', .string t'] 25)) (w.heap.size + 1) (.int .i64 k') (.int .i64 n') (.slice a' zs'.length cap') (.string t')) := by
    show At4 _ _ _ _ _ _
    have := At4.laid (w.alloc (.cells #[.int .i64 k, .int .i64 n, .slice a zs.length cap, .string t] 25)) 25 (.int .i64 k') (.int .i64 n') (.slice a' zs'.length cap') (.string t')
    rw [World.size_alloc] at this; exact this
  have HC : Hid (Codes ((w.alloc (.cells #[.int .i64 k, .int .i64 n, .slice a zs.length cap, .string t] 25)).alloc (.cells #[.int .i64 k', .int .i64 n', .slice a' zs'.length cap', .string t'] 25)) a zs) := hc.on HW.out
  have HC' : Hid (Codes ((w.alloc (.cells #[.int .i64 k, .int .i64 n, .slice a zs.length cap, .string t] 25)).alloc (.cells #[.int .i64 k', .int .i64 n', .slice a' zs'.length cap', .string t'] 25)) a' zs') := hc'.on HW.out
  clear hc hc' ht ht'
  go_enter Tryz.func14, Tryz.ntmps14
  go_wp2_with fail
  generalize (w.alloc (.cells #[.int .i64 k, .int .i64 n, .slice a zs.length cap, .string t] 25)).alloc (.cells #[.int .i64 k', .int .i64 n', .slice a' zs'.length cap', .string t'] 25) = W1 at *
  refine wp_region_quiet (C := fun W => Below W1.heap.size W1 W) (by kernel_rfl) (by kernel_rfl) (Below.refl _ _).drew ?_
  show wpQuiet _ _ _ _ [_, _, _, _, _, _, _, _, _, _, _, _, _, _] _
  go_big_quiet_want
  refine quiet_load4 2 w.heap.size (.int .i64 k) (.int .i64 n) (.slice a zs.length cap) (.string t) rfl rfl (fun W hW => (HA.out.on hW)) ?_
  simp only [Act.put, List.setIfInBounds_toArray, List.set_cons_succ, List.set_cons_zero]
  go_big_quiet_on
  go_big_quiet_want
  refine quiet_call 18 #[av k n a zs.length cap t] (.bool x) (fun W => by kernel_rfl) (fun W hW => (impl_right k n a cap zs t W (HC.out.on hW) HT.out).mono fun e w' h => ⟨by rw [h.1, hx.out], hW.trans (h.2.mono hW.size)⟩) ?_
  simp only [Act.put, List.setIfInBounds_toArray, List.set_cons_succ, List.set_cons_zero]
  go_big_quiet_on
  go_big_quiet_want
  go_big_quiet_op
  first | go_big_quiet_on | (refine ⟨_, fun _ _ => rfl, ?_⟩; go_big_quiet_on)
  cases x with
  | false =>
    go_big_quiet_skip
    go_big_quiet_skip
    go_big_quiet_want
    go_big_quiet_op
    first | go_big_quiet_on | (refine ⟨_, fun _ _ => rfl, ?_⟩; go_big_quiet_on)
    go_big_quiet_want
    go_big_quiet_op
    first | go_big_quiet_on | (refine ⟨_, fun _ _ => rfl, ?_⟩; go_big_quiet_on)
    go_big_quiet_skip
    go_big_quiet_skip
    go_big_quiet_skip
    go_big_quiet_skip
    go_big_quiet_skip
    go_big_quiet_want
    go_big_quiet_op
    first | go_big_quiet_on | (refine ⟨_, fun _ _ => rfl, ?_⟩; go_big_quiet_on)
    go_big_quiet_want
    go_big_quiet_op
    first | go_big_quiet_on | (refine ⟨_, fun _ _ => rfl, ?_⟩; go_big_quiet_on)
    refine wpQuiet_nil ?_
    intro w2 hB2
    go_wp2
    go_ret
    exact ⟨ret_bool hxyz.out.symm, HW.out.trans (hB2.mono HW.out.size)⟩
  | true =>
    go_big_quiet_want
    refine quiet_load4 3 (w.heap.size + 1) (.int .i64 k') (.int .i64 n') (.slice a' zs'.length cap') (.string t') rfl rfl (fun W hW => (HA'.out.on hW)) ?_
    simp only [Act.put, List.setIfInBounds_toArray, List.set_cons_succ, List.set_cons_zero]
    go_big_quiet_on
    go_big_quiet_want
    refine quiet_call 18 #[av k' n' a' zs'.length cap' t'] (.bool y) (fun W => by kernel_rfl) (fun W hW => (impl_right k' n' a' cap' zs' t' W (HC'.out.on hW) HT'.out).mono fun e w' h => ⟨by rw [h.1, hy.out], hW.trans (h.2.mono hW.size)⟩) ?_
    simp only [Act.put, List.setIfInBounds_toArray, List.set_cons_succ, List.set_cons_zero]
    go_big_quiet_on
    go_big_quiet_want
    go_big_quiet_op
    first | go_big_quiet_on | (refine ⟨_, fun _ _ => rfl, ?_⟩; go_big_quiet_on)
    go_big_quiet_want
    go_big_quiet_op
    first | go_big_quiet_on | (refine ⟨_, fun _ _ => rfl, ?_⟩; go_big_quiet_on)
    cases y with
    | false =>
      go_big_quiet_skip
      go_big_quiet_skip
      go_big_quiet_skip
      go_big_quiet_skip
      go_big_quiet_skip
      go_big_quiet_want
      go_big_quiet_op
      first | go_big_quiet_on | (refine ⟨_, fun _ _ => rfl, ?_⟩; go_big_quiet_on)
      go_big_quiet_want
      go_big_quiet_op
      first | go_big_quiet_on | (refine ⟨_, fun _ _ => rfl, ?_⟩; go_big_quiet_on)
      refine wpQuiet_nil ?_
      intro w2 hB2
      go_wp2
      go_ret
      exact ⟨ret_bool hxyz.out.symm, HW.out.trans (hB2.mono HW.out.size)⟩
    | true =>
      go_big_quiet_want
      refine quiet_load4 2 w.heap.size (.int .i64 k) (.int .i64 n) (.slice a zs.length cap) (.string t) rfl rfl (fun W hW => (HA.out.on hW)) ?_
      simp only [Act.put, List.setIfInBounds_toArray, List.set_cons_succ, List.set_cons_zero]
      go_big_quiet_on
      go_big_quiet_want
      refine quiet_call 41 #[av k n a zs.length cap t] (.agg (wholeL k n zs t).toArray) (fun W => by kernel_rfl) (fun W hW => (whole_in k n a cap zs t W (HC.out.on hW)).mono fun e w' h => ⟨h.1, hW.trans (h.2.mono hW.size)⟩) ?_
      simp only [Act.put, List.setIfInBounds_toArray, List.set_cons_succ, List.set_cons_zero]
      go_big_quiet_on
      go_big_quiet_want
      refine quiet_load4 3 (w.heap.size + 1) (.int .i64 k') (.int .i64 n') (.slice a' zs'.length cap') (.string t') rfl rfl (fun W hW => (HA'.out.on hW)) ?_
      simp only [Act.put, List.setIfInBounds_toArray, List.set_cons_succ, List.set_cons_zero]
      go_big_quiet_on
      go_big_quiet_want
      refine quiet_call 41 #[av k' n' a' zs'.length cap' t'] (.agg (wholeL k' n' zs' t').toArray) (fun W => by kernel_rfl) (fun W hW => (whole_in k' n' a' cap' zs' t' W (HC'.out.on hW)).mono fun e w' h => ⟨h.1, hW.trans (h.2.mono hW.size)⟩) ?_
      simp only [Act.put, List.setIfInBounds_toArray, List.set_cons_succ, List.set_cons_zero]
      go_big_quiet_on
      go_big_quiet_want
      refine quiet_eq 13 15 k n zs t k' n' zs' t' rfl rfl rfl ?_
      simp only [Act.put, List.setIfInBounds_toArray, List.set_cons_succ, List.set_cons_zero]
      go_big_quiet_on
      go_big_quiet_want
      go_big_quiet_op
      first | go_big_quiet_on | (refine ⟨_, fun _ _ => rfl, ?_⟩; go_big_quiet_on)
      go_big_quiet_want
      go_big_quiet_op
      first | go_big_quiet_on | (refine ⟨_, fun _ _ => rfl, ?_⟩; go_big_quiet_on)
      refine wpQuiet_nil ?_
      intro w2 hB2
      go_wp2
      go_ret
      exact ⟨ret_bool (by rw [hxyz.out, sameW_L hx.out hy.out]; rfl), HW.out.trans (hB2.mono HW.out.size)⟩
end Go.Proofs.YtmmijhpeinobbaaGreatDoor.ValSa
