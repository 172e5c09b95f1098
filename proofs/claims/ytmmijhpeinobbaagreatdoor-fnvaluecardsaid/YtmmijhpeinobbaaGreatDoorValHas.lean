/- HasCode: what the model and the program say. -/
import Derived.Test.YtmmijhpeinobbaaGreatDoorValMore
namespace Go.Proofs.YtmmijhpeinobbaaGreatDoor.ValK
open Go.RowKit
open ValM ValW ValS ValI

theorem has_yes {zs : List Int} {c : Int} {k : Nat} (hk : k < zs.length) (h : zs.getD k 0 = c) : zs.contains c = true := by
  rw [List.contains_iff_mem, ← h]
  have : zs.getD k 0 = zs[k] := by simp [List.getD, List.getElem?_eq_getElem hk]
  rw [this]; exact List.getElem_mem hk
theorem has_no {zs : List Int} {c : Int} (h : ∀ k, k < zs.length → ¬ zs.getD k 0 = c) : zs.contains c = false := by
  rw [Bool.eq_false_iff]
  intro hc
  obtain ⟨k, hk, e⟩ := List.getElem_of_mem (List.contains_iff_mem.1 hc)
  exact h k hk (by simp [List.getD, List.getElem?_eq_getElem hk, e])

set_option maxRecDepth 10000 in
set_option maxHeartbeats 400000 in
theorem spec_hs (k n : Int) (a : Option Addr) (cap : Nat) (zs : List Int) (t : ByteArray) (c : Int) (w : World) (hc : Codes w a zs) :
    Calls Tryz.prog 44 #[av k n a zs.length cap t, .int .i64 c] w fun e w' => e = .returned (.bool (zs.contains c)) ∧ Below w.heap.size w w' := by
  obtain ⟨hl, hc⟩ := hc
  have HC : Hid (0 < zs.length → ∃ b o, a = some ⟨b, o, none⟩ ∧ b < w.heap.size ∧ ∀ i, i < zs.length → w.cell? ⟨b, o + i, none⟩ = some (.int .i64 (zs.getD i 0))) := hc
  obtain ⟨r, hr⟩ : ∃ r, Hid (zs.contains c = r) := ⟨_, rfl⟩
  rw [hr.out]
  clear hc
  go_enter Tryz.func44, Tryz.ntmps44
  go_wp2
  go_loop [5] (fun i => ∃ j : Nat, j ≤ zs.length ∧ i = .int .i64 j ∧ Hid (∀ i, i < j → ¬ zs.getD i 0 = c)) (fun i => zs.length - (intOf i).toNat)
  case atStart => exact ⟨0, Nat.zero_le _, rfl, fun j hj => absurd hj (Nat.not_lt_zero _)⟩
  case round =>
    obtain ⟨j, hj, rfl, hall⟩ := hrel
    by_cases hlt : j < zs.length
    · obtain ⟨b, o, rfl, hb, hcs⟩ := HC.out (by omega)
      have hcell : (w.alloc (.cells #[.int .i64 k, .int .i64 n, .slice (some ⟨b, o, none⟩) zs.length cap, .string t] 25)).cell? ⟨b, o + j, none⟩ = some (.int .i64 (zs.getD j 0)) := by
        rw [World.cell?_alloc_lt _ _ ⟨b, o + j, none⟩ hb]; exact hcs j hlt
      obtain ⟨v, hv⟩ : ∃ v, Hid (zs.getD j 0 = v) := ⟨_, rfl⟩
      rw [hv.out] at hcell
      clear hcs
      by_cases h1 : v = c
      · have hy : Hid (r = true) := hr.out.symm.trans (has_yes hlt (hv.out.trans h1))
        have h2 : (v == c) = true := by simp [h1]
        clear h1
        go_wp2
        go_ret
        exact ⟨ret_bool hy.out.symm, by go_grown⟩
      · have h2 : (v == c) = false := by simp [h1]
        have hn : Hid (¬ zs.getD j 0 = c) := by show ¬ _; rw [hv.out]; exact h1
        clear h1
        go_wp2
        refine ⟨⟨j + 1, by omega, by go_num, fun i hi => ?_⟩, by simp [intOf]; omega⟩
        rcases Nat.lt_succ_iff_lt_or_eq.1 hi with hi' | rfl
        · exact hall.out i hi'
        · exact hn.out
    · have hy : Hid (r = false) := hr.out.symm.trans (has_no (fun i hi => hall.out i (by omega)))
      go_wp2
      go_ret
      exact ⟨ret_bool hy.out.symm, by go_grown⟩

set_option maxRecDepth 10000 in
set_option maxHeartbeats 400000 in
theorem index_in (a : Option Addr) (cap : Nat) (zs : List Int) (c : Int) (w : World) (hc : Codes w a zs) :
    Calls Tryz.prog 64 #[.slice a zs.length cap, .int .i64 c] w fun e w' => ∃ i : Int, e = .returned (.int .i64 i) ∧ decide (0 ≤ i) = zs.contains c ∧ w' = w := by
  obtain ⟨hl, hc⟩ := hc
  have HC : Hid (0 < zs.length → ∃ b o, a = some ⟨b, o, none⟩ ∧ b < w.heap.size ∧ ∀ i, i < zs.length → w.cell? ⟨b, o + i, none⟩ = some (.int .i64 (zs.getD i 0))) := hc
  obtain ⟨r, hr⟩ : ∃ r, Hid (zs.contains c = r) := ⟨_, rfl⟩
  rw [hr.out]
  clear hc
  go_enter Tryz.func64, Tryz.ntmps64
  go_wp2
  go_loop [5, 8] (fun _ i => ∃ j : Nat, j ≤ zs.length ∧ i = .int .i64 j ∧ Hid (∀ i, i < j → ¬ zs.getD i 0 = c)) (fun _ i => zs.length - (intOf i).toNat)
  case atStart => exact ⟨0, Nat.zero_le _, rfl, fun j hj => absurd hj (Nat.not_lt_zero _)⟩
  case round =>
    obtain ⟨j, hj, rfl, hall⟩ := hrel
    by_cases hlt : j < zs.length
    · obtain ⟨b, o, rfl, hb, hcs⟩ := HC.out (by omega)
      have hcell := hcs j hlt
      obtain ⟨v, hv⟩ : ∃ v, Hid (zs.getD j 0 = v) := ⟨_, rfl⟩
      rw [hv.out] at hcell
      clear hcs
      by_cases h1 : c = v
      · have hy : Hid (r = true) := hr.out.symm.trans (has_yes hlt (hv.out.trans h1.symm))
        have h2 : (c == v) = true := by simp [h1]
        clear h1
        go_wp2
        go_ret
        exact ⟨_, rfl, by rw [hy.out]; simp, rfl⟩
      · have h2 : (c == v) = false := by simp [h1]
        have hn : Hid (¬ zs.getD j 0 = c) := by show ¬ _; rw [hv.out]; exact fun e => h1 e.symm
        clear h1
        go_wp2
        refine ⟨⟨j + 1, by omega, by go_num, fun i hi => ?_⟩, by simp [intOf]; omega⟩
        rcases Nat.lt_succ_iff_lt_or_eq.1 hi with hi' | rfl
        · exact hall.out i hi'
        · exact hn.out
    · have hy : Hid (r = false) := hr.out.symm.trans (has_no (fun i hi => hall.out i (by omega)))
      go_wp2
      go_ret
      exact ⟨_, rfl, by rw [hy.out]; rfl, rfl⟩
theorem contains_in (a : Option Addr) (cap : Nat) (zs : List Int) (c : Int) (w : World) (hc : Codes w a zs) :
    Calls Tryz.prog 43 #[.slice a zs.length cap, .int .i64 c] w fun e w' => e = .returned (.bool (zs.contains c)) ∧ w' = w := by
  have HC : Hid (Codes w a zs) := hc
  clear hc
  go_enter Tryz.func43, Tryz.ntmps43
  go_wp2_with fail
  refine (index_in a cap zs c w HC.out).mono ?_
  rintro e w' ⟨i, rfl, hi, rfl⟩
  have HI : Hid (decide (0 ≤ i) = zs.contains c) := hi
  clear hi
  go_wp2
  go_ret
  exact ⟨ret_bool (by rw [← HI.out]), rfl⟩

theorem spec_has (k n : Int) (a : Option Addr) (cap : Nat) (zs : List Int) (t : ByteArray) (c : Int) (w : World) (hc : Codes w a zs) (ht : t.size ≤ maxLen) :
    Calls Tryz.prog 17 #[av k n a zs.length cap t, .int .i64 c] w fun e w' => e = .returned (.bool (hasB k n zs t c)) ∧ Below w.heap.size w w' := by
  have HC : Hid (Codes w a zs) := hc
  have HT : Hid (t.size ≤ maxLen) := ht
  unfold hasB
  obtain ⟨r, hr⟩ : ∃ r, Hid (right k n zs t = r) := ⟨_, rfl⟩
  obtain ⟨d, hd⟩ : ∃ d, Hid (zs.contains c = d) := ⟨_, rfl⟩
  rw [hr.out, hd.out]
  clear hc ht
  go_enter Tryz.func17, Tryz.ntmps17
  go_wp2_with fail
  refine (spec_right k n a cap zs t _ (HC.out.alloc _) HT.out).mono ?_
  rintro e w1 ⟨rfl, hB1⟩
  rw [hr.out]
  have HB : Hid (Below w.heap.size w w1) := (below_one w _).trans (hB1.mono (by simp))
  have HC1 : Hid (Codes w1 a zs) := HC.out.on HB.out
  obtain ⟨c0, c1, c2, c3, hsz⟩ := (At4.laid w 25 (.int .i64 k) (.int .i64 n) (.slice a zs.length cap) (.string t)).on hB1
  clear hB1 HC
  cases r
  · go_wp2
    go_ret
    exact ⟨rfl, HB.out⟩
  by_cases hk : k = 3
  · subst hk
    go_wp2_with fail
    refine (spec_hs 3 n a cap zs t c _ HC1.out).mono ?_
    rintro e w2 ⟨rfl, hB2⟩
    rw [hd.out]
    have HB2 : Hid (Below w.heap.size w w2) := HB.out.trans (hB2.mono HB.out.size)
    clear hB2 c0 c1 c2 c3
    go_wp2
    go_ret
    exact ⟨ret_bool (by simp), HB2.out⟩
  · go_wp2
    go_ret
    exact ⟨ret_bool (by simp [hk]), HB.out⟩
theorem impl_has (k n : Int) (a : Option Addr) (cap : Nat) (zs : List Int) (t : ByteArray) (c : Int) (w : World) (hc : Codes w a zs) (ht : t.size ≤ maxLen) :
    Calls Tryz.prog 16 #[av k n a zs.length cap t, .int .i64 c] w fun e w' => e = .returned (.bool (hasB k n zs t c)) ∧ Below w.heap.size w w' := by
  have HC : Hid (Codes w a zs) := hc
  have HT : Hid (t.size ≤ maxLen) := ht
  unfold hasB
  obtain ⟨r, hr⟩ : ∃ r, Hid (right k n zs t = r) := ⟨_, rfl⟩
  obtain ⟨d, hd⟩ : ∃ d, Hid (zs.contains c = d) := ⟨_, rfl⟩
  rw [hr.out, hd.out]
  clear hc ht
  by_cases hk : k = 3
  · subst hk
    go_enter Tryz.func16, Tryz.ntmps16
    go_wp2_with fail
    refine (impl_right 3 n a cap zs t _ (HC.out.alloc _) HT.out).mono ?_
    rintro e w1 ⟨rfl, hB1⟩
    rw [hr.out]
    have HB : Hid (Below w.heap.size w w1) := (below_one w _).trans (hB1.mono (by simp))
    have HC1 : Hid (Codes w1 a zs) := HC.out.on HB.out
    obtain ⟨c0, c1, c2, c3, hsz⟩ := (At4.laid w 25 (.int .i64 3) (.int .i64 n) (.slice a zs.length cap) (.string t)).on hB1
    clear hB1 HC
    cases r
    · go_wp2
      go_ret
      exact ⟨ret_bool (by simp), HB.out⟩
    · go_wp2_with (go_at_call 43; refine (contains_in a cap zs c _ HC1.out).mono ?_; rintro e w' ⟨rfl, rfl⟩; rw [hd.out])
      go_ret
      exact ⟨ret_bool (by simp), HB.out⟩
  · go_enter Tryz.func16, Tryz.ntmps16
    go_wp2
    go_ret
    exact ⟨ret_bool (by simp [hk]), by go_grown⟩
end Go.Proofs.YtmmijhpeinobbaaGreatDoor.ValK
