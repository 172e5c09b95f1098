/- Texts of ours, laid together. -/
import Derived.Test.YtmbhmknfipdadaaGreatDoorBd24
namespace Go.Proofs.YtmbhmknfipdadaaGreatDoor.ItmI
open Go.RowKit
open PrtW PrtM NameW ItmW ValM ItmM
open PrtI (EnvS between_any impl_truth impl_right)
open ItmS (At8 At8.laid below_one)
set_option maxRecDepth 10000 in
set_option maxHeartbeats 12800000 in
theorem item_D (j : Nat) (hk : 1 ≤ j ∧ j ≤ 6) (s : ByteArray) (ty lo hi : Int) (t : ByteArray) (a : Option Addr) (cap : Nat) (ps : List Pt) (hd : Bool) (w : World) (hP : Parts w a ps) (hcap : ps.length ≤ cap) (hs : s.size ≤ maxLen) (ht : t.size ≤ maxLen) (hE : EnvI w) (e1 : (ty == 0) = true) (e2 : (lo == 0) = true) (hr : asF (namedO j) (nameB s) s.toList.isEmpty = true) :
  Calls Tryz.prog 117 #[.agg #[.int .i64 j, .string s, .int .i64 ty, .int .i64 lo, .int .i64 hi, .string t, .slice a ps.length cap, .bool hd]] w fun e w' => e = .returned (.bool (tabI j s ty lo hi t ps hd)) ∧ Below w.heap.size w w' := by
 have HP := hid hP
 have HS := hid hs
 have HT := hid ht
 have HE := hid hE
 have hpl := hP.1
 clear hP hs ht hE
 have hin : Hid (inB (j : Int) 1 6 = true) := decide_eq_true (by omega)
 have hg := HE.out.2.1
 have hj7 : j < 7 := by omega
 obtain ⟨g0, g1, g2, g3, g4⟩ := HE.out.2.2 j hj7
 unfold tabI
 simp only [hr, e1, e2, Bool.true_and]
 generalize namedO j = o1 at *
 generalize typedO j = o2 at *
 generalize saidO j = o3 at *
 generalize hardO j = o4 at *
 generalize tellsO j = o5 at *
 obtain ⟨v1, h1⟩ : ∃ v, Hid (nameB s = v) := ⟨_, rfl⟩
 obtain ⟨v2, h2⟩ : ∃ v, Hid (rangeB ty lo hi = v) := ⟨_, rfl⟩
 obtain ⟨v3, h3⟩ : ∃ v, Hid (labelB t = v) := ⟨_, rfl⟩
 obtain ⟨v4, h4⟩ : ∃ v, Hid (tellsI ps = v) := ⟨_, rfl⟩
 obtain ⟨es, hes⟩ : ∃ v, s.toList.isEmpty = v := ⟨_, rfl⟩
 obtain ⟨et, het⟩ : ∃ v, t.toList.isEmpty = v := ⟨_, rfl⟩
 obtain ⟨ez, hez⟩ : ∃ v, (((ps.length : Nat) : Int) == 0) = v := ⟨_, rfl⟩
 obtain ⟨et5, het5⟩ : ∃ v, (o5 != 0) = v := ⟨_, rfl⟩
 obtain ⟨e45, he45⟩ : ∃ v, (v4 == o5) = v := ⟨_, rfl⟩
 rw [h2.out, h3.out, h4.out, het, hez, het5, he45]
 have hr1 : Hid (asF o1 v1 es = true) := by show _ = _; rw [← hr, h1.out, hes]
 obtain ⟨r2, hr2⟩ : ∃ v, Hid (asF o2 v2 (hi == 0) = v) := ⟨_, rfl⟩
 obtain ⟨r3, hr3⟩ : ∃ v, Hid (asF o3 v3 et = v) := ⟨_, rfl⟩
 obtain ⟨r4, hr4⟩ : ∃ v, Hid (asF et5 e45 ez = v) := ⟨_, rfl⟩
 have HW := hid (Two.laid w 57 179 j s ty lo hi t a ps.length cap hd o1 o2 o3 o4 o5)
 rw [hr2.out, hr3.out, hr4.out]
 cases r2
 case false =>
  go_enter Tryz.func117, Tryz.ntmps117
  go_wp2_with (first | (go_at_call 127; refine (between_any _ _ _ _).mono ?_; rintro e w' ⟨rfl, rfl⟩; rw [hin.out]))
  have hT := HW.out
  obtain ⟨W0, hW0⟩ : ∃ W0, Hid ((w.alloc (.cells #[.int .i64 j, .string s, .int .i64 ty, .int .i64 lo, .int .i64 hi, .string t, .slice a ps.length cap, .bool hd] 57)).alloc (.cells #[.bool o1, .bool o2, .bool o3, .bool o4, .int .i64 o5] 179) = W0) := ⟨_, rfl⟩
  rw [hW0.out] at hT ⊢
  have h0 : Two w W0.drew j s ty lo hi t a ps.length cap hd o1 o2 o3 o4 o5 := hT.on (Below.refl _ _).drew
  clear hT hW0 g0 g1 g2 g3 g4 HW
  refine wp_region_held_drew (S := (fun w' => Two w w' j s ty lo hi t a ps.length cap hd o1 o2 o3 o4 o5 ∧ (w'.cell? ⟨w.heap.size, 0, none⟩ = some (.int .i64 j) ∧ w'.cell? ⟨w.heap.size, 1, none⟩ = some (.string s) ∧ w'.cell? ⟨w.heap.size, 2, none⟩ = some (.int .i64 ty) ∧ w'.cell? ⟨w.heap.size, 3, none⟩ = some (.int .i64 lo) ∧ w'.cell? ⟨w.heap.size, 4, none⟩ = some (.int .i64 hi) ∧ w'.cell? ⟨w.heap.size, 5, none⟩ = some (.string t) ∧ w'.cell? ⟨w.heap.size, 6, none⟩ = some (.slice a ps.length cap) ∧ w'.cell? ⟨w.heap.size, 7, none⟩ = some (.bool hd)) ∧ (w'.cell? ⟨w.heap.size + 1, 0, none⟩ = some (.bool o1) ∧ w'.cell? ⟨w.heap.size + 1, 1, none⟩ = some (.bool o2) ∧ w'.cell? ⟨w.heap.size + 1, 2, none⟩ = some (.bool o3) ∧ w'.cell? ⟨w.heap.size + 1, 3, none⟩ = some (.bool o4) ∧ w'.cell? ⟨w.heap.size + 1, 4, none⟩ = some (.int .i64 o5)))) (by kernel_rfl) ?_ (fun hHeld => ?_)
  ·(try dsimp only) <;> (first | exact keepT hN | exact keepT h0)
  refine tk 0 (some 12) rfl hHeld ?_; (try simp only [Act.put, pA, pB, pC]); refine tk 1 (some 13) rfl hHeld ?_; (try simp only [Act.put, pA, pB, pC]); refine tk 2 (some 14) rfl hHeld ?_; (try simp only [Act.put, pA, pB, pC]); refine tk 3 (some 15) rfl hHeld ?_; (try simp only [Act.put, pA, pB, pC]); refine tk 5 (some 17) rfl hHeld ?_; (try simp only [Act.put, pA, pB, pC]); refine tk 6 (some 18) rfl hHeld ?_; (try simp only [Act.put, pA, pB, pC]); refine tk 7 (some 19) rfl hHeld ?_; (try simp only [Act.put, pA, pB, pC])
  refine wpAnyH_ready (rs := [4]) (by kernel_rfl) (by simp) ?_
  refine AllReadyH.cons rfl (fun K hK => ?_) AllReadyH.nil
  go_simp
  go_at_call 91
  have hp := hHeld.1
  refine (impl_name s _ HS.out).mono ?_
  rintro e w' ⟨rfl, rfl⟩
  rw [h1.out]
  have hN := hp
  clear hp
  (try go_wp2_with fail)
  refine hK.out _ _ ?_ (fun hHeld2 => ?_)
  ·(try dsimp only) <;> (first | exact keepT hN | exact keepT h0)
  clear hK K hHeld
  have hHeld := hHeld2
  clear hHeld2
  (try simp only [Act.put, pA, pB, pC])
  refine wpAnyH_ready (rs := [8]) (by kernel_rfl) (by simp) ?_
  refine AllReadyH.cons rfl (fun K hK => ?_) AllReadyH.nil
  go_simp
  go_at_call 137
  have hp := hHeld.1
  refine (as_for _ _ _ _).mono ?_
  rintro e w' ⟨rfl, rfl⟩
  (first | rw [hr1.out] | rw [hr2.out] | rw [hr3.out] | rw [hr4.out])
  have hN := hp
  clear hp
  (try go_wp2_with fail)
  refine hK.out _ _ ?_ (fun hHeld2 => ?_)
  ·(try dsimp only) <;> (first | exact keepT hN | exact keepT h0)
  clear hK K hHeld
  have hHeld := hHeld2
  clear hHeld2
  (try simp only [Act.put, pA, pB, pC]); refine tk 9 (some 21) rfl hHeld ?_; (try simp only [Act.put, pA, pB, pC]); refine tk 10 (some 22) rfl hHeld ?_; (try simp only [Act.put, pA, pB, pC]); refine tk 11 (some 23) rfl hHeld ?_; (try simp only [Act.put, pA, pB, pC]); refine tk 12 (some 24) rfl hHeld ?_; (try simp only [Act.put, pA, pB, pC]); refine tk 14 (some 26) rfl hHeld ?_; (try simp only [Act.put, pA, pB, pC]); refine tk 15 (some 27) rfl hHeld ?_; (try simp only [Act.put, pA, pB, pC]); refine tk 16 (some 28) rfl hHeld ?_; (try simp only [Act.put, pA, pB, pC])
  refine wpAnyH_ready (rs := [13]) (by kernel_rfl) (by simp) ?_
  refine AllReadyH.cons rfl (fun K hK => ?_) AllReadyH.nil
  go_simp
  go_at_call 138
  have hp := hHeld.1
  refine (impl_bounds j s ty lo hi t a ps.length cap hd _).mono ?_
  rintro e w' ⟨rfl, hB⟩
  rw [h2.out]
  have hN := hp.on hB
  clear hp hB
  (try go_wp2_with fail)
  refine hK.out _ _ ?_ (fun hHeld2 => ?_)
  ·(try dsimp only) <;> (first | exact keepT hN | exact keepT h0)
  clear hK K hHeld
  have hHeld := hHeld2
  clear hHeld2
  (try simp only [Act.put, pA, pB, pC]); refine tk 17 (some 29) rfl hHeld ?_; (try simp only [Act.put, pA, pB, pC]); refine tk 18 (some 30) rfl hHeld ?_; (try simp only [Act.put, pA, pB, pC]); refine tk 19 (some 31) rfl hHeld ?_; (try simp only [Act.put, pA, pB, pC]); refine tk 20 (some 32) rfl hHeld ?_; (try simp only [Act.put, pA, pB, pC]); refine tk 21 (some 33) rfl hHeld ?_; (try simp only [Act.put, pA, pB, pC]); refine tk 22 (some 34) rfl hHeld ?_; (try simp only [Act.put, pA, pB, pC]); refine tk 23 (some 35) rfl hHeld ?_; (try simp only [Act.put, pA, pB, pC]); refine tk 24 (some 36) rfl hHeld ?_; (try simp only [Act.put, pA, pB, pC]); refine tk 25 (some 37) rfl hHeld ?_; (try simp only [Act.put, pA, pB, pC]); refine tk 26 (some 38) rfl hHeld ?_; (try simp only [Act.put, pA, pB, pC])
  refine wpAnyH_ready (rs := [27]) (by kernel_rfl) (by simp) ?_
  refine AllReadyH.cons rfl (fun K hK => ?_) AllReadyH.nil
  go_simp
  go_at_call 137
  have hp := hHeld.1
  refine (as_for _ _ _ _).mono ?_
  rintro e w' ⟨rfl, rfl⟩
  (first | rw [hr1.out] | rw [hr2.out] | rw [hr3.out] | rw [hr4.out])
  have hN := hp
  clear hp
  (try go_wp2_with fail)
  refine hK.out _ _ ?_ (fun hHeld2 => ?_)
  ·(try dsimp only) <;> (first | exact keepT hN | exact keepT h0)
  clear hK K hHeld
  have hHeld := hHeld2
  clear hHeld2
  (try simp only [Act.put, pA, pB, pC]); refine tk 28 (some 40) rfl hHeld ?_; (try simp only [Act.put, pA, pB, pC]); refine tk 29 (some 41) rfl hHeld ?_; (try simp only [Act.put, pA, pB, pC]); refine tp 30 (some 42) rfl hHeld ?_; (try simp only [Act.put, pA, pB, pC]); refine tp 31 (some 43) rfl hHeld ?_; (try simp only [Act.put, pA, pB, pC]); refine tp 32 (some 44) rfl hHeld ?_; (try simp only [Act.put, pA, pB, pC]); refine tp 33 (some 45) rfl hHeld ?_; (try simp only [Act.put, pA, pB, pC]); refine tp 34 (some 46) rfl hHeld ?_; (try simp only [Act.put, pA, pB, pC]); refine tp 35 (some 47) rfl hHeld ?_; (try simp only [Act.put, pA, pB, pC]); refine tp 36 (some 48) rfl hHeld ?_; (try simp only [Act.put, pA, pB, pC]); refine tp 37 (some 49) rfl hHeld ?_; (try simp only [Act.put, pA, pB, pC]); refine tp 38 (some 50) rfl hHeld ?_; (try simp only [Act.put, pA, pB, pC]); refine tk 39 (some 51) rfl hHeld ?_
  (try simp only [Act.put, pA, pB, pC]); refine tk 40 (some 52) rfl hHeld ?_; (try simp only [Act.put, pA, pB, pC]); refine tp 41 (some 53) rfl hHeld ?_; (try simp only [Act.put, pA, pB, pC]); refine tp 42 (some 54) rfl hHeld ?_; (try simp only [Act.put, pA, pB, pC]); refine tp 43 (some 55) rfl hHeld ?_; (try simp only [Act.put, pA, pB, pC]); refine tp 44 (some 56) rfl hHeld ?_; (try simp only [Act.put, pA, pB, pC]); refine tp 45 (some 57) rfl hHeld ?_; (try simp only [Act.put, pA, pB, pC]); refine tp 46 (some 58) rfl hHeld ?_; (try simp only [Act.put, pA, pB, pC]); refine tp 47 (some 59) rfl hHeld ?_; (try simp only [Act.put, pA, pB, pC]); refine tp 48 (some 60) rfl hHeld ?_; (try simp only [Act.put, pA, pB, pC]); refine tp 49 (some 61) rfl hHeld ?_; (try simp only [Act.put, pA, pB, pC]); refine tp 50 (some 62) rfl hHeld ?_; (try simp only [Act.put, pA, pB, pC]); refine tp 51 (some 63) rfl hHeld ?_
  (try simp only [Act.put, pA, pB, pC]); refine tp 52 (some 64) rfl hHeld ?_; (try simp only [Act.put, pA, pB, pC]); refine tp 53 (some 65) rfl hHeld ?_; (try simp only [Act.put, pA, pB, pC]); refine tp 54 (some 66) rfl hHeld ?_; (try simp only [Act.put, pA, pB, pC]); refine tk 55 (some 67) rfl hHeld ?_; (try simp only [Act.put, pA, pB, pC]); refine tk 56 (some 68) rfl hHeld ?_; (try simp only [Act.put, pA, pB, pC]); refine tp 57 (some 69) rfl hHeld ?_; (try simp only [Act.put, pA, pB, pC]); refine tp 58 (some 70) rfl hHeld ?_; (try simp only [Act.put, pA, pB, pC]); refine tp 59 (some 71) rfl hHeld ?_; (try simp only [Act.put, pA, pB, pC]); refine tp 60 (some 72) rfl hHeld ?_; (try simp only [Act.put, pA, pB, pC]); refine tp 61 (some 73) rfl hHeld ?_; (try simp only [Act.put, pA, pB, pC]); refine tp 62 (some 74) rfl hHeld ?_; (try simp only [Act.put, pA, pB, pC]); refine tp 63 (some 75) rfl hHeld ?_
  (try simp only [Act.put, pA, pB, pC]); refine tk 64 (some 76) rfl hHeld ?_; (try simp only [Act.put, pA, pB, pC]); refine tk 65 (some 2) rfl hHeld ?_; (try simp only [Act.put, pA, pB, pC])
  refine wpAnyH_done (by kernel_rfl) ?_ _
  have HZ := hid hHeld.1
  clear hHeld h0
  go_wp2_with fail
  go_ret
  exact ⟨rfl, HZ.out.2.2⟩
 cases r3
 case false =>
  go_enter Tryz.func117, Tryz.ntmps117
  go_wp2_with (first | (go_at_call 127; refine (between_any _ _ _ _).mono ?_; rintro e w' ⟨rfl, rfl⟩; rw [hin.out]))
  have hT := HW.out
  obtain ⟨W0, hW0⟩ : ∃ W0, Hid ((w.alloc (.cells #[.int .i64 j, .string s, .int .i64 ty, .int .i64 lo, .int .i64 hi, .string t, .slice a ps.length cap, .bool hd] 57)).alloc (.cells #[.bool o1, .bool o2, .bool o3, .bool o4, .int .i64 o5] 179) = W0) := ⟨_, rfl⟩
  rw [hW0.out] at hT ⊢
  have h0 : Two w W0.drew j s ty lo hi t a ps.length cap hd o1 o2 o3 o4 o5 := hT.on (Below.refl _ _).drew
  clear hT hW0 g0 g1 g2 g3 g4 HW
  refine wp_region_held_drew (S := (fun w' => Two w w' j s ty lo hi t a ps.length cap hd o1 o2 o3 o4 o5 ∧ (w'.cell? ⟨w.heap.size, 0, none⟩ = some (.int .i64 j) ∧ w'.cell? ⟨w.heap.size, 1, none⟩ = some (.string s) ∧ w'.cell? ⟨w.heap.size, 2, none⟩ = some (.int .i64 ty) ∧ w'.cell? ⟨w.heap.size, 3, none⟩ = some (.int .i64 lo) ∧ w'.cell? ⟨w.heap.size, 4, none⟩ = some (.int .i64 hi) ∧ w'.cell? ⟨w.heap.size, 5, none⟩ = some (.string t) ∧ w'.cell? ⟨w.heap.size, 6, none⟩ = some (.slice a ps.length cap) ∧ w'.cell? ⟨w.heap.size, 7, none⟩ = some (.bool hd)) ∧ (w'.cell? ⟨w.heap.size + 1, 0, none⟩ = some (.bool o1) ∧ w'.cell? ⟨w.heap.size + 1, 1, none⟩ = some (.bool o2) ∧ w'.cell? ⟨w.heap.size + 1, 2, none⟩ = some (.bool o3) ∧ w'.cell? ⟨w.heap.size + 1, 3, none⟩ = some (.bool o4) ∧ w'.cell? ⟨w.heap.size + 1, 4, none⟩ = some (.int .i64 o5)))) (by kernel_rfl) ?_ (fun hHeld => ?_)
  ·(try dsimp only) <;> (first | exact keepT hN | exact keepT h0)
  refine tk 0 (some 12) rfl hHeld ?_; (try simp only [Act.put, pA, pB, pC]); refine tk 1 (some 13) rfl hHeld ?_; (try simp only [Act.put, pA, pB, pC]); refine tk 2 (some 14) rfl hHeld ?_; (try simp only [Act.put, pA, pB, pC]); refine tk 3 (some 15) rfl hHeld ?_; (try simp only [Act.put, pA, pB, pC]); refine tk 5 (some 17) rfl hHeld ?_; (try simp only [Act.put, pA, pB, pC]); refine tk 6 (some 18) rfl hHeld ?_; (try simp only [Act.put, pA, pB, pC]); refine tk 7 (some 19) rfl hHeld ?_; (try simp only [Act.put, pA, pB, pC])
  refine wpAnyH_ready (rs := [4]) (by kernel_rfl) (by simp) ?_
  refine AllReadyH.cons rfl (fun K hK => ?_) AllReadyH.nil
  go_simp
  go_at_call 91
  have hp := hHeld.1
  refine (impl_name s _ HS.out).mono ?_
  rintro e w' ⟨rfl, rfl⟩
  rw [h1.out]
  have hN := hp
  clear hp
  (try go_wp2_with fail)
  refine hK.out _ _ ?_ (fun hHeld2 => ?_)
  ·(try dsimp only) <;> (first | exact keepT hN | exact keepT h0)
  clear hK K hHeld
  have hHeld := hHeld2
  clear hHeld2
  (try simp only [Act.put, pA, pB, pC])
  refine wpAnyH_ready (rs := [8]) (by kernel_rfl) (by simp) ?_
  refine AllReadyH.cons rfl (fun K hK => ?_) AllReadyH.nil
  go_simp
  go_at_call 137
  have hp := hHeld.1
  refine (as_for _ _ _ _).mono ?_
  rintro e w' ⟨rfl, rfl⟩
  (first | rw [hr1.out] | rw [hr2.out] | rw [hr3.out] | rw [hr4.out])
  have hN := hp
  clear hp
  (try go_wp2_with fail)
  refine hK.out _ _ ?_ (fun hHeld2 => ?_)
  ·(try dsimp only) <;> (first | exact keepT hN | exact keepT h0)
  clear hK K hHeld
  have hHeld := hHeld2
  clear hHeld2
  (try simp only [Act.put, pA, pB, pC]); refine tk 9 (some 21) rfl hHeld ?_; (try simp only [Act.put, pA, pB, pC]); refine tk 10 (some 22) rfl hHeld ?_; (try simp only [Act.put, pA, pB, pC]); refine tk 11 (some 23) rfl hHeld ?_; (try simp only [Act.put, pA, pB, pC]); refine tk 12 (some 24) rfl hHeld ?_; (try simp only [Act.put, pA, pB, pC]); refine tk 14 (some 26) rfl hHeld ?_; (try simp only [Act.put, pA, pB, pC]); refine tk 15 (some 27) rfl hHeld ?_; (try simp only [Act.put, pA, pB, pC]); refine tk 16 (some 28) rfl hHeld ?_; (try simp only [Act.put, pA, pB, pC])
  refine wpAnyH_ready (rs := [13]) (by kernel_rfl) (by simp) ?_
  refine AllReadyH.cons rfl (fun K hK => ?_) AllReadyH.nil
  go_simp
  go_at_call 138
  have hp := hHeld.1
  refine (impl_bounds j s ty lo hi t a ps.length cap hd _).mono ?_
  rintro e w' ⟨rfl, hB⟩
  rw [h2.out]
  have hN := hp.on hB
  clear hp hB
  (try go_wp2_with fail)
  refine hK.out _ _ ?_ (fun hHeld2 => ?_)
  ·(try dsimp only) <;> (first | exact keepT hN | exact keepT h0)
  clear hK K hHeld
  have hHeld := hHeld2
  clear hHeld2
  (try simp only [Act.put, pA, pB, pC]); refine tk 17 (some 29) rfl hHeld ?_; (try simp only [Act.put, pA, pB, pC]); refine tk 18 (some 30) rfl hHeld ?_; (try simp only [Act.put, pA, pB, pC]); refine tk 19 (some 31) rfl hHeld ?_; (try simp only [Act.put, pA, pB, pC]); refine tk 20 (some 32) rfl hHeld ?_; (try simp only [Act.put, pA, pB, pC]); refine tk 21 (some 33) rfl hHeld ?_; (try simp only [Act.put, pA, pB, pC]); refine tk 22 (some 34) rfl hHeld ?_; (try simp only [Act.put, pA, pB, pC]); refine tk 23 (some 35) rfl hHeld ?_; (try simp only [Act.put, pA, pB, pC]); refine tk 24 (some 36) rfl hHeld ?_; (try simp only [Act.put, pA, pB, pC]); refine tk 25 (some 37) rfl hHeld ?_; (try simp only [Act.put, pA, pB, pC]); refine tk 26 (some 38) rfl hHeld ?_; (try simp only [Act.put, pA, pB, pC])
  refine wpAnyH_ready (rs := [27]) (by kernel_rfl) (by simp) ?_
  refine AllReadyH.cons rfl (fun K hK => ?_) AllReadyH.nil
  go_simp
  go_at_call 137
  have hp := hHeld.1
  refine (as_for _ _ _ _).mono ?_
  rintro e w' ⟨rfl, rfl⟩
  (first | rw [hr1.out] | rw [hr2.out] | rw [hr3.out] | rw [hr4.out])
  have hN := hp
  clear hp
  (try go_wp2_with fail)
  refine hK.out _ _ ?_ (fun hHeld2 => ?_)
  ·(try dsimp only) <;> (first | exact keepT hN | exact keepT h0)
  clear hK K hHeld
  have hHeld := hHeld2
  clear hHeld2
  (try simp only [Act.put, pA, pB, pC]); refine tk 28 (some 40) rfl hHeld ?_; (try simp only [Act.put, pA, pB, pC]); refine tk 29 (some 41) rfl hHeld ?_; (try simp only [Act.put, pA, pB, pC]); refine tk 30 (some 42) rfl hHeld ?_; (try simp only [Act.put, pA, pB, pC]); refine tk 31 (some 43) rfl hHeld ?_; (try simp only [Act.put, pA, pB, pC]); refine tk 32 (some 44) rfl hHeld ?_; (try simp only [Act.put, pA, pB, pC]); refine tk 33 (some 45) rfl hHeld ?_; (try simp only [Act.put, pA, pB, pC]); refine tk 35 (some 47) rfl hHeld ?_; (try simp only [Act.put, pA, pB, pC]); refine tk 36 (some 48) rfl hHeld ?_; (try simp only [Act.put, pA, pB, pC]); refine tk 37 (some 49) rfl hHeld ?_; (try simp only [Act.put, pA, pB, pC])
  refine wpAnyH_ready (rs := [34]) (by kernel_rfl) (by simp) ?_
  refine AllReadyH.cons rfl (fun K hK => ?_) AllReadyH.nil
  go_simp
  go_at_call 139
  have hp := hHeld.1
  refine (impl_asked t _ HT.out).mono ?_
  rintro e w' ⟨rfl, hB⟩
  rw [h3.out]
  have hN := hp.on hB
  clear hp hB
  (try go_wp2_with fail)
  refine hK.out _ _ ?_ (fun hHeld2 => ?_)
  ·(try dsimp only) <;> (first | exact keepT hN | exact keepT h0)
  clear hK K hHeld
  have hHeld := hHeld2
  clear hHeld2
  (try simp only [Act.put, pA, pB, pC])
  refine wpAnyH_ready (rs := [38]) (by kernel_rfl) (by simp) ?_
  refine AllReadyH.cons rfl (fun K hK => ?_) AllReadyH.nil
  go_simp
  go_at_call 137
  have hp := hHeld.1
  refine (as_for _ _ _ _).mono ?_
  rintro e w' ⟨rfl, rfl⟩
  (first | rw [hr1.out] | rw [hr2.out] | rw [hr3.out] | rw [hr4.out])
  have hN := hp
  clear hp
  (try go_wp2_with fail)
  refine hK.out _ _ ?_ (fun hHeld2 => ?_)
  ·(try dsimp only) <;> (first | exact keepT hN | exact keepT h0)
  clear hK K hHeld
  have hHeld := hHeld2
  clear hHeld2
  (try simp only [Act.put, pA, pB, pC]); refine tk 39 (some 51) rfl hHeld ?_; (try simp only [Act.put, pA, pB, pC]); refine tk 40 (some 52) rfl hHeld ?_; (try simp only [Act.put, pA, pB, pC]); refine tp 41 (some 53) rfl hHeld ?_; (try simp only [Act.put, pA, pB, pC]); refine tp 42 (some 54) rfl hHeld ?_; (try simp only [Act.put, pA, pB, pC]); refine tp 43 (some 55) rfl hHeld ?_; (try simp only [Act.put, pA, pB, pC]); refine tp 44 (some 56) rfl hHeld ?_; (try simp only [Act.put, pA, pB, pC]); refine tp 45 (some 57) rfl hHeld ?_; (try simp only [Act.put, pA, pB, pC]); refine tp 46 (some 58) rfl hHeld ?_; (try simp only [Act.put, pA, pB, pC]); refine tp 47 (some 59) rfl hHeld ?_; (try simp only [Act.put, pA, pB, pC]); refine tp 48 (some 60) rfl hHeld ?_; (try simp only [Act.put, pA, pB, pC]); refine tp 49 (some 61) rfl hHeld ?_; (try simp only [Act.put, pA, pB, pC]); refine tp 50 (some 62) rfl hHeld ?_
  (try simp only [Act.put, pA, pB, pC]); refine tp 51 (some 63) rfl hHeld ?_; (try simp only [Act.put, pA, pB, pC]); refine tp 52 (some 64) rfl hHeld ?_; (try simp only [Act.put, pA, pB, pC]); refine tp 53 (some 65) rfl hHeld ?_; (try simp only [Act.put, pA, pB, pC]); refine tp 54 (some 66) rfl hHeld ?_; (try simp only [Act.put, pA, pB, pC]); refine tk 55 (some 67) rfl hHeld ?_; (try simp only [Act.put, pA, pB, pC]); refine tk 56 (some 68) rfl hHeld ?_; (try simp only [Act.put, pA, pB, pC]); refine tp 57 (some 69) rfl hHeld ?_; (try simp only [Act.put, pA, pB, pC]); refine tp 58 (some 70) rfl hHeld ?_; (try simp only [Act.put, pA, pB, pC]); refine tp 59 (some 71) rfl hHeld ?_; (try simp only [Act.put, pA, pB, pC]); refine tp 60 (some 72) rfl hHeld ?_; (try simp only [Act.put, pA, pB, pC]); refine tp 61 (some 73) rfl hHeld ?_; (try simp only [Act.put, pA, pB, pC]); refine tp 62 (some 74) rfl hHeld ?_
  (try simp only [Act.put, pA, pB, pC]); refine tp 63 (some 75) rfl hHeld ?_; (try simp only [Act.put, pA, pB, pC]); refine tk 64 (some 76) rfl hHeld ?_; (try simp only [Act.put, pA, pB, pC]); refine tk 65 (some 2) rfl hHeld ?_; (try simp only [Act.put, pA, pB, pC])
  refine wpAnyH_done (by kernel_rfl) ?_ _
  have HZ := hid hHeld.1
  clear hHeld h0
  go_wp2_with fail
  go_ret
  exact ⟨rfl, HZ.out.2.2⟩
 cases r4
 case false =>
  go_enter Tryz.func117, Tryz.ntmps117
  go_wp2_with (first | (go_at_call 127; refine (between_any _ _ _ _).mono ?_; rintro e w' ⟨rfl, rfl⟩; rw [hin.out]))
  have hT := HW.out
  obtain ⟨W0, hW0⟩ : ∃ W0, Hid ((w.alloc (.cells #[.int .i64 j, .string s, .int .i64 ty, .int .i64 lo, .int .i64 hi, .string t, .slice a ps.length cap, .bool hd] 57)).alloc (.cells #[.bool o1, .bool o2, .bool o3, .bool o4, .int .i64 o5] 179) = W0) := ⟨_, rfl⟩
  rw [hW0.out] at hT ⊢
  have h0 : Two w W0.drew j s ty lo hi t a ps.length cap hd o1 o2 o3 o4 o5 := hT.on (Below.refl _ _).drew
  clear hT hW0 g0 g1 g2 g3 g4 HW
  refine wp_region_held_drew (S := (fun w' => Two w w' j s ty lo hi t a ps.length cap hd o1 o2 o3 o4 o5 ∧ (w'.cell? ⟨w.heap.size, 0, none⟩ = some (.int .i64 j) ∧ w'.cell? ⟨w.heap.size, 1, none⟩ = some (.string s) ∧ w'.cell? ⟨w.heap.size, 2, none⟩ = some (.int .i64 ty) ∧ w'.cell? ⟨w.heap.size, 3, none⟩ = some (.int .i64 lo) ∧ w'.cell? ⟨w.heap.size, 4, none⟩ = some (.int .i64 hi) ∧ w'.cell? ⟨w.heap.size, 5, none⟩ = some (.string t) ∧ w'.cell? ⟨w.heap.size, 6, none⟩ = some (.slice a ps.length cap) ∧ w'.cell? ⟨w.heap.size, 7, none⟩ = some (.bool hd)) ∧ (w'.cell? ⟨w.heap.size + 1, 0, none⟩ = some (.bool o1) ∧ w'.cell? ⟨w.heap.size + 1, 1, none⟩ = some (.bool o2) ∧ w'.cell? ⟨w.heap.size + 1, 2, none⟩ = some (.bool o3) ∧ w'.cell? ⟨w.heap.size + 1, 3, none⟩ = some (.bool o4) ∧ w'.cell? ⟨w.heap.size + 1, 4, none⟩ = some (.int .i64 o5)))) (by kernel_rfl) ?_ (fun hHeld => ?_)
  ·(try dsimp only) <;> (first | exact keepT hN | exact keepT h0)
  refine tk 0 (some 12) rfl hHeld ?_; (try simp only [Act.put, pA, pB, pC]); refine tk 1 (some 13) rfl hHeld ?_; (try simp only [Act.put, pA, pB, pC]); refine tk 2 (some 14) rfl hHeld ?_; (try simp only [Act.put, pA, pB, pC]); refine tk 3 (some 15) rfl hHeld ?_; (try simp only [Act.put, pA, pB, pC]); refine tk 5 (some 17) rfl hHeld ?_; (try simp only [Act.put, pA, pB, pC]); refine tk 6 (some 18) rfl hHeld ?_; (try simp only [Act.put, pA, pB, pC]); refine tk 7 (some 19) rfl hHeld ?_; (try simp only [Act.put, pA, pB, pC])
  refine wpAnyH_ready (rs := [4]) (by kernel_rfl) (by simp) ?_
  refine AllReadyH.cons rfl (fun K hK => ?_) AllReadyH.nil
  go_simp
  go_at_call 91
  have hp := hHeld.1
  refine (impl_name s _ HS.out).mono ?_
  rintro e w' ⟨rfl, rfl⟩
  rw [h1.out]
  have hN := hp
  clear hp
  (try go_wp2_with fail)
  refine hK.out _ _ ?_ (fun hHeld2 => ?_)
  ·(try dsimp only) <;> (first | exact keepT hN | exact keepT h0)
  clear hK K hHeld
  have hHeld := hHeld2
  clear hHeld2
  (try simp only [Act.put, pA, pB, pC])
  refine wpAnyH_ready (rs := [8]) (by kernel_rfl) (by simp) ?_
  refine AllReadyH.cons rfl (fun K hK => ?_) AllReadyH.nil
  go_simp
  go_at_call 137
  have hp := hHeld.1
  refine (as_for _ _ _ _).mono ?_
  rintro e w' ⟨rfl, rfl⟩
  (first | rw [hr1.out] | rw [hr2.out] | rw [hr3.out] | rw [hr4.out])
  have hN := hp
  clear hp
  (try go_wp2_with fail)
  refine hK.out _ _ ?_ (fun hHeld2 => ?_)
  ·(try dsimp only) <;> (first | exact keepT hN | exact keepT h0)
  clear hK K hHeld
  have hHeld := hHeld2
  clear hHeld2
  (try simp only [Act.put, pA, pB, pC]); refine tk 9 (some 21) rfl hHeld ?_; (try simp only [Act.put, pA, pB, pC]); refine tk 10 (some 22) rfl hHeld ?_; (try simp only [Act.put, pA, pB, pC]); refine tk 11 (some 23) rfl hHeld ?_; (try simp only [Act.put, pA, pB, pC]); refine tk 12 (some 24) rfl hHeld ?_; (try simp only [Act.put, pA, pB, pC]); refine tk 14 (some 26) rfl hHeld ?_; (try simp only [Act.put, pA, pB, pC]); refine tk 15 (some 27) rfl hHeld ?_; (try simp only [Act.put, pA, pB, pC]); refine tk 16 (some 28) rfl hHeld ?_; (try simp only [Act.put, pA, pB, pC])
  refine wpAnyH_ready (rs := [13]) (by kernel_rfl) (by simp) ?_
  refine AllReadyH.cons rfl (fun K hK => ?_) AllReadyH.nil
  go_simp
  go_at_call 138
  have hp := hHeld.1
  refine (impl_bounds j s ty lo hi t a ps.length cap hd _).mono ?_
  rintro e w' ⟨rfl, hB⟩
  rw [h2.out]
  have hN := hp.on hB
  clear hp hB
  (try go_wp2_with fail)
  refine hK.out _ _ ?_ (fun hHeld2 => ?_)
  ·(try dsimp only) <;> (first | exact keepT hN | exact keepT h0)
  clear hK K hHeld
  have hHeld := hHeld2
  clear hHeld2
  (try simp only [Act.put, pA, pB, pC]); refine tk 17 (some 29) rfl hHeld ?_; (try simp only [Act.put, pA, pB, pC]); refine tk 18 (some 30) rfl hHeld ?_; (try simp only [Act.put, pA, pB, pC]); refine tk 19 (some 31) rfl hHeld ?_; (try simp only [Act.put, pA, pB, pC]); refine tk 20 (some 32) rfl hHeld ?_; (try simp only [Act.put, pA, pB, pC]); refine tk 21 (some 33) rfl hHeld ?_; (try simp only [Act.put, pA, pB, pC]); refine tk 22 (some 34) rfl hHeld ?_; (try simp only [Act.put, pA, pB, pC]); refine tk 23 (some 35) rfl hHeld ?_; (try simp only [Act.put, pA, pB, pC]); refine tk 24 (some 36) rfl hHeld ?_; (try simp only [Act.put, pA, pB, pC]); refine tk 25 (some 37) rfl hHeld ?_; (try simp only [Act.put, pA, pB, pC]); refine tk 26 (some 38) rfl hHeld ?_; (try simp only [Act.put, pA, pB, pC])
  refine wpAnyH_ready (rs := [27]) (by kernel_rfl) (by simp) ?_
  refine AllReadyH.cons rfl (fun K hK => ?_) AllReadyH.nil
  go_simp
  go_at_call 137
  have hp := hHeld.1
  refine (as_for _ _ _ _).mono ?_
  rintro e w' ⟨rfl, rfl⟩
  (first | rw [hr1.out] | rw [hr2.out] | rw [hr3.out] | rw [hr4.out])
  have hN := hp
  clear hp
  (try go_wp2_with fail)
  refine hK.out _ _ ?_ (fun hHeld2 => ?_)
  ·(try dsimp only) <;> (first | exact keepT hN | exact keepT h0)
  clear hK K hHeld
  have hHeld := hHeld2
  clear hHeld2
  (try simp only [Act.put, pA, pB, pC]); refine tk 28 (some 40) rfl hHeld ?_; (try simp only [Act.put, pA, pB, pC]); refine tk 29 (some 41) rfl hHeld ?_; (try simp only [Act.put, pA, pB, pC]); refine tk 30 (some 42) rfl hHeld ?_; (try simp only [Act.put, pA, pB, pC]); refine tk 31 (some 43) rfl hHeld ?_; (try simp only [Act.put, pA, pB, pC]); refine tk 32 (some 44) rfl hHeld ?_; (try simp only [Act.put, pA, pB, pC]); refine tk 33 (some 45) rfl hHeld ?_; (try simp only [Act.put, pA, pB, pC]); refine tk 35 (some 47) rfl hHeld ?_; (try simp only [Act.put, pA, pB, pC]); refine tk 36 (some 48) rfl hHeld ?_; (try simp only [Act.put, pA, pB, pC]); refine tk 37 (some 49) rfl hHeld ?_; (try simp only [Act.put, pA, pB, pC])
  refine wpAnyH_ready (rs := [34]) (by kernel_rfl) (by simp) ?_
  refine AllReadyH.cons rfl (fun K hK => ?_) AllReadyH.nil
  go_simp
  go_at_call 139
  have hp := hHeld.1
  refine (impl_asked t _ HT.out).mono ?_
  rintro e w' ⟨rfl, hB⟩
  rw [h3.out]
  have hN := hp.on hB
  clear hp hB
  (try go_wp2_with fail)
  refine hK.out _ _ ?_ (fun hHeld2 => ?_)
  ·(try dsimp only) <;> (first | exact keepT hN | exact keepT h0)
  clear hK K hHeld
  have hHeld := hHeld2
  clear hHeld2
  (try simp only [Act.put, pA, pB, pC])
  refine wpAnyH_ready (rs := [38]) (by kernel_rfl) (by simp) ?_
  refine AllReadyH.cons rfl (fun K hK => ?_) AllReadyH.nil
  go_simp
  go_at_call 137
  have hp := hHeld.1
  refine (as_for _ _ _ _).mono ?_
  rintro e w' ⟨rfl, rfl⟩
  (first | rw [hr1.out] | rw [hr2.out] | rw [hr3.out] | rw [hr4.out])
  have hN := hp
  clear hp
  (try go_wp2_with fail)
  refine hK.out _ _ ?_ (fun hHeld2 => ?_)
  ·(try dsimp only) <;> (first | exact keepT hN | exact keepT h0)
  clear hK K hHeld
  have hHeld := hHeld2
  clear hHeld2
  (try simp only [Act.put, pA, pB, pC]); refine tk 39 (some 51) rfl hHeld ?_; (try simp only [Act.put, pA, pB, pC]); refine tk 40 (some 52) rfl hHeld ?_; (try simp only [Act.put, pA, pB, pC]); refine tk 41 (some 53) rfl hHeld ?_; (try simp only [Act.put, pA, pB, pC]); refine tk 42 (some 54) rfl hHeld ?_; (try simp only [Act.put, pA, pB, pC]); refine tk 43 (some 55) rfl hHeld ?_; (try simp only [Act.put, pA, pB, pC]); refine tk 44 (some 56) rfl hHeld ?_; (try simp only [Act.put, pA, pB, pC]); refine tk 45 (some 57) rfl hHeld ?_; (try simp only [Act.put, pA, pB, pC]); refine tk 47 (some 59) rfl hHeld ?_; (try simp only [Act.put, pA, pB, pC]); refine tk 48 (some 60) rfl hHeld ?_; (try simp only [Act.put, pA, pB, pC]); refine tk 50 (some 62) rfl hHeld ?_; (try simp only [Act.put, pA, pB, pC]); refine tk 51 (some 63) rfl hHeld ?_; (try simp only [Act.put, pA, pB, pC]); refine tk 52 (some 64) rfl hHeld ?_
  (try simp only [Act.put, pA, pB, pC]); refine tk 53 (some 65) rfl hHeld ?_; (try simp only [Act.put, pA, pB, pC])
  refine wpAnyH_ready (rs := [46]) (by kernel_rfl) (by simp) ?_
  refine AllReadyH.cons rfl (fun K hK => ?_) AllReadyH.nil
  go_simp
  go_at_call 140
  have hp := hHeld.1
  refine (expr_tells a cap ps _ (HP.out.on hp.2.2) hcap (HE.out.1.on hp.2.2)).mono ?_
  rintro e w' ⟨rfl, hB⟩
  rw [h4.out]
  have hN := hp.on hB
  clear hp hB
  (try go_wp2_with fail)
  refine hK.out _ _ ?_ (fun hHeld2 => ?_)
  ·(try dsimp only) <;> (first | exact keepT hN | exact keepT h0)
  clear hK K hHeld
  have hHeld := hHeld2
  clear hHeld2
  (try simp only [Act.put, pA, pB, pC]); refine tk 49 (some 61) rfl hHeld ?_; (try simp only [Act.put, pA, pB, pC])
  refine wpAnyH_ready (rs := [54]) (by kernel_rfl) (by simp) ?_
  refine AllReadyH.cons rfl (fun K hK => ?_) AllReadyH.nil
  go_simp
  go_at_call 137
  have hp := hHeld.1
  refine (as_for _ _ _ _).mono ?_
  rintro e w' ⟨rfl, rfl⟩
  (first | rw [hr1.out] | rw [hr2.out] | rw [hr3.out] | rw [hr4.out])
  have hN := hp
  clear hp
  (try go_wp2_with fail)
  refine hK.out _ _ ?_ (fun hHeld2 => ?_)
  ·(try dsimp only) <;> (first | exact keepT hN | exact keepT h0)
  clear hK K hHeld
  have hHeld := hHeld2
  clear hHeld2
  (try simp only [Act.put, pA, pB, pC]); refine tk 55 (some 67) rfl hHeld ?_; (try simp only [Act.put, pA, pB, pC]); refine tk 56 (some 68) rfl hHeld ?_; (try simp only [Act.put, pA, pB, pC]); refine tp 57 (some 69) rfl hHeld ?_; (try simp only [Act.put, pA, pB, pC]); refine tp 58 (some 70) rfl hHeld ?_; (try simp only [Act.put, pA, pB, pC]); refine tp 59 (some 71) rfl hHeld ?_; (try simp only [Act.put, pA, pB, pC]); refine tp 60 (some 72) rfl hHeld ?_; (try simp only [Act.put, pA, pB, pC]); refine tp 61 (some 73) rfl hHeld ?_; (try simp only [Act.put, pA, pB, pC]); refine tp 62 (some 74) rfl hHeld ?_; (try simp only [Act.put, pA, pB, pC]); refine tp 63 (some 75) rfl hHeld ?_; (try simp only [Act.put, pA, pB, pC]); refine tk 64 (some 76) rfl hHeld ?_; (try simp only [Act.put, pA, pB, pC]); refine tk 65 (some 2) rfl hHeld ?_; (try simp only [Act.put, pA, pB, pC])
  refine wpAnyH_done (by kernel_rfl) ?_ _
  have HZ := hid hHeld.1
  clear hHeld h0
  go_wp2_with fail
  go_ret
  exact ⟨rfl, HZ.out.2.2⟩
 cases o4
 case true =>
  go_enter Tryz.func117, Tryz.ntmps117
  go_wp2_with (first | (go_at_call 127; refine (between_any _ _ _ _).mono ?_; rintro e w' ⟨rfl, rfl⟩; rw [hin.out]))
  have hT := HW.out
  obtain ⟨W0, hW0⟩ : ∃ W0, Hid ((w.alloc (.cells #[.int .i64 j, .string s, .int .i64 ty, .int .i64 lo, .int .i64 hi, .string t, .slice a ps.length cap, .bool hd] 57)).alloc (.cells #[.bool o1, .bool o2, .bool o3, .bool true, .int .i64 o5] 179) = W0) := ⟨_, rfl⟩
  rw [hW0.out] at hT ⊢
  have h0 : Two w W0.drew j s ty lo hi t a ps.length cap hd o1 o2 o3 true o5 := hT.on (Below.refl _ _).drew
  clear hT hW0 g0 g1 g2 g3 g4 HW
  refine wp_region_held_drew (S := (fun w' => Two w w' j s ty lo hi t a ps.length cap hd o1 o2 o3 true o5 ∧ (w'.cell? ⟨w.heap.size, 0, none⟩ = some (.int .i64 j) ∧ w'.cell? ⟨w.heap.size, 1, none⟩ = some (.string s) ∧ w'.cell? ⟨w.heap.size, 2, none⟩ = some (.int .i64 ty) ∧ w'.cell? ⟨w.heap.size, 3, none⟩ = some (.int .i64 lo) ∧ w'.cell? ⟨w.heap.size, 4, none⟩ = some (.int .i64 hi) ∧ w'.cell? ⟨w.heap.size, 5, none⟩ = some (.string t) ∧ w'.cell? ⟨w.heap.size, 6, none⟩ = some (.slice a ps.length cap) ∧ w'.cell? ⟨w.heap.size, 7, none⟩ = some (.bool hd)) ∧ (w'.cell? ⟨w.heap.size + 1, 0, none⟩ = some (.bool o1) ∧ w'.cell? ⟨w.heap.size + 1, 1, none⟩ = some (.bool o2) ∧ w'.cell? ⟨w.heap.size + 1, 2, none⟩ = some (.bool o3) ∧ w'.cell? ⟨w.heap.size + 1, 3, none⟩ = some (.bool true) ∧ w'.cell? ⟨w.heap.size + 1, 4, none⟩ = some (.int .i64 o5)))) (by kernel_rfl) ?_ (fun hHeld => ?_)
  ·(try dsimp only) <;> (first | exact keepT hN | exact keepT h0)
  refine tk 0 (some 12) rfl hHeld ?_; (try simp only [Act.put, pA, pB, pC]); refine tk 1 (some 13) rfl hHeld ?_; (try simp only [Act.put, pA, pB, pC]); refine tk 2 (some 14) rfl hHeld ?_; (try simp only [Act.put, pA, pB, pC]); refine tk 3 (some 15) rfl hHeld ?_; (try simp only [Act.put, pA, pB, pC]); refine tk 5 (some 17) rfl hHeld ?_; (try simp only [Act.put, pA, pB, pC]); refine tk 6 (some 18) rfl hHeld ?_; (try simp only [Act.put, pA, pB, pC]); refine tk 7 (some 19) rfl hHeld ?_; (try simp only [Act.put, pA, pB, pC])
  refine wpAnyH_ready (rs := [4]) (by kernel_rfl) (by simp) ?_
  refine AllReadyH.cons rfl (fun K hK => ?_) AllReadyH.nil
  go_simp
  go_at_call 91
  have hp := hHeld.1
  refine (impl_name s _ HS.out).mono ?_
  rintro e w' ⟨rfl, rfl⟩
  rw [h1.out]
  have hN := hp
  clear hp
  (try go_wp2_with fail)
  refine hK.out _ _ ?_ (fun hHeld2 => ?_)
  ·(try dsimp only) <;> (first | exact keepT hN | exact keepT h0)
  clear hK K hHeld
  have hHeld := hHeld2
  clear hHeld2
  (try simp only [Act.put, pA, pB, pC])
  refine wpAnyH_ready (rs := [8]) (by kernel_rfl) (by simp) ?_
  refine AllReadyH.cons rfl (fun K hK => ?_) AllReadyH.nil
  go_simp
  go_at_call 137
  have hp := hHeld.1
  refine (as_for _ _ _ _).mono ?_
  rintro e w' ⟨rfl, rfl⟩
  (first | rw [hr1.out] | rw [hr2.out] | rw [hr3.out] | rw [hr4.out])
  have hN := hp
  clear hp
  (try go_wp2_with fail)
  refine hK.out _ _ ?_ (fun hHeld2 => ?_)
  ·(try dsimp only) <;> (first | exact keepT hN | exact keepT h0)
  clear hK K hHeld
  have hHeld := hHeld2
  clear hHeld2
  (try simp only [Act.put, pA, pB, pC]); refine tk 9 (some 21) rfl hHeld ?_; (try simp only [Act.put, pA, pB, pC]); refine tk 10 (some 22) rfl hHeld ?_; (try simp only [Act.put, pA, pB, pC]); refine tk 11 (some 23) rfl hHeld ?_; (try simp only [Act.put, pA, pB, pC]); refine tk 12 (some 24) rfl hHeld ?_; (try simp only [Act.put, pA, pB, pC]); refine tk 14 (some 26) rfl hHeld ?_; (try simp only [Act.put, pA, pB, pC]); refine tk 15 (some 27) rfl hHeld ?_; (try simp only [Act.put, pA, pB, pC]); refine tk 16 (some 28) rfl hHeld ?_; (try simp only [Act.put, pA, pB, pC])
  refine wpAnyH_ready (rs := [13]) (by kernel_rfl) (by simp) ?_
  refine AllReadyH.cons rfl (fun K hK => ?_) AllReadyH.nil
  go_simp
  go_at_call 138
  have hp := hHeld.1
  refine (impl_bounds j s ty lo hi t a ps.length cap hd _).mono ?_
  rintro e w' ⟨rfl, hB⟩
  rw [h2.out]
  have hN := hp.on hB
  clear hp hB
  (try go_wp2_with fail)
  refine hK.out _ _ ?_ (fun hHeld2 => ?_)
  ·(try dsimp only) <;> (first | exact keepT hN | exact keepT h0)
  clear hK K hHeld
  have hHeld := hHeld2
  clear hHeld2
  (try simp only [Act.put, pA, pB, pC]); refine tk 17 (some 29) rfl hHeld ?_; (try simp only [Act.put, pA, pB, pC]); refine tk 18 (some 30) rfl hHeld ?_; (try simp only [Act.put, pA, pB, pC]); refine tk 19 (some 31) rfl hHeld ?_; (try simp only [Act.put, pA, pB, pC]); refine tk 20 (some 32) rfl hHeld ?_; (try simp only [Act.put, pA, pB, pC]); refine tk 21 (some 33) rfl hHeld ?_; (try simp only [Act.put, pA, pB, pC]); refine tk 22 (some 34) rfl hHeld ?_; (try simp only [Act.put, pA, pB, pC]); refine tk 23 (some 35) rfl hHeld ?_; (try simp only [Act.put, pA, pB, pC]); refine tk 24 (some 36) rfl hHeld ?_; (try simp only [Act.put, pA, pB, pC]); refine tk 25 (some 37) rfl hHeld ?_; (try simp only [Act.put, pA, pB, pC]); refine tk 26 (some 38) rfl hHeld ?_; (try simp only [Act.put, pA, pB, pC])
  refine wpAnyH_ready (rs := [27]) (by kernel_rfl) (by simp) ?_
  refine AllReadyH.cons rfl (fun K hK => ?_) AllReadyH.nil
  go_simp
  go_at_call 137
  have hp := hHeld.1
  refine (as_for _ _ _ _).mono ?_
  rintro e w' ⟨rfl, rfl⟩
  (first | rw [hr1.out] | rw [hr2.out] | rw [hr3.out] | rw [hr4.out])
  have hN := hp
  clear hp
  (try go_wp2_with fail)
  refine hK.out _ _ ?_ (fun hHeld2 => ?_)
  ·(try dsimp only) <;> (first | exact keepT hN | exact keepT h0)
  clear hK K hHeld
  have hHeld := hHeld2
  clear hHeld2
  (try simp only [Act.put, pA, pB, pC]); refine tk 28 (some 40) rfl hHeld ?_; (try simp only [Act.put, pA, pB, pC]); refine tk 29 (some 41) rfl hHeld ?_; (try simp only [Act.put, pA, pB, pC]); refine tk 30 (some 42) rfl hHeld ?_; (try simp only [Act.put, pA, pB, pC]); refine tk 31 (some 43) rfl hHeld ?_; (try simp only [Act.put, pA, pB, pC]); refine tk 32 (some 44) rfl hHeld ?_; (try simp only [Act.put, pA, pB, pC]); refine tk 33 (some 45) rfl hHeld ?_; (try simp only [Act.put, pA, pB, pC]); refine tk 35 (some 47) rfl hHeld ?_; (try simp only [Act.put, pA, pB, pC]); refine tk 36 (some 48) rfl hHeld ?_; (try simp only [Act.put, pA, pB, pC]); refine tk 37 (some 49) rfl hHeld ?_; (try simp only [Act.put, pA, pB, pC])
  refine wpAnyH_ready (rs := [34]) (by kernel_rfl) (by simp) ?_
  refine AllReadyH.cons rfl (fun K hK => ?_) AllReadyH.nil
  go_simp
  go_at_call 139
  have hp := hHeld.1
  refine (impl_asked t _ HT.out).mono ?_
  rintro e w' ⟨rfl, hB⟩
  rw [h3.out]
  have hN := hp.on hB
  clear hp hB
  (try go_wp2_with fail)
  refine hK.out _ _ ?_ (fun hHeld2 => ?_)
  ·(try dsimp only) <;> (first | exact keepT hN | exact keepT h0)
  clear hK K hHeld
  have hHeld := hHeld2
  clear hHeld2
  (try simp only [Act.put, pA, pB, pC])
  refine wpAnyH_ready (rs := [38]) (by kernel_rfl) (by simp) ?_
  refine AllReadyH.cons rfl (fun K hK => ?_) AllReadyH.nil
  go_simp
  go_at_call 137
  have hp := hHeld.1
  refine (as_for _ _ _ _).mono ?_
  rintro e w' ⟨rfl, rfl⟩
  (first | rw [hr1.out] | rw [hr2.out] | rw [hr3.out] | rw [hr4.out])
  have hN := hp
  clear hp
  (try go_wp2_with fail)
  refine hK.out _ _ ?_ (fun hHeld2 => ?_)
  ·(try dsimp only) <;> (first | exact keepT hN | exact keepT h0)
  clear hK K hHeld
  have hHeld := hHeld2
  clear hHeld2
  (try simp only [Act.put, pA, pB, pC]); refine tk 39 (some 51) rfl hHeld ?_; (try simp only [Act.put, pA, pB, pC]); refine tk 40 (some 52) rfl hHeld ?_; (try simp only [Act.put, pA, pB, pC]); refine tk 41 (some 53) rfl hHeld ?_; (try simp only [Act.put, pA, pB, pC]); refine tk 42 (some 54) rfl hHeld ?_; (try simp only [Act.put, pA, pB, pC]); refine tk 43 (some 55) rfl hHeld ?_; (try simp only [Act.put, pA, pB, pC]); refine tk 44 (some 56) rfl hHeld ?_; (try simp only [Act.put, pA, pB, pC]); refine tk 45 (some 57) rfl hHeld ?_; (try simp only [Act.put, pA, pB, pC]); refine tk 47 (some 59) rfl hHeld ?_; (try simp only [Act.put, pA, pB, pC]); refine tk 48 (some 60) rfl hHeld ?_; (try simp only [Act.put, pA, pB, pC]); refine tk 50 (some 62) rfl hHeld ?_; (try simp only [Act.put, pA, pB, pC]); refine tk 51 (some 63) rfl hHeld ?_; (try simp only [Act.put, pA, pB, pC]); refine tk 52 (some 64) rfl hHeld ?_
  (try simp only [Act.put, pA, pB, pC]); refine tk 53 (some 65) rfl hHeld ?_; (try simp only [Act.put, pA, pB, pC])
  refine wpAnyH_ready (rs := [46]) (by kernel_rfl) (by simp) ?_
  refine AllReadyH.cons rfl (fun K hK => ?_) AllReadyH.nil
  go_simp
  go_at_call 140
  have hp := hHeld.1
  refine (expr_tells a cap ps _ (HP.out.on hp.2.2) hcap (HE.out.1.on hp.2.2)).mono ?_
  rintro e w' ⟨rfl, hB⟩
  rw [h4.out]
  have hN := hp.on hB
  clear hp hB
  (try go_wp2_with fail)
  refine hK.out _ _ ?_ (fun hHeld2 => ?_)
  ·(try dsimp only) <;> (first | exact keepT hN | exact keepT h0)
  clear hK K hHeld
  have hHeld := hHeld2
  clear hHeld2
  (try simp only [Act.put, pA, pB, pC]); refine tk 49 (some 61) rfl hHeld ?_; (try simp only [Act.put, pA, pB, pC])
  refine wpAnyH_ready (rs := [54]) (by kernel_rfl) (by simp) ?_
  refine AllReadyH.cons rfl (fun K hK => ?_) AllReadyH.nil
  go_simp
  go_at_call 137
  have hp := hHeld.1
  refine (as_for _ _ _ _).mono ?_
  rintro e w' ⟨rfl, rfl⟩
  (first | rw [hr1.out] | rw [hr2.out] | rw [hr3.out] | rw [hr4.out])
  have hN := hp
  clear hp
  (try go_wp2_with fail)
  refine hK.out _ _ ?_ (fun hHeld2 => ?_)
  ·(try dsimp only) <;> (first | exact keepT hN | exact keepT h0)
  clear hK K hHeld
  have hHeld := hHeld2
  clear hHeld2
  (try simp only [Act.put, pA, pB, pC]); refine tk 55 (some 67) rfl hHeld ?_; (try simp only [Act.put, pA, pB, pC]); refine tk 56 (some 68) rfl hHeld ?_; (try simp only [Act.put, pA, pB, pC]); refine tk 57 (some 69) rfl hHeld ?_; (try simp only [Act.put, pA, pB, pC]); refine tk 58 (some 70) rfl hHeld ?_; (try simp only [Act.put, pA, pB, pC]); refine tk 59 (some 71) rfl hHeld ?_; (try simp only [Act.put, pA, pB, pC]); refine tp 60 (some 72) rfl hHeld ?_; (try simp only [Act.put, pA, pB, pC]); refine tp 61 (some 73) rfl hHeld ?_; (try simp only [Act.put, pA, pB, pC]); refine tp 62 (some 74) rfl hHeld ?_; (try simp only [Act.put, pA, pB, pC]); refine tk 63 (some 75) rfl hHeld ?_; (try simp only [Act.put, pA, pB, pC]); refine tk 64 (some 76) rfl hHeld ?_; (try simp only [Act.put, pA, pB, pC]); refine tk 65 (some 2) rfl hHeld ?_; (try simp only [Act.put, pA, pB, pC])
  refine wpAnyH_done (by kernel_rfl) ?_ _
  have HZ := hid hHeld.1
  clear hHeld h0
  go_wp2_with fail
  go_ret
  exact ⟨rfl, HZ.out.2.2⟩
 go_enter Tryz.func117, Tryz.ntmps117
 go_wp2_with (first | (go_at_call 127; refine (between_any _ _ _ _).mono ?_; rintro e w' ⟨rfl, rfl⟩; rw [hin.out]))
 have hT := HW.out
 obtain ⟨W0, hW0⟩ : ∃ W0, Hid ((w.alloc (.cells #[.int .i64 j, .string s, .int .i64 ty, .int .i64 lo, .int .i64 hi, .string t, .slice a ps.length cap, .bool hd] 57)).alloc (.cells #[.bool o1, .bool o2, .bool o3, .bool false, .int .i64 o5] 179) = W0) := ⟨_, rfl⟩
 rw [hW0.out] at hT ⊢
 have h0 : Two w W0.drew j s ty lo hi t a ps.length cap hd o1 o2 o3 false o5 := hT.on (Below.refl _ _).drew
 clear hT hW0 g0 g1 g2 g3 g4 HW
 refine wp_region_held_drew (S := (fun w' => Two w w' j s ty lo hi t a ps.length cap hd o1 o2 o3 false o5 ∧ (w'.cell? ⟨w.heap.size, 0, none⟩ = some (.int .i64 j) ∧ w'.cell? ⟨w.heap.size, 1, none⟩ = some (.string s) ∧ w'.cell? ⟨w.heap.size, 2, none⟩ = some (.int .i64 ty) ∧ w'.cell? ⟨w.heap.size, 3, none⟩ = some (.int .i64 lo) ∧ w'.cell? ⟨w.heap.size, 4, none⟩ = some (.int .i64 hi) ∧ w'.cell? ⟨w.heap.size, 5, none⟩ = some (.string t) ∧ w'.cell? ⟨w.heap.size, 6, none⟩ = some (.slice a ps.length cap) ∧ w'.cell? ⟨w.heap.size, 7, none⟩ = some (.bool hd)) ∧ (w'.cell? ⟨w.heap.size + 1, 0, none⟩ = some (.bool o1) ∧ w'.cell? ⟨w.heap.size + 1, 1, none⟩ = some (.bool o2) ∧ w'.cell? ⟨w.heap.size + 1, 2, none⟩ = some (.bool o3) ∧ w'.cell? ⟨w.heap.size + 1, 3, none⟩ = some (.bool false) ∧ w'.cell? ⟨w.heap.size + 1, 4, none⟩ = some (.int .i64 o5)))) (by kernel_rfl) ?_ (fun hHeld => ?_)
 ·(try dsimp only) <;> (first | exact keepT hN | exact keepT h0)
 refine tk 0 (some 12) rfl hHeld ?_; (try simp only [Act.put, pA, pB, pC]); refine tk 1 (some 13) rfl hHeld ?_; (try simp only [Act.put, pA, pB, pC]); refine tk 2 (some 14) rfl hHeld ?_; (try simp only [Act.put, pA, pB, pC]); refine tk 3 (some 15) rfl hHeld ?_; (try simp only [Act.put, pA, pB, pC]); refine tk 5 (some 17) rfl hHeld ?_; (try simp only [Act.put, pA, pB, pC]); refine tk 6 (some 18) rfl hHeld ?_; (try simp only [Act.put, pA, pB, pC]); refine tk 7 (some 19) rfl hHeld ?_; (try simp only [Act.put, pA, pB, pC])
 refine wpAnyH_ready (rs := [4]) (by kernel_rfl) (by simp) ?_
 refine AllReadyH.cons rfl (fun K hK => ?_) AllReadyH.nil
 go_simp
 go_at_call 91
 have hp := hHeld.1
 refine (impl_name s _ HS.out).mono ?_
 rintro e w' ⟨rfl, rfl⟩
 rw [h1.out]
 have hN := hp
 clear hp
 (try go_wp2_with fail)
 refine hK.out _ _ ?_ (fun hHeld2 => ?_)
 ·(try dsimp only) <;> (first | exact keepT hN | exact keepT h0)
 clear hK K hHeld
 have hHeld := hHeld2
 clear hHeld2
 (try simp only [Act.put, pA, pB, pC])
 refine wpAnyH_ready (rs := [8]) (by kernel_rfl) (by simp) ?_
 refine AllReadyH.cons rfl (fun K hK => ?_) AllReadyH.nil
 go_simp
 go_at_call 137
 have hp := hHeld.1
 refine (as_for _ _ _ _).mono ?_
 rintro e w' ⟨rfl, rfl⟩
 (first | rw [hr1.out] | rw [hr2.out] | rw [hr3.out] | rw [hr4.out])
 have hN := hp
 clear hp
 (try go_wp2_with fail)
 refine hK.out _ _ ?_ (fun hHeld2 => ?_)
 ·(try dsimp only) <;> (first | exact keepT hN | exact keepT h0)
 clear hK K hHeld
 have hHeld := hHeld2
 clear hHeld2
 (try simp only [Act.put, pA, pB, pC]); refine tk 9 (some 21) rfl hHeld ?_; (try simp only [Act.put, pA, pB, pC]); refine tk 10 (some 22) rfl hHeld ?_; (try simp only [Act.put, pA, pB, pC]); refine tk 11 (some 23) rfl hHeld ?_; (try simp only [Act.put, pA, pB, pC]); refine tk 12 (some 24) rfl hHeld ?_; (try simp only [Act.put, pA, pB, pC]); refine tk 14 (some 26) rfl hHeld ?_; (try simp only [Act.put, pA, pB, pC]); refine tk 15 (some 27) rfl hHeld ?_; (try simp only [Act.put, pA, pB, pC]); refine tk 16 (some 28) rfl hHeld ?_; (try simp only [Act.put, pA, pB, pC])
 refine wpAnyH_ready (rs := [13]) (by kernel_rfl) (by simp) ?_
 refine AllReadyH.cons rfl (fun K hK => ?_) AllReadyH.nil
 go_simp
 go_at_call 138
 have hp := hHeld.1
 refine (impl_bounds j s ty lo hi t a ps.length cap hd _).mono ?_
 rintro e w' ⟨rfl, hB⟩
 rw [h2.out]
 have hN := hp.on hB
 clear hp hB
 (try go_wp2_with fail)
 refine hK.out _ _ ?_ (fun hHeld2 => ?_)
 ·(try dsimp only) <;> (first | exact keepT hN | exact keepT h0)
 clear hK K hHeld
 have hHeld := hHeld2
 clear hHeld2
 (try simp only [Act.put, pA, pB, pC]); refine tk 17 (some 29) rfl hHeld ?_; (try simp only [Act.put, pA, pB, pC]); refine tk 18 (some 30) rfl hHeld ?_; (try simp only [Act.put, pA, pB, pC]); refine tk 19 (some 31) rfl hHeld ?_; (try simp only [Act.put, pA, pB, pC]); refine tk 20 (some 32) rfl hHeld ?_; (try simp only [Act.put, pA, pB, pC]); refine tk 21 (some 33) rfl hHeld ?_; (try simp only [Act.put, pA, pB, pC]); refine tk 22 (some 34) rfl hHeld ?_; (try simp only [Act.put, pA, pB, pC]); refine tk 23 (some 35) rfl hHeld ?_; (try simp only [Act.put, pA, pB, pC]); refine tk 24 (some 36) rfl hHeld ?_; (try simp only [Act.put, pA, pB, pC]); refine tk 25 (some 37) rfl hHeld ?_; (try simp only [Act.put, pA, pB, pC]); refine tk 26 (some 38) rfl hHeld ?_; (try simp only [Act.put, pA, pB, pC])
 refine wpAnyH_ready (rs := [27]) (by kernel_rfl) (by simp) ?_
 refine AllReadyH.cons rfl (fun K hK => ?_) AllReadyH.nil
 go_simp
 go_at_call 137
 have hp := hHeld.1
 refine (as_for _ _ _ _).mono ?_
 rintro e w' ⟨rfl, rfl⟩
 (first | rw [hr1.out] | rw [hr2.out] | rw [hr3.out] | rw [hr4.out])
 have hN := hp
 clear hp
 (try go_wp2_with fail)
 refine hK.out _ _ ?_ (fun hHeld2 => ?_)
 ·(try dsimp only) <;> (first | exact keepT hN | exact keepT h0)
 clear hK K hHeld
 have hHeld := hHeld2
 clear hHeld2
 (try simp only [Act.put, pA, pB, pC]); refine tk 28 (some 40) rfl hHeld ?_; (try simp only [Act.put, pA, pB, pC]); refine tk 29 (some 41) rfl hHeld ?_; (try simp only [Act.put, pA, pB, pC]); refine tk 30 (some 42) rfl hHeld ?_; (try simp only [Act.put, pA, pB, pC]); refine tk 31 (some 43) rfl hHeld ?_; (try simp only [Act.put, pA, pB, pC]); refine tk 32 (some 44) rfl hHeld ?_; (try simp only [Act.put, pA, pB, pC]); refine tk 33 (some 45) rfl hHeld ?_; (try simp only [Act.put, pA, pB, pC]); refine tk 35 (some 47) rfl hHeld ?_; (try simp only [Act.put, pA, pB, pC]); refine tk 36 (some 48) rfl hHeld ?_; (try simp only [Act.put, pA, pB, pC]); refine tk 37 (some 49) rfl hHeld ?_; (try simp only [Act.put, pA, pB, pC])
 refine wpAnyH_ready (rs := [34]) (by kernel_rfl) (by simp) ?_
 refine AllReadyH.cons rfl (fun K hK => ?_) AllReadyH.nil
 go_simp
 go_at_call 139
 have hp := hHeld.1
 refine (impl_asked t _ HT.out).mono ?_
 rintro e w' ⟨rfl, hB⟩
 rw [h3.out]
 have hN := hp.on hB
 clear hp hB
 (try go_wp2_with fail)
 refine hK.out _ _ ?_ (fun hHeld2 => ?_)
 ·(try dsimp only) <;> (first | exact keepT hN | exact keepT h0)
 clear hK K hHeld
 have hHeld := hHeld2
 clear hHeld2
 (try simp only [Act.put, pA, pB, pC])
 refine wpAnyH_ready (rs := [38]) (by kernel_rfl) (by simp) ?_
 refine AllReadyH.cons rfl (fun K hK => ?_) AllReadyH.nil
 go_simp
 go_at_call 137
 have hp := hHeld.1
 refine (as_for _ _ _ _).mono ?_
 rintro e w' ⟨rfl, rfl⟩
 (first | rw [hr1.out] | rw [hr2.out] | rw [hr3.out] | rw [hr4.out])
 have hN := hp
 clear hp
 (try go_wp2_with fail)
 refine hK.out _ _ ?_ (fun hHeld2 => ?_)
 ·(try dsimp only) <;> (first | exact keepT hN | exact keepT h0)
 clear hK K hHeld
 have hHeld := hHeld2
 clear hHeld2
 (try simp only [Act.put, pA, pB, pC]); refine tk 39 (some 51) rfl hHeld ?_; (try simp only [Act.put, pA, pB, pC]); refine tk 40 (some 52) rfl hHeld ?_; (try simp only [Act.put, pA, pB, pC]); refine tk 41 (some 53) rfl hHeld ?_; (try simp only [Act.put, pA, pB, pC]); refine tk 42 (some 54) rfl hHeld ?_; (try simp only [Act.put, pA, pB, pC]); refine tk 43 (some 55) rfl hHeld ?_; (try simp only [Act.put, pA, pB, pC]); refine tk 44 (some 56) rfl hHeld ?_; (try simp only [Act.put, pA, pB, pC]); refine tk 45 (some 57) rfl hHeld ?_; (try simp only [Act.put, pA, pB, pC]); refine tk 47 (some 59) rfl hHeld ?_; (try simp only [Act.put, pA, pB, pC]); refine tk 48 (some 60) rfl hHeld ?_; (try simp only [Act.put, pA, pB, pC]); refine tk 50 (some 62) rfl hHeld ?_; (try simp only [Act.put, pA, pB, pC]); refine tk 51 (some 63) rfl hHeld ?_; (try simp only [Act.put, pA, pB, pC]); refine tk 52 (some 64) rfl hHeld ?_
 (try simp only [Act.put, pA, pB, pC]); refine tk 53 (some 65) rfl hHeld ?_; (try simp only [Act.put, pA, pB, pC])
 refine wpAnyH_ready (rs := [46]) (by kernel_rfl) (by simp) ?_
 refine AllReadyH.cons rfl (fun K hK => ?_) AllReadyH.nil
 go_simp
 go_at_call 140
 have hp := hHeld.1
 refine (expr_tells a cap ps _ (HP.out.on hp.2.2) hcap (HE.out.1.on hp.2.2)).mono ?_
 rintro e w' ⟨rfl, hB⟩
 rw [h4.out]
 have hN := hp.on hB
 clear hp hB
 (try go_wp2_with fail)
 refine hK.out _ _ ?_ (fun hHeld2 => ?_)
 ·(try dsimp only) <;> (first | exact keepT hN | exact keepT h0)
 clear hK K hHeld
 have hHeld := hHeld2
 clear hHeld2
 (try simp only [Act.put, pA, pB, pC]); refine tk 49 (some 61) rfl hHeld ?_; (try simp only [Act.put, pA, pB, pC])
 refine wpAnyH_ready (rs := [54]) (by kernel_rfl) (by simp) ?_
 refine AllReadyH.cons rfl (fun K hK => ?_) AllReadyH.nil
 go_simp
 go_at_call 137
 have hp := hHeld.1
 refine (as_for _ _ _ _).mono ?_
 rintro e w' ⟨rfl, rfl⟩
 (first | rw [hr1.out] | rw [hr2.out] | rw [hr3.out] | rw [hr4.out])
 have hN := hp
 clear hp
 (try go_wp2_with fail)
 refine hK.out _ _ ?_ (fun hHeld2 => ?_)
 ·(try dsimp only) <;> (first | exact keepT hN | exact keepT h0)
 clear hK K hHeld
 have hHeld := hHeld2
 clear hHeld2
 (try simp only [Act.put, pA, pB, pC]); refine tk 55 (some 67) rfl hHeld ?_; (try simp only [Act.put, pA, pB, pC]); refine tk 56 (some 68) rfl hHeld ?_; (try simp only [Act.put, pA, pB, pC]); refine tk 57 (some 69) rfl hHeld ?_; (try simp only [Act.put, pA, pB, pC]); refine tk 58 (some 70) rfl hHeld ?_; (try simp only [Act.put, pA, pB, pC]); refine tk 59 (some 71) rfl hHeld ?_; (try simp only [Act.put, pA, pB, pC]); refine tk 60 (some 72) rfl hHeld ?_; (try simp only [Act.put, pA, pB, pC]); refine tk 61 (some 73) rfl hHeld ?_; (try simp only [Act.put, pA, pB, pC]); refine tk 62 (some 74) rfl hHeld ?_; (try simp only [Act.put, pA, pB, pC]); refine tk 63 (some 75) rfl hHeld ?_; (try simp only [Act.put, pA, pB, pC]); refine tk 64 (some 76) rfl hHeld ?_; (try simp only [Act.put, pA, pB, pC]); refine tk 65 (some 2) rfl hHeld ?_; (try simp only [Act.put, pA, pB, pC])
 refine wpAnyH_done (by kernel_rfl) ?_ _
 have HZ := hid hHeld.1
 clear hHeld h0
 go_wp2_with fail
 go_ret
 exact ⟨rfl, HZ.out.2.2⟩
open Go.RowKit
open PrtW PrtM NameW ItmW ValM ItmM
open PrtI (EnvS between_any)
set_option maxHeartbeats 1600000 in
theorem impl_item (k : Int) (s : ByteArray) (ty lo hi : Int) (t : ByteArray) (a : Option Addr) (cap : Nat) (ps : List Pt) (hd : Bool) (w : World) (hP : Parts w a ps) (hcap : ps.length ≤ cap) (hs : s.size ≤ maxLen) (ht : t.size ≤ maxLen) (hE : EnvI w) :
  Calls Tryz.prog 117 #[.agg #[.int .i64 k, .string s, .int .i64 ty, .int .i64 lo, .int .i64 hi, .string t, .slice a ps.length cap, .bool hd]] w fun e w' => e = .returned (.bool (itemB (k, s, ty, lo, hi, t, ps, hd))) ∧ Below w.heap.size w w' := by
 by_cases hk : 1 ≤ k ∧ k ≤ 6
 case neg =>
  rw [item_out hk]
  have hin : Hid (inB k 1 6 = false) := decide_eq_false hk
  clear hk hP hcap hs ht hE
  go_enter Tryz.func117, Tryz.ntmps117
  go_wp2_with (first | (go_at_call 127; refine (between_any _ _ _ _).mono ?_; rintro e w' ⟨rfl, rfl⟩; rw [hin.out]))
  go_ret
  exact ⟨rfl, by go_grown⟩
 obtain ⟨j, rfl⟩ : ∃ j : Nat, k = j := ⟨k.toNat, by omega⟩
 have hj : 1 ≤ j ∧ j ≤ 6 := by omega
 rw [tab_item j hj.1 hj.2]
 cases hr : asF (namedO j) (nameB s) s.toList.isEmpty
 ·exact item_A j hj s ty lo hi t a cap ps hd w hP hcap hs ht hE hr
 ·cases e1 : (ty == 0)
  ·exact item_B j hj s ty lo hi t a cap ps hd w hP hcap hs ht hE e1 hr
  ·cases e2 : (lo == 0)
   ·exact item_C j hj s ty lo hi t a cap ps hd w hP hcap hs ht hE e1 e2 hr
   ·exact item_D j hj s ty lo hi t a cap ps hd w hP hcap hs ht hE e1 e2 hr
end Go.Proofs.YtmbhmknfipdadaaGreatDoor.ItmI
