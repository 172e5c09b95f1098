/- Texts of ours, laid together. -/
import Derived.Test.YtmbhmknfipdadaaGreatDoorBd12
import Derived.Deep.Cut
import Derived.Deep.CutRange
namespace Go.Proofs.YtmbhmknfipdadaaGreatDoor.BookW
open Go.RowKit
open ValW RdS RdI ValI
theorem hid {p : Prop} (h : p) : Hid p := h
def One (w : World) (g : Nat) (t : ByteArray) : Prop := g < w.heap.size ∧ w.cell? ⟨g, 0, none⟩ = some (.string t)
theorem One.on {w w' : World} {g : Nat} {t : ByteArray} (h : One w g t) (hB : Below w.heap.size w w') : One w' g t := ⟨Nat.lt_of_lt_of_le h.1 hB.size, by rw [hB.cell (p := ⟨g, 0, none⟩) h.1]; exact h.2⟩
theorem One.laid (w : World) (t : ByteArray) : One (w.alloc (.cells #[.string t] 9)) w.heap.size t := ⟨by simp, by simp⟩
theorem laid_at (t : ByteArray) (g : Nat) (w : World) (h : One w g t) (ht : t.size ≤ 100000) :
  Calls Tryz.prog 93 #[.slice (some ⟨g, 0, none⟩) 1 1] w fun e w' => e = .returned (.string t) ∧ Below w.heap.size w w' := by
 have hcat : LaidW.catB [t] = t.data.toList := by simp [LaidW.catB]
 refine (LaidW.laid_any [t] g w (by simp) h.1 ?_ ?_).mono ?_
 ·intro i hi
  match i, hi with
  | 0, _ => simpa using h.2
 ·rw [hcat]; simpa using ht
 ·rintro e w' ⟨rfl, hB⟩
  exact ⟨by rw [hcat], hB⟩
def CpS (W0 : World) (g : Nat) (w' : World) : Prop := Below (g + 1) W0 w' ∧ g + 2 ≤ w'.heap.size ∧ ∃ cs : Array Value, w'.heap[g + 1]? = some (.cells cs 59 (0, 0)) ∧ cs.size = 4
theorem CpS.on {W0 W W' : World} {g : Nat} (h : CpS W0 g W) (hB : Below W.heap.size W W') : CpS W0 g W' := by
 obtain ⟨h1, h2, cs, h3, h4⟩ := h
 exact ⟨h1.trans (hB.mono (by omega)), Nat.le_trans h2 hB.size, cs, by rw [hB.block _ (by omega)]; exact h3, h4⟩
theorem CpS.one {W0 W : World} {g : Nat} (_h : CpS W0 g W) (t : ByteArray) : One (W.alloc (.cells #[.string t] 9)) W.heap.size t := One.laid W t
theorem CpS.put {W0 W : World} {g : Nat} (h : CpS W0 g W) (j : Nat) (v : Value) : CpS W0 g (W.setCell ⟨g + 1, j, none⟩ v) := by
 obtain ⟨h1, h2, cs, h3, h4⟩ := h
 exact ⟨h1.setCell (Nat.le_refl _) _, by simpa using h2, cs.setIfInBounds j v, by simp [World.setCell, Array.getElem?_modify, h3], by simpa using h4⟩
theorem CpS.room {W0 W : World} {g : Nat} (h : CpS W0 g W) (j : Nat) (hj : j < 4) : (∃ v, W.cell? ⟨g + 1, j, none⟩ = some v) ∧ W.frozen? ⟨g + 1, j, none⟩ = false := by
 obtain ⟨h1, h2, cs, h3, h4⟩ := h
 refine ⟨⟨cs[j]'(by omega), ?_⟩, by simp [World.frozen?, h3]⟩
 simp [World.cell?, h3, show j < cs.size by omega]
theorem CpS.all {W0 W : World} {g : Nat} {v0 v1 v2 v3 : Value} (h : CpS W0 g W) (hA : At4 W0 g v0 v1 v2 v3) : CpS W0 g W ∧ W.cell? ⟨g, 0, none⟩ = some v0 ∧ W.cell? ⟨g, 1, none⟩ = some v1 ∧ W.cell? ⟨g, 2, none⟩ = some v2 ∧ W.cell? ⟨g, 3, none⟩ = some v3 := by
 obtain ⟨a0, a1, a2, a3, _⟩ := hA
 have hb := h.1
 exact ⟨h, by rw [hb.cell (p := ⟨g, 0, none⟩) (Nat.lt_succ_self _)]; exact a0, by rw [hb.cell (p := ⟨g, 1, none⟩) (Nat.lt_succ_self _)]; exact a1, by rw [hb.cell (p := ⟨g, 2, none⟩) (Nat.lt_succ_self _)]; exact a2, by rw [hb.cell (p := ⟨g, 3, none⟩) (Nat.lt_succ_self _)]; exact a3⟩
set_option maxRecDepth 10000 in
set_option maxHeartbeats 3200000 in
theorem copied_in (k n : Int) (a : Option Addr) (cap : Nat) (zs : List Int) (t : ByteArray) (w : World) (hc : Codes w a zs) (ht : t.size ≤ 100000) :
  Calls Tryz.prog 92 #[av k n a zs.length cap t] w fun e w' =>
   ∃ a' cap', e = .returned (av k n a' zs.length cap' t) ∧ Codes w' a' zs ∧ Free w' a' zs ∧ Fresh a' w.heap.size ∧ (a' = none → cap' = 0) ∧ Below w.heap.size w w' := by
 have HC : Hid (Codes w a zs) := hc
 have HT : Hid (t.size ≤ 100000) := ht
 have hzl := hc.1
 clear hc ht
 go_enter Tryz.func92, Tryz.ntmps92
 go_upto_region 1 with fail
 obtain ⟨W0, hW0⟩ : ∃ W0, Hid ((w.alloc (.cells #[.int .i64 k, .int .i64 n, .slice a zs.length cap, .string t] 59)).alloc (.cells #[.int .i64 0, .int .i64 0, .slice none 0 0, .string ⟨#[]⟩] 59) = W0) := ⟨_, rfl⟩
 have hA : At4 ((w.alloc (.cells #[.int .i64 k, .int .i64 n, .slice a zs.length cap, .string t] 59)).alloc (.cells #[.int .i64 0, .int .i64 0, .slice none 0 0, .string ⟨#[]⟩] 59)) w.heap.size (.int .i64 k) (.int .i64 n) (.slice a zs.length cap) (.string t) := (At4.laid w _ _ _ _ _).on ((Below.refl _ _).alloc (Nat.le_refl _) _)
 have hB : Below w.heap.size w ((w.alloc (.cells #[.int .i64 k, .int .i64 n, .slice a zs.length cap, .string t] 59)).alloc (.cells #[.int .i64 0, .int .i64 0, .slice none 0 0, .string ⟨#[]⟩] 59)) := ((Below.refl _ _).alloc (Nat.le_refl _) _).alloc (by simp) _
 have hS : CpS ((w.alloc (.cells #[.int .i64 k, .int .i64 n, .slice a zs.length cap, .string t] 59)).alloc (.cells #[.int .i64 0, .int .i64 0, .slice none 0 0, .string ⟨#[]⟩] 59)) w.heap.size ((w.alloc (.cells #[.int .i64 k, .int .i64 n, .slice a zs.length cap, .string t] 59)).alloc (.cells #[.int .i64 0, .int .i64 0, .slice none 0 0, .string ⟨#[]⟩] 59)) :=
  ⟨Below.refl _ _, by simp, _, by
   have := heap_alloc_new (w.alloc (.cells #[.int .i64 k, .int .i64 n, .slice a zs.length cap, .string t] 59)) (.cells #[.int .i64 0, .int .i64 0, .slice none 0 0, .string ⟨#[]⟩] 59)
   simpa using this, rfl⟩
 rw [hW0.out] at hA hB hS ⊢
 have hS0 : CpS W0 w.heap.size W0.drew := hS.on (Below.refl _ _).drew
 have HA := hid hA
 have HB := hid hB
 clear hA hB hS hW0
 refine wp_region_held_drew (S := (fun w' => CpS W0 w.heap.size w' ∧ w'.cell? ⟨w.heap.size, 0, none⟩ = some (.int .i64 k) ∧ w'.cell? ⟨w.heap.size, 1, none⟩ = some (.int .i64 n) ∧ w'.cell? ⟨w.heap.size, 2, none⟩ = some (.slice a zs.length cap) ∧ w'.cell? ⟨w.heap.size, 3, none⟩ = some (.string t))) (by kernel_rfl) ?_ (fun hHeld => ?_)
 ·(try dsimp only) <;> (first | exact CpS.all hSn HA.out | exact CpS.all hS0 HA.out)
 refine tk 0 (some 3) rfl hHeld ?_; (try simp only [Act.put, pA, pB, pC]); refine tk 1 (some 4) rfl hHeld ?_; (try simp only [Act.put, pA, pB, pC]); refine tk 2 (some 5) rfl hHeld ?_; (try simp only [Act.put, pA, pB, pC]); refine tk 3 (some 6) rfl hHeld ?_; (try simp only [Act.put, pA, pB, pC]); refine tk 4 (some 7) rfl hHeld ?_; (try simp only [Act.put, pA, pB, pC]); refine tk 5 (some 8) rfl hHeld ?_; (try simp only [Act.put, pA, pB, pC]); refine tk 7 (some 10) rfl hHeld ?_; (try simp only [Act.put, pA, pB, pC]); refine tk 8 (some 11) rfl hHeld ?_; (try simp only [Act.put, pA, pB, pC])
 refine wpAnyH_ready (rs := [6, 9]) (by kernel_rfl) (by simp) ?_
 refine AllReadyH.cons rfl (fun K hK => ?_) (AllReadyH.cons rfl (fun K hK => ?_) AllReadyH.nil)
 ·skip
  go_simp
  go_at_call 122
  have hp := hHeld.1
  refine (clone_in a cap zs _ (HC.out.on (HB.out.trans (hp.1.mono (Nat.le_succ _))))).mono ?_
  rintro e w' ⟨a', cap', rfl, hcd, hfr, hfs, hnc, hB⟩
  (try have HSl2 := HSl.on hB)
  (try clear HSl)
  (try have HSl := HSl2)
  (try clear HSl2)
  have HCx := hid hcd
  have HFx := hid hfr
  have HNx := hid hnc
  have HSx : Hid (Fresh a' (w.heap.size + 2)) := fun b o hb => Nat.le_trans hp.2.1 (hfs b o hb)
  have hSn := hp.on hB
  clear hp hB hcd hfr hfs hnc
  (try go_wp2_with fail)
  refine hK.out _ _ ?_ (fun hHeld2 => ?_)
  ·(try dsimp only) <;> (first | exact CpS.all hSn HA.out | exact CpS.all hS0 HA.out)
  clear hK K hHeld
  have hHeld := hHeld2
  clear hHeld2
  (try simp only [Act.put, pA, pB, pC])
  refine wpAnyH_ready (rs := [9]) (by kernel_rfl) (by simp) ?_
  refine AllReadyH.cons rfl (fun K hK => ?_) AllReadyH.nil
  go_simp
  have hSn := hHeld.1.on ((Below.refl _ _).alloc (Nat.le_refl _) (.cells #[.string t] 9))
  (try have HCx2 := hid (HCx.out.on ((Below.refl _ _).alloc (Nat.le_refl _) (.cells #[.string t] 9))))
  (try have HFx2 := hid (HFx.out.on ((Below.refl _ _).alloc (Nat.le_refl _) (.cells #[.string t] 9))))
  (try clear HCx HFx)
  (try have HCx := HCx2)
  (try have HFx := HFx2)
  (try clear HCx2 HFx2)
  have HSl := CpS.one hHeld.1 t
  refine hK.out _ _ ?_ (fun hHeld2 => ?_)
  ·(try dsimp only) <;> (first | exact CpS.all hSn HA.out | exact CpS.all hS0 HA.out)
  clear hK K hHeld
  have hHeld := hHeld2
  clear hHeld2
  (try simp only [Act.put, pA, pB, pC])
  refine wpAnyH_ready (rs := [10]) (by kernel_rfl) (by simp) ?_
  refine AllReadyH.cons rfl (fun K hK => ?_) AllReadyH.nil
  go_simp
  go_at_call 93
  have hp := hHeld.1
  refine (laid_at t _ _ HSl HT.out).mono ?_
  rintro e w' ⟨rfl, hB⟩
  (try have HCx2 := hid (HCx.out.on hB))
  (try have HFx2 := hid (HFx.out.on hB))
  (try clear HCx HFx)
  (try have HCx := HCx2)
  (try have HFx := HFx2)
  (try clear HCx2 HFx2)
  have hSn := hp.on hB
  clear hp hB HSl
  (try go_wp2_with fail)
  refine hK.out _ _ ?_ (fun hHeld2 => ?_)
  ·(try dsimp only) <;> (first | exact CpS.all hSn HA.out | exact CpS.all hS0 HA.out)
  clear hK K hHeld
  have hHeld := hHeld2
  clear hHeld2
  (try simp only [Act.put, pA, pB, pC]); refine tk 11 (some 14) rfl hHeld ?_; (try simp only [Act.put, pA, pB, pC])
  refine wpAnyH_ready (rs := [12]) (by kernel_rfl) (by simp) ?_
  refine AllReadyH.cons rfl (fun K hK => ?_) AllReadyH.nil
  obtain ⟨⟨v0, r0⟩, f0⟩ := hHeld.1.room 0 (by decide)
  obtain ⟨⟨v1, r1⟩, f1⟩ := hHeld.1.room 1 (by decide)
  obtain ⟨⟨v2, r2⟩, f2⟩ := hHeld.1.room 2 (by decide)
  obtain ⟨⟨v3, r3⟩, f3⟩ := hHeld.1.room 3 (by decide)
  go_simp
  have hSn := (((hHeld.1.put 0 (.int .i64 k)).put 1 (.int .i64 n)).put 2 (.slice a' zs.length cap')).put 3 (.string t)
  refine hK.out _ _ ?_ (fun hHeld2 => ?_)
  ·(try dsimp only) <;> (first | exact CpS.all hSn HA.out | exact CpS.all hS0 HA.out)
  clear hK K hHeld
  have hHeld := hHeld2
  clear hHeld2
  (try simp only [Act.put, pA, pB, pC])
  refine wpAnyH_done (by kernel_rfl) ?_ _
  have HBL : Hid (Below w.heap.size w _) := HB.out.trans (hHeld.1.1.mono (Nat.le_succ _))
  clear hHeld hS0 HA
  go_wp2_with fail
  refine bodyPost_ret (v := av k n a' zs.length cap' t) (by simp [results, Tryz.results92, go_sem, r0, r1, r2, r3]) rfl ⟨a', cap', rfl, ?_, ?_, fun b o hb => by have := HSx.out b o hb; omega, HNx.out, HBL.out⟩
  ·repeat (refine codes_set ?_ (fun b o hb => by have := HSx.out b o hb; simp only; omega) _)
   exact HCx.out
  ·repeat (refine free_set ?_ _ _)
   exact HFx.out
 ·skip
  go_simp
  have hSn := hHeld.1.on ((Below.refl _ _).alloc (Nat.le_refl _) (.cells #[.string t] 9))
  (try have HCx2 := hid (HCx.out.on ((Below.refl _ _).alloc (Nat.le_refl _) (.cells #[.string t] 9))))
  (try have HFx2 := hid (HFx.out.on ((Below.refl _ _).alloc (Nat.le_refl _) (.cells #[.string t] 9))))
  (try clear HCx HFx)
  (try have HCx := HCx2)
  (try have HFx := HFx2)
  (try clear HCx2 HFx2)
  have HSl := CpS.one hHeld.1 t
  refine hK.out _ _ ?_ (fun hHeld2 => ?_)
  ·(try dsimp only) <;> (first | exact CpS.all hSn HA.out | exact CpS.all hS0 HA.out)
  clear hK K hHeld
  have hHeld := hHeld2
  clear hHeld2
  (try simp only [Act.put, pA, pB, pC])
  refine wpAnyH_ready (rs := [6]) (by kernel_rfl) (by simp) ?_
  refine AllReadyH.cons rfl (fun K hK => ?_) AllReadyH.nil
  go_simp
  go_at_call 122
  have hp := hHeld.1
  refine (clone_in a cap zs _ (HC.out.on (HB.out.trans (hp.1.mono (Nat.le_succ _))))).mono ?_
  rintro e w' ⟨a', cap', rfl, hcd, hfr, hfs, hnc, hB⟩
  (try have HSl2 := HSl.on hB)
  (try clear HSl)
  (try have HSl := HSl2)
  (try clear HSl2)
  have HCx := hid hcd
  have HFx := hid hfr
  have HNx := hid hnc
  have HSx : Hid (Fresh a' (w.heap.size + 2)) := fun b o hb => Nat.le_trans hp.2.1 (hfs b o hb)
  have hSn := hp.on hB
  clear hp hB hcd hfr hfs hnc
  (try go_wp2_with fail)
  refine hK.out _ _ ?_ (fun hHeld2 => ?_)
  ·(try dsimp only) <;> (first | exact CpS.all hSn HA.out | exact CpS.all hS0 HA.out)
  clear hK K hHeld
  have hHeld := hHeld2
  clear hHeld2
  (try simp only [Act.put, pA, pB, pC])
  refine wpAnyH_ready (rs := [10]) (by kernel_rfl) (by simp) ?_
  refine AllReadyH.cons rfl (fun K hK => ?_) AllReadyH.nil
  go_simp
  go_at_call 93
  have hp := hHeld.1
  refine (laid_at t _ _ HSl HT.out).mono ?_
  rintro e w' ⟨rfl, hB⟩
  (try have HCx2 := hid (HCx.out.on hB))
  (try have HFx2 := hid (HFx.out.on hB))
  (try clear HCx HFx)
  (try have HCx := HCx2)
  (try have HFx := HFx2)
  (try clear HCx2 HFx2)
  have hSn := hp.on hB
  clear hp hB HSl
  (try go_wp2_with fail)
  refine hK.out _ _ ?_ (fun hHeld2 => ?_)
  ·(try dsimp only) <;> (first | exact CpS.all hSn HA.out | exact CpS.all hS0 HA.out)
  clear hK K hHeld
  have hHeld := hHeld2
  clear hHeld2
  (try simp only [Act.put, pA, pB, pC]); refine tk 11 (some 14) rfl hHeld ?_; (try simp only [Act.put, pA, pB, pC])
  refine wpAnyH_ready (rs := [12]) (by kernel_rfl) (by simp) ?_
  refine AllReadyH.cons rfl (fun K hK => ?_) AllReadyH.nil
  obtain ⟨⟨v0, r0⟩, f0⟩ := hHeld.1.room 0 (by decide)
  obtain ⟨⟨v1, r1⟩, f1⟩ := hHeld.1.room 1 (by decide)
  obtain ⟨⟨v2, r2⟩, f2⟩ := hHeld.1.room 2 (by decide)
  obtain ⟨⟨v3, r3⟩, f3⟩ := hHeld.1.room 3 (by decide)
  go_simp
  have hSn := (((hHeld.1.put 0 (.int .i64 k)).put 1 (.int .i64 n)).put 2 (.slice a' zs.length cap')).put 3 (.string t)
  refine hK.out _ _ ?_ (fun hHeld2 => ?_)
  ·(try dsimp only) <;> (first | exact CpS.all hSn HA.out | exact CpS.all hS0 HA.out)
  clear hK K hHeld
  have hHeld := hHeld2
  clear hHeld2
  (try simp only [Act.put, pA, pB, pC])
  refine wpAnyH_done (by kernel_rfl) ?_ _
  have HBL : Hid (Below w.heap.size w _) := HB.out.trans (hHeld.1.1.mono (Nat.le_succ _))
  clear hHeld hS0 HA
  go_wp2_with fail
  refine bodyPost_ret (v := av k n a' zs.length cap' t) (by simp [results, Tryz.results92, go_sem, r0, r1, r2, r3]) rfl ⟨a', cap', rfl, ?_, ?_, fun b o hb => by have := HSx.out b o hb; omega, HNx.out, HBL.out⟩
  ·repeat (refine codes_set ?_ (fun b o hb => by have := HSx.out b o hb; simp only; omega) _)
   exact HCx.out
  ·repeat (refine free_set ?_ _ _)
   exact HFx.out
end Go.Proofs.YtmbhmknfipdadaaGreatDoor.BookW
