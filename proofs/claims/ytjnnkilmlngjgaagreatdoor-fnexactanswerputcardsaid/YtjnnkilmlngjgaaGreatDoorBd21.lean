/- Texts of ours, laid together: CopiedI. -/
import Derived.Test.YtjnnkilmlngjgaaGreatDoorBd12
import Derived.Test.YtjnnkilmlngjgaaGreatDoorBd7
import Derived.Test.YtjnnkilmlngjgaaGreatDoorBd6
import Derived.Deep.RegionHeld3
import Derived.Deep.Cut
import Derived.Deep.CutRange
/- A copy of an answer in memory of its own, by the program. -/
namespace Go.Proofs.YtjnnkilmlngjgaaGreatDoor.BookW
open Go.RowKit
open ValW RdS RdI ValI

theorem hid {p : Prop} (h : p) : Hid p := h
/-- one text lies alone in a block -/
def One (w : World) (g : Nat) (t : ByteArray) : Prop := g < w.heap.size ∧ w.cell? ⟨g, 0, none⟩ = some (.string t)
theorem One.on {w w' : World} {g : Nat} {t : ByteArray} (h : One w g t) (hB : Below w.heap.size w w') : One w' g t := ⟨Nat.lt_of_lt_of_le h.1 hB.size, by rw [hB.cell (p := ⟨g, 0, none⟩) h.1]; exact h.2⟩
theorem One.laid (w : World) (t : ByteArray) : One (w.alloc (.cells #[.string t] 9)) w.heap.size t := ⟨by simp, by simp⟩
theorem laid_at (t : ByteArray) (g : Nat) (w : World) (h : One w g t) (ht : t.size ≤ 100000) :
    Calls Tryz.prog 39 #[.slice (some ⟨g, 0, none⟩) 1 1] w fun e w' => e = .returned (.string t) ∧ Below w.heap.size w w' := by
  have hcat : LaidW.catB [t] = t.data.toList := by simp [LaidW.catB]
  refine (LaidW.laid_any [t] g w (by simp) h.1 ?_ ?_).mono ?_
  · intro i hi
    match i, hi with
    | 0, _ => simpa using h.2
  · rw [hcat]; simpa using ht
  · rintro e w' ⟨rfl, hB⟩
    exact ⟨by rw [hcat], hB⟩
/-- what holds while a copy is made: block g is the answer, block g + 1 is where the copy comes to lie -/
def CpS (W0 : World) (g : Nat) (w' : World) : Prop := Below (g + 1) W0 w' ∧ g + 2 ≤ w'.heap.size ∧ ∃ cs : Array Value, w'.heap[g + 1]? = some (.cells cs 33 (0, 0)) ∧ cs.size = 4
theorem CpS.on {W0 W W' : World} {g : Nat} (h : CpS W0 g W) (hB : Below W.heap.size W W') : CpS W0 g W' := by
  obtain ⟨h1, h2, cs, h3, h4⟩ := h
  exact ⟨h1.trans (hB.mono (by omega)), Nat.le_trans h2 hB.size, cs, by rw [hB.block _ (by omega)]; exact h3, h4⟩
theorem CpS.one {W0 W : World} {g : Nat} (_h : CpS W0 g W) (t : ByteArray) : One (W.alloc (.cells #[.string t] 9)) W.heap.size t := One.laid W t
theorem CpS.put {W0 W : World} {g : Nat} (h : CpS W0 g W) (j : Nat) (v : Value) : CpS W0 g (W.setCell ⟨g + 1, j, none⟩ v) := by
  obtain ⟨h1, h2, cs, h3, h4⟩ := h
  exact ⟨h1.setCell (Nat.le_refl _) _, by simpa using h2, cs.setIfInBounds j v, by simp [World.setCell, Array.getElem?_modify, h3], by simpa using h4⟩
theorem CpS.room {W0 W : World} {g : Nat} (h : CpS W0 g W) (j : Nat) (hj : j < 4) : (∃ v, W.cell? ⟨g + 1, j, none⟩ = some v) ∧ W.frozen? ⟨g + 1, j, none⟩ = false := by
  obtain ⟨h1, h2, cs, h3, h4⟩ := h
  refine ⟨⟨cs[j]'(by omega), ?_⟩, by simp [World.frozen?, h3]⟩
  simp [World.cell?, h3, show j < cs.size by omega]
theorem CpS.all {W0 W : World} {g : Nat} {v0 v1 v2 v3 : Value} (h : CpS W0 g W) (hA : At4 W0 g v0 v1 v2 v3) : CpS W0 g W ∧ W.cell? ⟨g, 0, none⟩ = some v0 ∧ W.cell? ⟨g, 1, none⟩ = some v1 ∧ W.cell? ⟨g, 2, none⟩ = some v2 ∧ W.cell? ⟨g, 3, none⟩ = some v3 := by
  obtain ⟨a0, a1, a2, a3, _⟩ := hA
  have hb := h.1
  exact ⟨h, by rw [hb.cell (p := ⟨g, 0, none⟩) (Nat.lt_succ_self _)]; exact a0, by rw [hb.cell (p := ⟨g, 1, none⟩) (Nat.lt_succ_self _)]; exact a1, by rw [hb.cell (p := ⟨g, 2, none⟩) (Nat.lt_succ_self _)]; exact a2, by rw [hb.cell (p := ⟨g, 3, none⟩) (Nat.lt_succ_self _)]; exact a3⟩

set_option maxRecDepth 10000 in
set_option maxHeartbeats 3200000 in
theorem copied_in (k n : Int) (a : Option Addr) (cap : Nat) (zs : List Int) (t : ByteArray) (w : World) (hc : Codes w a zs) (ht : t.size ≤ 100000) :
    Calls Tryz.prog 38 #[av k n a zs.length cap t] w fun e w' =>
      ∃ a' cap', e = .returned (av k n a' zs.length cap' t) ∧ Codes w' a' zs ∧ Free w' a' zs ∧ Fresh a' w.heap.size ∧ (a' = none → cap' = 0) ∧ Below w.heap.size w w' := by
  have HC : Hid (Codes w a zs) := hc
  have HT : Hid (t.size ≤ 100000) := ht
  have hzl := hc.1
  clear hc ht
  go_enter Tryz.func38, Tryz.ntmps38
  go_upto_region 1 with fail
  obtain ⟨W0, hW0⟩ : ∃ W0, Hid ((w.alloc (.cells #[.int .i64 k, .int .i64 n, .slice a zs.length cap, .string t] 33)).alloc (.cells #[.int .i64 0, .int .i64 0, .slice none 0 0, .string ⟨#[]⟩] 33) = W0) := ⟨_, rfl⟩
  have hA : At4 ((w.alloc (.cells #[.int .i64 k, .int .i64 n, .slice a zs.length cap, .string t] 33)).alloc (.cells #[.int .i64 0, .int .i64 0, .slice none 0 0, .string ⟨#[]⟩] 33)) w.heap.size (.int .i64 k) (.int .i64 n) (.slice a zs.length cap) (.string t) := (At4.laid w _ _ _ _ _).on ((Below.refl _ _).alloc (Nat.le_refl _) _)
  have hB : Below w.heap.size w ((w.alloc (.cells #[.int .i64 k, .int .i64 n, .slice a zs.length cap, .string t] 33)).alloc (.cells #[.int .i64 0, .int .i64 0, .slice none 0 0, .string ⟨#[]⟩] 33)) := ((Below.refl _ _).alloc (Nat.le_refl _) _).alloc (by simp) _
  have hS : CpS ((w.alloc (.cells #[.int .i64 k, .int .i64 n, .slice a zs.length cap, .string t] 33)).alloc (.cells #[.int .i64 0, .int .i64 0, .slice none 0 0, .string ⟨#[]⟩] 33)) w.heap.size ((w.alloc (.cells #[.int .i64 k, .int .i64 n, .slice a zs.length cap, .string t] 33)).alloc (.cells #[.int .i64 0, .int .i64 0, .slice none 0 0, .string ⟨#[]⟩] 33)) :=
    ⟨Below.refl _ _, by simp, _, by
      have := heap_alloc_new (w.alloc (.cells #[.int .i64 k, .int .i64 n, .slice a zs.length cap, .string t] 33)) (.cells #[.int .i64 0, .int .i64 0, .slice none 0 0, .string ⟨#[]⟩] 33)
      simpa using this, rfl⟩
  rw [hW0.out] at hA hB hS ⊢
  have hS0 : CpS W0 w.heap.size W0.drew := hS.on (Below.refl _ _).drew
  have HA := hid hA
  have HB := hid hB
  clear hA hB hS hW0
  refine wp_region_held_drew (S := (fun w' => CpS W0 w.heap.size w' ∧ w'.cell? ⟨w.heap.size, 0, none⟩ = some (.int .i64 k) ∧ w'.cell? ⟨w.heap.size, 1, none⟩ = some (.int .i64 n) ∧ w'.cell? ⟨w.heap.size, 2, none⟩ = some (.slice a zs.length cap) ∧ w'.cell? ⟨w.heap.size, 3, none⟩ = some (.string t))) (by kernel_rfl) ?_ (fun hHeld => ?_)
  · (try dsimp only) <;> (first | exact CpS.all hSn HA.out | exact CpS.all hS0 HA.out)
  refine wpAnyH_take (i := 0) (oi := { dst := some 3, op := Go.Op.fieldAddr 33 (Go.Operand.tmp 1) 0, type := 0, pos := "l05_eval.go:51", after := #[], guard := none }) (v := ?_) rfl (by kernel_rfl) (by kernel_rfl) (by kernel_rfl) (fun _ _ _ h => h) (Or.inl ⟨by rfl, ?yld1⟩) hHeld ?nxt1
  case yld1 => (intro w hSw; (try dsimp only at hSw); go_simp) <;> with_reducible rfl
  (try simp only [Act.put, List.setIfInBounds_toArray, List.set_cons_zero, List.set_cons_succ])
  refine wpAnyH_take (i := 1) (oi := { dst := some 4, op := Go.Op.load 2 (Go.Operand.tmp 3), type := 2, pos := "l05_eval.go:51", after := #[{ on := 0, ground := Go.Ground.data }], guard := none }) (v := ?_) rfl (by kernel_rfl) (by kernel_rfl) (by kernel_rfl) (fun _ _ _ h => h) (Or.inl ⟨by rfl, ?yld2⟩) hHeld ?nxt2
  case yld2 => (intro w hSw; (try dsimp only at hSw); go_simp) <;> with_reducible rfl
  (try simp only [Act.put, List.setIfInBounds_toArray, List.set_cons_zero, List.set_cons_succ])
  refine wpAnyH_take (i := 2) (oi := { dst := some 5, op := Go.Op.fieldAddr 33 (Go.Operand.tmp 1) 1, type := 0, pos := "l05_eval.go:51", after := #[], guard := none }) (v := ?_) rfl (by kernel_rfl) (by kernel_rfl) (by kernel_rfl) (fun _ _ _ h => h) (Or.inl ⟨by rfl, ?yld3⟩) hHeld ?nxt3
  case yld3 => (intro w hSw; (try dsimp only at hSw); go_simp) <;> with_reducible rfl
  (try simp only [Act.put, List.setIfInBounds_toArray, List.set_cons_zero, List.set_cons_succ])
  refine wpAnyH_take (i := 3) (oi := { dst := some 6, op := Go.Op.load 2 (Go.Operand.tmp 5), type := 2, pos := "l05_eval.go:51", after := #[{ on := 2, ground := Go.Ground.data }], guard := none }) (v := ?_) rfl (by kernel_rfl) (by kernel_rfl) (by kernel_rfl) (fun _ _ _ h => h) (Or.inl ⟨by rfl, ?yld4⟩) hHeld ?nxt4
  case yld4 => (intro w hSw; (try dsimp only at hSw); go_simp) <;> with_reducible rfl
  (try simp only [Act.put, List.setIfInBounds_toArray, List.set_cons_zero, List.set_cons_succ])
  refine wpAnyH_take (i := 4) (oi := { dst := some 7, op := Go.Op.fieldAddr 33 (Go.Operand.tmp 1) 2, type := 0, pos := "l05_eval.go:51", after := #[], guard := none }) (v := ?_) rfl (by kernel_rfl) (by kernel_rfl) (by kernel_rfl) (fun _ _ _ h => h) (Or.inl ⟨by rfl, ?yld5⟩) hHeld ?nxt5
  case yld5 => (intro w hSw; (try dsimp only at hSw); go_simp) <;> with_reducible rfl
  (try simp only [Act.put, List.setIfInBounds_toArray, List.set_cons_zero, List.set_cons_succ])
  refine wpAnyH_take (i := 5) (oi := { dst := some 8, op := Go.Op.load 23 (Go.Operand.tmp 7), type := 23, pos := "l05_eval.go:51", after := #[{ on := 4, ground := Go.Ground.data }], guard := none }) (v := ?_) rfl (by kernel_rfl) (by kernel_rfl) (by kernel_rfl) (fun _ _ _ h => h) (Or.inl ⟨by rfl, ?yld6⟩) hHeld ?nxt6
  case yld6 => (intro w hSw; (try dsimp only at hSw); go_simp) <;> with_reducible rfl
  (try simp only [Act.put, List.setIfInBounds_toArray, List.set_cons_zero, List.set_cons_succ])
  refine wpAnyH_take (i := 7) (oi := { dst := some 10, op := Go.Op.fieldAddr 33 (Go.Operand.tmp 1) 3, type := 0, pos := "l05_eval.go:51", after := #[], guard := none }) (v := ?_) rfl (by kernel_rfl) (by kernel_rfl) (by kernel_rfl) (fun _ _ _ h => h) (Or.inl ⟨by rfl, ?yld7⟩) hHeld ?nxt7
  case yld7 => (intro w hSw; (try dsimp only at hSw); go_simp) <;> with_reducible rfl
  (try simp only [Act.put, List.setIfInBounds_toArray, List.set_cons_zero, List.set_cons_succ])
  refine wpAnyH_take (i := 8) (oi := { dst := some 11, op := Go.Op.load 9 (Go.Operand.tmp 10), type := 9, pos := "l05_eval.go:51", after := #[{ on := 7, ground := Go.Ground.data }], guard := none }) (v := ?_) rfl (by kernel_rfl) (by kernel_rfl) (by kernel_rfl) (fun _ _ _ h => h) (Or.inl ⟨by rfl, ?yld8⟩) hHeld ?nxt8
  case yld8 => (intro w hSw; (try dsimp only at hSw); go_simp) <;> with_reducible rfl
  (try simp only [Act.put, List.setIfInBounds_toArray, List.set_cons_zero, List.set_cons_succ])
  refine wpAnyH_ready (rs := [6, 9]) (by kernel_rfl) (by simp) ?_
  refine AllReadyH.cons (o := { dst := some 9, op := Go.Op.call { callee := Go.Callee.value (Go.Operand.func 50), args := #[Go.Operand.tmp 8], argTypes := #[23] }, type := 23, pos := "l05_eval.go:51", after := #[{ on := 5, ground := Go.Ground.data }], guard := none }) rfl (fun K hK => ?_) (AllReadyH.cons (o := { dst := some 12, op := Go.Op.buildSlice 80 1 #[(0, Go.Operand.tmp 11)], type := 80, pos := "l05_eval.go:51", after := #[{ on := 8, ground := Go.Ground.data }], guard := none }) rfl (fun K hK => ?_) AllReadyH.nil)
  · skip
    go_simp
    go_at_call 50
    have hp := hHeld.1
    refine (clone_in a cap zs _ (HC.out.on (HB.out.trans (hp.1.mono (Nat.le_succ _))))).mono ?_
    rintro e w' ⟨a', cap', rfl, hcd, hfr, hfs, hnc, hB⟩
    (try have HSl2 := HSl.on hB)
    (try clear HSl)
    (try have HSl := HSl2)
    (try clear HSl2)
    have HCx := hid hcd
    have HFx := hid hfr
    have HNx := hid hnc
    have HSx : Hid (Fresh a' (w.heap.size + 2)) := fun b o hb => Nat.le_trans hp.2.1 (hfs b o hb)
    have hSn := hp.on hB
    clear hp hB hcd hfr hfs hnc
    (try go_wp2_with fail)
    refine hK.out _ _ ?_ (fun hHeld2 => ?_)
    · (try dsimp only) <;> (first | exact CpS.all hSn HA.out | exact CpS.all hS0 HA.out)
    clear hK K hHeld
    have hHeld := hHeld2
    clear hHeld2
    (try simp only [Act.put, List.setIfInBounds_toArray, List.set_cons_zero, List.set_cons_succ])
    refine wpAnyH_ready (rs := [9]) (by kernel_rfl) (by simp) ?_
    refine AllReadyH.cons (o := { dst := some 12, op := Go.Op.buildSlice 80 1 #[(0, Go.Operand.tmp 11)], type := 80, pos := "l05_eval.go:51", after := #[{ on := 8, ground := Go.Ground.data }], guard := none }) rfl (fun K hK => ?_) AllReadyH.nil
    go_simp
    have hSn := hHeld.1.on ((Below.refl _ _).alloc (Nat.le_refl _) (.cells #[.string t] 9))
    (try have HCx2 := hid (HCx.out.on ((Below.refl _ _).alloc (Nat.le_refl _) (.cells #[.string t] 9))))
    (try have HFx2 := hid (HFx.out.on ((Below.refl _ _).alloc (Nat.le_refl _) (.cells #[.string t] 9))))
    (try clear HCx HFx)
    (try have HCx := HCx2)
    (try have HFx := HFx2)
    (try clear HCx2 HFx2)
    have HSl := CpS.one hHeld.1 t
    refine hK.out _ _ ?_ (fun hHeld2 => ?_)
    · (try dsimp only) <;> (first | exact CpS.all hSn HA.out | exact CpS.all hS0 HA.out)
    clear hK K hHeld
    have hHeld := hHeld2
    clear hHeld2
    (try simp only [Act.put, List.setIfInBounds_toArray, List.set_cons_zero, List.set_cons_succ])
    refine wpAnyH_ready (rs := [10]) (by kernel_rfl) (by simp) ?_
    refine AllReadyH.cons (o := { dst := some 13, op := Go.Op.call { callee := Go.Callee.value (Go.Operand.func 39), args := #[Go.Operand.tmp 12], argTypes := #[80] }, type := 9, pos := "l05_eval.go:51", after := #[{ on := 9, ground := Go.Ground.data }, { on := 6, ground := Go.Ground.chain }], guard := none }) rfl (fun K hK => ?_) AllReadyH.nil
    go_simp
    go_at_call 39
    have hp := hHeld.1
    refine (laid_at t _ _ HSl HT.out).mono ?_
    rintro e w' ⟨rfl, hB⟩
    (try have HCx2 := hid (HCx.out.on hB))
    (try have HFx2 := hid (HFx.out.on hB))
    (try clear HCx HFx)
    (try have HCx := HCx2)
    (try have HFx := HFx2)
    (try clear HCx2 HFx2)
    have hSn := hp.on hB
    clear hp hB HSl
    (try go_wp2_with fail)
    refine hK.out _ _ ?_ (fun hHeld2 => ?_)
    · (try dsimp only) <;> (first | exact CpS.all hSn HA.out | exact CpS.all hS0 HA.out)
    clear hK K hHeld
    have hHeld := hHeld2
    clear hHeld2
    (try simp only [Act.put, List.setIfInBounds_toArray, List.set_cons_zero, List.set_cons_succ])
    refine wpAnyH_take (i := 11) (oi := { dst := some 14, op := Go.Op.build 33 #[(0, Go.Operand.tmp 4), (1, Go.Operand.tmp 6), (2, Go.Operand.tmp 9), (3, Go.Operand.tmp 13)], type := 33, pos := "l05_eval.go:51", after := #[{ on := 1, ground := Go.Ground.data }, { on := 3, ground := Go.Ground.data }, { on := 6, ground := Go.Ground.data }, { on := 10, ground := Go.Ground.data }], guard := none }) (v := ?_) rfl (by kernel_rfl) (by kernel_rfl) (by kernel_rfl) (fun _ _ _ h => h) (Or.inl ⟨by rfl, ?yld9⟩) hHeld ?nxt9
    case yld9 => (intro w hSw; (try dsimp only at hSw); go_simp) <;> with_reducible rfl
    (try simp only [Act.put, List.setIfInBounds_toArray, List.set_cons_zero, List.set_cons_succ])
    refine wpAnyH_ready (rs := [12]) (by kernel_rfl) (by simp) ?_
    refine AllReadyH.cons (o := { dst := none, op := Go.Op.store 33 (Go.Operand.tmp 2) (Go.Operand.tmp 14), type := 0, pos := "l05_eval.go:51", after := #[{ on := 11, ground := Go.Ground.data }, { on := 10, ground := Go.Ground.chain }, { on := 0, ground := Go.Ground.phase }, { on := 1, ground := Go.Ground.phase }, { on := 2, ground := Go.Ground.phase }, { on := 3, ground := Go.Ground.phase }, { on := 4, ground := Go.Ground.phase }, { on := 5, ground := Go.Ground.phase }, { on := 6, ground := Go.Ground.phase }, { on := 7, ground := Go.Ground.phase }, { on := 8, ground := Go.Ground.phase }, { on := 9, ground := Go.Ground.phase }, { on := 10, ground := Go.Ground.phase }, { on := 11, ground := Go.Ground.phase }], guard := none }) rfl (fun K hK => ?_) AllReadyH.nil
    obtain ⟨⟨v0, r0⟩, f0⟩ := hHeld.1.room 0 (by decide)
    obtain ⟨⟨v1, r1⟩, f1⟩ := hHeld.1.room 1 (by decide)
    obtain ⟨⟨v2, r2⟩, f2⟩ := hHeld.1.room 2 (by decide)
    obtain ⟨⟨v3, r3⟩, f3⟩ := hHeld.1.room 3 (by decide)
    go_simp
    have hSn := (((hHeld.1.put 0 (.int .i64 k)).put 1 (.int .i64 n)).put 2 (.slice a' zs.length cap')).put 3 (.string t)
    refine hK.out _ _ ?_ (fun hHeld2 => ?_)
    · (try dsimp only) <;> (first | exact CpS.all hSn HA.out | exact CpS.all hS0 HA.out)
    clear hK K hHeld
    have hHeld := hHeld2
    clear hHeld2
    (try simp only [Act.put, List.setIfInBounds_toArray, List.set_cons_zero, List.set_cons_succ])
    refine wpAnyH_done (by kernel_rfl) ?_ _
    have HBL : Hid (Below w.heap.size w _) := HB.out.trans (hHeld.1.1.mono (Nat.le_succ _))
    clear hHeld hS0 HA
    go_wp2_with fail
    refine bodyPost_ret (v := av k n a' zs.length cap' t) (by simp [results, Tryz.results38, go_sem, r0, r1, r2, r3]) rfl ⟨a', cap', rfl, ?_, ?_, fun b o hb => by have := HSx.out b o hb; omega, HNx.out, HBL.out⟩
    · repeat (refine codes_set ?_ (fun b o hb => by have := HSx.out b o hb; simp only; omega) _)
      exact HCx.out
    · repeat (refine free_set ?_ _ _)
      exact HFx.out
  · skip
    go_simp
    have hSn := hHeld.1.on ((Below.refl _ _).alloc (Nat.le_refl _) (.cells #[.string t] 9))
    (try have HCx2 := hid (HCx.out.on ((Below.refl _ _).alloc (Nat.le_refl _) (.cells #[.string t] 9))))
    (try have HFx2 := hid (HFx.out.on ((Below.refl _ _).alloc (Nat.le_refl _) (.cells #[.string t] 9))))
    (try clear HCx HFx)
    (try have HCx := HCx2)
    (try have HFx := HFx2)
    (try clear HCx2 HFx2)
    have HSl := CpS.one hHeld.1 t
    refine hK.out _ _ ?_ (fun hHeld2 => ?_)
    · (try dsimp only) <;> (first | exact CpS.all hSn HA.out | exact CpS.all hS0 HA.out)
    clear hK K hHeld
    have hHeld := hHeld2
    clear hHeld2
    (try simp only [Act.put, List.setIfInBounds_toArray, List.set_cons_zero, List.set_cons_succ])
    refine wpAnyH_ready (rs := [6]) (by kernel_rfl) (by simp) ?_
    refine AllReadyH.cons (o := { dst := some 9, op := Go.Op.call { callee := Go.Callee.value (Go.Operand.func 50), args := #[Go.Operand.tmp 8], argTypes := #[23] }, type := 23, pos := "l05_eval.go:51", after := #[{ on := 5, ground := Go.Ground.data }], guard := none }) rfl (fun K hK => ?_) AllReadyH.nil
    go_simp
    go_at_call 50
    have hp := hHeld.1
    refine (clone_in a cap zs _ (HC.out.on (HB.out.trans (hp.1.mono (Nat.le_succ _))))).mono ?_
    rintro e w' ⟨a', cap', rfl, hcd, hfr, hfs, hnc, hB⟩
    (try have HSl2 := HSl.on hB)
    (try clear HSl)
    (try have HSl := HSl2)
    (try clear HSl2)
    have HCx := hid hcd
    have HFx := hid hfr
    have HNx := hid hnc
    have HSx : Hid (Fresh a' (w.heap.size + 2)) := fun b o hb => Nat.le_trans hp.2.1 (hfs b o hb)
    have hSn := hp.on hB
    clear hp hB hcd hfr hfs hnc
    (try go_wp2_with fail)
    refine hK.out _ _ ?_ (fun hHeld2 => ?_)
    · (try dsimp only) <;> (first | exact CpS.all hSn HA.out | exact CpS.all hS0 HA.out)
    clear hK K hHeld
    have hHeld := hHeld2
    clear hHeld2
    (try simp only [Act.put, List.setIfInBounds_toArray, List.set_cons_zero, List.set_cons_succ])
    refine wpAnyH_ready (rs := [10]) (by kernel_rfl) (by simp) ?_
    refine AllReadyH.cons (o := { dst := some 13, op := Go.Op.call { callee := Go.Callee.value (Go.Operand.func 39), args := #[Go.Operand.tmp 12], argTypes := #[80] }, type := 9, pos := "l05_eval.go:51", after := #[{ on := 9, ground := Go.Ground.data }, { on := 6, ground := Go.Ground.chain }], guard := none }) rfl (fun K hK => ?_) AllReadyH.nil
    go_simp
    go_at_call 39
    have hp := hHeld.1
    refine (laid_at t _ _ HSl HT.out).mono ?_
    rintro e w' ⟨rfl, hB⟩
    (try have HCx2 := hid (HCx.out.on hB))
    (try have HFx2 := hid (HFx.out.on hB))
    (try clear HCx HFx)
    (try have HCx := HCx2)
    (try have HFx := HFx2)
    (try clear HCx2 HFx2)
    have hSn := hp.on hB
    clear hp hB HSl
    (try go_wp2_with fail)
    refine hK.out _ _ ?_ (fun hHeld2 => ?_)
    · (try dsimp only) <;> (first | exact CpS.all hSn HA.out | exact CpS.all hS0 HA.out)
    clear hK K hHeld
    have hHeld := hHeld2
    clear hHeld2
    (try simp only [Act.put, List.setIfInBounds_toArray, List.set_cons_zero, List.set_cons_succ])
    refine wpAnyH_take (i := 11) (oi := { dst := some 14, op := Go.Op.build 33 #[(0, Go.Operand.tmp 4), (1, Go.Operand.tmp 6), (2, Go.Operand.tmp 9), (3, Go.Operand.tmp 13)], type := 33, pos := "l05_eval.go:51", after := #[{ on := 1, ground := Go.Ground.data }, { on := 3, ground := Go.Ground.data }, { on := 6, ground := Go.Ground.data }, { on := 10, ground := Go.Ground.data }], guard := none }) (v := ?_) rfl (by kernel_rfl) (by kernel_rfl) (by kernel_rfl) (fun _ _ _ h => h) (Or.inl ⟨by rfl, ?yld10⟩) hHeld ?nxt10
    case yld10 => (intro w hSw; (try dsimp only at hSw); go_simp) <;> with_reducible rfl
    (try simp only [Act.put, List.setIfInBounds_toArray, List.set_cons_zero, List.set_cons_succ])
    refine wpAnyH_ready (rs := [12]) (by kernel_rfl) (by simp) ?_
    refine AllReadyH.cons (o := { dst := none, op := Go.Op.store 33 (Go.Operand.tmp 2) (Go.Operand.tmp 14), type := 0, pos := "l05_eval.go:51", after := #[{ on := 11, ground := Go.Ground.data }, { on := 10, ground := Go.Ground.chain }, { on := 0, ground := Go.Ground.phase }, { on := 1, ground := Go.Ground.phase }, { on := 2, ground := Go.Ground.phase }, { on := 3, ground := Go.Ground.phase }, { on := 4, ground := Go.Ground.phase }, { on := 5, ground := Go.Ground.phase }, { on := 6, ground := Go.Ground.phase }, { on := 7, ground := Go.Ground.phase }, { on := 8, ground := Go.Ground.phase }, { on := 9, ground := Go.Ground.phase }, { on := 10, ground := Go.Ground.phase }, { on := 11, ground := Go.Ground.phase }], guard := none }) rfl (fun K hK => ?_) AllReadyH.nil
    obtain ⟨⟨v0, r0⟩, f0⟩ := hHeld.1.room 0 (by decide)
    obtain ⟨⟨v1, r1⟩, f1⟩ := hHeld.1.room 1 (by decide)
    obtain ⟨⟨v2, r2⟩, f2⟩ := hHeld.1.room 2 (by decide)
    obtain ⟨⟨v3, r3⟩, f3⟩ := hHeld.1.room 3 (by decide)
    go_simp
    have hSn := (((hHeld.1.put 0 (.int .i64 k)).put 1 (.int .i64 n)).put 2 (.slice a' zs.length cap')).put 3 (.string t)
    refine hK.out _ _ ?_ (fun hHeld2 => ?_)
    · (try dsimp only) <;> (first | exact CpS.all hSn HA.out | exact CpS.all hS0 HA.out)
    clear hK K hHeld
    have hHeld := hHeld2
    clear hHeld2
    (try simp only [Act.put, List.setIfInBounds_toArray, List.set_cons_zero, List.set_cons_succ])
    refine wpAnyH_done (by kernel_rfl) ?_ _
    have HBL : Hid (Below w.heap.size w _) := HB.out.trans (hHeld.1.1.mono (Nat.le_succ _))
    clear hHeld hS0 HA
    go_wp2_with fail
    refine bodyPost_ret (v := av k n a' zs.length cap' t) (by simp [results, Tryz.results38, go_sem, r0, r1, r2, r3]) rfl ⟨a', cap', rfl, ?_, ?_, fun b o hb => by have := HSx.out b o hb; omega, HNx.out, HBL.out⟩
    · repeat (refine codes_set ?_ (fun b o hb => by have := HSx.out b o hb; simp only; omega) _)
      exact HCx.out
    · repeat (refine free_set ?_ _ _)
      exact HFx.out
end Go.Proofs.YtjnnkilmlngjgaaGreatDoor.BookW
