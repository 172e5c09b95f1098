/- The program's text of an expression. -/
import Derived.Test.YtppfimbbkbpmoaaDoorTexMath
import Derived.Test.YtppfimbbkbpmoaaDoorDecImpl
import Derived.Test.YtppfimbbkbpmoaaDoorLaidWalks
import Derived.Test.YtppfimbbkbpmoaaDoorPrtTop
import Derived.Deep.RegionHeld3
namespace Go.Proofs.YtppfimbbkbpmoaaDoor.TexI
open Go.RowKit
open PrtW PrtM NameW PrtS PrtI DecM TexM

theorem tup_str {a b : ByteArray} {v : Value} (h : a = b) : Ending.returned (.tuple #[.string a, v]) = .returned (.tuple #[.string b, v]) := by rw [h]
theorem ret_str {a b : ByteArray} (h : a = b) : Ending.returned (.string a) = .returned (.string b) := by rw [h]
theorem laid_n (ss : List ByteArray) (w : World) (hlen : ss.length ≤ 16) (htot : (LaidW.catB ss).length ≤ 100000) :
    Calls Tryd.prog 31 #[.slice (some ⟨w.heap.size, 0, none⟩) ss.length ss.length] (w.alloc (.cells (ss.map .string).toArray 9)) fun e w' =>
      e = .returned (.string ⟨(LaidW.catB ss).toArray⟩) ∧ Below w.heap.size w w' := by
  refine (LaidW.laid_any ss w.heap.size _ hlen (by simp) ?_ htot).mono ?_
  · intro i hi
    have : (w.alloc (.cells (ss.map .string).toArray 9)).heap[w.heap.size]? = some (.cells (ss.map .string).toArray 9 (0, 0)) := by
      show (w.heap.push _)[w.heap.size]? = _
      rw [Array.getElem?_push_size]
    unfold World.cell?
    rw [this]
    simp [hi]
  · rintro e w' ⟨rfl, hB⟩
    exact ⟨rfl, (below_one w _).trans (hB.mono (by simp))⟩

theorem laid_1 (s0 : ByteArray) (w : World) (g : Nat) (hg : w.heap.size = g) (htot : s0.size ≤ 100000) :
    Calls Tryd.prog 31 #[.slice (some ⟨g, 0, none⟩) 1 1] (w.alloc (.cells #[.string s0] 9)) fun e w' =>
      e = .returned (.string ⟨(s0.data.toList).toArray⟩) ∧ Below w.heap.size w w' := by
  have h := laid_n [s0] w (by simp) (by simp [LaidW.catB]; omega)
  rw [show LaidW.catB [s0] = s0.data.toList by simp [LaidW.catB]] at h
  rw [← hg]
  exact h
theorem laid_2 (s0 s1 : ByteArray) (w : World) (g : Nat) (hg : w.heap.size = g) (htot : s0.size + s1.size ≤ 100000) :
    Calls Tryd.prog 31 #[.slice (some ⟨g, 0, none⟩) 2 2] (w.alloc (.cells #[.string s0, .string s1] 9)) fun e w' =>
      e = .returned (.string ⟨(s0.data.toList ++ (s1.data.toList)).toArray⟩) ∧ Below w.heap.size w w' := by
  have h := laid_n [s0, s1] w (by simp) (by simp [LaidW.catB]; omega)
  rw [show LaidW.catB [s0, s1] = s0.data.toList ++ (s1.data.toList) by simp [LaidW.catB]] at h
  rw [← hg]
  exact h
theorem laid_4 (s0 s1 s2 s3 : ByteArray) (w : World) (g : Nat) (hg : w.heap.size = g) (htot : s0.size + s1.size + s2.size + s3.size ≤ 100000) :
    Calls Tryd.prog 31 #[.slice (some ⟨g, 0, none⟩) 4 4] (w.alloc (.cells #[.string s0, .string s1, .string s2, .string s3] 9)) fun e w' =>
      e = .returned (.string ⟨(s0.data.toList ++ (s1.data.toList ++ (s2.data.toList ++ (s3.data.toList)))).toArray⟩) ∧ Below w.heap.size w w' := by
  have h := laid_n [s0, s1, s2, s3] w (by simp) (by simp [LaidW.catB]; omega)
  rw [show LaidW.catB [s0, s1, s2, s3] = s0.data.toList ++ (s1.data.toList ++ (s2.data.toList ++ (s3.data.toList))) by simp [LaidW.catB]] at h
  rw [← hg]
  exact h
theorem laid_6 (s0 s1 s2 s3 s4 s5 : ByteArray) (w : World) (g : Nat) (hg : w.heap.size = g) (htot : s0.size + s1.size + s2.size + s3.size + s4.size + s5.size ≤ 100000) :
    Calls Tryd.prog 31 #[.slice (some ⟨g, 0, none⟩) 6 6] (w.alloc (.cells #[.string s0, .string s1, .string s2, .string s3, .string s4, .string s5] 9)) fun e w' =>
      e = .returned (.string ⟨(s0.data.toList ++ (s1.data.toList ++ (s2.data.toList ++ (s3.data.toList ++ (s4.data.toList ++ (s5.data.toList)))))).toArray⟩) ∧ Below w.heap.size w w' := by
  have h := laid_n [s0, s1, s2, s3, s4, s5] w (by simp) (by simp [LaidW.catB]; omega)
  rw [show LaidW.catB [s0, s1, s2, s3, s4, s5] = s0.data.toList ++ (s1.data.toList ++ (s2.data.toList ++ (s3.data.toList ++ (s4.data.toList ++ (s5.data.toList))))) by simp [LaidW.catB]] at h
  rw [← hg]
  exact h
theorem laid_7 (s0 s1 s2 s3 s4 s5 s6 : ByteArray) (w : World) (g : Nat) (hg : w.heap.size = g) (htot : s0.size + s1.size + s2.size + s3.size + s4.size + s5.size + s6.size ≤ 100000) :
    Calls Tryd.prog 31 #[.slice (some ⟨g, 0, none⟩) 7 7] (w.alloc (.cells #[.string s0, .string s1, .string s2, .string s3, .string s4, .string s5, .string s6] 9)) fun e w' =>
      e = .returned (.string ⟨(s0.data.toList ++ (s1.data.toList ++ (s2.data.toList ++ (s3.data.toList ++ (s4.data.toList ++ (s5.data.toList ++ (s6.data.toList))))))).toArray⟩) ∧ Below w.heap.size w w' := by
  have h := laid_n [s0, s1, s2, s3, s4, s5, s6] w (by simp) (by simp [LaidW.catB]; omega)
  rw [show LaidW.catB [s0, s1, s2, s3, s4, s5, s6] = s0.data.toList ++ (s1.data.toList ++ (s2.data.toList ++ (s3.data.toList ++ (s4.data.toList ++ (s5.data.toList ++ (s6.data.toList)))))) by simp [LaidW.catB]] at h
  rw [← hg]
  exact h

set_option maxRecDepth 10000 in
set_option maxHeartbeats 1600000 in
theorem leaf_text (x n : Int) (t : ByteArray) (w : World) (hp : partB (x, n, t) = true) (h0 : many x = 0) (hE : DecI.Env w) :
    Calls Tryd.prog 42 #[.agg #[.int .i64 x, .int .i64 n, .string t]] w fun e w' => e = .returned (.string ⟨(leafL (x, n, t)).toArray⟩) ∧ Below w.heap.size w w' := by
  obtain ⟨T, hT⟩ : ∃ T : ByteArray, Hid ((⟨(leafL (x, n, t)).toArray⟩ : ByteArray) = T) := ⟨_, rfl⟩
  rw [hT.out]
  have hsz := part_size hp
  have HE := hid hE
  have HPB := hid hp
  clear hE hp
  rcases leaf_op HPB.out h0 with e | e | e | e <;> simp only at e <;> subst e
  · have hn := part_num HPB.out
    clear h0
    go_enter Tryd.func42, Tryd.ntmps42
    go_wp2_with fail
    refine (DecI.digits_in n _ (by omega) (by omega) (HE.out.on (below_one w _))).mono ?_
    rintro e w1 ⟨rfl, hB1⟩
    have HB1 : Hid (Below w.heap.size w w1) := (below_one w _).trans (hB1.mono (by simp))
    rw [show (⟨(Lib.itoa n).toArray⟩ : ByteArray) = T from hT.out]
    clear hB1
    go_wp2_with fail
    go_ret
    exact ⟨rfl, HB1.out⟩
  · clear h0
    go_enter Tryd.func42, Tryd.ntmps42
    go_wp2_with fail
    refine (laid_1 t (w.alloc (.cells #[.int .i64 2, .int .i64 n, .string t] 39)) (w.heap.size + 1) (by simp) (by omega)).mono ?_
    rintro e w1 ⟨rfl, hB1⟩
    have HB1 : Hid (Below w.heap.size w w1) := (below_one w _).trans (hB1.mono (by simp))
    rw [show (⟨(t.data.toList).toArray⟩ : ByteArray) = T by rw [← hT.out]; simp [leafL]]
    clear hB1
    go_wp2_with fail
    go_ret
    exact ⟨rfl, HB1.out⟩
  · have hn := part_has HPB.out
    clear h0
    go_enter Tryd.func42, Tryd.ntmps42
    go_wp2_with fail
    obtain ⟨D, hD⟩ : ∃ D : ByteArray, Hid ((⟨(Lib.decDigits n.toNat).toArray⟩ : ByteArray) = D) := ⟨_, rfl⟩
    have hDs : D.size ≤ 19 := by
      rw [← hD.out, size_len, data_mk]
      exact dec_len19 (by omega)
    have HW : Hid (Below w.heap.size w (w.alloc (.cells #[.int .i64 12, .int .i64 n, .string t] 39))) := below_one w _
    have k1 : (w.alloc (.cells #[.int .i64 12, .int .i64 n, .string t] 39)).cell? ⟨w.heap.size, 1, none⟩ = some (.int .i64 n) := by go_simp
    have k2 : (w.alloc (.cells #[.int .i64 12, .int .i64 n, .string t] 39)).cell? ⟨w.heap.size, 2, none⟩ = some (.string t) := by go_simp
    have hg : w.heap.size < (w.alloc (.cells #[.int .i64 12, .int .i64 n, .string t] 39)).heap.size := by simp
    generalize w.alloc (.cells #[.int .i64 12, .int .i64 n, .string t] 39) = W1 at *
    generalize hgg : w.heap.size = g at *
    have HGG := hid hgg
    clear hgg
    have hB0 : Below W1.heap.size W1 W1.drew := (Below.refl _ _).drew
    refine wp_region_held_drew (S := (fun w' => Below W1.heap.size W1 w' ∧ w'.cell? ⟨g, 1, none⟩ = some (.int .i64 n) ∧ w'.cell? ⟨g, 2, none⟩ = some (.string t))) (by kernel_rfl) ?_ (fun hHeld => ?_)
    · (try dsimp only) <;> (first | exact ⟨hBn, (hBn.cell (p := ⟨g, 1, none⟩) hg).trans k1, (hBn.cell (p := ⟨g, 2, none⟩) hg).trans k2⟩ | exact ⟨hHeld.1.alloc hHeld.1.size _, ((hHeld.1.alloc hHeld.1.size _).cell (p := ⟨g, 1, none⟩) hg).trans k1, ((hHeld.1.alloc hHeld.1.size _).cell (p := ⟨g, 2, none⟩) hg).trans k2⟩ | exact ⟨hB0, k1, k2⟩)
    refine wpAnyH_take (i := 0) (oi := { dst := some 12, op := Go.Op.fieldAddr 39 (Go.Operand.tmp 1) 2, type := 0, pos := "l04_expr.go:122", after := #[], guard := none }) (v := ?_) rfl (by kernel_rfl) (by kernel_rfl) (by kernel_rfl) (fun _ _ _ h => h) (Or.inl ⟨by rfl, ?yld33⟩) hHeld ?nxt33
    case yld33 => (intro w hSw; (try dsimp only at hSw); go_simp) <;> with_reducible rfl
    (try simp only [Act.put, List.setIfInBounds_toArray, List.set_cons_zero, List.set_cons_succ])
    refine wpAnyH_take (i := 1) (oi := { dst := some 13, op := Go.Op.load 9 (Go.Operand.tmp 12), type := 9, pos := "l04_expr.go:122", after := #[{ on := 0, ground := Go.Ground.data }], guard := none }) (v := ?_) rfl (by kernel_rfl) (by kernel_rfl) (by kernel_rfl) (fun _ _ _ h => h) (Or.inl ⟨by rfl, ?yld34⟩) hHeld ?nxt34
    case yld34 => (intro w hSw; (try dsimp only at hSw); go_simp) <;> with_reducible rfl
    (try simp only [Act.put, List.setIfInBounds_toArray, List.set_cons_zero, List.set_cons_succ])
    refine wpAnyH_take (i := 2) (oi := { dst := some 14, op := Go.Op.fieldAddr 39 (Go.Operand.tmp 1) 1, type := 0, pos := "l04_expr.go:122", after := #[], guard := none }) (v := ?_) rfl (by kernel_rfl) (by kernel_rfl) (by kernel_rfl) (fun _ _ _ h => h) (Or.inl ⟨by rfl, ?yld35⟩) hHeld ?nxt35
    case yld35 => (intro w hSw; (try dsimp only at hSw); go_simp) <;> with_reducible rfl
    (try simp only [Act.put, List.setIfInBounds_toArray, List.set_cons_zero, List.set_cons_succ])
    refine wpAnyH_take (i := 3) (oi := { dst := some 15, op := Go.Op.load 2 (Go.Operand.tmp 14), type := 2, pos := "l04_expr.go:122", after := #[{ on := 2, ground := Go.Ground.data }], guard := none }) (v := ?_) rfl (by kernel_rfl) (by kernel_rfl) (by kernel_rfl) (fun _ _ _ h => h) (Or.inl ⟨by rfl, ?yld36⟩) hHeld ?nxt36
    case yld36 => (intro w hSw; (try dsimp only at hSw); go_simp) <;> with_reducible rfl
    (try simp only [Act.put, List.setIfInBounds_toArray, List.set_cons_zero, List.set_cons_succ])
    refine wpAnyH_ready (rs := [4]) (by kernel_rfl) (by simp) ?_
    refine AllReadyH.cons (o := { dst := some 16, op := Go.Op.call { callee := Go.Callee.value (Go.Operand.func 50), args := #[Go.Operand.tmp 15], argTypes := #[2] }, type := 9, pos := "l04_expr.go:122", after := #[{ on := 3, ground := Go.Ground.data }], guard := none }) rfl (fun K hK => ?_) AllReadyH.nil
    go_simp
    go_at_call 50
    have hp := hHeld.1
    refine (DecI.digits_small n _ (by omega) (by omega)).mono ?_
    rintro e w' ⟨rfl, rfl⟩
    rw [hD.out]
    have hBn := hp
    clear hp
    (try go_wp2_with fail)
    refine hK.out _ _ ?_ (fun hHeld2 => ?_)
    · (try dsimp only) <;> (first | exact ⟨hBn, (hBn.cell (p := ⟨g, 1, none⟩) hg).trans k1, (hBn.cell (p := ⟨g, 2, none⟩) hg).trans k2⟩ | exact ⟨hHeld.1.alloc hHeld.1.size _, ((hHeld.1.alloc hHeld.1.size _).cell (p := ⟨g, 1, none⟩) hg).trans k1, ((hHeld.1.alloc hHeld.1.size _).cell (p := ⟨g, 2, none⟩) hg).trans k2⟩ | exact ⟨hB0, k1, k2⟩)
    clear hK K hHeld
    have hHeld := hHeld2
    clear hHeld2
    (try simp only [Act.put, List.setIfInBounds_toArray, List.set_cons_zero, List.set_cons_succ])
    refine wpAnyH_ready (rs := [5]) (by kernel_rfl) (by simp) ?_
    refine AllReadyH.cons (o := { dst := some 17, op := Go.Op.buildSlice 30 6 #[(0, Go.Operand.const (Go.Value.string { data := #[104, 97, 115] })), (1, Go.Operand.const (Go.Value.string { data := #[40] })), (2, Go.Operand.tmp 13), (3, Go.Operand.const (Go.Value.string { data := #[44] })), (4, Go.Operand.tmp 16), (5, Go.Operand.const (Go.Value.string { data := #[41] }))], type := 30, pos := "l04_expr.go:122", after := #[{ on := 1, ground := Go.Ground.data }, { on := 4, ground := Go.Ground.data }], guard := none }) rfl (fun K hK => ?_) AllReadyH.nil
    go_simp
    refine hK.out _ _ ?_ (fun hHeld2 => ?_)
    · (try dsimp only) <;> (first | exact ⟨hBn, (hBn.cell (p := ⟨g, 1, none⟩) hg).trans k1, (hBn.cell (p := ⟨g, 2, none⟩) hg).trans k2⟩ | exact ⟨hHeld.1.alloc hHeld.1.size _, ((hHeld.1.alloc hHeld.1.size _).cell (p := ⟨g, 1, none⟩) hg).trans k1, ((hHeld.1.alloc hHeld.1.size _).cell (p := ⟨g, 2, none⟩) hg).trans k2⟩ | exact ⟨hB0, k1, k2⟩)
    clear hK K hHeld
    have hHeld := hHeld2
    clear hHeld2
    (try simp only [Act.put, List.setIfInBounds_toArray, List.set_cons_zero, List.set_cons_succ])
    refine wpAnyH_ready (rs := [6]) (by kernel_rfl) (by simp) ?_
    refine AllReadyH.cons (o := { dst := some 18, op := Go.Op.call { callee := Go.Callee.value (Go.Operand.func 31), args := #[Go.Operand.tmp 17], argTypes := #[30] }, type := 9, pos := "l04_expr.go:122", after := #[{ on := 5, ground := Go.Ground.data }, { on := 4, ground := Go.Ground.chain }], guard := none }) rfl (fun K hK => ?_) AllReadyH.nil
    go_simp
    go_at_call 31
    have hp := hHeld.1
    refine (laid_6 ⟨#[104, 97, 115]⟩ ⟨#[40]⟩ t ⟨#[44]⟩ D ⟨#[41]⟩ W1.drew W1.heap.size rfl (by rw [show (⟨#[104, 97, 115]⟩ : ByteArray).size = 3 from rfl, show (⟨#[40]⟩ : ByteArray).size = 1 from rfl, show (⟨#[44]⟩ : ByteArray).size = 1 from rfl, show (⟨#[41]⟩ : ByteArray).size = 1 from rfl]; omega)).mono ?_
    rintro e w2 ⟨rfl, hB⟩
    have hBn : Below W1.heap.size W1 w2 := hB0.trans (hB.mono hB0.size)
    clear hp hB
    (try go_wp2_with fail)
    refine hK.out _ _ ?_ (fun hHeld2 => ?_)
    · (try dsimp only) <;> (first | exact ⟨hBn, (hBn.cell (p := ⟨g, 1, none⟩) hg).trans k1, (hBn.cell (p := ⟨g, 2, none⟩) hg).trans k2⟩ | exact ⟨hHeld.1.alloc hHeld.1.size _, ((hHeld.1.alloc hHeld.1.size _).cell (p := ⟨g, 1, none⟩) hg).trans k1, ((hHeld.1.alloc hHeld.1.size _).cell (p := ⟨g, 2, none⟩) hg).trans k2⟩ | exact ⟨hB0, k1, k2⟩)
    clear hK K hHeld
    have hHeld := hHeld2
    clear hHeld2
    (try simp only [Act.put, List.setIfInBounds_toArray, List.set_cons_zero, List.set_cons_succ])
    refine wpAnyH_take (i := 7) (oi := { dst := some 2, op := Go.Op.assign (Go.Operand.tmp 18), type := 9, pos := "l04_expr.go:122", after := #[{ on := 6, ground := Go.Ground.data }, { on := 6, ground := Go.Ground.chain }, { on := 0, ground := Go.Ground.phase }, { on := 1, ground := Go.Ground.phase }, { on := 2, ground := Go.Ground.phase }, { on := 3, ground := Go.Ground.phase }, { on := 4, ground := Go.Ground.phase }, { on := 5, ground := Go.Ground.phase }, { on := 6, ground := Go.Ground.phase }], guard := none }) (v := ?_) rfl (by kernel_rfl) (by kernel_rfl) (by kernel_rfl) (fun _ _ _ h => h) (Or.inl ⟨by rfl, ?yld37⟩) hHeld ?nxt37
    case yld37 => (intro w hSw; (try dsimp only at hSw); go_simp) <;> with_reducible rfl
    (try simp only [Act.put, List.setIfInBounds_toArray, List.set_cons_zero, List.set_cons_succ])
    refine wpAnyH_done (by kernel_rfl) ?_ _
    have HBL := hid hHeld.1
    clear hHeld hB0
    go_wp2_with fail
    go_ret
    refine ⟨ret_str ?_, ?_⟩
    · rw [← hT.out]
      congr 2
      rw [← hD.out]
      simp [leafL]
    · have hb2 := HW.out
      rw [HGG.out]
      exact hb2.trans (HBL.out.mono (Nat.le_of_lt hg))
  · clear h0
    go_enter Tryd.func42, Tryd.ntmps42
    go_wp2_with fail
    refine (laid_4 ⟨#[107, 110, 111, 119, 110]⟩ ⟨#[40]⟩ t ⟨#[41]⟩ (w.alloc (.cells #[.int .i64 13, .int .i64 n, .string t] 39)) (w.heap.size + 1) (by simp) (by rw [show (⟨#[107, 110, 111, 119, 110]⟩ : ByteArray).size = 5 from rfl, show (⟨#[40]⟩ : ByteArray).size = 1 from rfl, show (⟨#[41]⟩ : ByteArray).size = 1 from rfl]; omega)).mono ?_
    rintro e w1 ⟨rfl, hB1⟩
    have HB1 : Hid (Below w.heap.size w w1) := (below_one w _).trans (hB1.mono (by simp))
    rw [show (⟨((⟨#[107, 110, 111, 119, 110]⟩ : ByteArray).data.toList ++ ((⟨#[40]⟩ : ByteArray).data.toList ++ (t.data.toList ++ (⟨#[41]⟩ : ByteArray).data.toList))).toArray⟩ : ByteArray) = T by rw [← hT.out]; simp [leafL]]
    clear hB1
    go_wp2_with fail
    go_ret
    exact ⟨rfl, HB1.out⟩
end Go.Proofs.YtppfimbbkbpmoaaDoor.TexI
