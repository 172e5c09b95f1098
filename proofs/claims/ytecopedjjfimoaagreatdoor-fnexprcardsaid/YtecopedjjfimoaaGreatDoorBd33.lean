/- Texts of ours, laid together: TexImpl, TexHead, TexTop. -/
import Derived.Test.YtecopedjjfimoaaGreatDoorBd23
import Derived.Test.YtecopedjjfimoaaGreatDoorBd20
import Derived.Test.YtecopedjjfimoaaGreatDoorBd11
import Derived.Test.YtecopedjjfimoaaGreatDoorBd18
import Derived.Deep.RegionHeld3
import Derived.Deep.Cut
import Derived.Deep.CutRange
/- The program's text of an expression. -/
namespace Go.Proofs.YtecopedjjfimoaaGreatDoor.TexI
open Go.RowKit
open PrtW PrtM NameW PrtS PrtI DecM TexM

theorem tup_str {a b : ByteArray} {v : Value} (h : a = b) : Ending.returned (.tuple #[.string a, v]) = .returned (.tuple #[.string b, v]) := by rw [h]
theorem ret_str {a b : ByteArray} (h : a = b) : Ending.returned (.string a) = .returned (.string b) := by rw [h]
theorem laid_n (ss : List ByteArray) (w : World) (hlen : ss.length ≤ 16) (htot : (LaidW.catB ss).length ≤ 100000) :
    Calls Tryz.prog 76 #[.slice (some ⟨w.heap.size, 0, none⟩) ss.length ss.length] (w.alloc (.cells (ss.map .string).toArray 9)) fun e w' =>
      e = .returned (.string ⟨(LaidW.catB ss).toArray⟩) ∧ Below w.heap.size w w' := by
  refine (LaidW.laid_any ss w.heap.size _ hlen (by simp) ?_ htot).mono ?_
  · intro i hi
    have : (w.alloc (.cells (ss.map .string).toArray 9)).heap[w.heap.size]? = some (.cells (ss.map .string).toArray 9 (0, 0)) := by
      show (w.heap.push _)[w.heap.size]? = _
      rw [Array.getElem?_push_size]
    unfold World.cell?
    rw [this]
    simp [hi]
  · rintro e w' ⟨rfl, hB⟩
    exact ⟨rfl, (below_one w _).trans (hB.mono (by simp))⟩

theorem laid_1 (s0 : ByteArray) (w : World) (g : Nat) (hg : w.heap.size = g) (htot : s0.size ≤ 100000) :
    Calls Tryz.prog 76 #[.slice (some ⟨g, 0, none⟩) 1 1] (w.alloc (.cells #[.string s0] 9)) fun e w' =>
      e = .returned (.string ⟨(s0.data.toList).toArray⟩) ∧ Below w.heap.size w w' := by
  have h := laid_n [s0] w (by simp) (by simp [LaidW.catB]; omega)
  rw [show LaidW.catB [s0] = s0.data.toList by simp [LaidW.catB]] at h
  rw [← hg]
  exact h
theorem laid_2 (s0 s1 : ByteArray) (w : World) (g : Nat) (hg : w.heap.size = g) (htot : s0.size + s1.size ≤ 100000) :
    Calls Tryz.prog 76 #[.slice (some ⟨g, 0, none⟩) 2 2] (w.alloc (.cells #[.string s0, .string s1] 9)) fun e w' =>
      e = .returned (.string ⟨(s0.data.toList ++ (s1.data.toList)).toArray⟩) ∧ Below w.heap.size w w' := by
  have h := laid_n [s0, s1] w (by simp) (by simp [LaidW.catB]; omega)
  rw [show LaidW.catB [s0, s1] = s0.data.toList ++ (s1.data.toList) by simp [LaidW.catB]] at h
  rw [← hg]
  exact h
theorem laid_4 (s0 s1 s2 s3 : ByteArray) (w : World) (g : Nat) (hg : w.heap.size = g) (htot : s0.size + s1.size + s2.size + s3.size ≤ 100000) :
    Calls Tryz.prog 76 #[.slice (some ⟨g, 0, none⟩) 4 4] (w.alloc (.cells #[.string s0, .string s1, .string s2, .string s3] 9)) fun e w' =>
      e = .returned (.string ⟨(s0.data.toList ++ (s1.data.toList ++ (s2.data.toList ++ (s3.data.toList)))).toArray⟩) ∧ Below w.heap.size w w' := by
  have h := laid_n [s0, s1, s2, s3] w (by simp) (by simp [LaidW.catB]; omega)
  rw [show LaidW.catB [s0, s1, s2, s3] = s0.data.toList ++ (s1.data.toList ++ (s2.data.toList ++ (s3.data.toList))) by simp [LaidW.catB]] at h
  rw [← hg]
  exact h
theorem laid_6 (s0 s1 s2 s3 s4 s5 : ByteArray) (w : World) (g : Nat) (hg : w.heap.size = g) (htot : s0.size + s1.size + s2.size + s3.size + s4.size + s5.size ≤ 100000) :
    Calls Tryz.prog 76 #[.slice (some ⟨g, 0, none⟩) 6 6] (w.alloc (.cells #[.string s0, .string s1, .string s2, .string s3, .string s4, .string s5] 9)) fun e w' =>
      e = .returned (.string ⟨(s0.data.toList ++ (s1.data.toList ++ (s2.data.toList ++ (s3.data.toList ++ (s4.data.toList ++ (s5.data.toList)))))).toArray⟩) ∧ Below w.heap.size w w' := by
  have h := laid_n [s0, s1, s2, s3, s4, s5] w (by simp) (by simp [LaidW.catB]; omega)
  rw [show LaidW.catB [s0, s1, s2, s3, s4, s5] = s0.data.toList ++ (s1.data.toList ++ (s2.data.toList ++ (s3.data.toList ++ (s4.data.toList ++ (s5.data.toList))))) by simp [LaidW.catB]] at h
  rw [← hg]
  exact h
theorem laid_7 (s0 s1 s2 s3 s4 s5 s6 : ByteArray) (w : World) (g : Nat) (hg : w.heap.size = g) (htot : s0.size + s1.size + s2.size + s3.size + s4.size + s5.size + s6.size ≤ 100000) :
    Calls Tryz.prog 76 #[.slice (some ⟨g, 0, none⟩) 7 7] (w.alloc (.cells #[.string s0, .string s1, .string s2, .string s3, .string s4, .string s5, .string s6] 9)) fun e w' =>
      e = .returned (.string ⟨(s0.data.toList ++ (s1.data.toList ++ (s2.data.toList ++ (s3.data.toList ++ (s4.data.toList ++ (s5.data.toList ++ (s6.data.toList))))))).toArray⟩) ∧ Below w.heap.size w w' := by
  have h := laid_n [s0, s1, s2, s3, s4, s5, s6] w (by simp) (by simp [LaidW.catB]; omega)
  rw [show LaidW.catB [s0, s1, s2, s3, s4, s5, s6] = s0.data.toList ++ (s1.data.toList ++ (s2.data.toList ++ (s3.data.toList ++ (s4.data.toList ++ (s5.data.toList ++ (s6.data.toList)))))) by simp [LaidW.catB]] at h
  rw [← hg]
  exact h

set_option maxRecDepth 10000 in
set_option maxHeartbeats 1600000 in
theorem leaf_text (x n : Int) (t : ByteArray) (w : World) (hp : partB (x, n, t) = true) (h0 : many x = 0) (hE : DecI.Env w) :
    Calls Tryz.prog 101 #[.agg #[.int .i64 x, .int .i64 n, .string t]] w fun e w' => e = .returned (.string ⟨(leafL (x, n, t)).toArray⟩) ∧ Below w.heap.size w w' := by
  obtain ⟨T, hT⟩ : ∃ T : ByteArray, Hid ((⟨(leafL (x, n, t)).toArray⟩ : ByteArray) = T) := ⟨_, rfl⟩
  rw [hT.out]
  have hsz := part_size hp
  have HE := hid hE
  have HPB := hid hp
  clear hE hp
  rcases leaf_op HPB.out h0 with e | e | e | e <;> simp only at e <;> subst e
  · have hn := part_num HPB.out
    clear h0
    go_enter Tryz.func101, Tryz.ntmps101
    go_wp2_with fail
    refine (DecI.digits_in n _ (by omega) (by omega) (HE.out.on (below_one w _))).mono ?_
    rintro e w1 ⟨rfl, hB1⟩
    have HB1 : Hid (Below w.heap.size w w1) := (below_one w _).trans (hB1.mono (by simp))
    rw [show (⟨(Lib.itoa n).toArray⟩ : ByteArray) = T from hT.out]
    clear hB1
    go_wp2_with fail
    go_ret
    exact ⟨rfl, HB1.out⟩
  · clear h0
    go_enter Tryz.func101, Tryz.ntmps101
    go_wp2_with fail
    refine (laid_1 t (w.alloc (.cells #[.int .i64 2, .int .i64 n, .string t] 99)) (w.heap.size + 1) (by simp) (by omega)).mono ?_
    rintro e w1 ⟨rfl, hB1⟩
    have HB1 : Hid (Below w.heap.size w w1) := (below_one w _).trans (hB1.mono (by simp))
    rw [show (⟨(t.data.toList).toArray⟩ : ByteArray) = T by rw [← hT.out]; simp [leafL]]
    clear hB1
    go_wp2_with fail
    go_ret
    exact ⟨rfl, HB1.out⟩
  · have hn := part_has HPB.out
    clear h0
    go_enter Tryz.func101, Tryz.ntmps101
    go_wp2_with fail
    obtain ⟨D, hD⟩ : ∃ D : ByteArray, Hid ((⟨(Lib.decDigits n.toNat).toArray⟩ : ByteArray) = D) := ⟨_, rfl⟩
    have hDs : D.size ≤ 19 := by
      rw [← hD.out, size_len, data_mk]
      exact dec_len19 (by omega)
    have HW : Hid (Below w.heap.size w (w.alloc (.cells #[.int .i64 12, .int .i64 n, .string t] 99))) := below_one w _
    have k1 : (w.alloc (.cells #[.int .i64 12, .int .i64 n, .string t] 99)).cell? ⟨w.heap.size, 1, none⟩ = some (.int .i64 n) := by go_simp
    have k2 : (w.alloc (.cells #[.int .i64 12, .int .i64 n, .string t] 99)).cell? ⟨w.heap.size, 2, none⟩ = some (.string t) := by go_simp
    have hg : w.heap.size < (w.alloc (.cells #[.int .i64 12, .int .i64 n, .string t] 99)).heap.size := by simp
    generalize w.alloc (.cells #[.int .i64 12, .int .i64 n, .string t] 99) = W1 at *
    generalize hgg : w.heap.size = g at *
    have HGG := hid hgg
    clear hgg
    have hB0 : Below W1.heap.size W1 W1.drew := (Below.refl _ _).drew
    refine wp_region_held_drew (S := (fun w' => Below W1.heap.size W1 w' ∧ w'.cell? ⟨g, 1, none⟩ = some (.int .i64 n) ∧ w'.cell? ⟨g, 2, none⟩ = some (.string t))) (by kernel_rfl) ?_ (fun hHeld => ?_)
    · (try dsimp only) <;> (first | exact ⟨hBn, (hBn.cell (p := ⟨g, 1, none⟩) hg).trans k1, (hBn.cell (p := ⟨g, 2, none⟩) hg).trans k2⟩ | exact ⟨hHeld.1.alloc hHeld.1.size _, ((hHeld.1.alloc hHeld.1.size _).cell (p := ⟨g, 1, none⟩) hg).trans k1, ((hHeld.1.alloc hHeld.1.size _).cell (p := ⟨g, 2, none⟩) hg).trans k2⟩ | exact ⟨hB0, k1, k2⟩)
    refine wpAnyH_take (i := 0) (oi := { dst := some 12, op := Go.Op.fieldAddr 99 (Go.Operand.tmp 1) 2, type := 0, pos := "l04_expr.go:122", after := #[], guard := none }) (v := ?_) rfl (by kernel_rfl) (by kernel_rfl) (by kernel_rfl) (fun _ _ _ h => h) (Or.inl ⟨by rfl, ?yld51⟩) hHeld ?nxt51
    case yld51 => (intro w hSw; (try dsimp only at hSw); go_simp) <;> with_reducible rfl
    (try simp only [Act.put, List.setIfInBounds_toArray, List.set_cons_zero, List.set_cons_succ])
    refine wpAnyH_take (i := 1) (oi := { dst := some 13, op := Go.Op.load 9 (Go.Operand.tmp 12), type := 9, pos := "l04_expr.go:122", after := #[{ on := 0, ground := Go.Ground.data }], guard := none }) (v := ?_) rfl (by kernel_rfl) (by kernel_rfl) (by kernel_rfl) (fun _ _ _ h => h) (Or.inl ⟨by rfl, ?yld52⟩) hHeld ?nxt52
    case yld52 => (intro w hSw; (try dsimp only at hSw); go_simp) <;> with_reducible rfl
    (try simp only [Act.put, List.setIfInBounds_toArray, List.set_cons_zero, List.set_cons_succ])
    refine wpAnyH_take (i := 2) (oi := { dst := some 14, op := Go.Op.fieldAddr 99 (Go.Operand.tmp 1) 1, type := 0, pos := "l04_expr.go:122", after := #[], guard := none }) (v := ?_) rfl (by kernel_rfl) (by kernel_rfl) (by kernel_rfl) (fun _ _ _ h => h) (Or.inl ⟨by rfl, ?yld53⟩) hHeld ?nxt53
    case yld53 => (intro w hSw; (try dsimp only at hSw); go_simp) <;> with_reducible rfl
    (try simp only [Act.put, List.setIfInBounds_toArray, List.set_cons_zero, List.set_cons_succ])
    refine wpAnyH_take (i := 3) (oi := { dst := some 15, op := Go.Op.load 2 (Go.Operand.tmp 14), type := 2, pos := "l04_expr.go:122", after := #[{ on := 2, ground := Go.Ground.data }], guard := none }) (v := ?_) rfl (by kernel_rfl) (by kernel_rfl) (by kernel_rfl) (fun _ _ _ h => h) (Or.inl ⟨by rfl, ?yld54⟩) hHeld ?nxt54
    case yld54 => (intro w hSw; (try dsimp only at hSw); go_simp) <;> with_reducible rfl
    (try simp only [Act.put, List.setIfInBounds_toArray, List.set_cons_zero, List.set_cons_succ])
    refine wpAnyH_ready (rs := [4]) (by kernel_rfl) (by simp) ?_
    refine AllReadyH.cons (o := { dst := some 16, op := Go.Op.call { callee := Go.Callee.value (Go.Operand.func 88), args := #[Go.Operand.tmp 15], argTypes := #[2] }, type := 9, pos := "l04_expr.go:122", after := #[{ on := 3, ground := Go.Ground.data }], guard := none }) rfl (fun K hK => ?_) AllReadyH.nil
    go_simp
    go_at_call 88
    have hp := hHeld.1
    refine (DecI.digits_small n _ (by omega) (by omega)).mono ?_
    rintro e w' ⟨rfl, rfl⟩
    rw [hD.out]
    have hBn := hp
    clear hp
    (try go_wp2_with fail)
    refine hK.out _ _ ?_ (fun hHeld2 => ?_)
    · (try dsimp only) <;> (first | exact ⟨hBn, (hBn.cell (p := ⟨g, 1, none⟩) hg).trans k1, (hBn.cell (p := ⟨g, 2, none⟩) hg).trans k2⟩ | exact ⟨hHeld.1.alloc hHeld.1.size _, ((hHeld.1.alloc hHeld.1.size _).cell (p := ⟨g, 1, none⟩) hg).trans k1, ((hHeld.1.alloc hHeld.1.size _).cell (p := ⟨g, 2, none⟩) hg).trans k2⟩ | exact ⟨hB0, k1, k2⟩)
    clear hK K hHeld
    have hHeld := hHeld2
    clear hHeld2
    (try simp only [Act.put, List.setIfInBounds_toArray, List.set_cons_zero, List.set_cons_succ])
    refine wpAnyH_ready (rs := [5]) (by kernel_rfl) (by simp) ?_
    refine AllReadyH.cons (o := { dst := some 17, op := Go.Op.buildSlice 48 6 #[(0, Go.Operand.const (Go.Value.string { data := #[104, 97, 115] })), (1, Go.Operand.const (Go.Value.string { data := #[40] })), (2, Go.Operand.tmp 13), (3, Go.Operand.const (Go.Value.string { data := #[44] })), (4, Go.Operand.tmp 16), (5, Go.Operand.const (Go.Value.string { data := #[41] }))], type := 48, pos := "l04_expr.go:122", after := #[{ on := 1, ground := Go.Ground.data }, { on := 4, ground := Go.Ground.data }], guard := none }) rfl (fun K hK => ?_) AllReadyH.nil
    go_simp
    refine hK.out _ _ ?_ (fun hHeld2 => ?_)
    · (try dsimp only) <;> (first | exact ⟨hBn, (hBn.cell (p := ⟨g, 1, none⟩) hg).trans k1, (hBn.cell (p := ⟨g, 2, none⟩) hg).trans k2⟩ | exact ⟨hHeld.1.alloc hHeld.1.size _, ((hHeld.1.alloc hHeld.1.size _).cell (p := ⟨g, 1, none⟩) hg).trans k1, ((hHeld.1.alloc hHeld.1.size _).cell (p := ⟨g, 2, none⟩) hg).trans k2⟩ | exact ⟨hB0, k1, k2⟩)
    clear hK K hHeld
    have hHeld := hHeld2
    clear hHeld2
    (try simp only [Act.put, List.setIfInBounds_toArray, List.set_cons_zero, List.set_cons_succ])
    refine wpAnyH_ready (rs := [6]) (by kernel_rfl) (by simp) ?_
    refine AllReadyH.cons (o := { dst := some 18, op := Go.Op.call { callee := Go.Callee.value (Go.Operand.func 76), args := #[Go.Operand.tmp 17], argTypes := #[48] }, type := 9, pos := "l04_expr.go:122", after := #[{ on := 5, ground := Go.Ground.data }, { on := 4, ground := Go.Ground.chain }], guard := none }) rfl (fun K hK => ?_) AllReadyH.nil
    go_simp
    go_at_call 76
    have hp := hHeld.1
    refine (laid_6 ⟨#[104, 97, 115]⟩ ⟨#[40]⟩ t ⟨#[44]⟩ D ⟨#[41]⟩ W1.drew W1.heap.size rfl (by rw [show (⟨#[104, 97, 115]⟩ : ByteArray).size = 3 from rfl, show (⟨#[40]⟩ : ByteArray).size = 1 from rfl, show (⟨#[44]⟩ : ByteArray).size = 1 from rfl, show (⟨#[41]⟩ : ByteArray).size = 1 from rfl]; omega)).mono ?_
    rintro e w2 ⟨rfl, hB⟩
    have hBn : Below W1.heap.size W1 w2 := hB0.trans (hB.mono hB0.size)
    clear hp hB
    (try go_wp2_with fail)
    refine hK.out _ _ ?_ (fun hHeld2 => ?_)
    · (try dsimp only) <;> (first | exact ⟨hBn, (hBn.cell (p := ⟨g, 1, none⟩) hg).trans k1, (hBn.cell (p := ⟨g, 2, none⟩) hg).trans k2⟩ | exact ⟨hHeld.1.alloc hHeld.1.size _, ((hHeld.1.alloc hHeld.1.size _).cell (p := ⟨g, 1, none⟩) hg).trans k1, ((hHeld.1.alloc hHeld.1.size _).cell (p := ⟨g, 2, none⟩) hg).trans k2⟩ | exact ⟨hB0, k1, k2⟩)
    clear hK K hHeld
    have hHeld := hHeld2
    clear hHeld2
    (try simp only [Act.put, List.setIfInBounds_toArray, List.set_cons_zero, List.set_cons_succ])
    refine wpAnyH_take (i := 7) (oi := { dst := some 2, op := Go.Op.assign (Go.Operand.tmp 18), type := 9, pos := "l04_expr.go:122", after := #[{ on := 6, ground := Go.Ground.data }, { on := 6, ground := Go.Ground.chain }, { on := 0, ground := Go.Ground.phase }, { on := 1, ground := Go.Ground.phase }, { on := 2, ground := Go.Ground.phase }, { on := 3, ground := Go.Ground.phase }, { on := 4, ground := Go.Ground.phase }, { on := 5, ground := Go.Ground.phase }, { on := 6, ground := Go.Ground.phase }], guard := none }) (v := ?_) rfl (by kernel_rfl) (by kernel_rfl) (by kernel_rfl) (fun _ _ _ h => h) (Or.inl ⟨by rfl, ?yld55⟩) hHeld ?nxt55
    case yld55 => (intro w hSw; (try dsimp only at hSw); go_simp) <;> with_reducible rfl
    (try simp only [Act.put, List.setIfInBounds_toArray, List.set_cons_zero, List.set_cons_succ])
    refine wpAnyH_done (by kernel_rfl) ?_ _
    have HBL := hid hHeld.1
    clear hHeld hB0
    go_wp2_with fail
    go_ret
    refine ⟨ret_str ?_, ?_⟩
    · rw [← hT.out]
      congr 2
      rw [← hD.out]
      simp [leafL]
    · have hb2 := HW.out
      rw [HGG.out]
      exact hb2.trans (HBL.out.mono (Nat.le_of_lt hg))
  · clear h0
    go_enter Tryz.func101, Tryz.ntmps101
    go_wp2_with fail
    refine (laid_4 ⟨#[107, 110, 111, 119, 110]⟩ ⟨#[40]⟩ t ⟨#[41]⟩ (w.alloc (.cells #[.int .i64 13, .int .i64 n, .string t] 99)) (w.heap.size + 1) (by simp) (by rw [show (⟨#[107, 110, 111, 119, 110]⟩ : ByteArray).size = 5 from rfl, show (⟨#[40]⟩ : ByteArray).size = 1 from rfl, show (⟨#[41]⟩ : ByteArray).size = 1 from rfl]; omega)).mono ?_
    rintro e w1 ⟨rfl, hB1⟩
    have HB1 : Hid (Below w.heap.size w w1) := (below_one w _).trans (hB1.mono (by simp))
    rw [show (⟨((⟨#[107, 110, 111, 119, 110]⟩ : ByteArray).data.toList ++ ((⟨#[40]⟩ : ByteArray).data.toList ++ (t.data.toList ++ (⟨#[41]⟩ : ByteArray).data.toList))).toArray⟩ : ByteArray) = T by rw [← hT.out]; simp [leafL]]
    clear hB1
    go_wp2_with fail
    go_ret
    exact ⟨rfl, HB1.out⟩
end Go.Proofs.YtecopedjjfimoaaGreatDoor.TexI
/- The program's text of the expression at the head. -/
namespace Go.Proofs.YtecopedjjfimoaaGreatDoor.TexI
open Go.RowKit
open PrtW PrtM NameW PrtS PrtI DecM TexM

theorem tup2 {a b : ByteArray} {v : Value} (h : a = b) : Ending.returned (.tuple #[.string a, v]) = .returned (.tuple #[.string b, v]) := by rw [h]
set_option maxRecDepth 10000 in
set_option maxHeartbeats 3200000 in
theorem impl_txt : ∀ (d : Nat) (l r : List Pt) (a : Option Addr) (cap : Nat) (w : World), behind d l = some r → l.length ≤ 20 → Parts w a l → l.length ≤ cap → EnvS w → DecI.Env w →
    Calls Tryz.prog 70 #[.slice a l.length cap] w fun e w' => (∃ a' cap', e = .returned (.tuple #[.string ⟨(txt d l).toArray⟩, .slice a' r.length cap']) ∧ Parts w' a' r ∧ r.length ≤ cap') ∧ Below w.heap.size w w' := by
  intro d
  induction d with
  | zero => intro l r a cap w h; cases h
  | succ d ih =>
    intro l r a cap w hbd hlen hP hcap hE hD
    have HI := hid ih
    have HP := hid hP
    have HE := hid hE
    have HD := hid hD
    clear ih hP hE hD
    cases l with
    | nil => cases hbd
    | cons p q =>
    obtain ⟨b, o, x, n, t, rfl, hb, hg, hf, c0, c1, c2⟩ := parts_at HP.out (show 0 < (p :: q).length by simp)
    have hpe : p = (x, n, t) := hg
    subst hpe
    simp only [Nat.zero_mul, Nat.add_zero] at c0 c1 c2
    obtain ⟨hp, hcs⟩ := behind_cases hbd
    have hin := part_in hp
    obtain ⟨k, rfl⟩ : ∃ k : Nat, x = k := ⟨x.toNat, by omega⟩
    have hk13 : k < 14 := by omega
    have hk13' : (k : Int) < 14 := by omega
    have HPB := hid hp
    have hsz := part_size hp
    have HP1 := hid (parts_tail HP.out b o rfl)
    have hl1 : ((((k : Int), n, t) :: q).length : Nat) = q.length + 1 := by simp
    rw [hl1] at hlen hcap ⊢
    obtain ⟨T, hT⟩ : ∃ T : ByteArray, Hid ((⟨(txt (d + 1) (((k : Int), n, t) :: q)).toArray⟩ : ByteArray) = T) := ⟨_, rfl⟩
    rw [hT.out]
    obtain ⟨e0, e1, e2, e3, e4, e5, e6⟩ := HE.out.2 k hk13
    have hmi := many_inner k (by omega) (by omega)
    have hg0 := HE.out.1
    obtain ⟨s1, hs1⟩ : ∃ s1, innerF k = s1 := ⟨_, rfl⟩
    obtain ⟨s6, hs6⟩ : ∃ s6, signF k = s6 := ⟨_, rfl⟩
    rw [hs1] at e1 hmi
    rw [hs6] at e6
    have HS6 := hid hs6
    generalize truthF k = s0 at *
    generalize truthsF k = s2 at *
    generalize namedF k = s3 at *
    generalize lowF k = s4 at *
    generalize highF k = s5 at *
    clear hg hf hp hs1 hs6 hl1
    simp only at hcs
    rw [hmi] at hcs
    rcases hcs with ⟨h0, rfl⟩ | ⟨h0, hb1⟩ | ⟨h0, r1, hb1, hb2⟩
    · subst h0
      have h0 : many (k : Int) = 0 := hmi
      have HT2 : Hid ((⟨(leafL ((k : Int), n, t)).toArray⟩ : ByteArray) = T) := by
        show _ = _
        rw [← hT.out, txt_succ, if_pos h0]
      clear hT
      have hT := HT2
      clear HT2 hbd hmi HI
      have HW : Hid (Below w.heap.size w (w.alloc (.cells #[.bool s0, .int .i64 0, .bool s2, .bool s3, .int .i64 s4, .int .i64 s5, .string s6] 96))) := below_one w _
      go_enter Tryz.func70, Tryz.ntmps70
      go_upto_region 10 with fail
      have HD2 := hid (HD.out.on HW.out)
      have HP2 := hid (HP1.out.on HW.out)
      rw [← HW.out.cell (p := ⟨b, _, none⟩) hb] at c0 c1 c2
      have hb2 : b < (w.alloc (.cells #[.bool s0, .int .i64 0, .bool s2, .bool s3, .int .i64 s4, .int .i64 s5, .string s6] 96)).heap.size := by simp; omega
      clear e0 e1 e2 e3 e4 e5 e6
      generalize w.alloc (.cells #[.bool s0, .int .i64 0, .bool s2, .bool s3, .int .i64 s4, .int .i64 s5, .string s6] 96) = W1 at *
      have hB0 : Below W1.heap.size W1 W1.drew := (Below.refl _ _).drew
      by_cases hc1 : cap = 1
      · subst hc1
        obtain rfl : r = [] := List.length_eq_zero_iff.1 (by omega)
        refine wp_region_held_drew (S := (fun w' => Below W1.heap.size W1 w' ∧ w'.cell? ⟨b, o, none⟩ = some (.int .i64 k) ∧ w'.cell? ⟨b, o + 1, none⟩ = some (.int .i64 n) ∧ w'.cell? ⟨b, o + 2, none⟩ = some (.string t))) (by kernel_rfl) ?_ (fun hHeld => ?_)
        · (try dsimp only) <;> (first | exact ⟨hBn, (hBn.cell (p := ⟨b, o, none⟩) hb2).trans c0, (hBn.cell (p := ⟨b, o + 1, none⟩) hb2).trans c1, (hBn.cell (p := ⟨b, o + 2, none⟩) hb2).trans c2⟩ | exact ⟨hB0, c0, c1, c2⟩)
        refine wpAnyH_take (i := 0) (oi := { dst := some 52, op := Go.Op.move (Go.Operand.tmp 0), type := 40, pos := "l04_expr.go:141", after := #[], guard := none }) (v := ?_) rfl (by kernel_rfl) (by kernel_rfl) (by kernel_rfl) (fun _ _ _ h => h) (Or.inl ⟨by rfl, ?yld56⟩) hHeld ?nxt56
        case yld56 => (intro w hSw; (try dsimp only at hSw); go_simp) <;> with_reducible rfl
        (try simp only [Act.put, List.setIfInBounds_toArray, List.set_cons_zero, List.set_cons_succ])
        refine wpAnyH_take (i := 1) (oi := { dst := some 53, op := Go.Op.indexAddr 40 (Go.Operand.tmp 52) (Go.Operand.const (Go.Value.int Go.IntKind.i64 0)), type := 0, pos := "l04_expr.go:141", after := #[{ on := 0, ground := Go.Ground.data }], guard := none }) (v := ?_) rfl (by kernel_rfl) (by kernel_rfl) (by kernel_rfl) (fun _ _ _ h => h) (Or.inl ⟨by rfl, ?yld57⟩) hHeld ?nxt57
        case yld57 => (intro w hSw; (try dsimp only at hSw); go_simp) <;> with_reducible rfl
        (try simp only [Act.put, List.setIfInBounds_toArray, List.set_cons_zero, List.set_cons_succ])
        refine wpAnyH_take (i := 2) (oi := { dst := some 54, op := Go.Op.load 99 (Go.Operand.tmp 53), type := 99, pos := "l04_expr.go:141", after := #[{ on := 1, ground := Go.Ground.data }], guard := none }) (v := ?_) rfl (by kernel_rfl) (by kernel_rfl) (by kernel_rfl) (fun _ _ _ h => h) (Or.inl ⟨by rfl, ?yld58⟩) hHeld ?nxt58
        case yld58 => (intro w hSw; (try dsimp only at hSw); go_simp) <;> with_reducible rfl
        (try simp only [Act.put, List.setIfInBounds_toArray, List.set_cons_zero, List.set_cons_succ])
        refine wpAnyH_take (i := 4) (oi := { dst := some 56, op := Go.Op.move (Go.Operand.tmp 0), type := 40, pos := "l04_expr.go:141", after := #[], guard := none }) (v := ?_) rfl (by kernel_rfl) (by kernel_rfl) (by kernel_rfl) (fun _ _ _ h => h) (Or.inl ⟨by rfl, ?yld59⟩) hHeld ?nxt59
        case yld59 => (intro w hSw; (try dsimp only at hSw); go_simp) <;> with_reducible rfl
        (try simp only [Act.put, List.setIfInBounds_toArray, List.set_cons_zero, List.set_cons_succ])
        refine wpAnyH_take (i := 5) (oi := { dst := some 57, op := Go.Op.slice 40 (Go.Operand.tmp 56) (some (Go.Operand.const (Go.Value.int Go.IntKind.i64 1))) none none, type := 40, pos := "l04_expr.go:141", after := #[{ on := 4, ground := Go.Ground.data }], guard := none }) (v := ?_) rfl (by kernel_rfl) (by kernel_rfl) (by kernel_rfl) (fun _ _ _ h => h) (Or.inl ⟨by rfl, ?yld60⟩) hHeld ?nxt60
        case yld60 => (intro w hSw; (try dsimp only at hSw); go_simp) <;> with_reducible rfl
        (try simp only [Act.put, List.setIfInBounds_toArray, List.set_cons_zero, List.set_cons_succ])
        refine wpAnyH_ready (rs := [3]) (by kernel_rfl) (by simp) ?_
        refine AllReadyH.cons (o := { dst := some 55, op := Go.Op.call { callee := Go.Callee.value (Go.Operand.func 101), args := #[Go.Operand.tmp 54], argTypes := #[99] }, type := 9, pos := "l04_expr.go:141", after := #[{ on := 2, ground := Go.Ground.data }], guard := none }) rfl (fun K hK => ?_) AllReadyH.nil
        go_simp
        go_at_call 101
        have hp := hHeld.1
        refine (leaf_text k n t _ HPB.out h0 (HD2.out.on hp)).mono ?_
        rintro e w' ⟨rfl, hB⟩
        rw [hT.out]
        have hBn := hp.trans (hB.mono hp.size)
        clear hp hB
        (try go_wp2_with fail)
        refine hK.out _ _ ?_ (fun hHeld2 => ?_)
        · (try dsimp only) <;> (first | exact ⟨hBn, (hBn.cell (p := ⟨b, o, none⟩) hb2).trans c0, (hBn.cell (p := ⟨b, o + 1, none⟩) hb2).trans c1, (hBn.cell (p := ⟨b, o + 2, none⟩) hb2).trans c2⟩ | exact ⟨hB0, c0, c1, c2⟩)
        clear hK K hHeld
        have hHeld := hHeld2
        clear hHeld2
        (try simp only [Act.put, List.setIfInBounds_toArray, List.set_cons_zero, List.set_cons_succ])
        refine wpAnyH_take (i := 6) (oi := { dst := some 2, op := Go.Op.assign (Go.Operand.tmp 55), type := 9, pos := "l04_expr.go:141", after := #[{ on := 3, ground := Go.Ground.data }, { on := 3, ground := Go.Ground.chain }, { on := 0, ground := Go.Ground.phase }, { on := 1, ground := Go.Ground.phase }, { on := 2, ground := Go.Ground.phase }, { on := 3, ground := Go.Ground.phase }, { on := 4, ground := Go.Ground.textOnly Go.Departure.lateStores }, { on := 5, ground := Go.Ground.textOnly Go.Departure.lateStoresUnsure }], guard := none }) (v := ?_) rfl (by kernel_rfl) (by kernel_rfl) (by kernel_rfl) (fun _ _ _ h => h) (Or.inl ⟨by rfl, ?yld61⟩) hHeld ?nxt61
        case yld61 => (intro w hSw; (try dsimp only at hSw); go_simp) <;> with_reducible rfl
        (try simp only [Act.put, List.setIfInBounds_toArray, List.set_cons_zero, List.set_cons_succ])
        refine wpAnyH_take (i := 7) (oi := { dst := some 3, op := Go.Op.assign (Go.Operand.tmp 57), type := 40, pos := "l04_expr.go:141", after := #[{ on := 5, ground := Go.Ground.data }, { on := 6, ground := Go.Ground.chain }, { on := 0, ground := Go.Ground.phase }, { on := 1, ground := Go.Ground.phase }, { on := 2, ground := Go.Ground.phase }, { on := 3, ground := Go.Ground.phase }, { on := 4, ground := Go.Ground.phase }, { on := 5, ground := Go.Ground.phase }, { on := 6, ground := Go.Ground.phase }], guard := none }) (v := ?_) rfl (by kernel_rfl) (by kernel_rfl) (by kernel_rfl) (fun _ _ _ h => h) (Or.inl ⟨by rfl, ?yld62⟩) hHeld ?nxt62
        case yld62 => (intro w hSw; (try dsimp only at hSw); go_simp) <;> with_reducible rfl
        (try simp only [Act.put, List.setIfInBounds_toArray, List.set_cons_zero, List.set_cons_succ])
        refine wpAnyH_done (by kernel_rfl) ?_ _
        have HBL := hid hHeld.1
        clear hHeld hB0
        go_wp2_with fail
        go_ret2
        exact ⟨⟨_, _, rfl, Parts.nil _ _, Nat.zero_le _⟩, HW.out.trans (HBL.out.mono HW.out.size)⟩
      · have hc2 : ¬ (cap : Int) = 1 := by omega
        have hc3 : (1 : Int) ≤ (r.length : Int) + 1 := by omega
        refine wp_region_held_drew (S := (fun w' => Below W1.heap.size W1 w' ∧ w'.cell? ⟨b, o, none⟩ = some (.int .i64 k) ∧ w'.cell? ⟨b, o + 1, none⟩ = some (.int .i64 n) ∧ w'.cell? ⟨b, o + 2, none⟩ = some (.string t))) (by kernel_rfl) ?_ (fun hHeld => ?_)
        · (try dsimp only) <;> (first | exact ⟨hBn, (hBn.cell (p := ⟨b, o, none⟩) hb2).trans c0, (hBn.cell (p := ⟨b, o + 1, none⟩) hb2).trans c1, (hBn.cell (p := ⟨b, o + 2, none⟩) hb2).trans c2⟩ | exact ⟨hB0, c0, c1, c2⟩)
        refine wpAnyH_take (i := 0) (oi := { dst := some 52, op := Go.Op.move (Go.Operand.tmp 0), type := 40, pos := "l04_expr.go:141", after := #[], guard := none }) (v := ?_) rfl (by kernel_rfl) (by kernel_rfl) (by kernel_rfl) (fun _ _ _ h => h) (Or.inl ⟨by rfl, ?yld63⟩) hHeld ?nxt63
        case yld63 => (intro w hSw; (try dsimp only at hSw); go_simp) <;> with_reducible rfl
        (try simp only [Act.put, List.setIfInBounds_toArray, List.set_cons_zero, List.set_cons_succ])
        refine wpAnyH_take (i := 1) (oi := { dst := some 53, op := Go.Op.indexAddr 40 (Go.Operand.tmp 52) (Go.Operand.const (Go.Value.int Go.IntKind.i64 0)), type := 0, pos := "l04_expr.go:141", after := #[{ on := 0, ground := Go.Ground.data }], guard := none }) (v := ?_) rfl (by kernel_rfl) (by kernel_rfl) (by kernel_rfl) (fun _ _ _ h => h) (Or.inl ⟨by rfl, ?yld64⟩) hHeld ?nxt64
        case yld64 => (intro w hSw; (try dsimp only at hSw); go_simp) <;> with_reducible rfl
        (try simp only [Act.put, List.setIfInBounds_toArray, List.set_cons_zero, List.set_cons_succ])
        refine wpAnyH_take (i := 2) (oi := { dst := some 54, op := Go.Op.load 99 (Go.Operand.tmp 53), type := 99, pos := "l04_expr.go:141", after := #[{ on := 1, ground := Go.Ground.data }], guard := none }) (v := ?_) rfl (by kernel_rfl) (by kernel_rfl) (by kernel_rfl) (fun _ _ _ h => h) (Or.inl ⟨by rfl, ?yld65⟩) hHeld ?nxt65
        case yld65 => (intro w hSw; (try dsimp only at hSw); go_simp) <;> with_reducible rfl
        (try simp only [Act.put, List.setIfInBounds_toArray, List.set_cons_zero, List.set_cons_succ])
        refine wpAnyH_take (i := 4) (oi := { dst := some 56, op := Go.Op.move (Go.Operand.tmp 0), type := 40, pos := "l04_expr.go:141", after := #[], guard := none }) (v := ?_) rfl (by kernel_rfl) (by kernel_rfl) (by kernel_rfl) (fun _ _ _ h => h) (Or.inl ⟨by rfl, ?yld66⟩) hHeld ?nxt66
        case yld66 => (intro w hSw; (try dsimp only at hSw); go_simp) <;> with_reducible rfl
        (try simp only [Act.put, List.setIfInBounds_toArray, List.set_cons_zero, List.set_cons_succ])
        refine wpAnyH_take (i := 5) (oi := { dst := some 57, op := Go.Op.slice 40 (Go.Operand.tmp 56) (some (Go.Operand.const (Go.Value.int Go.IntKind.i64 1))) none none, type := 40, pos := "l04_expr.go:141", after := #[{ on := 4, ground := Go.Ground.data }], guard := none }) (v := ?_) rfl (by kernel_rfl) (by kernel_rfl) (by kernel_rfl) (fun _ _ _ h => h) (Or.inl ⟨by rfl, ?yld67⟩) hHeld ?nxt67
        case yld67 => (intro w hSw; (try dsimp only at hSw); go_simp) <;> with_reducible rfl
        (try simp only [Act.put, List.setIfInBounds_toArray, List.set_cons_zero, List.set_cons_succ])
        refine wpAnyH_ready (rs := [3]) (by kernel_rfl) (by simp) ?_
        refine AllReadyH.cons (o := { dst := some 55, op := Go.Op.call { callee := Go.Callee.value (Go.Operand.func 101), args := #[Go.Operand.tmp 54], argTypes := #[99] }, type := 9, pos := "l04_expr.go:141", after := #[{ on := 2, ground := Go.Ground.data }], guard := none }) rfl (fun K hK => ?_) AllReadyH.nil
        go_simp
        go_at_call 101
        have hp := hHeld.1
        refine (leaf_text k n t _ HPB.out h0 (HD2.out.on hp)).mono ?_
        rintro e w' ⟨rfl, hB⟩
        rw [hT.out]
        have hBn := hp.trans (hB.mono hp.size)
        clear hp hB
        (try go_wp2_with fail)
        refine hK.out _ _ ?_ (fun hHeld2 => ?_)
        · (try dsimp only) <;> (first | exact ⟨hBn, (hBn.cell (p := ⟨b, o, none⟩) hb2).trans c0, (hBn.cell (p := ⟨b, o + 1, none⟩) hb2).trans c1, (hBn.cell (p := ⟨b, o + 2, none⟩) hb2).trans c2⟩ | exact ⟨hB0, c0, c1, c2⟩)
        clear hK K hHeld
        have hHeld := hHeld2
        clear hHeld2
        (try simp only [Act.put, List.setIfInBounds_toArray, List.set_cons_zero, List.set_cons_succ])
        refine wpAnyH_take (i := 6) (oi := { dst := some 2, op := Go.Op.assign (Go.Operand.tmp 55), type := 9, pos := "l04_expr.go:141", after := #[{ on := 3, ground := Go.Ground.data }, { on := 3, ground := Go.Ground.chain }, { on := 0, ground := Go.Ground.phase }, { on := 1, ground := Go.Ground.phase }, { on := 2, ground := Go.Ground.phase }, { on := 3, ground := Go.Ground.phase }, { on := 4, ground := Go.Ground.textOnly Go.Departure.lateStores }, { on := 5, ground := Go.Ground.textOnly Go.Departure.lateStoresUnsure }], guard := none }) (v := ?_) rfl (by kernel_rfl) (by kernel_rfl) (by kernel_rfl) (fun _ _ _ h => h) (Or.inl ⟨by rfl, ?yld68⟩) hHeld ?nxt68
        case yld68 => (intro w hSw; (try dsimp only at hSw); go_simp) <;> with_reducible rfl
        (try simp only [Act.put, List.setIfInBounds_toArray, List.set_cons_zero, List.set_cons_succ])
        refine wpAnyH_take (i := 7) (oi := { dst := some 3, op := Go.Op.assign (Go.Operand.tmp 57), type := 40, pos := "l04_expr.go:141", after := #[{ on := 5, ground := Go.Ground.data }, { on := 6, ground := Go.Ground.chain }, { on := 0, ground := Go.Ground.phase }, { on := 1, ground := Go.Ground.phase }, { on := 2, ground := Go.Ground.phase }, { on := 3, ground := Go.Ground.phase }, { on := 4, ground := Go.Ground.phase }, { on := 5, ground := Go.Ground.phase }, { on := 6, ground := Go.Ground.phase }], guard := none }) (v := ?_) rfl (by kernel_rfl) (by kernel_rfl) (by kernel_rfl) (fun _ _ _ h => h) (Or.inl ⟨by rfl, ?yld69⟩) hHeld ?nxt69
        case yld69 => (intro w hSw; (try dsimp only at hSw); go_simp) <;> with_reducible rfl
        (try simp only [Act.put, List.setIfInBounds_toArray, List.set_cons_zero, List.set_cons_succ])
        refine wpAnyH_done (by kernel_rfl) ?_ _
        have HBL := hid hHeld.1
        clear hHeld hB0
        go_wp2_with fail
        go_ret2
        exact ⟨⟨_, _, rfl, HP2.out.on HBL.out, by omega⟩, HW.out.trans (HBL.out.mono HW.out.size)⟩
    · subst h0
      have hq := (behind_suffix _ _ _ hb1).2
      have hcn : ¬ cap = 1 := by omega
      have hql : q.length ≤ 20 := by omega
      have hqc : q.length ≤ cap - 1 := by omega
      obtain ⟨s, hs⟩ : ∃ s : ByteArray, Hid ((⟨(txt d q).toArray⟩ : ByteArray) = s) := ⟨_, rfl⟩
      have hsl : s.size ≤ 800 := by
        have h1 := txt_len _ _ _ hb1
        rw [← hs.out, size_len, data_mk]
        omega
      have hk11 : k = 11 := by have := many_one hmi; omega
      subst hk11
      have h6 : s6 = ⟨#[33]⟩ := HS6.out.symm
      subst h6
      have hfin : Hid ((⟨((⟨#[33]⟩ : ByteArray).data.toList ++ s.data.toList).toArray⟩ : ByteArray) = T) := by
        show _ = _
        rw [← hT.out, ← hs.out, data_mk]
        rfl
      have HB1 := hid hb1
      have HW : Hid (Below w.heap.size w (w.alloc (.cells #[.bool s0, .int .i64 1, .bool s2, .bool s3, .int .i64 s4, .int .i64 s5, .string ⟨#[33]⟩] 96))) := below_one w _
      have HE2 := hid (HE.out.on HW.out)
      have HD2 := hid (HD.out.on HW.out)
      have HP2 := hid (HP1.out.on HW.out)
      have k6 : (w.alloc (.cells #[.bool s0, .int .i64 1, .bool s2, .bool s3, .int .i64 s4, .int .i64 s5, .string ⟨#[33]⟩] 96)).cell? ⟨w.heap.size, 6, none⟩ = some (.string ⟨#[33]⟩) := by go_simp
      have hg6 : w.heap.size < (w.alloc (.cells #[.bool s0, .int .i64 1, .bool s2, .bool s3, .int .i64 s4, .int .i64 s5, .string ⟨#[33]⟩] 96)).heap.size := by simp
      clear hbd hb1 hmi c1 c2
      go_enter Tryz.func70, Tryz.ntmps70
      go_wp2_with fail
      clear e0 e1 e2 e3 e4 e5 e6 c0
      generalize w.alloc (.cells #[.bool s0, .int .i64 1, .bool s2, .bool s3, .int .i64 s4, .int .i64 s5, .string ⟨#[33]⟩] 96) = W1 at *
      generalize hgg : w.heap.size = g at *
      have HGG := hid hgg
      clear hgg
      refine (HI.out q r _ _ W1 HB1.out hql HP2.out hqc HE2.out HD2.out).mono ?_
      rintro e w2 ⟨⟨a', cap', rfl, hP3, hc3⟩, hB2⟩
      have HBL : Hid (Below W1.heap.size W1 w2) := hB2
      rw [← hB2.cell (p := ⟨g, _, none⟩) hg6] at k6
      rw [hs.out]
      clear hB2
      go_wp2_with fail
      refine (laid_2 ⟨#[33]⟩ s w2 w2.heap.size rfl (by rw [show (⟨#[33]⟩ : ByteArray).size = 1 from rfl]; omega)).mono ?_
      rintro e w3 ⟨rfl, hB3⟩
      rw [hfin.out]
      have HP4 := hid (hP3.on hB3)
      have HBL3 := hid (HBL.out.trans (hB3.mono HBL.out.size))
      clear hB3
      go_wp2_with fail
      go_ret2
      refine ⟨⟨_, _, rfl, HP4.out, hc3⟩, ?_⟩
      have h := HW.out
      rw [HGG.out]
      exact h.trans (HBL3.out.mono (Nat.le_of_lt hg6))
    · subst h0
      have hq := (behind_suffix _ _ _ hb1).2
      have hq2 := (behind_suffix _ _ _ hb2).2
      have hcn : ¬ cap = 1 := by omega
      have hql : q.length ≤ 20 := by omega
      have hql2 : r1.length ≤ 20 := by omega
      have hqc : q.length ≤ cap - 1 := by omega
      obtain ⟨sa, hsa⟩ : ∃ s : ByteArray, Hid ((⟨(txt d q).toArray⟩ : ByteArray) = s) := ⟨_, rfl⟩
      obtain ⟨sb, hsb⟩ : ∃ s : ByteArray, Hid ((⟨(txt d r1).toArray⟩ : ByteArray) = s) := ⟨_, rfl⟩
      have hsl : sa.size ≤ 800 := by
        have h1 := txt_len _ _ _ hb1
        rw [← hsa.out, size_len, data_mk]
        omega
      have hsl2 : sb.size ≤ 800 := by
        have h1 := txt_len _ _ _ hb2
        rw [← hsb.out, size_len, data_mk]
        omega
      have hsg : s6.size ≤ 2 := by
        rw [← HS6.out, size_len]
        exact sign_len k
      have hfin : Hid ((⟨((⟨#[40]⟩ : ByteArray).data.toList ++ (sa.data.toList ++ ((⟨#[32]⟩ : ByteArray).data.toList ++ (s6.data.toList ++ ((⟨#[32]⟩ : ByteArray).data.toList ++ (sb.data.toList ++ (⟨#[41]⟩ : ByteArray).data.toList)))))).toArray⟩ : ByteArray) = T) := by
        show _ = _
        rw [← hT.out, ← hsa.out, ← hsb.out, ← HS6.out, data_mk, data_mk, txt_succ, if_neg (by rw [hmi]; decide), if_neg (by rw [hmi]; decide)]
        rw [show rest d q = r1 by unfold rest; rw [hb1]; rfl]
        rfl
      have HB1 := hid hb1
      have HB2 := hid hb2
      have HW : Hid (Below w.heap.size w (w.alloc (.cells #[.bool s0, .int .i64 2, .bool s2, .bool s3, .int .i64 s4, .int .i64 s5, .string s6] 96))) := below_one w _
      have HE2 := hid (HE.out.on HW.out)
      have HD2 := hid (HD.out.on HW.out)
      have HP2 := hid (HP1.out.on HW.out)
      have k6 : (w.alloc (.cells #[.bool s0, .int .i64 2, .bool s2, .bool s3, .int .i64 s4, .int .i64 s5, .string s6] 96)).cell? ⟨w.heap.size, 6, none⟩ = some (.string s6) := by go_simp
      have hg6 : w.heap.size < (w.alloc (.cells #[.bool s0, .int .i64 2, .bool s2, .bool s3, .int .i64 s4, .int .i64 s5, .string s6] 96)).heap.size := by simp
      clear hbd hb1 hb2 hmi c1 c2
      go_enter Tryz.func70, Tryz.ntmps70
      go_wp2_with fail
      clear e0 e1 e2 e3 e4 e5 e6 c0
      generalize w.alloc (.cells #[.bool s0, .int .i64 2, .bool s2, .bool s3, .int .i64 s4, .int .i64 s5, .string s6] 96) = W1 at *
      generalize hgg : w.heap.size = g at *
      have HGG := hid hgg
      clear hgg
      refine (HI.out q r1 _ _ W1 HB1.out hql HP2.out hqc HE2.out HD2.out).mono ?_
      rintro e w2 ⟨⟨a', cap', rfl, hP3, hc3⟩, hB2⟩
      have HBL : Hid (Below W1.heap.size W1 w2) := hB2
      rw [← hB2.cell (p := ⟨g, _, none⟩) hg6] at k6
      have hg62 : g < w2.heap.size := Nat.lt_of_lt_of_le hg6 hB2.size
      rw [hsa.out]
      clear hB2
      go_wp2_with fail
      refine (HI.out r1 r a' cap' w2 HB2.out hql2 hP3 hc3 (HE2.out.on HBL.out) (HD2.out.on HBL.out)).mono ?_
      rintro e w3 ⟨⟨a4, cap4, rfl, hP4, hc4⟩, hB3⟩
      have HBL3 : Hid (Below W1.heap.size W1 w3) := HBL.out.trans (hB3.mono HBL.out.size)
      rw [← hB3.cell (p := ⟨g, _, none⟩) hg62] at k6
      rw [hsb.out]
      clear hB3
      go_wp2_with fail
      refine (laid_7 ⟨#[40]⟩ sa ⟨#[32]⟩ s6 ⟨#[32]⟩ sb ⟨#[41]⟩ w3 w3.heap.size rfl (by rw [show (⟨#[40]⟩ : ByteArray).size = 1 from rfl, show (⟨#[32]⟩ : ByteArray).size = 1 from rfl, show (⟨#[41]⟩ : ByteArray).size = 1 from rfl]; omega)).mono ?_
      rintro e w5 ⟨rfl, hB5⟩
      rw [hfin.out]
      have HP5 := hid (hP4.on hB5)
      have HBL5 := hid (HBL3.out.trans (hB5.mono HBL3.out.size))
      clear hB5
      go_wp2_with fail
      go_ret2
      refine ⟨⟨_, _, rfl, HP5.out, hc4⟩, ?_⟩
      have h := HW.out
      rw [HGG.out]
      exact h.trans (HBL5.out.mono (Nat.le_of_lt hg6))
end Go.Proofs.YtecopedjjfimoaaGreatDoor.TexI
/- ExprText of the program. -/
namespace Go.Proofs.YtecopedjjfimoaaGreatDoor.TexI
open Go.RowKit
open PrtW PrtM NameW PrtS PrtI DecM TexM

def EnvX (w : World) : Prop := EnvS w ∧ DecI.Env w
theorem EnvX.on {w w' : World} (h : EnvX w) (hB : Below w.heap.size w w') : EnvX w' := ⟨h.1.on hB, h.2.on hB⟩

set_option maxHeartbeats 800000 in
theorem impl_text (a : Option Addr) (cap : Nat) (ps : List Pt) (w : World) (hP : Parts w a ps) (hcap : ps.length ≤ cap) (hE : EnvX w) :
    Calls Tryz.prog 27 #[.slice a ps.length cap] w fun e w' => e = .returned (.string (textB ps)) ∧ Below w.heap.size w w' := by
  have hl := hP.1
  have HP := hid hP
  have HE := hid hE
  clear hP hE
  unfold textB
  obtain ⟨r, hr⟩ : ∃ r, Hid (rightB ps = r) := ⟨_, rfl⟩
  rw [hr.out]
  cases r
  · rw [if_neg (by decide)]
    go_enter Tryz.func27, Tryz.ntmps27
    go_wp2_with fail
    refine (impl_right a cap ps w HP.out hcap HE.out.1).mono ?_
    rintro e w1 ⟨rfl, hB⟩
    rw [hr.out]
    have HB := hid hB
    clear hB
    go_wp2_with fail
    go_ret
    exact ⟨rfl, HB.out⟩
  · rw [if_pos rfl]
    obtain ⟨h20, hbd⟩ := right_behind hr.out
    obtain ⟨T, hT⟩ : ∃ T : ByteArray, Hid ((⟨(txt 6 ps).toArray⟩ : ByteArray) = T) := ⟨_, rfl⟩
    rw [hT.out]
    have HBD := hid hbd
    clear hbd
    go_enter Tryz.func27, Tryz.ntmps27
    go_wp2_with fail
    refine (impl_right a cap ps w HP.out hcap HE.out.1).mono ?_
    rintro e w1 ⟨rfl, hB⟩
    rw [hr.out]
    have HB := hid hB
    have HP1 := hid (HP.out.on hB)
    have HE1 := hid (HE.out.on hB)
    clear hB
    go_wp2_with fail
    refine (impl_txt 6 ps [] a cap w1 HBD.out h20 HP1.out hcap HE1.out.1 HE1.out.2).mono ?_
    rintro e w2 ⟨⟨a', cap', rfl, -, -⟩, hB2⟩
    have HB2 : Hid (Below w.heap.size w w2) := HB.out.trans (hB2.mono HB.out.size)
    rw [hT.out]
    clear hB2
    go_wp2_with fail
    go_ret
    exact ⟨rfl, HB2.out⟩
end Go.Proofs.YtecopedjjfimoaaGreatDoor.TexI
