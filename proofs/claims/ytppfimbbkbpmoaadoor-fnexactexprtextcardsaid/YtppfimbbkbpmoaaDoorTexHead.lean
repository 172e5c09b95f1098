/- The program's text of the expression at the head. -/
import Derived.Test.YtppfimbbkbpmoaaDoorTexImpl
import Derived.Deep.Cut
import Derived.Deep.CutRange
namespace Go.Proofs.YtppfimbbkbpmoaaDoor.TexI
open Go.RowKit
open PrtW PrtM NameW PrtS PrtI DecM TexM

theorem tup2 {a b : ByteArray} {v : Value} (h : a = b) : Ending.returned (.tuple #[.string a, v]) = .returned (.tuple #[.string b, v]) := by rw [h]
set_option maxRecDepth 10000 in
set_option maxHeartbeats 3200000 in
theorem impl_txt : ∀ (d : Nat) (l r : List Pt) (a : Option Addr) (cap : Nat) (w : World), behind d l = some r → l.length ≤ 20 → Parts w a l → l.length ≤ cap → EnvS w → DecI.Env w →
    Calls Tryd.prog 29 #[.slice a l.length cap] w fun e w' => (∃ a' cap', e = .returned (.tuple #[.string ⟨(txt d l).toArray⟩, .slice a' r.length cap']) ∧ Parts w' a' r ∧ r.length ≤ cap') ∧ Below w.heap.size w w' := by
  intro d
  induction d with
  | zero => intro l r a cap w h; cases h
  | succ d ih =>
    intro l r a cap w hbd hlen hP hcap hE hD
    have HI := hid ih
    have HP := hid hP
    have HE := hid hE
    have HD := hid hD
    clear ih hP hE hD
    cases l with
    | nil => cases hbd
    | cons p q =>
    obtain ⟨b, o, x, n, t, rfl, hb, hg, hf, c0, c1, c2⟩ := parts_at HP.out (show 0 < (p :: q).length by simp)
    have hpe : p = (x, n, t) := hg
    subst hpe
    simp only [Nat.zero_mul, Nat.add_zero] at c0 c1 c2
    obtain ⟨hp, hcs⟩ := behind_cases hbd
    have hin := part_in hp
    obtain ⟨k, rfl⟩ : ∃ k : Nat, x = k := ⟨x.toNat, by omega⟩
    have hk13 : k < 14 := by omega
    have hk13' : (k : Int) < 14 := by omega
    have HPB := hid hp
    have hsz := part_size hp
    have HP1 := hid (parts_tail HP.out b o rfl)
    have hl1 : ((((k : Int), n, t) :: q).length : Nat) = q.length + 1 := by simp
    rw [hl1] at hlen hcap ⊢
    obtain ⟨T, hT⟩ : ∃ T : ByteArray, Hid ((⟨(txt (d + 1) (((k : Int), n, t) :: q)).toArray⟩ : ByteArray) = T) := ⟨_, rfl⟩
    rw [hT.out]
    obtain ⟨e0, e1, e2, e3, e4, e5, e6⟩ := HE.out.2 k hk13
    have hmi := many_inner k (by omega) (by omega)
    have hg0 := HE.out.1
    obtain ⟨s1, hs1⟩ : ∃ s1, innerF k = s1 := ⟨_, rfl⟩
    obtain ⟨s6, hs6⟩ : ∃ s6, signF k = s6 := ⟨_, rfl⟩
    rw [hs1] at e1 hmi
    rw [hs6] at e6
    have HS6 := hid hs6
    generalize truthF k = s0 at *
    generalize truthsF k = s2 at *
    generalize namedF k = s3 at *
    generalize lowF k = s4 at *
    generalize highF k = s5 at *
    clear hg hf hp hs1 hs6 hl1
    simp only at hcs
    rw [hmi] at hcs
    rcases hcs with ⟨h0, rfl⟩ | ⟨h0, hb1⟩ | ⟨h0, r1, hb1, hb2⟩
    · subst h0
      have h0 : many (k : Int) = 0 := hmi
      have HT2 : Hid ((⟨(leafL ((k : Int), n, t)).toArray⟩ : ByteArray) = T) := by
        show _ = _
        rw [← hT.out, txt_succ, if_pos h0]
      clear hT
      have hT := HT2
      clear HT2 hbd hmi HI
      have HW : Hid (Below w.heap.size w (w.alloc (.cells #[.bool s0, .int .i64 0, .bool s2, .bool s3, .int .i64 s4, .int .i64 s5, .string s6] 46))) := below_one w _
      go_enter Tryd.func29, Tryd.ntmps29
      go_upto_region 10 with fail
      have HD2 := hid (HD.out.on HW.out)
      have HP2 := hid (HP1.out.on HW.out)
      rw [← HW.out.cell (p := ⟨b, _, none⟩) hb] at c0 c1 c2
      have hb2 : b < (w.alloc (.cells #[.bool s0, .int .i64 0, .bool s2, .bool s3, .int .i64 s4, .int .i64 s5, .string s6] 46)).heap.size := by simp; omega
      clear e0 e1 e2 e3 e4 e5 e6
      generalize w.alloc (.cells #[.bool s0, .int .i64 0, .bool s2, .bool s3, .int .i64 s4, .int .i64 s5, .string s6] 46) = W1 at *
      have hB0 : Below W1.heap.size W1 W1.drew := (Below.refl _ _).drew
      by_cases hc1 : cap = 1
      · subst hc1
        obtain rfl : r = [] := List.length_eq_zero_iff.1 (by omega)
        refine wp_region_held_drew (S := (fun w' => Below W1.heap.size W1 w' ∧ w'.cell? ⟨b, o, none⟩ = some (.int .i64 k) ∧ w'.cell? ⟨b, o + 1, none⟩ = some (.int .i64 n) ∧ w'.cell? ⟨b, o + 2, none⟩ = some (.string t))) (by kernel_rfl) ?_ (fun hHeld => ?_)
        · (try dsimp only) <;> (first | exact ⟨hBn, (hBn.cell (p := ⟨b, o, none⟩) hb2).trans c0, (hBn.cell (p := ⟨b, o + 1, none⟩) hb2).trans c1, (hBn.cell (p := ⟨b, o + 2, none⟩) hb2).trans c2⟩ | exact ⟨hB0, c0, c1, c2⟩)
        refine wpAnyH_take (i := 0) (oi := { dst := some 52, op := Go.Op.move (Go.Operand.tmp 0), type := 25, pos := "l04_expr.go:141", after := #[], guard := none }) (v := ?_) rfl (by kernel_rfl) (by kernel_rfl) (by kernel_rfl) (fun _ _ _ h => h) (Or.inl ⟨by rfl, ?yld38⟩) hHeld ?nxt38
        case yld38 => (intro w hSw; (try dsimp only at hSw); go_simp) <;> with_reducible rfl
        (try simp only [Act.put, List.setIfInBounds_toArray, List.set_cons_zero, List.set_cons_succ])
        refine wpAnyH_take (i := 1) (oi := { dst := some 53, op := Go.Op.indexAddr 25 (Go.Operand.tmp 52) (Go.Operand.const (Go.Value.int Go.IntKind.i64 0)), type := 0, pos := "l04_expr.go:141", after := #[{ on := 0, ground := Go.Ground.data }], guard := none }) (v := ?_) rfl (by kernel_rfl) (by kernel_rfl) (by kernel_rfl) (fun _ _ _ h => h) (Or.inl ⟨by rfl, ?yld39⟩) hHeld ?nxt39
        case yld39 => (intro w hSw; (try dsimp only at hSw); go_simp) <;> with_reducible rfl
        (try simp only [Act.put, List.setIfInBounds_toArray, List.set_cons_zero, List.set_cons_succ])
        refine wpAnyH_take (i := 2) (oi := { dst := some 54, op := Go.Op.load 39 (Go.Operand.tmp 53), type := 39, pos := "l04_expr.go:141", after := #[{ on := 1, ground := Go.Ground.data }], guard := none }) (v := ?_) rfl (by kernel_rfl) (by kernel_rfl) (by kernel_rfl) (fun _ _ _ h => h) (Or.inl ⟨by rfl, ?yld40⟩) hHeld ?nxt40
        case yld40 => (intro w hSw; (try dsimp only at hSw); go_simp) <;> with_reducible rfl
        (try simp only [Act.put, List.setIfInBounds_toArray, List.set_cons_zero, List.set_cons_succ])
        refine wpAnyH_take (i := 4) (oi := { dst := some 56, op := Go.Op.move (Go.Operand.tmp 0), type := 25, pos := "l04_expr.go:141", after := #[], guard := none }) (v := ?_) rfl (by kernel_rfl) (by kernel_rfl) (by kernel_rfl) (fun _ _ _ h => h) (Or.inl ⟨by rfl, ?yld41⟩) hHeld ?nxt41
        case yld41 => (intro w hSw; (try dsimp only at hSw); go_simp) <;> with_reducible rfl
        (try simp only [Act.put, List.setIfInBounds_toArray, List.set_cons_zero, List.set_cons_succ])
        refine wpAnyH_take (i := 5) (oi := { dst := some 57, op := Go.Op.slice 25 (Go.Operand.tmp 56) (some (Go.Operand.const (Go.Value.int Go.IntKind.i64 1))) none none, type := 25, pos := "l04_expr.go:141", after := #[{ on := 4, ground := Go.Ground.data }], guard := none }) (v := ?_) rfl (by kernel_rfl) (by kernel_rfl) (by kernel_rfl) (fun _ _ _ h => h) (Or.inl ⟨by rfl, ?yld42⟩) hHeld ?nxt42
        case yld42 => (intro w hSw; (try dsimp only at hSw); go_simp) <;> with_reducible rfl
        (try simp only [Act.put, List.setIfInBounds_toArray, List.set_cons_zero, List.set_cons_succ])
        refine wpAnyH_ready (rs := [3]) (by kernel_rfl) (by simp) ?_
        refine AllReadyH.cons (o := { dst := some 55, op := Go.Op.call { callee := Go.Callee.value (Go.Operand.func 42), args := #[Go.Operand.tmp 54], argTypes := #[39] }, type := 9, pos := "l04_expr.go:141", after := #[{ on := 2, ground := Go.Ground.data }], guard := none }) rfl (fun K hK => ?_) AllReadyH.nil
        go_simp
        go_at_call 42
        have hp := hHeld.1
        refine (leaf_text k n t _ HPB.out h0 (HD2.out.on hp)).mono ?_
        rintro e w' ⟨rfl, hB⟩
        rw [hT.out]
        have hBn := hp.trans (hB.mono hp.size)
        clear hp hB
        (try go_wp2_with fail)
        refine hK.out _ _ ?_ (fun hHeld2 => ?_)
        · (try dsimp only) <;> (first | exact ⟨hBn, (hBn.cell (p := ⟨b, o, none⟩) hb2).trans c0, (hBn.cell (p := ⟨b, o + 1, none⟩) hb2).trans c1, (hBn.cell (p := ⟨b, o + 2, none⟩) hb2).trans c2⟩ | exact ⟨hB0, c0, c1, c2⟩)
        clear hK K hHeld
        have hHeld := hHeld2
        clear hHeld2
        (try simp only [Act.put, List.setIfInBounds_toArray, List.set_cons_zero, List.set_cons_succ])
        refine wpAnyH_take (i := 6) (oi := { dst := some 2, op := Go.Op.assign (Go.Operand.tmp 55), type := 9, pos := "l04_expr.go:141", after := #[{ on := 3, ground := Go.Ground.data }, { on := 3, ground := Go.Ground.chain }, { on := 0, ground := Go.Ground.phase }, { on := 1, ground := Go.Ground.phase }, { on := 2, ground := Go.Ground.phase }, { on := 3, ground := Go.Ground.phase }, { on := 4, ground := Go.Ground.textOnly Go.Departure.lateStores }, { on := 5, ground := Go.Ground.textOnly Go.Departure.lateStoresUnsure }], guard := none }) (v := ?_) rfl (by kernel_rfl) (by kernel_rfl) (by kernel_rfl) (fun _ _ _ h => h) (Or.inl ⟨by rfl, ?yld43⟩) hHeld ?nxt43
        case yld43 => (intro w hSw; (try dsimp only at hSw); go_simp) <;> with_reducible rfl
        (try simp only [Act.put, List.setIfInBounds_toArray, List.set_cons_zero, List.set_cons_succ])
        refine wpAnyH_take (i := 7) (oi := { dst := some 3, op := Go.Op.assign (Go.Operand.tmp 57), type := 25, pos := "l04_expr.go:141", after := #[{ on := 5, ground := Go.Ground.data }, { on := 6, ground := Go.Ground.chain }, { on := 0, ground := Go.Ground.phase }, { on := 1, ground := Go.Ground.phase }, { on := 2, ground := Go.Ground.phase }, { on := 3, ground := Go.Ground.phase }, { on := 4, ground := Go.Ground.phase }, { on := 5, ground := Go.Ground.phase }, { on := 6, ground := Go.Ground.phase }], guard := none }) (v := ?_) rfl (by kernel_rfl) (by kernel_rfl) (by kernel_rfl) (fun _ _ _ h => h) (Or.inl ⟨by rfl, ?yld44⟩) hHeld ?nxt44
        case yld44 => (intro w hSw; (try dsimp only at hSw); go_simp) <;> with_reducible rfl
        (try simp only [Act.put, List.setIfInBounds_toArray, List.set_cons_zero, List.set_cons_succ])
        refine wpAnyH_done (by kernel_rfl) ?_ _
        have HBL := hid hHeld.1
        clear hHeld hB0
        go_wp2_with fail
        go_ret2
        exact ⟨⟨_, _, rfl, Parts.nil _ _, Nat.zero_le _⟩, HW.out.trans (HBL.out.mono HW.out.size)⟩
      · have hc2 : ¬ (cap : Int) = 1 := by omega
        have hc3 : (1 : Int) ≤ (r.length : Int) + 1 := by omega
        refine wp_region_held_drew (S := (fun w' => Below W1.heap.size W1 w' ∧ w'.cell? ⟨b, o, none⟩ = some (.int .i64 k) ∧ w'.cell? ⟨b, o + 1, none⟩ = some (.int .i64 n) ∧ w'.cell? ⟨b, o + 2, none⟩ = some (.string t))) (by kernel_rfl) ?_ (fun hHeld => ?_)
        · (try dsimp only) <;> (first | exact ⟨hBn, (hBn.cell (p := ⟨b, o, none⟩) hb2).trans c0, (hBn.cell (p := ⟨b, o + 1, none⟩) hb2).trans c1, (hBn.cell (p := ⟨b, o + 2, none⟩) hb2).trans c2⟩ | exact ⟨hB0, c0, c1, c2⟩)
        refine wpAnyH_take (i := 0) (oi := { dst := some 52, op := Go.Op.move (Go.Operand.tmp 0), type := 25, pos := "l04_expr.go:141", after := #[], guard := none }) (v := ?_) rfl (by kernel_rfl) (by kernel_rfl) (by kernel_rfl) (fun _ _ _ h => h) (Or.inl ⟨by rfl, ?yld45⟩) hHeld ?nxt45
        case yld45 => (intro w hSw; (try dsimp only at hSw); go_simp) <;> with_reducible rfl
        (try simp only [Act.put, List.setIfInBounds_toArray, List.set_cons_zero, List.set_cons_succ])
        refine wpAnyH_take (i := 1) (oi := { dst := some 53, op := Go.Op.indexAddr 25 (Go.Operand.tmp 52) (Go.Operand.const (Go.Value.int Go.IntKind.i64 0)), type := 0, pos := "l04_expr.go:141", after := #[{ on := 0, ground := Go.Ground.data }], guard := none }) (v := ?_) rfl (by kernel_rfl) (by kernel_rfl) (by kernel_rfl) (fun _ _ _ h => h) (Or.inl ⟨by rfl, ?yld46⟩) hHeld ?nxt46
        case yld46 => (intro w hSw; (try dsimp only at hSw); go_simp) <;> with_reducible rfl
        (try simp only [Act.put, List.setIfInBounds_toArray, List.set_cons_zero, List.set_cons_succ])
        refine wpAnyH_take (i := 2) (oi := { dst := some 54, op := Go.Op.load 39 (Go.Operand.tmp 53), type := 39, pos := "l04_expr.go:141", after := #[{ on := 1, ground := Go.Ground.data }], guard := none }) (v := ?_) rfl (by kernel_rfl) (by kernel_rfl) (by kernel_rfl) (fun _ _ _ h => h) (Or.inl ⟨by rfl, ?yld47⟩) hHeld ?nxt47
        case yld47 => (intro w hSw; (try dsimp only at hSw); go_simp) <;> with_reducible rfl
        (try simp only [Act.put, List.setIfInBounds_toArray, List.set_cons_zero, List.set_cons_succ])
        refine wpAnyH_take (i := 4) (oi := { dst := some 56, op := Go.Op.move (Go.Operand.tmp 0), type := 25, pos := "l04_expr.go:141", after := #[], guard := none }) (v := ?_) rfl (by kernel_rfl) (by kernel_rfl) (by kernel_rfl) (fun _ _ _ h => h) (Or.inl ⟨by rfl, ?yld48⟩) hHeld ?nxt48
        case yld48 => (intro w hSw; (try dsimp only at hSw); go_simp) <;> with_reducible rfl
        (try simp only [Act.put, List.setIfInBounds_toArray, List.set_cons_zero, List.set_cons_succ])
        refine wpAnyH_take (i := 5) (oi := { dst := some 57, op := Go.Op.slice 25 (Go.Operand.tmp 56) (some (Go.Operand.const (Go.Value.int Go.IntKind.i64 1))) none none, type := 25, pos := "l04_expr.go:141", after := #[{ on := 4, ground := Go.Ground.data }], guard := none }) (v := ?_) rfl (by kernel_rfl) (by kernel_rfl) (by kernel_rfl) (fun _ _ _ h => h) (Or.inl ⟨by rfl, ?yld49⟩) hHeld ?nxt49
        case yld49 => (intro w hSw; (try dsimp only at hSw); go_simp) <;> with_reducible rfl
        (try simp only [Act.put, List.setIfInBounds_toArray, List.set_cons_zero, List.set_cons_succ])
        refine wpAnyH_ready (rs := [3]) (by kernel_rfl) (by simp) ?_
        refine AllReadyH.cons (o := { dst := some 55, op := Go.Op.call { callee := Go.Callee.value (Go.Operand.func 42), args := #[Go.Operand.tmp 54], argTypes := #[39] }, type := 9, pos := "l04_expr.go:141", after := #[{ on := 2, ground := Go.Ground.data }], guard := none }) rfl (fun K hK => ?_) AllReadyH.nil
        go_simp
        go_at_call 42
        have hp := hHeld.1
        refine (leaf_text k n t _ HPB.out h0 (HD2.out.on hp)).mono ?_
        rintro e w' ⟨rfl, hB⟩
        rw [hT.out]
        have hBn := hp.trans (hB.mono hp.size)
        clear hp hB
        (try go_wp2_with fail)
        refine hK.out _ _ ?_ (fun hHeld2 => ?_)
        · (try dsimp only) <;> (first | exact ⟨hBn, (hBn.cell (p := ⟨b, o, none⟩) hb2).trans c0, (hBn.cell (p := ⟨b, o + 1, none⟩) hb2).trans c1, (hBn.cell (p := ⟨b, o + 2, none⟩) hb2).trans c2⟩ | exact ⟨hB0, c0, c1, c2⟩)
        clear hK K hHeld
        have hHeld := hHeld2
        clear hHeld2
        (try simp only [Act.put, List.setIfInBounds_toArray, List.set_cons_zero, List.set_cons_succ])
        refine wpAnyH_take (i := 6) (oi := { dst := some 2, op := Go.Op.assign (Go.Operand.tmp 55), type := 9, pos := "l04_expr.go:141", after := #[{ on := 3, ground := Go.Ground.data }, { on := 3, ground := Go.Ground.chain }, { on := 0, ground := Go.Ground.phase }, { on := 1, ground := Go.Ground.phase }, { on := 2, ground := Go.Ground.phase }, { on := 3, ground := Go.Ground.phase }, { on := 4, ground := Go.Ground.textOnly Go.Departure.lateStores }, { on := 5, ground := Go.Ground.textOnly Go.Departure.lateStoresUnsure }], guard := none }) (v := ?_) rfl (by kernel_rfl) (by kernel_rfl) (by kernel_rfl) (fun _ _ _ h => h) (Or.inl ⟨by rfl, ?yld50⟩) hHeld ?nxt50
        case yld50 => (intro w hSw; (try dsimp only at hSw); go_simp) <;> with_reducible rfl
        (try simp only [Act.put, List.setIfInBounds_toArray, List.set_cons_zero, List.set_cons_succ])
        refine wpAnyH_take (i := 7) (oi := { dst := some 3, op := Go.Op.assign (Go.Operand.tmp 57), type := 25, pos := "l04_expr.go:141", after := #[{ on := 5, ground := Go.Ground.data }, { on := 6, ground := Go.Ground.chain }, { on := 0, ground := Go.Ground.phase }, { on := 1, ground := Go.Ground.phase }, { on := 2, ground := Go.Ground.phase }, { on := 3, ground := Go.Ground.phase }, { on := 4, ground := Go.Ground.phase }, { on := 5, ground := Go.Ground.phase }, { on := 6, ground := Go.Ground.phase }], guard := none }) (v := ?_) rfl (by kernel_rfl) (by kernel_rfl) (by kernel_rfl) (fun _ _ _ h => h) (Or.inl ⟨by rfl, ?yld51⟩) hHeld ?nxt51
        case yld51 => (intro w hSw; (try dsimp only at hSw); go_simp) <;> with_reducible rfl
        (try simp only [Act.put, List.setIfInBounds_toArray, List.set_cons_zero, List.set_cons_succ])
        refine wpAnyH_done (by kernel_rfl) ?_ _
        have HBL := hid hHeld.1
        clear hHeld hB0
        go_wp2_with fail
        go_ret2
        exact ⟨⟨_, _, rfl, HP2.out.on HBL.out, by omega⟩, HW.out.trans (HBL.out.mono HW.out.size)⟩
    · subst h0
      have hq := (behind_suffix _ _ _ hb1).2
      have hcn : ¬ cap = 1 := by omega
      have hql : q.length ≤ 20 := by omega
      have hqc : q.length ≤ cap - 1 := by omega
      obtain ⟨s, hs⟩ : ∃ s : ByteArray, Hid ((⟨(txt d q).toArray⟩ : ByteArray) = s) := ⟨_, rfl⟩
      have hsl : s.size ≤ 800 := by
        have h1 := txt_len _ _ _ hb1
        rw [← hs.out, size_len, data_mk]
        omega
      have hk11 : k = 11 := by have := many_one hmi; omega
      subst hk11
      have h6 : s6 = ⟨#[33]⟩ := HS6.out.symm
      subst h6
      have hfin : Hid ((⟨((⟨#[33]⟩ : ByteArray).data.toList ++ s.data.toList).toArray⟩ : ByteArray) = T) := by
        show _ = _
        rw [← hT.out, ← hs.out, data_mk]
        rfl
      have HB1 := hid hb1
      have HW : Hid (Below w.heap.size w (w.alloc (.cells #[.bool s0, .int .i64 1, .bool s2, .bool s3, .int .i64 s4, .int .i64 s5, .string ⟨#[33]⟩] 46))) := below_one w _
      have HE2 := hid (HE.out.on HW.out)
      have HD2 := hid (HD.out.on HW.out)
      have HP2 := hid (HP1.out.on HW.out)
      have k6 : (w.alloc (.cells #[.bool s0, .int .i64 1, .bool s2, .bool s3, .int .i64 s4, .int .i64 s5, .string ⟨#[33]⟩] 46)).cell? ⟨w.heap.size, 6, none⟩ = some (.string ⟨#[33]⟩) := by go_simp
      have hg6 : w.heap.size < (w.alloc (.cells #[.bool s0, .int .i64 1, .bool s2, .bool s3, .int .i64 s4, .int .i64 s5, .string ⟨#[33]⟩] 46)).heap.size := by simp
      clear hbd hb1 hmi c1 c2
      go_enter Tryd.func29, Tryd.ntmps29
      go_wp2_with fail
      clear e0 e1 e2 e3 e4 e5 e6 c0
      generalize w.alloc (.cells #[.bool s0, .int .i64 1, .bool s2, .bool s3, .int .i64 s4, .int .i64 s5, .string ⟨#[33]⟩] 46) = W1 at *
      generalize hgg : w.heap.size = g at *
      have HGG := hid hgg
      clear hgg
      refine (HI.out q r _ _ W1 HB1.out hql HP2.out hqc HE2.out HD2.out).mono ?_
      rintro e w2 ⟨⟨a', cap', rfl, hP3, hc3⟩, hB2⟩
      have HBL : Hid (Below W1.heap.size W1 w2) := hB2
      rw [← hB2.cell (p := ⟨g, _, none⟩) hg6] at k6
      rw [hs.out]
      clear hB2
      go_wp2_with fail
      refine (laid_2 ⟨#[33]⟩ s w2 w2.heap.size rfl (by rw [show (⟨#[33]⟩ : ByteArray).size = 1 from rfl]; omega)).mono ?_
      rintro e w3 ⟨rfl, hB3⟩
      rw [hfin.out]
      have HP4 := hid (hP3.on hB3)
      have HBL3 := hid (HBL.out.trans (hB3.mono HBL.out.size))
      clear hB3
      go_wp2_with fail
      go_ret2
      refine ⟨⟨_, _, rfl, HP4.out, hc3⟩, ?_⟩
      have h := HW.out
      rw [HGG.out]
      exact h.trans (HBL3.out.mono (Nat.le_of_lt hg6))
    · subst h0
      have hq := (behind_suffix _ _ _ hb1).2
      have hq2 := (behind_suffix _ _ _ hb2).2
      have hcn : ¬ cap = 1 := by omega
      have hql : q.length ≤ 20 := by omega
      have hql2 : r1.length ≤ 20 := by omega
      have hqc : q.length ≤ cap - 1 := by omega
      obtain ⟨sa, hsa⟩ : ∃ s : ByteArray, Hid ((⟨(txt d q).toArray⟩ : ByteArray) = s) := ⟨_, rfl⟩
      obtain ⟨sb, hsb⟩ : ∃ s : ByteArray, Hid ((⟨(txt d r1).toArray⟩ : ByteArray) = s) := ⟨_, rfl⟩
      have hsl : sa.size ≤ 800 := by
        have h1 := txt_len _ _ _ hb1
        rw [← hsa.out, size_len, data_mk]
        omega
      have hsl2 : sb.size ≤ 800 := by
        have h1 := txt_len _ _ _ hb2
        rw [← hsb.out, size_len, data_mk]
        omega
      have hsg : s6.size ≤ 2 := by
        rw [← HS6.out, size_len]
        exact sign_len k
      have hfin : Hid ((⟨((⟨#[40]⟩ : ByteArray).data.toList ++ (sa.data.toList ++ ((⟨#[32]⟩ : ByteArray).data.toList ++ (s6.data.toList ++ ((⟨#[32]⟩ : ByteArray).data.toList ++ (sb.data.toList ++ (⟨#[41]⟩ : ByteArray).data.toList)))))).toArray⟩ : ByteArray) = T) := by
        show _ = _
        rw [← hT.out, ← hsa.out, ← hsb.out, ← HS6.out, data_mk, data_mk, txt_succ, if_neg (by rw [hmi]; decide), if_neg (by rw [hmi]; decide)]
        rw [show rest d q = r1 by unfold rest; rw [hb1]; rfl]
        rfl
      have HB1 := hid hb1
      have HB2 := hid hb2
      have HW : Hid (Below w.heap.size w (w.alloc (.cells #[.bool s0, .int .i64 2, .bool s2, .bool s3, .int .i64 s4, .int .i64 s5, .string s6] 46))) := below_one w _
      have HE2 := hid (HE.out.on HW.out)
      have HD2 := hid (HD.out.on HW.out)
      have HP2 := hid (HP1.out.on HW.out)
      have k6 : (w.alloc (.cells #[.bool s0, .int .i64 2, .bool s2, .bool s3, .int .i64 s4, .int .i64 s5, .string s6] 46)).cell? ⟨w.heap.size, 6, none⟩ = some (.string s6) := by go_simp
      have hg6 : w.heap.size < (w.alloc (.cells #[.bool s0, .int .i64 2, .bool s2, .bool s3, .int .i64 s4, .int .i64 s5, .string s6] 46)).heap.size := by simp
      clear hbd hb1 hb2 hmi c1 c2
      go_enter Tryd.func29, Tryd.ntmps29
      go_wp2_with fail
      clear e0 e1 e2 e3 e4 e5 e6 c0
      generalize w.alloc (.cells #[.bool s0, .int .i64 2, .bool s2, .bool s3, .int .i64 s4, .int .i64 s5, .string s6] 46) = W1 at *
      generalize hgg : w.heap.size = g at *
      have HGG := hid hgg
      clear hgg
      refine (HI.out q r1 _ _ W1 HB1.out hql HP2.out hqc HE2.out HD2.out).mono ?_
      rintro e w2 ⟨⟨a', cap', rfl, hP3, hc3⟩, hB2⟩
      have HBL : Hid (Below W1.heap.size W1 w2) := hB2
      rw [← hB2.cell (p := ⟨g, _, none⟩) hg6] at k6
      have hg62 : g < w2.heap.size := Nat.lt_of_lt_of_le hg6 hB2.size
      rw [hsa.out]
      clear hB2
      go_wp2_with fail
      refine (HI.out r1 r a' cap' w2 HB2.out hql2 hP3 hc3 (HE2.out.on HBL.out) (HD2.out.on HBL.out)).mono ?_
      rintro e w3 ⟨⟨a4, cap4, rfl, hP4, hc4⟩, hB3⟩
      have HBL3 : Hid (Below W1.heap.size W1 w3) := HBL.out.trans (hB3.mono HBL.out.size)
      rw [← hB3.cell (p := ⟨g, _, none⟩) hg62] at k6
      rw [hsb.out]
      clear hB3
      go_wp2_with fail
      refine (laid_7 ⟨#[40]⟩ sa ⟨#[32]⟩ s6 ⟨#[32]⟩ sb ⟨#[41]⟩ w3 w3.heap.size rfl (by rw [show (⟨#[40]⟩ : ByteArray).size = 1 from rfl, show (⟨#[32]⟩ : ByteArray).size = 1 from rfl, show (⟨#[41]⟩ : ByteArray).size = 1 from rfl]; omega)).mono ?_
      rintro e w5 ⟨rfl, hB5⟩
      rw [hfin.out]
      have HP5 := hid (hP4.on hB5)
      have HBL5 := hid (HBL3.out.trans (hB5.mono HBL3.out.size))
      clear hB5
      go_wp2_with fail
      go_ret2
      refine ⟨⟨_, _, rfl, HP5.out, hc4⟩, ?_⟩
      have h := HW.out
      rw [HGG.out]
      exact h.trans (HBL5.out.mono (Nat.le_of_lt hg6))
end Go.Proofs.YtppfimbbkbpmoaaDoor.TexI
