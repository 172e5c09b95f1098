/- Texts of ours, laid together: ItmIB. -/
import Derived.Test.YtaofdckdmffaiaaGreatDoorBd28
import Derived.Deep.RegionHeld3
/- itemRight of the program: the walk. -/
namespace Go.Proofs.YtaofdckdmffaiaaGreatDoor.ItmI
open Go.RowKit
open PrtW PrtM NameW ItmW ValM ItmM
open PrtI (EnvS between_any impl_truth impl_right)
open ItmS (At8 At8.laid below_one)

set_option maxRecDepth 10000 in
set_option maxHeartbeats 12800000 in
theorem item_B (j : Nat) (hk : 1 ≤ j ∧ j ≤ 6) (s : ByteArray) (ty lo hi : Int) (t : ByteArray) (a : Option Addr) (cap : Nat) (ps : List Pt) (hd : Bool) (w : World) (hP : Parts w a ps) (hcap : ps.length ≤ cap) (hs : s.size ≤ maxLen) (ht : t.size ≤ maxLen) (hE : EnvI w) (e1 : (ty == 0) = false) (hr : asF (namedO j) (nameB s) s.toList.isEmpty = true) :
    Calls Tryz.prog 76 #[.agg #[.int .i64 j, .string s, .int .i64 ty, .int .i64 lo, .int .i64 hi, .string t, .slice a ps.length cap, .bool hd]] w fun e w' => e = .returned (.bool (tabI j s ty lo hi t ps hd)) ∧ Below w.heap.size w w' := by
  have HP := hid hP
  have HS := hid hs
  have HT := hid ht
  have HE := hid hE
  have hpl := hP.1
  clear hP hs ht hE
  have hin : Hid (inB (j : Int) 1 6 = true) := decide_eq_true (by omega)
  have hg := HE.out.2.1
  have hj7 : j < 7 := by omega
  obtain ⟨g0, g1, g2, g3, g4⟩ := HE.out.2.2 j hj7
  unfold tabI
  simp only [hr, e1, Bool.false_and, Bool.true_and]
  generalize namedO j = o1 at *
  generalize typedO j = o2 at *
  generalize saidO j = o3 at *
  generalize hardO j = o4 at *
  generalize tellsO j = o5 at *
  obtain ⟨v1, h1⟩ : ∃ v, Hid (nameB s = v) := ⟨_, rfl⟩
  obtain ⟨v2, h2⟩ : ∃ v, Hid (rangeB ty lo hi = v) := ⟨_, rfl⟩
  obtain ⟨v3, h3⟩ : ∃ v, Hid (labelB t = v) := ⟨_, rfl⟩
  obtain ⟨v4, h4⟩ : ∃ v, Hid (tellsI ps = v) := ⟨_, rfl⟩
  obtain ⟨es, hes⟩ : ∃ v, s.toList.isEmpty = v := ⟨_, rfl⟩
  obtain ⟨et, het⟩ : ∃ v, t.toList.isEmpty = v := ⟨_, rfl⟩
  obtain ⟨ez, hez⟩ : ∃ v, (((ps.length : Nat) : Int) == 0) = v := ⟨_, rfl⟩
  obtain ⟨et5, het5⟩ : ∃ v, (o5 != 0) = v := ⟨_, rfl⟩
  obtain ⟨e45, he45⟩ : ∃ v, (v4 == o5) = v := ⟨_, rfl⟩
  rw [h2.out, h3.out, h4.out, het, hez, het5, he45]
  have hr1 : Hid (asF o1 v1 es = true) := by show _ = _; rw [← hr, h1.out, hes]
  obtain ⟨r2, hr2⟩ : ∃ v, Hid (asF o2 v2 false = v) := ⟨_, rfl⟩
  obtain ⟨r3, hr3⟩ : ∃ v, Hid (asF o3 v3 et = v) := ⟨_, rfl⟩
  obtain ⟨r4, hr4⟩ : ∃ v, Hid (asF et5 e45 ez = v) := ⟨_, rfl⟩
  have HW := hid (Two.laid w 54 121 j s ty lo hi t a ps.length cap hd o1 o2 o3 o4 o5)
  rw [hr2.out, hr3.out, hr4.out]
  cases r2
  case false =>
    go_enter Tryz.func76, Tryz.ntmps76
    go_wp2_with (first | (go_at_call 90; refine (between_any _ _ _ _).mono ?_; rintro e w' ⟨rfl, rfl⟩; rw [hin.out]))
    have hT := HW.out
    obtain ⟨W0, hW0⟩ : ∃ W0, Hid ((w.alloc (.cells #[.int .i64 j, .string s, .int .i64 ty, .int .i64 lo, .int .i64 hi, .string t, .slice a ps.length cap, .bool hd] 54)).alloc (.cells #[.bool o1, .bool o2, .bool o3, .bool o4, .int .i64 o5] 121) = W0) := ⟨_, rfl⟩
    rw [hW0.out] at hT ⊢
    have h0 : Two w W0.drew j s ty lo hi t a ps.length cap hd o1 o2 o3 o4 o5 := hT.on (Below.refl _ _).drew
    clear hT hW0 g0 g1 g2 g3 g4 HW
    refine wp_region_held_drew (S := (fun w' => Two w w' j s ty lo hi t a ps.length cap hd o1 o2 o3 o4 o5 ∧ (w'.cell? ⟨w.heap.size, 0, none⟩ = some (.int .i64 j) ∧ w'.cell? ⟨w.heap.size, 1, none⟩ = some (.string s) ∧ w'.cell? ⟨w.heap.size, 2, none⟩ = some (.int .i64 ty) ∧ w'.cell? ⟨w.heap.size, 3, none⟩ = some (.int .i64 lo) ∧ w'.cell? ⟨w.heap.size, 4, none⟩ = some (.int .i64 hi) ∧ w'.cell? ⟨w.heap.size, 5, none⟩ = some (.string t) ∧ w'.cell? ⟨w.heap.size, 6, none⟩ = some (.slice a ps.length cap) ∧ w'.cell? ⟨w.heap.size, 7, none⟩ = some (.bool hd)) ∧ (w'.cell? ⟨w.heap.size + 1, 0, none⟩ = some (.bool o1) ∧ w'.cell? ⟨w.heap.size + 1, 1, none⟩ = some (.bool o2) ∧ w'.cell? ⟨w.heap.size + 1, 2, none⟩ = some (.bool o3) ∧ w'.cell? ⟨w.heap.size + 1, 3, none⟩ = some (.bool o4) ∧ w'.cell? ⟨w.heap.size + 1, 4, none⟩ = some (.int .i64 o5)))) (by kernel_rfl) ?_ (fun hHeld => ?_)
    · (try dsimp only) <;> (first | exact keepT hN | exact keepT h0)
    refine wpAnyH_take (i := 0) (oi := { dst := some 12, op := .fieldAddr 121 (.tmp 3) 0, type := 0, pos := "l06_form.go:124", after := #[], guard := none }) (v := ?_) rfl (by kernel_rfl) (by kernel_rfl) (by kernel_rfl) (fun _ _ _ h => h) (Or.inl ⟨by rfl, ?yld1⟩) hHeld ?nxt1
    case yld1 => (intro w hSw; (try dsimp only at hSw); go_simp) <;> with_reducible rfl
    (try simp only [Act.put, z1, z2, z3])
    refine wpAnyH_take (i := 1) (oi := { dst := some 13, op := .load 4 (.tmp 12), type := 4, pos := "l06_form.go:124", after := #[{ on := 0, ground := .data }], guard := none }) (v := ?_) rfl (by kernel_rfl) (by kernel_rfl) (by kernel_rfl) (fun _ _ _ h => h) (Or.inl ⟨by rfl, ?yld2⟩) hHeld ?nxt2
    case yld2 => (intro w hSw; (try dsimp only at hSw); go_simp) <;> with_reducible rfl
    (try simp only [Act.put, z1, z2, z3])
    refine wpAnyH_take (i := 2) (oi := { dst := some 14, op := .fieldAddr 54 (.tmp 1) 1, type := 0, pos := "l06_form.go:124", after := #[], guard := none }) (v := ?_) rfl (by kernel_rfl) (by kernel_rfl) (by kernel_rfl) (fun _ _ _ h => h) (Or.inl ⟨by rfl, ?yld3⟩) hHeld ?nxt3
    case yld3 => (intro w hSw; (try dsimp only at hSw); go_simp) <;> with_reducible rfl
    (try simp only [Act.put, z1, z2, z3])
    refine wpAnyH_take (i := 3) (oi := { dst := some 15, op := .load 9 (.tmp 14), type := 9, pos := "l06_form.go:124", after := #[{ on := 2, ground := .data }], guard := none }) (v := ?_) rfl (by kernel_rfl) (by kernel_rfl) (by kernel_rfl) (fun _ _ _ h => h) (Or.inl ⟨by rfl, ?yld4⟩) hHeld ?nxt4
    case yld4 => (intro w hSw; (try dsimp only at hSw); go_simp) <;> with_reducible rfl
    (try simp only [Act.put, z1, z2, z3])
    refine wpAnyH_take (i := 5) (oi := { dst := some 17, op := .fieldAddr 54 (.tmp 1) 1, type := 0, pos := "l06_form.go:124", after := #[], guard := none }) (v := ?_) rfl (by kernel_rfl) (by kernel_rfl) (by kernel_rfl) (fun _ _ _ h => h) (Or.inl ⟨by rfl, ?yld5⟩) hHeld ?nxt5
    case yld5 => (intro w hSw; (try dsimp only at hSw); go_simp) <;> with_reducible rfl
    (try simp only [Act.put, z1, z2, z3])
    refine wpAnyH_take (i := 6) (oi := { dst := some 18, op := .load 9 (.tmp 17), type := 9, pos := "l06_form.go:124", after := #[{ on := 5, ground := .data }], guard := none }) (v := ?_) rfl (by kernel_rfl) (by kernel_rfl) (by kernel_rfl) (fun _ _ _ h => h) (Or.inl ⟨by rfl, ?yld6⟩) hHeld ?nxt6
    case yld6 => (intro w hSw; (try dsimp only at hSw); go_simp) <;> with_reducible rfl
    (try simp only [Act.put, z1, z2, z3])
    refine wpAnyH_take (i := 7) (oi := { dst := some 19, op := .binOp .eql 9 (.tmp 18) (.const (.string { data := #[] })) 9, type := 4, pos := "l06_form.go:124", after := #[{ on := 6, ground := .data }], guard := none }) (v := ?_) rfl (by kernel_rfl) (by kernel_rfl) (by kernel_rfl) (fun _ _ _ h => h) (Or.inl ⟨by rfl, ?yld7⟩) hHeld ?nxt7
    case yld7 => (intro w hSw; (try dsimp only at hSw); go_simp) <;> with_reducible rfl
    (try simp only [Act.put, z1, z2, z3])
    refine wpAnyH_ready (rs := [4]) (by kernel_rfl) (by simp) ?_
    refine AllReadyH.cons (o := { dst := some 16, op := .call { callee := .value (.func 92), args := #[.tmp 15], argTypes := #[9] }, type := 4, pos := "l06_form.go:124", after := #[{ on := 3, ground := .data }], guard := none }) rfl (fun K hK => ?_) AllReadyH.nil
    go_simp
    go_at_call 92
    have hp := hHeld.1
    refine (impl_name s _ HS.out).mono ?_
    rintro e w' ⟨rfl, rfl⟩
    rw [h1.out]
    have hN := hp
    clear hp
    (try go_wp2_with fail)
    refine hK.out _ _ ?_ (fun hHeld2 => ?_)
    · (try dsimp only) <;> (first | exact keepT hN | exact keepT h0)
    clear hK K hHeld
    have hHeld := hHeld2
    clear hHeld2
    (try simp only [Act.put, z1, z2, z3])
    refine wpAnyH_ready (rs := [8]) (by kernel_rfl) (by simp) ?_
    refine AllReadyH.cons (o := { dst := some 20, op := .call { callee := .value (.func 91), args := #[.tmp 13, .tmp 16, .tmp 19], argTypes := #[4, 4, 4] }, type := 4, pos := "l06_form.go:124", after := #[{ on := 1, ground := .data }, { on := 4, ground := .data }, { on := 7, ground := .data }, { on := 4, ground := .chain }], guard := none }) rfl (fun K hK => ?_) AllReadyH.nil
    go_simp
    go_at_call 91
    have hp := hHeld.1
    refine (as_for _ _ _ _).mono ?_
    rintro e w' ⟨rfl, rfl⟩
    (first | rw [hr1.out] | rw [hr2.out] | rw [hr3.out] | rw [hr4.out])
    have hN := hp
    clear hp
    (try go_wp2_with fail)
    refine hK.out _ _ ?_ (fun hHeld2 => ?_)
    · (try dsimp only) <;> (first | exact keepT hN | exact keepT h0)
    clear hK K hHeld
    have hHeld := hHeld2
    clear hHeld2
    (try simp only [Act.put, z1, z2, z3])
    refine wpAnyH_take (i := 9) (oi := { dst := some 21, op := .move (.tmp 20), type := 4, pos := "l06_form.go:124", after := #[{ on := 8, ground := .data }, { on := 8, ground := .chain }], guard := none }) (v := ?_) rfl (by kernel_rfl) (by kernel_rfl) (by kernel_rfl) (fun _ _ _ h => h) (Or.inl ⟨by rfl, ?yld8⟩) hHeld ?nxt8
    case yld8 => (intro w hSw; (try dsimp only at hSw); go_simp) <;> with_reducible rfl
    (try simp only [Act.put, z1, z2, z3])
    refine wpAnyH_take (i := 10) (oi := { dst := some 22, op := .fieldAddr 121 (.tmp 3) 1, type := 0, pos := "l06_form.go:124", after := #[{ on := 9, ground := .guard }], guard := some (9, true) }) (v := ?_) rfl (by kernel_rfl) (by kernel_rfl) (by kernel_rfl) (fun _ _ _ h => h) (Or.inl ⟨by rfl, ?yld9⟩) hHeld ?nxt9
    case yld9 => (intro w hSw; (try dsimp only at hSw); go_simp) <;> with_reducible rfl
    (try simp only [Act.put, z1, z2, z3])
    refine wpAnyH_take (i := 11) (oi := { dst := some 23, op := .load 4 (.tmp 22), type := 4, pos := "l06_form.go:124", after := #[{ on := 10, ground := .data }, { on := 9, ground := .guard }], guard := some (9, true) }) (v := ?_) rfl (by kernel_rfl) (by kernel_rfl) (by kernel_rfl) (fun _ _ _ h => h) (Or.inl ⟨by rfl, ?yld10⟩) hHeld ?nxt10
    case yld10 => (intro w hSw; (try dsimp only at hSw); go_simp) <;> with_reducible rfl
    (try simp only [Act.put, z1, z2, z3])
    refine wpAnyH_take (i := 12) (oi := { dst := some 24, op := .load 54 (.tmp 1), type := 54, pos := "l06_form.go:124", after := #[{ on := 9, ground := .guard }], guard := some (9, true) }) (v := ?_) rfl (by kernel_rfl) (by kernel_rfl) (by kernel_rfl) (fun _ _ _ h => h) (Or.inl ⟨by rfl, ?yld11⟩) hHeld ?nxt11
    case yld11 => (intro w hSw; (try dsimp only at hSw); go_simp) <;> with_reducible rfl
    (try simp only [Act.put, z1, z2, z3])
    refine wpAnyH_take (i := 14) (oi := { dst := some 26, op := .fieldAddr 54 (.tmp 1) 2, type := 0, pos := "l06_form.go:124", after := #[{ on := 9, ground := .guard }], guard := some (9, true) }) (v := ?_) rfl (by kernel_rfl) (by kernel_rfl) (by kernel_rfl) (fun _ _ _ h => h) (Or.inl ⟨by rfl, ?yld12⟩) hHeld ?nxt12
    case yld12 => (intro w hSw; (try dsimp only at hSw); go_simp) <;> with_reducible rfl
    (try simp only [Act.put, z1, z2, z3])
    refine wpAnyH_take (i := 15) (oi := { dst := some 27, op := .load 2 (.tmp 26), type := 2, pos := "l06_form.go:124", after := #[{ on := 14, ground := .data }, { on := 9, ground := .guard }], guard := some (9, true) }) (v := ?_) rfl (by kernel_rfl) (by kernel_rfl) (by kernel_rfl) (fun _ _ _ h => h) (Or.inl ⟨by rfl, ?yld13⟩) hHeld ?nxt13
    case yld13 => (intro w hSw; (try dsimp only at hSw); go_simp) <;> with_reducible rfl
    (try simp only [Act.put, z1, z2, z3])
    refine wpAnyH_take (i := 16) (oi := { dst := some 28, op := .binOp .eql 2 (.tmp 27) (.const (.int .i64 0)) 2, type := 4, pos := "l06_form.go:124", after := #[{ on := 15, ground := .data }, { on := 9, ground := .guard }], guard := some (9, true) }) (v := ?_) rfl (by kernel_rfl) (by kernel_rfl) (by kernel_rfl) (fun _ _ _ h => h) (Or.inl ⟨by rfl, ?yld14⟩) hHeld ?nxt14
    case yld14 => (intro w hSw; (try dsimp only at hSw); go_simp) <;> with_reducible rfl
    (try simp only [Act.put, z1, z2, z3])
    refine wpAnyH_ready (rs := [13]) (by kernel_rfl) (by simp) ?_
    refine AllReadyH.cons (o := { dst := some 25, op := .call { callee := .value (.func 93), args := #[.tmp 24], argTypes := #[54] }, type := 4, pos := "l06_form.go:125", after := #[{ on := 12, ground := .data }, { on := 9, ground := .chain }, { on := 9, ground := .guard }], guard := some (9, true) }) rfl (fun K hK => ?_) AllReadyH.nil
    go_simp
    go_at_call 93
    have hp := hHeld.1
    refine (impl_bounds j s ty lo hi t a ps.length cap hd _).mono ?_
    rintro e w' ⟨rfl, hB⟩
    rw [h2.out]
    have hN := hp.on hB
    clear hp hB
    (try go_wp2_with fail)
    refine hK.out _ _ ?_ (fun hHeld2 => ?_)
    · (try dsimp only) <;> (first | exact keepT hN | exact keepT h0)
    clear hK K hHeld
    have hHeld := hHeld2
    clear hHeld2
    (try simp only [Act.put, z1, z2, z3])
    refine wpAnyH_take (i := 17) (oi := { dst := some 29, op := .move (.tmp 28), type := 4, pos := "l06_form.go:124", after := #[{ on := 16, ground := .data }, { on := 13, ground := .chain }, { on := 9, ground := .guard }], guard := some (9, true) }) (v := ?_) rfl (by kernel_rfl) (by kernel_rfl) (by kernel_rfl) (fun _ _ _ h => h) (Or.inl ⟨by rfl, ?yld15⟩) hHeld ?nxt15
    case yld15 => (intro w hSw; (try dsimp only at hSw); go_simp) <;> with_reducible rfl
    (try simp only [Act.put, z1, z2, z3])
    refine wpAnyH_take (i := 18) (oi := { dst := some 30, op := .fieldAddr 54 (.tmp 1) 3, type := 0, pos := "l06_form.go:124", after := #[{ on := 17, ground := .guard }], guard := some (17, true) }) (v := undef) rfl (by kernel_rfl) (by kernel_rfl) (by kernel_rfl) (fun _ _ _ h => h) (Or.inr ⟨by rfl, rfl⟩) hHeld ?_
    (try simp only [Act.put, z1, z2, z3])
    refine wpAnyH_take (i := 19) (oi := { dst := some 31, op := .load 2 (.tmp 30), type := 2, pos := "l06_form.go:124", after := #[{ on := 18, ground := .data }, { on := 17, ground := .guard }], guard := some (17, true) }) (v := undef) rfl (by kernel_rfl) (by kernel_rfl) (by kernel_rfl) (fun _ _ _ h => h) (Or.inr ⟨by rfl, rfl⟩) hHeld ?_
    (try simp only [Act.put, z1, z2, z3])
    refine wpAnyH_take (i := 20) (oi := { dst := some 32, op := .binOp .eql 2 (.tmp 31) (.const (.int .i64 0)) 2, type := 4, pos := "l06_form.go:124", after := #[{ on := 19, ground := .data }, { on := 17, ground := .guard }], guard := some (17, true) }) (v := undef) rfl (by kernel_rfl) (by kernel_rfl) (by kernel_rfl) (fun _ _ _ h => h) (Or.inr ⟨by rfl, rfl⟩) hHeld ?_
    (try simp only [Act.put, z1, z2, z3])
    refine wpAnyH_take (i := 21) (oi := { dst := some 33, op := .pick (.tmp 29) (.tmp 32) (.const (.bool false)), type := 4, pos := "l06_form.go:124", after := #[{ on := 17, ground := .data }, { on := 20, ground := .data }, { on := 9, ground := .guard }], guard := some (9, true) }) (v := ?_) rfl (by kernel_rfl) (by kernel_rfl) (by kernel_rfl) (fun _ _ _ h => h) (Or.inl ⟨by rfl, ?yld16⟩) hHeld ?nxt16
    case yld16 => (intro w hSw; (try dsimp only at hSw); go_simp) <;> with_reducible rfl
    (try simp only [Act.put, z1, z2, z3])
    refine wpAnyH_take (i := 22) (oi := { dst := some 34, op := .move (.tmp 33), type := 4, pos := "l06_form.go:124", after := #[{ on := 21, ground := .data }, { on := 17, ground := .chain }, { on := 9, ground := .guard }], guard := some (9, true) }) (v := ?_) rfl (by kernel_rfl) (by kernel_rfl) (by kernel_rfl) (fun _ _ _ h => h) (Or.inl ⟨by rfl, ?yld17⟩) hHeld ?nxt17
    case yld17 => (intro w hSw; (try dsimp only at hSw); go_simp) <;> with_reducible rfl
    (try simp only [Act.put, z1, z2, z3])
    refine wpAnyH_take (i := 23) (oi := { dst := some 35, op := .fieldAddr 54 (.tmp 1) 4, type := 0, pos := "l06_form.go:124", after := #[{ on := 22, ground := .guard }], guard := some (22, true) }) (v := undef) rfl (by kernel_rfl) (by kernel_rfl) (by kernel_rfl) (fun _ _ _ h => h) (Or.inr ⟨by rfl, rfl⟩) hHeld ?_
    (try simp only [Act.put, z1, z2, z3])
    refine wpAnyH_take (i := 24) (oi := { dst := some 36, op := .load 2 (.tmp 35), type := 2, pos := "l06_form.go:124", after := #[{ on := 23, ground := .data }, { on := 22, ground := .guard }], guard := some (22, true) }) (v := undef) rfl (by kernel_rfl) (by kernel_rfl) (by kernel_rfl) (fun _ _ _ h => h) (Or.inr ⟨by rfl, rfl⟩) hHeld ?_
    (try simp only [Act.put, z1, z2, z3])
    refine wpAnyH_take (i := 25) (oi := { dst := some 37, op := .binOp .eql 2 (.tmp 36) (.const (.int .i64 0)) 2, type := 4, pos := "l06_form.go:124", after := #[{ on := 24, ground := .data }, { on := 22, ground := .guard }], guard := some (22, true) }) (v := undef) rfl (by kernel_rfl) (by kernel_rfl) (by kernel_rfl) (fun _ _ _ h => h) (Or.inr ⟨by rfl, rfl⟩) hHeld ?_
    (try simp only [Act.put, z1, z2, z3])
    refine wpAnyH_take (i := 26) (oi := { dst := some 38, op := .pick (.tmp 34) (.tmp 37) (.const (.bool false)), type := 4, pos := "l06_form.go:124", after := #[{ on := 22, ground := .data }, { on := 25, ground := .data }, { on := 9, ground := .guard }], guard := some (9, true) }) (v := ?_) rfl (by kernel_rfl) (by kernel_rfl) (by kernel_rfl) (fun _ _ _ h => h) (Or.inl ⟨by rfl, ?yld18⟩) hHeld ?nxt18
    case yld18 => (intro w hSw; (try dsimp only at hSw); go_simp) <;> with_reducible rfl
    (try simp only [Act.put, z1, z2, z3])
    refine wpAnyH_ready (rs := [27]) (by kernel_rfl) (by simp) ?_
    refine AllReadyH.cons (o := { dst := some 39, op := .call { callee := .value (.func 91), args := #[.tmp 23, .tmp 25, .tmp 38], argTypes := #[4, 4, 4] }, type := 4, pos := "l06_form.go:125", after := #[{ on := 11, ground := .data }, { on := 13, ground := .data }, { on := 26, ground := .data }, { on := 22, ground := .chain }, { on := 9, ground := .guard }], guard := some (9, true) }) rfl (fun K hK => ?_) AllReadyH.nil
    go_simp
    go_at_call 91
    have hp := hHeld.1
    refine (as_for _ _ _ _).mono ?_
    rintro e w' ⟨rfl, rfl⟩
    (first | rw [hr1.out] | rw [hr2.out] | rw [hr3.out] | rw [hr4.out])
    have hN := hp
    clear hp
    (try go_wp2_with fail)
    refine hK.out _ _ ?_ (fun hHeld2 => ?_)
    · (try dsimp only) <;> (first | exact keepT hN | exact keepT h0)
    clear hK K hHeld
    have hHeld := hHeld2
    clear hHeld2
    (try simp only [Act.put, z1, z2, z3])
    refine wpAnyH_take (i := 28) (oi := { dst := some 40, op := .pick (.tmp 21) (.tmp 39) (.const (.bool false)), type := 4, pos := "l06_form.go:124", after := #[{ on := 9, ground := .data }, { on := 27, ground := .data }], guard := none }) (v := ?_) rfl (by kernel_rfl) (by kernel_rfl) (by kernel_rfl) (fun _ _ _ h => h) (Or.inl ⟨by rfl, ?yld19⟩) hHeld ?nxt19
    case yld19 => (intro w hSw; (try dsimp only at hSw); go_simp) <;> with_reducible rfl
    (try simp only [Act.put, z1, z2, z3])
    refine wpAnyH_take (i := 29) (oi := { dst := some 41, op := .move (.tmp 40), type := 4, pos := "l06_form.go:124", after := #[{ on := 28, ground := .data }, { on := 27, ground := .chain }], guard := none }) (v := ?_) rfl (by kernel_rfl) (by kernel_rfl) (by kernel_rfl) (fun _ _ _ h => h) (Or.inl ⟨by rfl, ?yld20⟩) hHeld ?nxt20
    case yld20 => (intro w hSw; (try dsimp only at hSw); go_simp) <;> with_reducible rfl
    (try simp only [Act.put, z1, z2, z3])
    refine wpAnyH_take (i := 30) (oi := { dst := some 42, op := .fieldAddr 121 (.tmp 3) 2, type := 0, pos := "l06_form.go:124", after := #[{ on := 29, ground := .guard }], guard := some (29, true) }) (v := undef) rfl (by kernel_rfl) (by kernel_rfl) (by kernel_rfl) (fun _ _ _ h => h) (Or.inr ⟨by rfl, rfl⟩) hHeld ?_
    (try simp only [Act.put, z1, z2, z3])
    refine wpAnyH_take (i := 31) (oi := { dst := some 43, op := .load 4 (.tmp 42), type := 4, pos := "l06_form.go:124", after := #[{ on := 30, ground := .data }, { on := 29, ground := .guard }], guard := some (29, true) }) (v := undef) rfl (by kernel_rfl) (by kernel_rfl) (by kernel_rfl) (fun _ _ _ h => h) (Or.inr ⟨by rfl, rfl⟩) hHeld ?_
    (try simp only [Act.put, z1, z2, z3])
    refine wpAnyH_take (i := 32) (oi := { dst := some 44, op := .fieldAddr 54 (.tmp 1) 5, type := 0, pos := "l06_form.go:124", after := #[{ on := 29, ground := .guard }], guard := some (29, true) }) (v := undef) rfl (by kernel_rfl) (by kernel_rfl) (by kernel_rfl) (fun _ _ _ h => h) (Or.inr ⟨by rfl, rfl⟩) hHeld ?_
    (try simp only [Act.put, z1, z2, z3])
    refine wpAnyH_take (i := 33) (oi := { dst := some 45, op := .load 9 (.tmp 44), type := 9, pos := "l06_form.go:124", after := #[{ on := 32, ground := .data }, { on := 29, ground := .guard }], guard := some (29, true) }) (v := undef) rfl (by kernel_rfl) (by kernel_rfl) (by kernel_rfl) (fun _ _ _ h => h) (Or.inr ⟨by rfl, rfl⟩) hHeld ?_
    (try simp only [Act.put, z1, z2, z3])
    refine wpAnyH_take (i := 34) (oi := { dst := some 46, op := .call { callee := .value (.func 94), args := #[.tmp 45], argTypes := #[9] }, type := 4, pos := "l06_form.go:126", after := #[{ on := 33, ground := .data }, { on := 29, ground := .chain }, { on := 29, ground := .guard }], guard := some (29, true) }) (v := undef) rfl (by kernel_rfl) (by kernel_rfl) (by kernel_rfl) (fun _ _ _ h => h) (Or.inr ⟨by rfl, rfl⟩) hHeld ?_
    (try simp only [Act.put, z1, z2, z3])
    refine wpAnyH_take (i := 35) (oi := { dst := some 47, op := .fieldAddr 54 (.tmp 1) 5, type := 0, pos := "l06_form.go:124", after := #[{ on := 29, ground := .guard }], guard := some (29, true) }) (v := undef) rfl (by kernel_rfl) (by kernel_rfl) (by kernel_rfl) (fun _ _ _ h => h) (Or.inr ⟨by rfl, rfl⟩) hHeld ?_
    (try simp only [Act.put, z1, z2, z3])
    refine wpAnyH_take (i := 36) (oi := { dst := some 48, op := .load 9 (.tmp 47), type := 9, pos := "l06_form.go:124", after := #[{ on := 35, ground := .data }, { on := 29, ground := .guard }], guard := some (29, true) }) (v := undef) rfl (by kernel_rfl) (by kernel_rfl) (by kernel_rfl) (fun _ _ _ h => h) (Or.inr ⟨by rfl, rfl⟩) hHeld ?_
    (try simp only [Act.put, z1, z2, z3])
    refine wpAnyH_take (i := 37) (oi := { dst := some 49, op := .binOp .eql 9 (.tmp 48) (.const (.string { data := #[] })) 9, type := 4, pos := "l06_form.go:124", after := #[{ on := 36, ground := .data }, { on := 29, ground := .guard }], guard := some (29, true) }) (v := undef) rfl (by kernel_rfl) (by kernel_rfl) (by kernel_rfl) (fun _ _ _ h => h) (Or.inr ⟨by rfl, rfl⟩) hHeld ?_
    (try simp only [Act.put, z1, z2, z3])
    refine wpAnyH_take (i := 38) (oi := { dst := some 50, op := .call { callee := .value (.func 91), args := #[.tmp 43, .tmp 46, .tmp 49], argTypes := #[4, 4, 4] }, type := 4, pos := "l06_form.go:126", after := #[{ on := 31, ground := .data }, { on := 34, ground := .data }, { on := 37, ground := .data }, { on := 34, ground := .chain }, { on := 29, ground := .guard }], guard := some (29, true) }) (v := undef) rfl (by kernel_rfl) (by kernel_rfl) (by kernel_rfl) (fun _ _ _ h => h) (Or.inr ⟨by rfl, rfl⟩) hHeld ?_
    (try simp only [Act.put, z1, z2, z3])
    refine wpAnyH_take (i := 39) (oi := { dst := some 51, op := .pick (.tmp 41) (.tmp 50) (.const (.bool false)), type := 4, pos := "l06_form.go:124", after := #[{ on := 29, ground := .data }, { on := 38, ground := .data }], guard := none }) (v := ?_) rfl (by kernel_rfl) (by kernel_rfl) (by kernel_rfl) (fun _ _ _ h => h) (Or.inl ⟨by rfl, ?yld21⟩) hHeld ?nxt21
    case yld21 => (intro w hSw; (try dsimp only at hSw); go_simp) <;> with_reducible rfl
    (try simp only [Act.put, z1, z2, z3])
    refine wpAnyH_take (i := 40) (oi := { dst := some 52, op := .move (.tmp 51), type := 4, pos := "l06_form.go:124", after := #[{ on := 39, ground := .data }, { on := 38, ground := .chain }], guard := none }) (v := ?_) rfl (by kernel_rfl) (by kernel_rfl) (by kernel_rfl) (fun _ _ _ h => h) (Or.inl ⟨by rfl, ?yld22⟩) hHeld ?nxt22
    case yld22 => (intro w hSw; (try dsimp only at hSw); go_simp) <;> with_reducible rfl
    (try simp only [Act.put, z1, z2, z3])
    refine wpAnyH_take (i := 41) (oi := { dst := some 53, op := .fieldAddr 121 (.tmp 3) 4, type := 0, pos := "l06_form.go:124", after := #[{ on := 40, ground := .guard }], guard := some (40, true) }) (v := undef) rfl (by kernel_rfl) (by kernel_rfl) (by kernel_rfl) (fun _ _ _ h => h) (Or.inr ⟨by rfl, rfl⟩) hHeld ?_
    (try simp only [Act.put, z1, z2, z3])
    refine wpAnyH_take (i := 42) (oi := { dst := some 54, op := .load 2 (.tmp 53), type := 2, pos := "l06_form.go:124", after := #[{ on := 41, ground := .data }, { on := 40, ground := .guard }], guard := some (40, true) }) (v := undef) rfl (by kernel_rfl) (by kernel_rfl) (by kernel_rfl) (fun _ _ _ h => h) (Or.inr ⟨by rfl, rfl⟩) hHeld ?_
    (try simp only [Act.put, z1, z2, z3])
    refine wpAnyH_take (i := 43) (oi := { dst := some 55, op := .binOp .neq 2 (.tmp 54) (.const (.int .i64 0)) 2, type := 4, pos := "l06_form.go:124", after := #[{ on := 42, ground := .data }, { on := 40, ground := .guard }], guard := some (40, true) }) (v := undef) rfl (by kernel_rfl) (by kernel_rfl) (by kernel_rfl) (fun _ _ _ h => h) (Or.inr ⟨by rfl, rfl⟩) hHeld ?_
    (try simp only [Act.put, z1, z2, z3])
    refine wpAnyH_take (i := 44) (oi := { dst := some 56, op := .fieldAddr 54 (.tmp 1) 6, type := 0, pos := "l06_form.go:124", after := #[{ on := 40, ground := .guard }], guard := some (40, true) }) (v := undef) rfl (by kernel_rfl) (by kernel_rfl) (by kernel_rfl) (fun _ _ _ h => h) (Or.inr ⟨by rfl, rfl⟩) hHeld ?_
    (try simp only [Act.put, z1, z2, z3])
    refine wpAnyH_take (i := 45) (oi := { dst := some 57, op := .load 31 (.tmp 56), type := 31, pos := "l06_form.go:124", after := #[{ on := 44, ground := .data }, { on := 40, ground := .guard }], guard := some (40, true) }) (v := undef) rfl (by kernel_rfl) (by kernel_rfl) (by kernel_rfl) (fun _ _ _ h => h) (Or.inr ⟨by rfl, rfl⟩) hHeld ?_
    (try simp only [Act.put, z1, z2, z3])
    refine wpAnyH_take (i := 46) (oi := { dst := some 58, op := .call { callee := .value (.func 54), args := #[.tmp 57], argTypes := #[31] }, type := 2, pos := "l06_form.go:127", after := #[{ on := 45, ground := .data }, { on := 40, ground := .chain }, { on := 40, ground := .guard }], guard := some (40, true) }) (v := undef) rfl (by kernel_rfl) (by kernel_rfl) (by kernel_rfl) (fun _ _ _ h => h) (Or.inr ⟨by rfl, rfl⟩) hHeld ?_
    (try simp only [Act.put, z1, z2, z3])
    refine wpAnyH_take (i := 47) (oi := { dst := some 59, op := .fieldAddr 121 (.tmp 3) 4, type := 0, pos := "l06_form.go:124", after := #[{ on := 40, ground := .guard }], guard := some (40, true) }) (v := undef) rfl (by kernel_rfl) (by kernel_rfl) (by kernel_rfl) (fun _ _ _ h => h) (Or.inr ⟨by rfl, rfl⟩) hHeld ?_
    (try simp only [Act.put, z1, z2, z3])
    refine wpAnyH_take (i := 48) (oi := { dst := some 60, op := .load 2 (.tmp 59), type := 2, pos := "l06_form.go:124", after := #[{ on := 47, ground := .data }, { on := 40, ground := .guard }], guard := some (40, true) }) (v := undef) rfl (by kernel_rfl) (by kernel_rfl) (by kernel_rfl) (fun _ _ _ h => h) (Or.inr ⟨by rfl, rfl⟩) hHeld ?_
    (try simp only [Act.put, z1, z2, z3])
    refine wpAnyH_take (i := 49) (oi := { dst := some 61, op := .binOp .eql 2 (.tmp 58) (.tmp 60) 2, type := 4, pos := "l06_form.go:124", after := #[{ on := 46, ground := .data }, { on := 48, ground := .data }, { on := 40, ground := .guard }], guard := some (40, true) }) (v := undef) rfl (by kernel_rfl) (by kernel_rfl) (by kernel_rfl) (fun _ _ _ h => h) (Or.inr ⟨by rfl, rfl⟩) hHeld ?_
    (try simp only [Act.put, z1, z2, z3])
    refine wpAnyH_take (i := 50) (oi := { dst := some 62, op := .fieldAddr 54 (.tmp 1) 6, type := 0, pos := "l06_form.go:124", after := #[{ on := 40, ground := .guard }], guard := some (40, true) }) (v := undef) rfl (by kernel_rfl) (by kernel_rfl) (by kernel_rfl) (fun _ _ _ h => h) (Or.inr ⟨by rfl, rfl⟩) hHeld ?_
    (try simp only [Act.put, z1, z2, z3])
    refine wpAnyH_take (i := 51) (oi := { dst := some 63, op := .load 31 (.tmp 62), type := 31, pos := "l06_form.go:124", after := #[{ on := 50, ground := .data }, { on := 40, ground := .guard }], guard := some (40, true) }) (v := undef) rfl (by kernel_rfl) (by kernel_rfl) (by kernel_rfl) (fun _ _ _ h => h) (Or.inr ⟨by rfl, rfl⟩) hHeld ?_
    (try simp only [Act.put, z1, z2, z3])
    refine wpAnyH_take (i := 52) (oi := { dst := some 64, op := .call { callee := .builtin .len, args := #[.tmp 63], argTypes := #[31] }, type := 3, pos := "l06_form.go:124", after := #[{ on := 51, ground := .data }, { on := 40, ground := .guard }], guard := some (40, true) }) (v := undef) rfl (by kernel_rfl) (by kernel_rfl) (by kernel_rfl) (fun _ _ _ h => h) (Or.inr ⟨by rfl, rfl⟩) hHeld ?_
    (try simp only [Act.put, z1, z2, z3])
    refine wpAnyH_take (i := 53) (oi := { dst := some 65, op := .binOp .eql 3 (.tmp 64) (.const (.int .i64 0)) 3, type := 4, pos := "l06_form.go:124", after := #[{ on := 52, ground := .data }, { on := 40, ground := .guard }], guard := some (40, true) }) (v := undef) rfl (by kernel_rfl) (by kernel_rfl) (by kernel_rfl) (fun _ _ _ h => h) (Or.inr ⟨by rfl, rfl⟩) hHeld ?_
    (try simp only [Act.put, z1, z2, z3])
    refine wpAnyH_take (i := 54) (oi := { dst := some 66, op := .call { callee := .value (.func 91), args := #[.tmp 55, .tmp 61, .tmp 65], argTypes := #[4, 4, 4] }, type := 4, pos := "l06_form.go:127", after := #[{ on := 43, ground := .data }, { on := 49, ground := .data }, { on := 53, ground := .data }, { on := 46, ground := .chain }, { on := 40, ground := .guard }], guard := some (40, true) }) (v := undef) rfl (by kernel_rfl) (by kernel_rfl) (by kernel_rfl) (fun _ _ _ h => h) (Or.inr ⟨by rfl, rfl⟩) hHeld ?_
    (try simp only [Act.put, z1, z2, z3])
    refine wpAnyH_take (i := 55) (oi := { dst := some 67, op := .pick (.tmp 52) (.tmp 66) (.const (.bool false)), type := 4, pos := "l06_form.go:124", after := #[{ on := 40, ground := .data }, { on := 54, ground := .data }], guard := none }) (v := ?_) rfl (by kernel_rfl) (by kernel_rfl) (by kernel_rfl) (fun _ _ _ h => h) (Or.inl ⟨by rfl, ?yld23⟩) hHeld ?nxt23
    case yld23 => (intro w hSw; (try dsimp only at hSw); go_simp) <;> with_reducible rfl
    (try simp only [Act.put, z1, z2, z3])
    refine wpAnyH_take (i := 56) (oi := { dst := some 68, op := .move (.tmp 67), type := 4, pos := "l06_form.go:124", after := #[{ on := 55, ground := .data }, { on := 54, ground := .chain }], guard := none }) (v := ?_) rfl (by kernel_rfl) (by kernel_rfl) (by kernel_rfl) (fun _ _ _ h => h) (Or.inl ⟨by rfl, ?yld24⟩) hHeld ?nxt24
    case yld24 => (intro w hSw; (try dsimp only at hSw); go_simp) <;> with_reducible rfl
    (try simp only [Act.put, z1, z2, z3])
    refine wpAnyH_take (i := 57) (oi := { dst := some 69, op := .fieldAddr 121 (.tmp 3) 3, type := 0, pos := "l06_form.go:124", after := #[{ on := 56, ground := .guard }], guard := some (56, true) }) (v := undef) rfl (by kernel_rfl) (by kernel_rfl) (by kernel_rfl) (fun _ _ _ h => h) (Or.inr ⟨by rfl, rfl⟩) hHeld ?_
    (try simp only [Act.put, z1, z2, z3])
    refine wpAnyH_take (i := 58) (oi := { dst := some 70, op := .load 4 (.tmp 69), type := 4, pos := "l06_form.go:124", after := #[{ on := 57, ground := .data }, { on := 56, ground := .guard }], guard := some (56, true) }) (v := undef) rfl (by kernel_rfl) (by kernel_rfl) (by kernel_rfl) (fun _ _ _ h => h) (Or.inr ⟨by rfl, rfl⟩) hHeld ?_
    (try simp only [Act.put, z1, z2, z3])
    refine wpAnyH_take (i := 59) (oi := { dst := some 71, op := .move (.tmp 70), type := 4, pos := "l06_form.go:124", after := #[{ on := 58, ground := .data }, { on := 56, ground := .chain }, { on := 56, ground := .guard }], guard := some (56, true) }) (v := undef) rfl (by kernel_rfl) (by kernel_rfl) (by kernel_rfl) (fun _ _ _ h => h) (Or.inr ⟨by rfl, rfl⟩) hHeld ?_
    (try simp only [Act.put, z1, z2, z3])
    refine wpAnyH_take (i := 60) (oi := { dst := some 72, op := .fieldAddr 54 (.tmp 1) 7, type := 0, pos := "l06_form.go:124", after := #[{ on := 59, ground := .guard }], guard := some (59, false) }) (v := undef) rfl (by kernel_rfl) (by kernel_rfl) (by kernel_rfl) (fun _ _ _ h => h) (Or.inr ⟨by rfl, rfl⟩) hHeld ?_
    (try simp only [Act.put, z1, z2, z3])
    refine wpAnyH_take (i := 61) (oi := { dst := some 73, op := .load 4 (.tmp 72), type := 4, pos := "l06_form.go:124", after := #[{ on := 60, ground := .data }, { on := 59, ground := .guard }], guard := some (59, false) }) (v := undef) rfl (by kernel_rfl) (by kernel_rfl) (by kernel_rfl) (fun _ _ _ h => h) (Or.inr ⟨by rfl, rfl⟩) hHeld ?_
    (try simp only [Act.put, z1, z2, z3])
    refine wpAnyH_take (i := 62) (oi := { dst := some 74, op := .unOp .not 4 (.tmp 73), type := 4, pos := "l06_form.go:124", after := #[{ on := 61, ground := .data }, { on := 59, ground := .guard }], guard := some (59, false) }) (v := undef) rfl (by kernel_rfl) (by kernel_rfl) (by kernel_rfl) (fun _ _ _ h => h) (Or.inr ⟨by rfl, rfl⟩) hHeld ?_
    (try simp only [Act.put, z1, z2, z3])
    refine wpAnyH_take (i := 63) (oi := { dst := some 75, op := .pick (.tmp 71) (.const (.bool true)) (.tmp 74), type := 4, pos := "l06_form.go:124", after := #[{ on := 59, ground := .data }, { on := 62, ground := .data }, { on := 56, ground := .guard }], guard := some (56, true) }) (v := undef) rfl (by kernel_rfl) (by kernel_rfl) (by kernel_rfl) (fun _ _ _ h => h) (Or.inr ⟨by rfl, rfl⟩) hHeld ?_
    (try simp only [Act.put, z1, z2, z3])
    refine wpAnyH_take (i := 64) (oi := { dst := some 76, op := .pick (.tmp 68) (.tmp 75) (.const (.bool false)), type := 4, pos := "l06_form.go:124", after := #[{ on := 56, ground := .data }, { on := 63, ground := .data }], guard := none }) (v := ?_) rfl (by kernel_rfl) (by kernel_rfl) (by kernel_rfl) (fun _ _ _ h => h) (Or.inl ⟨by rfl, ?yld25⟩) hHeld ?nxt25
    case yld25 => (intro w hSw; (try dsimp only at hSw); go_simp) <;> with_reducible rfl
    (try simp only [Act.put, z1, z2, z3])
    refine wpAnyH_take (i := 65) (oi := { dst := some 2, op := .assign (.tmp 76), type := 4, pos := "l06_form.go:124", after := ([{ on := 64, ground := .data }, { on := 59, ground := .chain }, { on := 0, ground := .phase }, { on := 1, ground := .phase }, { on := 2, ground := .phase }, { on := 3, ground := .phase }, { on := 4, ground := .phase }, { on := 5, ground := .phase }, { on := 6, ground := .phase }, { on := 7, ground := .phase }, { on := 8, ground := .phase }, { on := 9, ground := .phase }, { on := 10, ground := .phase }, { on := 11, ground := .phase }, { on := 12, ground := .phase }, { on := 13, ground := .phase }, { on := 14, ground := .phase }, { on := 15, ground := .phase }, { on := 16, ground := .phase }, { on := 17, ground := .phase }, { on := 18, ground := .phase }, { on := 19, ground := .phase }, { on := 20, ground := .phase }, { on := 21, ground := .phase }, { on := 22, ground := .phase }, { on := 23, ground := .phase }, { on := 24, ground := .phase }, { on := 25, ground := .phase }, { on := 26, ground := .phase }, { on := 27, ground := .phase }, { on := 28, ground := .phase }, { on := 29, ground := .phase }, { on := 30, ground := .phase }].append [{ on := 31, ground := .phase }, { on := 32, ground := .phase }, { on := 33, ground := .phase }, { on := 34, ground := .phase }, { on := 35, ground := .phase }, { on := 36, ground := .phase }, { on := 37, ground := .phase }, { on := 38, ground := .phase }, { on := 39, ground := .phase }, { on := 40, ground := .phase }, { on := 41, ground := .phase }, { on := 42, ground := .phase }, { on := 43, ground := .phase }, { on := 44, ground := .phase }, { on := 45, ground := .phase }, { on := 46, ground := .phase }, { on := 47, ground := .phase }, { on := 48, ground := .phase }, { on := 49, ground := .phase }, { on := 50, ground := .phase }, { on := 51, ground := .phase }, { on := 52, ground := .phase }, { on := 53, ground := .phase }, { on := 54, ground := .phase }, { on := 55, ground := .phase }, { on := 56, ground := .phase }, { on := 57, ground := .phase }, { on := 58, ground := .phase }, { on := 59, ground := .phase }, { on := 60, ground := .phase }, { on := 61, ground := .phase }, { on := 62, ground := .phase }, { on := 63, ground := .phase }, { on := 64, ground := .phase }]).toArray, guard := none }) (v := ?_) rfl (by kernel_rfl) (by kernel_rfl) (by kernel_rfl) (fun _ _ _ h => h) (Or.inl ⟨by rfl, ?yld26⟩) hHeld ?nxt26
    case yld26 => (intro w hSw; (try dsimp only at hSw); go_simp) <;> with_reducible rfl
    (try simp only [Act.put, z1, z2, z3])
    refine wpAnyH_done (by kernel_rfl) ?_ _
    have HZ := hid hHeld.1
    clear hHeld h0
    go_wp2_with fail
    go_ret
    exact ⟨rfl, HZ.out.2.2⟩
  cases r3
  case false =>
    go_enter Tryz.func76, Tryz.ntmps76
    go_wp2_with (first | (go_at_call 90; refine (between_any _ _ _ _).mono ?_; rintro e w' ⟨rfl, rfl⟩; rw [hin.out]))
    have hT := HW.out
    obtain ⟨W0, hW0⟩ : ∃ W0, Hid ((w.alloc (.cells #[.int .i64 j, .string s, .int .i64 ty, .int .i64 lo, .int .i64 hi, .string t, .slice a ps.length cap, .bool hd] 54)).alloc (.cells #[.bool o1, .bool o2, .bool o3, .bool o4, .int .i64 o5] 121) = W0) := ⟨_, rfl⟩
    rw [hW0.out] at hT ⊢
    have h0 : Two w W0.drew j s ty lo hi t a ps.length cap hd o1 o2 o3 o4 o5 := hT.on (Below.refl _ _).drew
    clear hT hW0 g0 g1 g2 g3 g4 HW
    refine wp_region_held_drew (S := (fun w' => Two w w' j s ty lo hi t a ps.length cap hd o1 o2 o3 o4 o5 ∧ (w'.cell? ⟨w.heap.size, 0, none⟩ = some (.int .i64 j) ∧ w'.cell? ⟨w.heap.size, 1, none⟩ = some (.string s) ∧ w'.cell? ⟨w.heap.size, 2, none⟩ = some (.int .i64 ty) ∧ w'.cell? ⟨w.heap.size, 3, none⟩ = some (.int .i64 lo) ∧ w'.cell? ⟨w.heap.size, 4, none⟩ = some (.int .i64 hi) ∧ w'.cell? ⟨w.heap.size, 5, none⟩ = some (.string t) ∧ w'.cell? ⟨w.heap.size, 6, none⟩ = some (.slice a ps.length cap) ∧ w'.cell? ⟨w.heap.size, 7, none⟩ = some (.bool hd)) ∧ (w'.cell? ⟨w.heap.size + 1, 0, none⟩ = some (.bool o1) ∧ w'.cell? ⟨w.heap.size + 1, 1, none⟩ = some (.bool o2) ∧ w'.cell? ⟨w.heap.size + 1, 2, none⟩ = some (.bool o3) ∧ w'.cell? ⟨w.heap.size + 1, 3, none⟩ = some (.bool o4) ∧ w'.cell? ⟨w.heap.size + 1, 4, none⟩ = some (.int .i64 o5)))) (by kernel_rfl) ?_ (fun hHeld => ?_)
    · (try dsimp only) <;> (first | exact keepT hN | exact keepT h0)
    refine wpAnyH_take (i := 0) (oi := { dst := some 12, op := .fieldAddr 121 (.tmp 3) 0, type := 0, pos := "l06_form.go:124", after := #[], guard := none }) (v := ?_) rfl (by kernel_rfl) (by kernel_rfl) (by kernel_rfl) (fun _ _ _ h => h) (Or.inl ⟨by rfl, ?yld27⟩) hHeld ?nxt27
    case yld27 => (intro w hSw; (try dsimp only at hSw); go_simp) <;> with_reducible rfl
    (try simp only [Act.put, z1, z2, z3])
    refine wpAnyH_take (i := 1) (oi := { dst := some 13, op := .load 4 (.tmp 12), type := 4, pos := "l06_form.go:124", after := #[{ on := 0, ground := .data }], guard := none }) (v := ?_) rfl (by kernel_rfl) (by kernel_rfl) (by kernel_rfl) (fun _ _ _ h => h) (Or.inl ⟨by rfl, ?yld28⟩) hHeld ?nxt28
    case yld28 => (intro w hSw; (try dsimp only at hSw); go_simp) <;> with_reducible rfl
    (try simp only [Act.put, z1, z2, z3])
    refine wpAnyH_take (i := 2) (oi := { dst := some 14, op := .fieldAddr 54 (.tmp 1) 1, type := 0, pos := "l06_form.go:124", after := #[], guard := none }) (v := ?_) rfl (by kernel_rfl) (by kernel_rfl) (by kernel_rfl) (fun _ _ _ h => h) (Or.inl ⟨by rfl, ?yld29⟩) hHeld ?nxt29
    case yld29 => (intro w hSw; (try dsimp only at hSw); go_simp) <;> with_reducible rfl
    (try simp only [Act.put, z1, z2, z3])
    refine wpAnyH_take (i := 3) (oi := { dst := some 15, op := .load 9 (.tmp 14), type := 9, pos := "l06_form.go:124", after := #[{ on := 2, ground := .data }], guard := none }) (v := ?_) rfl (by kernel_rfl) (by kernel_rfl) (by kernel_rfl) (fun _ _ _ h => h) (Or.inl ⟨by rfl, ?yld30⟩) hHeld ?nxt30
    case yld30 => (intro w hSw; (try dsimp only at hSw); go_simp) <;> with_reducible rfl
    (try simp only [Act.put, z1, z2, z3])
    refine wpAnyH_take (i := 5) (oi := { dst := some 17, op := .fieldAddr 54 (.tmp 1) 1, type := 0, pos := "l06_form.go:124", after := #[], guard := none }) (v := ?_) rfl (by kernel_rfl) (by kernel_rfl) (by kernel_rfl) (fun _ _ _ h => h) (Or.inl ⟨by rfl, ?yld31⟩) hHeld ?nxt31
    case yld31 => (intro w hSw; (try dsimp only at hSw); go_simp) <;> with_reducible rfl
    (try simp only [Act.put, z1, z2, z3])
    refine wpAnyH_take (i := 6) (oi := { dst := some 18, op := .load 9 (.tmp 17), type := 9, pos := "l06_form.go:124", after := #[{ on := 5, ground := .data }], guard := none }) (v := ?_) rfl (by kernel_rfl) (by kernel_rfl) (by kernel_rfl) (fun _ _ _ h => h) (Or.inl ⟨by rfl, ?yld32⟩) hHeld ?nxt32
    case yld32 => (intro w hSw; (try dsimp only at hSw); go_simp) <;> with_reducible rfl
    (try simp only [Act.put, z1, z2, z3])
    refine wpAnyH_take (i := 7) (oi := { dst := some 19, op := .binOp .eql 9 (.tmp 18) (.const (.string { data := #[] })) 9, type := 4, pos := "l06_form.go:124", after := #[{ on := 6, ground := .data }], guard := none }) (v := ?_) rfl (by kernel_rfl) (by kernel_rfl) (by kernel_rfl) (fun _ _ _ h => h) (Or.inl ⟨by rfl, ?yld33⟩) hHeld ?nxt33
    case yld33 => (intro w hSw; (try dsimp only at hSw); go_simp) <;> with_reducible rfl
    (try simp only [Act.put, z1, z2, z3])
    refine wpAnyH_ready (rs := [4]) (by kernel_rfl) (by simp) ?_
    refine AllReadyH.cons (o := { dst := some 16, op := .call { callee := .value (.func 92), args := #[.tmp 15], argTypes := #[9] }, type := 4, pos := "l06_form.go:124", after := #[{ on := 3, ground := .data }], guard := none }) rfl (fun K hK => ?_) AllReadyH.nil
    go_simp
    go_at_call 92
    have hp := hHeld.1
    refine (impl_name s _ HS.out).mono ?_
    rintro e w' ⟨rfl, rfl⟩
    rw [h1.out]
    have hN := hp
    clear hp
    (try go_wp2_with fail)
    refine hK.out _ _ ?_ (fun hHeld2 => ?_)
    · (try dsimp only) <;> (first | exact keepT hN | exact keepT h0)
    clear hK K hHeld
    have hHeld := hHeld2
    clear hHeld2
    (try simp only [Act.put, z1, z2, z3])
    refine wpAnyH_ready (rs := [8]) (by kernel_rfl) (by simp) ?_
    refine AllReadyH.cons (o := { dst := some 20, op := .call { callee := .value (.func 91), args := #[.tmp 13, .tmp 16, .tmp 19], argTypes := #[4, 4, 4] }, type := 4, pos := "l06_form.go:124", after := #[{ on := 1, ground := .data }, { on := 4, ground := .data }, { on := 7, ground := .data }, { on := 4, ground := .chain }], guard := none }) rfl (fun K hK => ?_) AllReadyH.nil
    go_simp
    go_at_call 91
    have hp := hHeld.1
    refine (as_for _ _ _ _).mono ?_
    rintro e w' ⟨rfl, rfl⟩
    (first | rw [hr1.out] | rw [hr2.out] | rw [hr3.out] | rw [hr4.out])
    have hN := hp
    clear hp
    (try go_wp2_with fail)
    refine hK.out _ _ ?_ (fun hHeld2 => ?_)
    · (try dsimp only) <;> (first | exact keepT hN | exact keepT h0)
    clear hK K hHeld
    have hHeld := hHeld2
    clear hHeld2
    (try simp only [Act.put, z1, z2, z3])
    refine wpAnyH_take (i := 9) (oi := { dst := some 21, op := .move (.tmp 20), type := 4, pos := "l06_form.go:124", after := #[{ on := 8, ground := .data }, { on := 8, ground := .chain }], guard := none }) (v := ?_) rfl (by kernel_rfl) (by kernel_rfl) (by kernel_rfl) (fun _ _ _ h => h) (Or.inl ⟨by rfl, ?yld34⟩) hHeld ?nxt34
    case yld34 => (intro w hSw; (try dsimp only at hSw); go_simp) <;> with_reducible rfl
    (try simp only [Act.put, z1, z2, z3])
    refine wpAnyH_take (i := 10) (oi := { dst := some 22, op := .fieldAddr 121 (.tmp 3) 1, type := 0, pos := "l06_form.go:124", after := #[{ on := 9, ground := .guard }], guard := some (9, true) }) (v := ?_) rfl (by kernel_rfl) (by kernel_rfl) (by kernel_rfl) (fun _ _ _ h => h) (Or.inl ⟨by rfl, ?yld35⟩) hHeld ?nxt35
    case yld35 => (intro w hSw; (try dsimp only at hSw); go_simp) <;> with_reducible rfl
    (try simp only [Act.put, z1, z2, z3])
    refine wpAnyH_take (i := 11) (oi := { dst := some 23, op := .load 4 (.tmp 22), type := 4, pos := "l06_form.go:124", after := #[{ on := 10, ground := .data }, { on := 9, ground := .guard }], guard := some (9, true) }) (v := ?_) rfl (by kernel_rfl) (by kernel_rfl) (by kernel_rfl) (fun _ _ _ h => h) (Or.inl ⟨by rfl, ?yld36⟩) hHeld ?nxt36
    case yld36 => (intro w hSw; (try dsimp only at hSw); go_simp) <;> with_reducible rfl
    (try simp only [Act.put, z1, z2, z3])
    refine wpAnyH_take (i := 12) (oi := { dst := some 24, op := .load 54 (.tmp 1), type := 54, pos := "l06_form.go:124", after := #[{ on := 9, ground := .guard }], guard := some (9, true) }) (v := ?_) rfl (by kernel_rfl) (by kernel_rfl) (by kernel_rfl) (fun _ _ _ h => h) (Or.inl ⟨by rfl, ?yld37⟩) hHeld ?nxt37
    case yld37 => (intro w hSw; (try dsimp only at hSw); go_simp) <;> with_reducible rfl
    (try simp only [Act.put, z1, z2, z3])
    refine wpAnyH_take (i := 14) (oi := { dst := some 26, op := .fieldAddr 54 (.tmp 1) 2, type := 0, pos := "l06_form.go:124", after := #[{ on := 9, ground := .guard }], guard := some (9, true) }) (v := ?_) rfl (by kernel_rfl) (by kernel_rfl) (by kernel_rfl) (fun _ _ _ h => h) (Or.inl ⟨by rfl, ?yld38⟩) hHeld ?nxt38
    case yld38 => (intro w hSw; (try dsimp only at hSw); go_simp) <;> with_reducible rfl
    (try simp only [Act.put, z1, z2, z3])
    refine wpAnyH_take (i := 15) (oi := { dst := some 27, op := .load 2 (.tmp 26), type := 2, pos := "l06_form.go:124", after := #[{ on := 14, ground := .data }, { on := 9, ground := .guard }], guard := some (9, true) }) (v := ?_) rfl (by kernel_rfl) (by kernel_rfl) (by kernel_rfl) (fun _ _ _ h => h) (Or.inl ⟨by rfl, ?yld39⟩) hHeld ?nxt39
    case yld39 => (intro w hSw; (try dsimp only at hSw); go_simp) <;> with_reducible rfl
    (try simp only [Act.put, z1, z2, z3])
    refine wpAnyH_take (i := 16) (oi := { dst := some 28, op := .binOp .eql 2 (.tmp 27) (.const (.int .i64 0)) 2, type := 4, pos := "l06_form.go:124", after := #[{ on := 15, ground := .data }, { on := 9, ground := .guard }], guard := some (9, true) }) (v := ?_) rfl (by kernel_rfl) (by kernel_rfl) (by kernel_rfl) (fun _ _ _ h => h) (Or.inl ⟨by rfl, ?yld40⟩) hHeld ?nxt40
    case yld40 => (intro w hSw; (try dsimp only at hSw); go_simp) <;> with_reducible rfl
    (try simp only [Act.put, z1, z2, z3])
    refine wpAnyH_ready (rs := [13]) (by kernel_rfl) (by simp) ?_
    refine AllReadyH.cons (o := { dst := some 25, op := .call { callee := .value (.func 93), args := #[.tmp 24], argTypes := #[54] }, type := 4, pos := "l06_form.go:125", after := #[{ on := 12, ground := .data }, { on := 9, ground := .chain }, { on := 9, ground := .guard }], guard := some (9, true) }) rfl (fun K hK => ?_) AllReadyH.nil
    go_simp
    go_at_call 93
    have hp := hHeld.1
    refine (impl_bounds j s ty lo hi t a ps.length cap hd _).mono ?_
    rintro e w' ⟨rfl, hB⟩
    rw [h2.out]
    have hN := hp.on hB
    clear hp hB
    (try go_wp2_with fail)
    refine hK.out _ _ ?_ (fun hHeld2 => ?_)
    · (try dsimp only) <;> (first | exact keepT hN | exact keepT h0)
    clear hK K hHeld
    have hHeld := hHeld2
    clear hHeld2
    (try simp only [Act.put, z1, z2, z3])
    refine wpAnyH_take (i := 17) (oi := { dst := some 29, op := .move (.tmp 28), type := 4, pos := "l06_form.go:124", after := #[{ on := 16, ground := .data }, { on := 13, ground := .chain }, { on := 9, ground := .guard }], guard := some (9, true) }) (v := ?_) rfl (by kernel_rfl) (by kernel_rfl) (by kernel_rfl) (fun _ _ _ h => h) (Or.inl ⟨by rfl, ?yld41⟩) hHeld ?nxt41
    case yld41 => (intro w hSw; (try dsimp only at hSw); go_simp) <;> with_reducible rfl
    (try simp only [Act.put, z1, z2, z3])
    refine wpAnyH_take (i := 18) (oi := { dst := some 30, op := .fieldAddr 54 (.tmp 1) 3, type := 0, pos := "l06_form.go:124", after := #[{ on := 17, ground := .guard }], guard := some (17, true) }) (v := undef) rfl (by kernel_rfl) (by kernel_rfl) (by kernel_rfl) (fun _ _ _ h => h) (Or.inr ⟨by rfl, rfl⟩) hHeld ?_
    (try simp only [Act.put, z1, z2, z3])
    refine wpAnyH_take (i := 19) (oi := { dst := some 31, op := .load 2 (.tmp 30), type := 2, pos := "l06_form.go:124", after := #[{ on := 18, ground := .data }, { on := 17, ground := .guard }], guard := some (17, true) }) (v := undef) rfl (by kernel_rfl) (by kernel_rfl) (by kernel_rfl) (fun _ _ _ h => h) (Or.inr ⟨by rfl, rfl⟩) hHeld ?_
    (try simp only [Act.put, z1, z2, z3])
    refine wpAnyH_take (i := 20) (oi := { dst := some 32, op := .binOp .eql 2 (.tmp 31) (.const (.int .i64 0)) 2, type := 4, pos := "l06_form.go:124", after := #[{ on := 19, ground := .data }, { on := 17, ground := .guard }], guard := some (17, true) }) (v := undef) rfl (by kernel_rfl) (by kernel_rfl) (by kernel_rfl) (fun _ _ _ h => h) (Or.inr ⟨by rfl, rfl⟩) hHeld ?_
    (try simp only [Act.put, z1, z2, z3])
    refine wpAnyH_take (i := 21) (oi := { dst := some 33, op := .pick (.tmp 29) (.tmp 32) (.const (.bool false)), type := 4, pos := "l06_form.go:124", after := #[{ on := 17, ground := .data }, { on := 20, ground := .data }, { on := 9, ground := .guard }], guard := some (9, true) }) (v := ?_) rfl (by kernel_rfl) (by kernel_rfl) (by kernel_rfl) (fun _ _ _ h => h) (Or.inl ⟨by rfl, ?yld42⟩) hHeld ?nxt42
    case yld42 => (intro w hSw; (try dsimp only at hSw); go_simp) <;> with_reducible rfl
    (try simp only [Act.put, z1, z2, z3])
    refine wpAnyH_take (i := 22) (oi := { dst := some 34, op := .move (.tmp 33), type := 4, pos := "l06_form.go:124", after := #[{ on := 21, ground := .data }, { on := 17, ground := .chain }, { on := 9, ground := .guard }], guard := some (9, true) }) (v := ?_) rfl (by kernel_rfl) (by kernel_rfl) (by kernel_rfl) (fun _ _ _ h => h) (Or.inl ⟨by rfl, ?yld43⟩) hHeld ?nxt43
    case yld43 => (intro w hSw; (try dsimp only at hSw); go_simp) <;> with_reducible rfl
    (try simp only [Act.put, z1, z2, z3])
    refine wpAnyH_take (i := 23) (oi := { dst := some 35, op := .fieldAddr 54 (.tmp 1) 4, type := 0, pos := "l06_form.go:124", after := #[{ on := 22, ground := .guard }], guard := some (22, true) }) (v := undef) rfl (by kernel_rfl) (by kernel_rfl) (by kernel_rfl) (fun _ _ _ h => h) (Or.inr ⟨by rfl, rfl⟩) hHeld ?_
    (try simp only [Act.put, z1, z2, z3])
    refine wpAnyH_take (i := 24) (oi := { dst := some 36, op := .load 2 (.tmp 35), type := 2, pos := "l06_form.go:124", after := #[{ on := 23, ground := .data }, { on := 22, ground := .guard }], guard := some (22, true) }) (v := undef) rfl (by kernel_rfl) (by kernel_rfl) (by kernel_rfl) (fun _ _ _ h => h) (Or.inr ⟨by rfl, rfl⟩) hHeld ?_
    (try simp only [Act.put, z1, z2, z3])
    refine wpAnyH_take (i := 25) (oi := { dst := some 37, op := .binOp .eql 2 (.tmp 36) (.const (.int .i64 0)) 2, type := 4, pos := "l06_form.go:124", after := #[{ on := 24, ground := .data }, { on := 22, ground := .guard }], guard := some (22, true) }) (v := undef) rfl (by kernel_rfl) (by kernel_rfl) (by kernel_rfl) (fun _ _ _ h => h) (Or.inr ⟨by rfl, rfl⟩) hHeld ?_
    (try simp only [Act.put, z1, z2, z3])
    refine wpAnyH_take (i := 26) (oi := { dst := some 38, op := .pick (.tmp 34) (.tmp 37) (.const (.bool false)), type := 4, pos := "l06_form.go:124", after := #[{ on := 22, ground := .data }, { on := 25, ground := .data }, { on := 9, ground := .guard }], guard := some (9, true) }) (v := ?_) rfl (by kernel_rfl) (by kernel_rfl) (by kernel_rfl) (fun _ _ _ h => h) (Or.inl ⟨by rfl, ?yld44⟩) hHeld ?nxt44
    case yld44 => (intro w hSw; (try dsimp only at hSw); go_simp) <;> with_reducible rfl
    (try simp only [Act.put, z1, z2, z3])
    refine wpAnyH_ready (rs := [27]) (by kernel_rfl) (by simp) ?_
    refine AllReadyH.cons (o := { dst := some 39, op := .call { callee := .value (.func 91), args := #[.tmp 23, .tmp 25, .tmp 38], argTypes := #[4, 4, 4] }, type := 4, pos := "l06_form.go:125", after := #[{ on := 11, ground := .data }, { on := 13, ground := .data }, { on := 26, ground := .data }, { on := 22, ground := .chain }, { on := 9, ground := .guard }], guard := some (9, true) }) rfl (fun K hK => ?_) AllReadyH.nil
    go_simp
    go_at_call 91
    have hp := hHeld.1
    refine (as_for _ _ _ _).mono ?_
    rintro e w' ⟨rfl, rfl⟩
    (first | rw [hr1.out] | rw [hr2.out] | rw [hr3.out] | rw [hr4.out])
    have hN := hp
    clear hp
    (try go_wp2_with fail)
    refine hK.out _ _ ?_ (fun hHeld2 => ?_)
    · (try dsimp only) <;> (first | exact keepT hN | exact keepT h0)
    clear hK K hHeld
    have hHeld := hHeld2
    clear hHeld2
    (try simp only [Act.put, z1, z2, z3])
    refine wpAnyH_take (i := 28) (oi := { dst := some 40, op := .pick (.tmp 21) (.tmp 39) (.const (.bool false)), type := 4, pos := "l06_form.go:124", after := #[{ on := 9, ground := .data }, { on := 27, ground := .data }], guard := none }) (v := ?_) rfl (by kernel_rfl) (by kernel_rfl) (by kernel_rfl) (fun _ _ _ h => h) (Or.inl ⟨by rfl, ?yld45⟩) hHeld ?nxt45
    case yld45 => (intro w hSw; (try dsimp only at hSw); go_simp) <;> with_reducible rfl
    (try simp only [Act.put, z1, z2, z3])
    refine wpAnyH_take (i := 29) (oi := { dst := some 41, op := .move (.tmp 40), type := 4, pos := "l06_form.go:124", after := #[{ on := 28, ground := .data }, { on := 27, ground := .chain }], guard := none }) (v := ?_) rfl (by kernel_rfl) (by kernel_rfl) (by kernel_rfl) (fun _ _ _ h => h) (Or.inl ⟨by rfl, ?yld46⟩) hHeld ?nxt46
    case yld46 => (intro w hSw; (try dsimp only at hSw); go_simp) <;> with_reducible rfl
    (try simp only [Act.put, z1, z2, z3])
    refine wpAnyH_take (i := 30) (oi := { dst := some 42, op := .fieldAddr 121 (.tmp 3) 2, type := 0, pos := "l06_form.go:124", after := #[{ on := 29, ground := .guard }], guard := some (29, true) }) (v := ?_) rfl (by kernel_rfl) (by kernel_rfl) (by kernel_rfl) (fun _ _ _ h => h) (Or.inl ⟨by rfl, ?yld47⟩) hHeld ?nxt47
    case yld47 => (intro w hSw; (try dsimp only at hSw); go_simp) <;> with_reducible rfl
    (try simp only [Act.put, z1, z2, z3])
    refine wpAnyH_take (i := 31) (oi := { dst := some 43, op := .load 4 (.tmp 42), type := 4, pos := "l06_form.go:124", after := #[{ on := 30, ground := .data }, { on := 29, ground := .guard }], guard := some (29, true) }) (v := ?_) rfl (by kernel_rfl) (by kernel_rfl) (by kernel_rfl) (fun _ _ _ h => h) (Or.inl ⟨by rfl, ?yld48⟩) hHeld ?nxt48
    case yld48 => (intro w hSw; (try dsimp only at hSw); go_simp) <;> with_reducible rfl
    (try simp only [Act.put, z1, z2, z3])
    refine wpAnyH_take (i := 32) (oi := { dst := some 44, op := .fieldAddr 54 (.tmp 1) 5, type := 0, pos := "l06_form.go:124", after := #[{ on := 29, ground := .guard }], guard := some (29, true) }) (v := ?_) rfl (by kernel_rfl) (by kernel_rfl) (by kernel_rfl) (fun _ _ _ h => h) (Or.inl ⟨by rfl, ?yld49⟩) hHeld ?nxt49
    case yld49 => (intro w hSw; (try dsimp only at hSw); go_simp) <;> with_reducible rfl
    (try simp only [Act.put, z1, z2, z3])
    refine wpAnyH_take (i := 33) (oi := { dst := some 45, op := .load 9 (.tmp 44), type := 9, pos := "l06_form.go:124", after := #[{ on := 32, ground := .data }, { on := 29, ground := .guard }], guard := some (29, true) }) (v := ?_) rfl (by kernel_rfl) (by kernel_rfl) (by kernel_rfl) (fun _ _ _ h => h) (Or.inl ⟨by rfl, ?yld50⟩) hHeld ?nxt50
    case yld50 => (intro w hSw; (try dsimp only at hSw); go_simp) <;> with_reducible rfl
    (try simp only [Act.put, z1, z2, z3])
    refine wpAnyH_take (i := 35) (oi := { dst := some 47, op := .fieldAddr 54 (.tmp 1) 5, type := 0, pos := "l06_form.go:124", after := #[{ on := 29, ground := .guard }], guard := some (29, true) }) (v := ?_) rfl (by kernel_rfl) (by kernel_rfl) (by kernel_rfl) (fun _ _ _ h => h) (Or.inl ⟨by rfl, ?yld51⟩) hHeld ?nxt51
    case yld51 => (intro w hSw; (try dsimp only at hSw); go_simp) <;> with_reducible rfl
    (try simp only [Act.put, z1, z2, z3])
    refine wpAnyH_take (i := 36) (oi := { dst := some 48, op := .load 9 (.tmp 47), type := 9, pos := "l06_form.go:124", after := #[{ on := 35, ground := .data }, { on := 29, ground := .guard }], guard := some (29, true) }) (v := ?_) rfl (by kernel_rfl) (by kernel_rfl) (by kernel_rfl) (fun _ _ _ h => h) (Or.inl ⟨by rfl, ?yld52⟩) hHeld ?nxt52
    case yld52 => (intro w hSw; (try dsimp only at hSw); go_simp) <;> with_reducible rfl
    (try simp only [Act.put, z1, z2, z3])
    refine wpAnyH_take (i := 37) (oi := { dst := some 49, op := .binOp .eql 9 (.tmp 48) (.const (.string { data := #[] })) 9, type := 4, pos := "l06_form.go:124", after := #[{ on := 36, ground := .data }, { on := 29, ground := .guard }], guard := some (29, true) }) (v := ?_) rfl (by kernel_rfl) (by kernel_rfl) (by kernel_rfl) (fun _ _ _ h => h) (Or.inl ⟨by rfl, ?yld53⟩) hHeld ?nxt53
    case yld53 => (intro w hSw; (try dsimp only at hSw); go_simp) <;> with_reducible rfl
    (try simp only [Act.put, z1, z2, z3])
    refine wpAnyH_ready (rs := [34]) (by kernel_rfl) (by simp) ?_
    refine AllReadyH.cons (o := { dst := some 46, op := .call { callee := .value (.func 94), args := #[.tmp 45], argTypes := #[9] }, type := 4, pos := "l06_form.go:126", after := #[{ on := 33, ground := .data }, { on := 29, ground := .chain }, { on := 29, ground := .guard }], guard := some (29, true) }) rfl (fun K hK => ?_) AllReadyH.nil
    go_simp
    go_at_call 94
    have hp := hHeld.1
    refine (impl_asked t _ HT.out).mono ?_
    rintro e w' ⟨rfl, hB⟩
    rw [h3.out]
    have hN := hp.on hB
    clear hp hB
    (try go_wp2_with fail)
    refine hK.out _ _ ?_ (fun hHeld2 => ?_)
    · (try dsimp only) <;> (first | exact keepT hN | exact keepT h0)
    clear hK K hHeld
    have hHeld := hHeld2
    clear hHeld2
    (try simp only [Act.put, z1, z2, z3])
    refine wpAnyH_ready (rs := [38]) (by kernel_rfl) (by simp) ?_
    refine AllReadyH.cons (o := { dst := some 50, op := .call { callee := .value (.func 91), args := #[.tmp 43, .tmp 46, .tmp 49], argTypes := #[4, 4, 4] }, type := 4, pos := "l06_form.go:126", after := #[{ on := 31, ground := .data }, { on := 34, ground := .data }, { on := 37, ground := .data }, { on := 34, ground := .chain }, { on := 29, ground := .guard }], guard := some (29, true) }) rfl (fun K hK => ?_) AllReadyH.nil
    go_simp
    go_at_call 91
    have hp := hHeld.1
    refine (as_for _ _ _ _).mono ?_
    rintro e w' ⟨rfl, rfl⟩
    (first | rw [hr1.out] | rw [hr2.out] | rw [hr3.out] | rw [hr4.out])
    have hN := hp
    clear hp
    (try go_wp2_with fail)
    refine hK.out _ _ ?_ (fun hHeld2 => ?_)
    · (try dsimp only) <;> (first | exact keepT hN | exact keepT h0)
    clear hK K hHeld
    have hHeld := hHeld2
    clear hHeld2
    (try simp only [Act.put, z1, z2, z3])
    refine wpAnyH_take (i := 39) (oi := { dst := some 51, op := .pick (.tmp 41) (.tmp 50) (.const (.bool false)), type := 4, pos := "l06_form.go:124", after := #[{ on := 29, ground := .data }, { on := 38, ground := .data }], guard := none }) (v := ?_) rfl (by kernel_rfl) (by kernel_rfl) (by kernel_rfl) (fun _ _ _ h => h) (Or.inl ⟨by rfl, ?yld54⟩) hHeld ?nxt54
    case yld54 => (intro w hSw; (try dsimp only at hSw); go_simp) <;> with_reducible rfl
    (try simp only [Act.put, z1, z2, z3])
    refine wpAnyH_take (i := 40) (oi := { dst := some 52, op := .move (.tmp 51), type := 4, pos := "l06_form.go:124", after := #[{ on := 39, ground := .data }, { on := 38, ground := .chain }], guard := none }) (v := ?_) rfl (by kernel_rfl) (by kernel_rfl) (by kernel_rfl) (fun _ _ _ h => h) (Or.inl ⟨by rfl, ?yld55⟩) hHeld ?nxt55
    case yld55 => (intro w hSw; (try dsimp only at hSw); go_simp) <;> with_reducible rfl
    (try simp only [Act.put, z1, z2, z3])
    refine wpAnyH_take (i := 41) (oi := { dst := some 53, op := .fieldAddr 121 (.tmp 3) 4, type := 0, pos := "l06_form.go:124", after := #[{ on := 40, ground := .guard }], guard := some (40, true) }) (v := undef) rfl (by kernel_rfl) (by kernel_rfl) (by kernel_rfl) (fun _ _ _ h => h) (Or.inr ⟨by rfl, rfl⟩) hHeld ?_
    (try simp only [Act.put, z1, z2, z3])
    refine wpAnyH_take (i := 42) (oi := { dst := some 54, op := .load 2 (.tmp 53), type := 2, pos := "l06_form.go:124", after := #[{ on := 41, ground := .data }, { on := 40, ground := .guard }], guard := some (40, true) }) (v := undef) rfl (by kernel_rfl) (by kernel_rfl) (by kernel_rfl) (fun _ _ _ h => h) (Or.inr ⟨by rfl, rfl⟩) hHeld ?_
    (try simp only [Act.put, z1, z2, z3])
    refine wpAnyH_take (i := 43) (oi := { dst := some 55, op := .binOp .neq 2 (.tmp 54) (.const (.int .i64 0)) 2, type := 4, pos := "l06_form.go:124", after := #[{ on := 42, ground := .data }, { on := 40, ground := .guard }], guard := some (40, true) }) (v := undef) rfl (by kernel_rfl) (by kernel_rfl) (by kernel_rfl) (fun _ _ _ h => h) (Or.inr ⟨by rfl, rfl⟩) hHeld ?_
    (try simp only [Act.put, z1, z2, z3])
    refine wpAnyH_take (i := 44) (oi := { dst := some 56, op := .fieldAddr 54 (.tmp 1) 6, type := 0, pos := "l06_form.go:124", after := #[{ on := 40, ground := .guard }], guard := some (40, true) }) (v := undef) rfl (by kernel_rfl) (by kernel_rfl) (by kernel_rfl) (fun _ _ _ h => h) (Or.inr ⟨by rfl, rfl⟩) hHeld ?_
    (try simp only [Act.put, z1, z2, z3])
    refine wpAnyH_take (i := 45) (oi := { dst := some 57, op := .load 31 (.tmp 56), type := 31, pos := "l06_form.go:124", after := #[{ on := 44, ground := .data }, { on := 40, ground := .guard }], guard := some (40, true) }) (v := undef) rfl (by kernel_rfl) (by kernel_rfl) (by kernel_rfl) (fun _ _ _ h => h) (Or.inr ⟨by rfl, rfl⟩) hHeld ?_
    (try simp only [Act.put, z1, z2, z3])
    refine wpAnyH_take (i := 46) (oi := { dst := some 58, op := .call { callee := .value (.func 54), args := #[.tmp 57], argTypes := #[31] }, type := 2, pos := "l06_form.go:127", after := #[{ on := 45, ground := .data }, { on := 40, ground := .chain }, { on := 40, ground := .guard }], guard := some (40, true) }) (v := undef) rfl (by kernel_rfl) (by kernel_rfl) (by kernel_rfl) (fun _ _ _ h => h) (Or.inr ⟨by rfl, rfl⟩) hHeld ?_
    (try simp only [Act.put, z1, z2, z3])
    refine wpAnyH_take (i := 47) (oi := { dst := some 59, op := .fieldAddr 121 (.tmp 3) 4, type := 0, pos := "l06_form.go:124", after := #[{ on := 40, ground := .guard }], guard := some (40, true) }) (v := undef) rfl (by kernel_rfl) (by kernel_rfl) (by kernel_rfl) (fun _ _ _ h => h) (Or.inr ⟨by rfl, rfl⟩) hHeld ?_
    (try simp only [Act.put, z1, z2, z3])
    refine wpAnyH_take (i := 48) (oi := { dst := some 60, op := .load 2 (.tmp 59), type := 2, pos := "l06_form.go:124", after := #[{ on := 47, ground := .data }, { on := 40, ground := .guard }], guard := some (40, true) }) (v := undef) rfl (by kernel_rfl) (by kernel_rfl) (by kernel_rfl) (fun _ _ _ h => h) (Or.inr ⟨by rfl, rfl⟩) hHeld ?_
    (try simp only [Act.put, z1, z2, z3])
    refine wpAnyH_take (i := 49) (oi := { dst := some 61, op := .binOp .eql 2 (.tmp 58) (.tmp 60) 2, type := 4, pos := "l06_form.go:124", after := #[{ on := 46, ground := .data }, { on := 48, ground := .data }, { on := 40, ground := .guard }], guard := some (40, true) }) (v := undef) rfl (by kernel_rfl) (by kernel_rfl) (by kernel_rfl) (fun _ _ _ h => h) (Or.inr ⟨by rfl, rfl⟩) hHeld ?_
    (try simp only [Act.put, z1, z2, z3])
    refine wpAnyH_take (i := 50) (oi := { dst := some 62, op := .fieldAddr 54 (.tmp 1) 6, type := 0, pos := "l06_form.go:124", after := #[{ on := 40, ground := .guard }], guard := some (40, true) }) (v := undef) rfl (by kernel_rfl) (by kernel_rfl) (by kernel_rfl) (fun _ _ _ h => h) (Or.inr ⟨by rfl, rfl⟩) hHeld ?_
    (try simp only [Act.put, z1, z2, z3])
    refine wpAnyH_take (i := 51) (oi := { dst := some 63, op := .load 31 (.tmp 62), type := 31, pos := "l06_form.go:124", after := #[{ on := 50, ground := .data }, { on := 40, ground := .guard }], guard := some (40, true) }) (v := undef) rfl (by kernel_rfl) (by kernel_rfl) (by kernel_rfl) (fun _ _ _ h => h) (Or.inr ⟨by rfl, rfl⟩) hHeld ?_
    (try simp only [Act.put, z1, z2, z3])
    refine wpAnyH_take (i := 52) (oi := { dst := some 64, op := .call { callee := .builtin .len, args := #[.tmp 63], argTypes := #[31] }, type := 3, pos := "l06_form.go:124", after := #[{ on := 51, ground := .data }, { on := 40, ground := .guard }], guard := some (40, true) }) (v := undef) rfl (by kernel_rfl) (by kernel_rfl) (by kernel_rfl) (fun _ _ _ h => h) (Or.inr ⟨by rfl, rfl⟩) hHeld ?_
    (try simp only [Act.put, z1, z2, z3])
    refine wpAnyH_take (i := 53) (oi := { dst := some 65, op := .binOp .eql 3 (.tmp 64) (.const (.int .i64 0)) 3, type := 4, pos := "l06_form.go:124", after := #[{ on := 52, ground := .data }, { on := 40, ground := .guard }], guard := some (40, true) }) (v := undef) rfl (by kernel_rfl) (by kernel_rfl) (by kernel_rfl) (fun _ _ _ h => h) (Or.inr ⟨by rfl, rfl⟩) hHeld ?_
    (try simp only [Act.put, z1, z2, z3])
    refine wpAnyH_take (i := 54) (oi := { dst := some 66, op := .call { callee := .value (.func 91), args := #[.tmp 55, .tmp 61, .tmp 65], argTypes := #[4, 4, 4] }, type := 4, pos := "l06_form.go:127", after := #[{ on := 43, ground := .data }, { on := 49, ground := .data }, { on := 53, ground := .data }, { on := 46, ground := .chain }, { on := 40, ground := .guard }], guard := some (40, true) }) (v := undef) rfl (by kernel_rfl) (by kernel_rfl) (by kernel_rfl) (fun _ _ _ h => h) (Or.inr ⟨by rfl, rfl⟩) hHeld ?_
    (try simp only [Act.put, z1, z2, z3])
    refine wpAnyH_take (i := 55) (oi := { dst := some 67, op := .pick (.tmp 52) (.tmp 66) (.const (.bool false)), type := 4, pos := "l06_form.go:124", after := #[{ on := 40, ground := .data }, { on := 54, ground := .data }], guard := none }) (v := ?_) rfl (by kernel_rfl) (by kernel_rfl) (by kernel_rfl) (fun _ _ _ h => h) (Or.inl ⟨by rfl, ?yld56⟩) hHeld ?nxt56
    case yld56 => (intro w hSw; (try dsimp only at hSw); go_simp) <;> with_reducible rfl
    (try simp only [Act.put, z1, z2, z3])
    refine wpAnyH_take (i := 56) (oi := { dst := some 68, op := .move (.tmp 67), type := 4, pos := "l06_form.go:124", after := #[{ on := 55, ground := .data }, { on := 54, ground := .chain }], guard := none }) (v := ?_) rfl (by kernel_rfl) (by kernel_rfl) (by kernel_rfl) (fun _ _ _ h => h) (Or.inl ⟨by rfl, ?yld57⟩) hHeld ?nxt57
    case yld57 => (intro w hSw; (try dsimp only at hSw); go_simp) <;> with_reducible rfl
    (try simp only [Act.put, z1, z2, z3])
    refine wpAnyH_take (i := 57) (oi := { dst := some 69, op := .fieldAddr 121 (.tmp 3) 3, type := 0, pos := "l06_form.go:124", after := #[{ on := 56, ground := .guard }], guard := some (56, true) }) (v := undef) rfl (by kernel_rfl) (by kernel_rfl) (by kernel_rfl) (fun _ _ _ h => h) (Or.inr ⟨by rfl, rfl⟩) hHeld ?_
    (try simp only [Act.put, z1, z2, z3])
    refine wpAnyH_take (i := 58) (oi := { dst := some 70, op := .load 4 (.tmp 69), type := 4, pos := "l06_form.go:124", after := #[{ on := 57, ground := .data }, { on := 56, ground := .guard }], guard := some (56, true) }) (v := undef) rfl (by kernel_rfl) (by kernel_rfl) (by kernel_rfl) (fun _ _ _ h => h) (Or.inr ⟨by rfl, rfl⟩) hHeld ?_
    (try simp only [Act.put, z1, z2, z3])
    refine wpAnyH_take (i := 59) (oi := { dst := some 71, op := .move (.tmp 70), type := 4, pos := "l06_form.go:124", after := #[{ on := 58, ground := .data }, { on := 56, ground := .chain }, { on := 56, ground := .guard }], guard := some (56, true) }) (v := undef) rfl (by kernel_rfl) (by kernel_rfl) (by kernel_rfl) (fun _ _ _ h => h) (Or.inr ⟨by rfl, rfl⟩) hHeld ?_
    (try simp only [Act.put, z1, z2, z3])
    refine wpAnyH_take (i := 60) (oi := { dst := some 72, op := .fieldAddr 54 (.tmp 1) 7, type := 0, pos := "l06_form.go:124", after := #[{ on := 59, ground := .guard }], guard := some (59, false) }) (v := undef) rfl (by kernel_rfl) (by kernel_rfl) (by kernel_rfl) (fun _ _ _ h => h) (Or.inr ⟨by rfl, rfl⟩) hHeld ?_
    (try simp only [Act.put, z1, z2, z3])
    refine wpAnyH_take (i := 61) (oi := { dst := some 73, op := .load 4 (.tmp 72), type := 4, pos := "l06_form.go:124", after := #[{ on := 60, ground := .data }, { on := 59, ground := .guard }], guard := some (59, false) }) (v := undef) rfl (by kernel_rfl) (by kernel_rfl) (by kernel_rfl) (fun _ _ _ h => h) (Or.inr ⟨by rfl, rfl⟩) hHeld ?_
    (try simp only [Act.put, z1, z2, z3])
    refine wpAnyH_take (i := 62) (oi := { dst := some 74, op := .unOp .not 4 (.tmp 73), type := 4, pos := "l06_form.go:124", after := #[{ on := 61, ground := .data }, { on := 59, ground := .guard }], guard := some (59, false) }) (v := undef) rfl (by kernel_rfl) (by kernel_rfl) (by kernel_rfl) (fun _ _ _ h => h) (Or.inr ⟨by rfl, rfl⟩) hHeld ?_
    (try simp only [Act.put, z1, z2, z3])
    refine wpAnyH_take (i := 63) (oi := { dst := some 75, op := .pick (.tmp 71) (.const (.bool true)) (.tmp 74), type := 4, pos := "l06_form.go:124", after := #[{ on := 59, ground := .data }, { on := 62, ground := .data }, { on := 56, ground := .guard }], guard := some (56, true) }) (v := undef) rfl (by kernel_rfl) (by kernel_rfl) (by kernel_rfl) (fun _ _ _ h => h) (Or.inr ⟨by rfl, rfl⟩) hHeld ?_
    (try simp only [Act.put, z1, z2, z3])
    refine wpAnyH_take (i := 64) (oi := { dst := some 76, op := .pick (.tmp 68) (.tmp 75) (.const (.bool false)), type := 4, pos := "l06_form.go:124", after := #[{ on := 56, ground := .data }, { on := 63, ground := .data }], guard := none }) (v := ?_) rfl (by kernel_rfl) (by kernel_rfl) (by kernel_rfl) (fun _ _ _ h => h) (Or.inl ⟨by rfl, ?yld58⟩) hHeld ?nxt58
    case yld58 => (intro w hSw; (try dsimp only at hSw); go_simp) <;> with_reducible rfl
    (try simp only [Act.put, z1, z2, z3])
    refine wpAnyH_take (i := 65) (oi := { dst := some 2, op := .assign (.tmp 76), type := 4, pos := "l06_form.go:124", after := ([{ on := 64, ground := .data }, { on := 59, ground := .chain }, { on := 0, ground := .phase }, { on := 1, ground := .phase }, { on := 2, ground := .phase }, { on := 3, ground := .phase }, { on := 4, ground := .phase }, { on := 5, ground := .phase }, { on := 6, ground := .phase }, { on := 7, ground := .phase }, { on := 8, ground := .phase }, { on := 9, ground := .phase }, { on := 10, ground := .phase }, { on := 11, ground := .phase }, { on := 12, ground := .phase }, { on := 13, ground := .phase }, { on := 14, ground := .phase }, { on := 15, ground := .phase }, { on := 16, ground := .phase }, { on := 17, ground := .phase }, { on := 18, ground := .phase }, { on := 19, ground := .phase }, { on := 20, ground := .phase }, { on := 21, ground := .phase }, { on := 22, ground := .phase }, { on := 23, ground := .phase }, { on := 24, ground := .phase }, { on := 25, ground := .phase }, { on := 26, ground := .phase }, { on := 27, ground := .phase }, { on := 28, ground := .phase }, { on := 29, ground := .phase }, { on := 30, ground := .phase }].append [{ on := 31, ground := .phase }, { on := 32, ground := .phase }, { on := 33, ground := .phase }, { on := 34, ground := .phase }, { on := 35, ground := .phase }, { on := 36, ground := .phase }, { on := 37, ground := .phase }, { on := 38, ground := .phase }, { on := 39, ground := .phase }, { on := 40, ground := .phase }, { on := 41, ground := .phase }, { on := 42, ground := .phase }, { on := 43, ground := .phase }, { on := 44, ground := .phase }, { on := 45, ground := .phase }, { on := 46, ground := .phase }, { on := 47, ground := .phase }, { on := 48, ground := .phase }, { on := 49, ground := .phase }, { on := 50, ground := .phase }, { on := 51, ground := .phase }, { on := 52, ground := .phase }, { on := 53, ground := .phase }, { on := 54, ground := .phase }, { on := 55, ground := .phase }, { on := 56, ground := .phase }, { on := 57, ground := .phase }, { on := 58, ground := .phase }, { on := 59, ground := .phase }, { on := 60, ground := .phase }, { on := 61, ground := .phase }, { on := 62, ground := .phase }, { on := 63, ground := .phase }, { on := 64, ground := .phase }]).toArray, guard := none }) (v := ?_) rfl (by kernel_rfl) (by kernel_rfl) (by kernel_rfl) (fun _ _ _ h => h) (Or.inl ⟨by rfl, ?yld59⟩) hHeld ?nxt59
    case yld59 => (intro w hSw; (try dsimp only at hSw); go_simp) <;> with_reducible rfl
    (try simp only [Act.put, z1, z2, z3])
    refine wpAnyH_done (by kernel_rfl) ?_ _
    have HZ := hid hHeld.1
    clear hHeld h0
    go_wp2_with fail
    go_ret
    exact ⟨rfl, HZ.out.2.2⟩
  cases r4
  case false =>
    go_enter Tryz.func76, Tryz.ntmps76
    go_wp2_with (first | (go_at_call 90; refine (between_any _ _ _ _).mono ?_; rintro e w' ⟨rfl, rfl⟩; rw [hin.out]))
    have hT := HW.out
    obtain ⟨W0, hW0⟩ : ∃ W0, Hid ((w.alloc (.cells #[.int .i64 j, .string s, .int .i64 ty, .int .i64 lo, .int .i64 hi, .string t, .slice a ps.length cap, .bool hd] 54)).alloc (.cells #[.bool o1, .bool o2, .bool o3, .bool o4, .int .i64 o5] 121) = W0) := ⟨_, rfl⟩
    rw [hW0.out] at hT ⊢
    have h0 : Two w W0.drew j s ty lo hi t a ps.length cap hd o1 o2 o3 o4 o5 := hT.on (Below.refl _ _).drew
    clear hT hW0 g0 g1 g2 g3 g4 HW
    refine wp_region_held_drew (S := (fun w' => Two w w' j s ty lo hi t a ps.length cap hd o1 o2 o3 o4 o5 ∧ (w'.cell? ⟨w.heap.size, 0, none⟩ = some (.int .i64 j) ∧ w'.cell? ⟨w.heap.size, 1, none⟩ = some (.string s) ∧ w'.cell? ⟨w.heap.size, 2, none⟩ = some (.int .i64 ty) ∧ w'.cell? ⟨w.heap.size, 3, none⟩ = some (.int .i64 lo) ∧ w'.cell? ⟨w.heap.size, 4, none⟩ = some (.int .i64 hi) ∧ w'.cell? ⟨w.heap.size, 5, none⟩ = some (.string t) ∧ w'.cell? ⟨w.heap.size, 6, none⟩ = some (.slice a ps.length cap) ∧ w'.cell? ⟨w.heap.size, 7, none⟩ = some (.bool hd)) ∧ (w'.cell? ⟨w.heap.size + 1, 0, none⟩ = some (.bool o1) ∧ w'.cell? ⟨w.heap.size + 1, 1, none⟩ = some (.bool o2) ∧ w'.cell? ⟨w.heap.size + 1, 2, none⟩ = some (.bool o3) ∧ w'.cell? ⟨w.heap.size + 1, 3, none⟩ = some (.bool o4) ∧ w'.cell? ⟨w.heap.size + 1, 4, none⟩ = some (.int .i64 o5)))) (by kernel_rfl) ?_ (fun hHeld => ?_)
    · (try dsimp only) <;> (first | exact keepT hN | exact keepT h0)
    refine wpAnyH_take (i := 0) (oi := { dst := some 12, op := .fieldAddr 121 (.tmp 3) 0, type := 0, pos := "l06_form.go:124", after := #[], guard := none }) (v := ?_) rfl (by kernel_rfl) (by kernel_rfl) (by kernel_rfl) (fun _ _ _ h => h) (Or.inl ⟨by rfl, ?yld60⟩) hHeld ?nxt60
    case yld60 => (intro w hSw; (try dsimp only at hSw); go_simp) <;> with_reducible rfl
    (try simp only [Act.put, z1, z2, z3])
    refine wpAnyH_take (i := 1) (oi := { dst := some 13, op := .load 4 (.tmp 12), type := 4, pos := "l06_form.go:124", after := #[{ on := 0, ground := .data }], guard := none }) (v := ?_) rfl (by kernel_rfl) (by kernel_rfl) (by kernel_rfl) (fun _ _ _ h => h) (Or.inl ⟨by rfl, ?yld61⟩) hHeld ?nxt61
    case yld61 => (intro w hSw; (try dsimp only at hSw); go_simp) <;> with_reducible rfl
    (try simp only [Act.put, z1, z2, z3])
    refine wpAnyH_take (i := 2) (oi := { dst := some 14, op := .fieldAddr 54 (.tmp 1) 1, type := 0, pos := "l06_form.go:124", after := #[], guard := none }) (v := ?_) rfl (by kernel_rfl) (by kernel_rfl) (by kernel_rfl) (fun _ _ _ h => h) (Or.inl ⟨by rfl, ?yld62⟩) hHeld ?nxt62
    case yld62 => (intro w hSw; (try dsimp only at hSw); go_simp) <;> with_reducible rfl
    (try simp only [Act.put, z1, z2, z3])
    refine wpAnyH_take (i := 3) (oi := { dst := some 15, op := .load 9 (.tmp 14), type := 9, pos := "l06_form.go:124", after := #[{ on := 2, ground := .data }], guard := none }) (v := ?_) rfl (by kernel_rfl) (by kernel_rfl) (by kernel_rfl) (fun _ _ _ h => h) (Or.inl ⟨by rfl, ?yld63⟩) hHeld ?nxt63
    case yld63 => (intro w hSw; (try dsimp only at hSw); go_simp) <;> with_reducible rfl
    (try simp only [Act.put, z1, z2, z3])
    refine wpAnyH_take (i := 5) (oi := { dst := some 17, op := .fieldAddr 54 (.tmp 1) 1, type := 0, pos := "l06_form.go:124", after := #[], guard := none }) (v := ?_) rfl (by kernel_rfl) (by kernel_rfl) (by kernel_rfl) (fun _ _ _ h => h) (Or.inl ⟨by rfl, ?yld64⟩) hHeld ?nxt64
    case yld64 => (intro w hSw; (try dsimp only at hSw); go_simp) <;> with_reducible rfl
    (try simp only [Act.put, z1, z2, z3])
    refine wpAnyH_take (i := 6) (oi := { dst := some 18, op := .load 9 (.tmp 17), type := 9, pos := "l06_form.go:124", after := #[{ on := 5, ground := .data }], guard := none }) (v := ?_) rfl (by kernel_rfl) (by kernel_rfl) (by kernel_rfl) (fun _ _ _ h => h) (Or.inl ⟨by rfl, ?yld65⟩) hHeld ?nxt65
    case yld65 => (intro w hSw; (try dsimp only at hSw); go_simp) <;> with_reducible rfl
    (try simp only [Act.put, z1, z2, z3])
    refine wpAnyH_take (i := 7) (oi := { dst := some 19, op := .binOp .eql 9 (.tmp 18) (.const (.string { data := #[] })) 9, type := 4, pos := "l06_form.go:124", after := #[{ on := 6, ground := .data }], guard := none }) (v := ?_) rfl (by kernel_rfl) (by kernel_rfl) (by kernel_rfl) (fun _ _ _ h => h) (Or.inl ⟨by rfl, ?yld66⟩) hHeld ?nxt66
    case yld66 => (intro w hSw; (try dsimp only at hSw); go_simp) <;> with_reducible rfl
    (try simp only [Act.put, z1, z2, z3])
    refine wpAnyH_ready (rs := [4]) (by kernel_rfl) (by simp) ?_
    refine AllReadyH.cons (o := { dst := some 16, op := .call { callee := .value (.func 92), args := #[.tmp 15], argTypes := #[9] }, type := 4, pos := "l06_form.go:124", after := #[{ on := 3, ground := .data }], guard := none }) rfl (fun K hK => ?_) AllReadyH.nil
    go_simp
    go_at_call 92
    have hp := hHeld.1
    refine (impl_name s _ HS.out).mono ?_
    rintro e w' ⟨rfl, rfl⟩
    rw [h1.out]
    have hN := hp
    clear hp
    (try go_wp2_with fail)
    refine hK.out _ _ ?_ (fun hHeld2 => ?_)
    · (try dsimp only) <;> (first | exact keepT hN | exact keepT h0)
    clear hK K hHeld
    have hHeld := hHeld2
    clear hHeld2
    (try simp only [Act.put, z1, z2, z3])
    refine wpAnyH_ready (rs := [8]) (by kernel_rfl) (by simp) ?_
    refine AllReadyH.cons (o := { dst := some 20, op := .call { callee := .value (.func 91), args := #[.tmp 13, .tmp 16, .tmp 19], argTypes := #[4, 4, 4] }, type := 4, pos := "l06_form.go:124", after := #[{ on := 1, ground := .data }, { on := 4, ground := .data }, { on := 7, ground := .data }, { on := 4, ground := .chain }], guard := none }) rfl (fun K hK => ?_) AllReadyH.nil
    go_simp
    go_at_call 91
    have hp := hHeld.1
    refine (as_for _ _ _ _).mono ?_
    rintro e w' ⟨rfl, rfl⟩
    (first | rw [hr1.out] | rw [hr2.out] | rw [hr3.out] | rw [hr4.out])
    have hN := hp
    clear hp
    (try go_wp2_with fail)
    refine hK.out _ _ ?_ (fun hHeld2 => ?_)
    · (try dsimp only) <;> (first | exact keepT hN | exact keepT h0)
    clear hK K hHeld
    have hHeld := hHeld2
    clear hHeld2
    (try simp only [Act.put, z1, z2, z3])
    refine wpAnyH_take (i := 9) (oi := { dst := some 21, op := .move (.tmp 20), type := 4, pos := "l06_form.go:124", after := #[{ on := 8, ground := .data }, { on := 8, ground := .chain }], guard := none }) (v := ?_) rfl (by kernel_rfl) (by kernel_rfl) (by kernel_rfl) (fun _ _ _ h => h) (Or.inl ⟨by rfl, ?yld67⟩) hHeld ?nxt67
    case yld67 => (intro w hSw; (try dsimp only at hSw); go_simp) <;> with_reducible rfl
    (try simp only [Act.put, z1, z2, z3])
    refine wpAnyH_take (i := 10) (oi := { dst := some 22, op := .fieldAddr 121 (.tmp 3) 1, type := 0, pos := "l06_form.go:124", after := #[{ on := 9, ground := .guard }], guard := some (9, true) }) (v := ?_) rfl (by kernel_rfl) (by kernel_rfl) (by kernel_rfl) (fun _ _ _ h => h) (Or.inl ⟨by rfl, ?yld68⟩) hHeld ?nxt68
    case yld68 => (intro w hSw; (try dsimp only at hSw); go_simp) <;> with_reducible rfl
    (try simp only [Act.put, z1, z2, z3])
    refine wpAnyH_take (i := 11) (oi := { dst := some 23, op := .load 4 (.tmp 22), type := 4, pos := "l06_form.go:124", after := #[{ on := 10, ground := .data }, { on := 9, ground := .guard }], guard := some (9, true) }) (v := ?_) rfl (by kernel_rfl) (by kernel_rfl) (by kernel_rfl) (fun _ _ _ h => h) (Or.inl ⟨by rfl, ?yld69⟩) hHeld ?nxt69
    case yld69 => (intro w hSw; (try dsimp only at hSw); go_simp) <;> with_reducible rfl
    (try simp only [Act.put, z1, z2, z3])
    refine wpAnyH_take (i := 12) (oi := { dst := some 24, op := .load 54 (.tmp 1), type := 54, pos := "l06_form.go:124", after := #[{ on := 9, ground := .guard }], guard := some (9, true) }) (v := ?_) rfl (by kernel_rfl) (by kernel_rfl) (by kernel_rfl) (fun _ _ _ h => h) (Or.inl ⟨by rfl, ?yld70⟩) hHeld ?nxt70
    case yld70 => (intro w hSw; (try dsimp only at hSw); go_simp) <;> with_reducible rfl
    (try simp only [Act.put, z1, z2, z3])
    refine wpAnyH_take (i := 14) (oi := { dst := some 26, op := .fieldAddr 54 (.tmp 1) 2, type := 0, pos := "l06_form.go:124", after := #[{ on := 9, ground := .guard }], guard := some (9, true) }) (v := ?_) rfl (by kernel_rfl) (by kernel_rfl) (by kernel_rfl) (fun _ _ _ h => h) (Or.inl ⟨by rfl, ?yld71⟩) hHeld ?nxt71
    case yld71 => (intro w hSw; (try dsimp only at hSw); go_simp) <;> with_reducible rfl
    (try simp only [Act.put, z1, z2, z3])
    refine wpAnyH_take (i := 15) (oi := { dst := some 27, op := .load 2 (.tmp 26), type := 2, pos := "l06_form.go:124", after := #[{ on := 14, ground := .data }, { on := 9, ground := .guard }], guard := some (9, true) }) (v := ?_) rfl (by kernel_rfl) (by kernel_rfl) (by kernel_rfl) (fun _ _ _ h => h) (Or.inl ⟨by rfl, ?yld72⟩) hHeld ?nxt72
    case yld72 => (intro w hSw; (try dsimp only at hSw); go_simp) <;> with_reducible rfl
    (try simp only [Act.put, z1, z2, z3])
    refine wpAnyH_take (i := 16) (oi := { dst := some 28, op := .binOp .eql 2 (.tmp 27) (.const (.int .i64 0)) 2, type := 4, pos := "l06_form.go:124", after := #[{ on := 15, ground := .data }, { on := 9, ground := .guard }], guard := some (9, true) }) (v := ?_) rfl (by kernel_rfl) (by kernel_rfl) (by kernel_rfl) (fun _ _ _ h => h) (Or.inl ⟨by rfl, ?yld73⟩) hHeld ?nxt73
    case yld73 => (intro w hSw; (try dsimp only at hSw); go_simp) <;> with_reducible rfl
    (try simp only [Act.put, z1, z2, z3])
    refine wpAnyH_ready (rs := [13]) (by kernel_rfl) (by simp) ?_
    refine AllReadyH.cons (o := { dst := some 25, op := .call { callee := .value (.func 93), args := #[.tmp 24], argTypes := #[54] }, type := 4, pos := "l06_form.go:125", after := #[{ on := 12, ground := .data }, { on := 9, ground := .chain }, { on := 9, ground := .guard }], guard := some (9, true) }) rfl (fun K hK => ?_) AllReadyH.nil
    go_simp
    go_at_call 93
    have hp := hHeld.1
    refine (impl_bounds j s ty lo hi t a ps.length cap hd _).mono ?_
    rintro e w' ⟨rfl, hB⟩
    rw [h2.out]
    have hN := hp.on hB
    clear hp hB
    (try go_wp2_with fail)
    refine hK.out _ _ ?_ (fun hHeld2 => ?_)
    · (try dsimp only) <;> (first | exact keepT hN | exact keepT h0)
    clear hK K hHeld
    have hHeld := hHeld2
    clear hHeld2
    (try simp only [Act.put, z1, z2, z3])
    refine wpAnyH_take (i := 17) (oi := { dst := some 29, op := .move (.tmp 28), type := 4, pos := "l06_form.go:124", after := #[{ on := 16, ground := .data }, { on := 13, ground := .chain }, { on := 9, ground := .guard }], guard := some (9, true) }) (v := ?_) rfl (by kernel_rfl) (by kernel_rfl) (by kernel_rfl) (fun _ _ _ h => h) (Or.inl ⟨by rfl, ?yld74⟩) hHeld ?nxt74
    case yld74 => (intro w hSw; (try dsimp only at hSw); go_simp) <;> with_reducible rfl
    (try simp only [Act.put, z1, z2, z3])
    refine wpAnyH_take (i := 18) (oi := { dst := some 30, op := .fieldAddr 54 (.tmp 1) 3, type := 0, pos := "l06_form.go:124", after := #[{ on := 17, ground := .guard }], guard := some (17, true) }) (v := undef) rfl (by kernel_rfl) (by kernel_rfl) (by kernel_rfl) (fun _ _ _ h => h) (Or.inr ⟨by rfl, rfl⟩) hHeld ?_
    (try simp only [Act.put, z1, z2, z3])
    refine wpAnyH_take (i := 19) (oi := { dst := some 31, op := .load 2 (.tmp 30), type := 2, pos := "l06_form.go:124", after := #[{ on := 18, ground := .data }, { on := 17, ground := .guard }], guard := some (17, true) }) (v := undef) rfl (by kernel_rfl) (by kernel_rfl) (by kernel_rfl) (fun _ _ _ h => h) (Or.inr ⟨by rfl, rfl⟩) hHeld ?_
    (try simp only [Act.put, z1, z2, z3])
    refine wpAnyH_take (i := 20) (oi := { dst := some 32, op := .binOp .eql 2 (.tmp 31) (.const (.int .i64 0)) 2, type := 4, pos := "l06_form.go:124", after := #[{ on := 19, ground := .data }, { on := 17, ground := .guard }], guard := some (17, true) }) (v := undef) rfl (by kernel_rfl) (by kernel_rfl) (by kernel_rfl) (fun _ _ _ h => h) (Or.inr ⟨by rfl, rfl⟩) hHeld ?_
    (try simp only [Act.put, z1, z2, z3])
    refine wpAnyH_take (i := 21) (oi := { dst := some 33, op := .pick (.tmp 29) (.tmp 32) (.const (.bool false)), type := 4, pos := "l06_form.go:124", after := #[{ on := 17, ground := .data }, { on := 20, ground := .data }, { on := 9, ground := .guard }], guard := some (9, true) }) (v := ?_) rfl (by kernel_rfl) (by kernel_rfl) (by kernel_rfl) (fun _ _ _ h => h) (Or.inl ⟨by rfl, ?yld75⟩) hHeld ?nxt75
    case yld75 => (intro w hSw; (try dsimp only at hSw); go_simp) <;> with_reducible rfl
    (try simp only [Act.put, z1, z2, z3])
    refine wpAnyH_take (i := 22) (oi := { dst := some 34, op := .move (.tmp 33), type := 4, pos := "l06_form.go:124", after := #[{ on := 21, ground := .data }, { on := 17, ground := .chain }, { on := 9, ground := .guard }], guard := some (9, true) }) (v := ?_) rfl (by kernel_rfl) (by kernel_rfl) (by kernel_rfl) (fun _ _ _ h => h) (Or.inl ⟨by rfl, ?yld76⟩) hHeld ?nxt76
    case yld76 => (intro w hSw; (try dsimp only at hSw); go_simp) <;> with_reducible rfl
    (try simp only [Act.put, z1, z2, z3])
    refine wpAnyH_take (i := 23) (oi := { dst := some 35, op := .fieldAddr 54 (.tmp 1) 4, type := 0, pos := "l06_form.go:124", after := #[{ on := 22, ground := .guard }], guard := some (22, true) }) (v := undef) rfl (by kernel_rfl) (by kernel_rfl) (by kernel_rfl) (fun _ _ _ h => h) (Or.inr ⟨by rfl, rfl⟩) hHeld ?_
    (try simp only [Act.put, z1, z2, z3])
    refine wpAnyH_take (i := 24) (oi := { dst := some 36, op := .load 2 (.tmp 35), type := 2, pos := "l06_form.go:124", after := #[{ on := 23, ground := .data }, { on := 22, ground := .guard }], guard := some (22, true) }) (v := undef) rfl (by kernel_rfl) (by kernel_rfl) (by kernel_rfl) (fun _ _ _ h => h) (Or.inr ⟨by rfl, rfl⟩) hHeld ?_
    (try simp only [Act.put, z1, z2, z3])
    refine wpAnyH_take (i := 25) (oi := { dst := some 37, op := .binOp .eql 2 (.tmp 36) (.const (.int .i64 0)) 2, type := 4, pos := "l06_form.go:124", after := #[{ on := 24, ground := .data }, { on := 22, ground := .guard }], guard := some (22, true) }) (v := undef) rfl (by kernel_rfl) (by kernel_rfl) (by kernel_rfl) (fun _ _ _ h => h) (Or.inr ⟨by rfl, rfl⟩) hHeld ?_
    (try simp only [Act.put, z1, z2, z3])
    refine wpAnyH_take (i := 26) (oi := { dst := some 38, op := .pick (.tmp 34) (.tmp 37) (.const (.bool false)), type := 4, pos := "l06_form.go:124", after := #[{ on := 22, ground := .data }, { on := 25, ground := .data }, { on := 9, ground := .guard }], guard := some (9, true) }) (v := ?_) rfl (by kernel_rfl) (by kernel_rfl) (by kernel_rfl) (fun _ _ _ h => h) (Or.inl ⟨by rfl, ?yld77⟩) hHeld ?nxt77
    case yld77 => (intro w hSw; (try dsimp only at hSw); go_simp) <;> with_reducible rfl
    (try simp only [Act.put, z1, z2, z3])
    refine wpAnyH_ready (rs := [27]) (by kernel_rfl) (by simp) ?_
    refine AllReadyH.cons (o := { dst := some 39, op := .call { callee := .value (.func 91), args := #[.tmp 23, .tmp 25, .tmp 38], argTypes := #[4, 4, 4] }, type := 4, pos := "l06_form.go:125", after := #[{ on := 11, ground := .data }, { on := 13, ground := .data }, { on := 26, ground := .data }, { on := 22, ground := .chain }, { on := 9, ground := .guard }], guard := some (9, true) }) rfl (fun K hK => ?_) AllReadyH.nil
    go_simp
    go_at_call 91
    have hp := hHeld.1
    refine (as_for _ _ _ _).mono ?_
    rintro e w' ⟨rfl, rfl⟩
    (first | rw [hr1.out] | rw [hr2.out] | rw [hr3.out] | rw [hr4.out])
    have hN := hp
    clear hp
    (try go_wp2_with fail)
    refine hK.out _ _ ?_ (fun hHeld2 => ?_)
    · (try dsimp only) <;> (first | exact keepT hN | exact keepT h0)
    clear hK K hHeld
    have hHeld := hHeld2
    clear hHeld2
    (try simp only [Act.put, z1, z2, z3])
    refine wpAnyH_take (i := 28) (oi := { dst := some 40, op := .pick (.tmp 21) (.tmp 39) (.const (.bool false)), type := 4, pos := "l06_form.go:124", after := #[{ on := 9, ground := .data }, { on := 27, ground := .data }], guard := none }) (v := ?_) rfl (by kernel_rfl) (by kernel_rfl) (by kernel_rfl) (fun _ _ _ h => h) (Or.inl ⟨by rfl, ?yld78⟩) hHeld ?nxt78
    case yld78 => (intro w hSw; (try dsimp only at hSw); go_simp) <;> with_reducible rfl
    (try simp only [Act.put, z1, z2, z3])
    refine wpAnyH_take (i := 29) (oi := { dst := some 41, op := .move (.tmp 40), type := 4, pos := "l06_form.go:124", after := #[{ on := 28, ground := .data }, { on := 27, ground := .chain }], guard := none }) (v := ?_) rfl (by kernel_rfl) (by kernel_rfl) (by kernel_rfl) (fun _ _ _ h => h) (Or.inl ⟨by rfl, ?yld79⟩) hHeld ?nxt79
    case yld79 => (intro w hSw; (try dsimp only at hSw); go_simp) <;> with_reducible rfl
    (try simp only [Act.put, z1, z2, z3])
    refine wpAnyH_take (i := 30) (oi := { dst := some 42, op := .fieldAddr 121 (.tmp 3) 2, type := 0, pos := "l06_form.go:124", after := #[{ on := 29, ground := .guard }], guard := some (29, true) }) (v := ?_) rfl (by kernel_rfl) (by kernel_rfl) (by kernel_rfl) (fun _ _ _ h => h) (Or.inl ⟨by rfl, ?yld80⟩) hHeld ?nxt80
    case yld80 => (intro w hSw; (try dsimp only at hSw); go_simp) <;> with_reducible rfl
    (try simp only [Act.put, z1, z2, z3])
    refine wpAnyH_take (i := 31) (oi := { dst := some 43, op := .load 4 (.tmp 42), type := 4, pos := "l06_form.go:124", after := #[{ on := 30, ground := .data }, { on := 29, ground := .guard }], guard := some (29, true) }) (v := ?_) rfl (by kernel_rfl) (by kernel_rfl) (by kernel_rfl) (fun _ _ _ h => h) (Or.inl ⟨by rfl, ?yld81⟩) hHeld ?nxt81
    case yld81 => (intro w hSw; (try dsimp only at hSw); go_simp) <;> with_reducible rfl
    (try simp only [Act.put, z1, z2, z3])
    refine wpAnyH_take (i := 32) (oi := { dst := some 44, op := .fieldAddr 54 (.tmp 1) 5, type := 0, pos := "l06_form.go:124", after := #[{ on := 29, ground := .guard }], guard := some (29, true) }) (v := ?_) rfl (by kernel_rfl) (by kernel_rfl) (by kernel_rfl) (fun _ _ _ h => h) (Or.inl ⟨by rfl, ?yld82⟩) hHeld ?nxt82
    case yld82 => (intro w hSw; (try dsimp only at hSw); go_simp) <;> with_reducible rfl
    (try simp only [Act.put, z1, z2, z3])
    refine wpAnyH_take (i := 33) (oi := { dst := some 45, op := .load 9 (.tmp 44), type := 9, pos := "l06_form.go:124", after := #[{ on := 32, ground := .data }, { on := 29, ground := .guard }], guard := some (29, true) }) (v := ?_) rfl (by kernel_rfl) (by kernel_rfl) (by kernel_rfl) (fun _ _ _ h => h) (Or.inl ⟨by rfl, ?yld83⟩) hHeld ?nxt83
    case yld83 => (intro w hSw; (try dsimp only at hSw); go_simp) <;> with_reducible rfl
    (try simp only [Act.put, z1, z2, z3])
    refine wpAnyH_take (i := 35) (oi := { dst := some 47, op := .fieldAddr 54 (.tmp 1) 5, type := 0, pos := "l06_form.go:124", after := #[{ on := 29, ground := .guard }], guard := some (29, true) }) (v := ?_) rfl (by kernel_rfl) (by kernel_rfl) (by kernel_rfl) (fun _ _ _ h => h) (Or.inl ⟨by rfl, ?yld84⟩) hHeld ?nxt84
    case yld84 => (intro w hSw; (try dsimp only at hSw); go_simp) <;> with_reducible rfl
    (try simp only [Act.put, z1, z2, z3])
    refine wpAnyH_take (i := 36) (oi := { dst := some 48, op := .load 9 (.tmp 47), type := 9, pos := "l06_form.go:124", after := #[{ on := 35, ground := .data }, { on := 29, ground := .guard }], guard := some (29, true) }) (v := ?_) rfl (by kernel_rfl) (by kernel_rfl) (by kernel_rfl) (fun _ _ _ h => h) (Or.inl ⟨by rfl, ?yld85⟩) hHeld ?nxt85
    case yld85 => (intro w hSw; (try dsimp only at hSw); go_simp) <;> with_reducible rfl
    (try simp only [Act.put, z1, z2, z3])
    refine wpAnyH_take (i := 37) (oi := { dst := some 49, op := .binOp .eql 9 (.tmp 48) (.const (.string { data := #[] })) 9, type := 4, pos := "l06_form.go:124", after := #[{ on := 36, ground := .data }, { on := 29, ground := .guard }], guard := some (29, true) }) (v := ?_) rfl (by kernel_rfl) (by kernel_rfl) (by kernel_rfl) (fun _ _ _ h => h) (Or.inl ⟨by rfl, ?yld86⟩) hHeld ?nxt86
    case yld86 => (intro w hSw; (try dsimp only at hSw); go_simp) <;> with_reducible rfl
    (try simp only [Act.put, z1, z2, z3])
    refine wpAnyH_ready (rs := [34]) (by kernel_rfl) (by simp) ?_
    refine AllReadyH.cons (o := { dst := some 46, op := .call { callee := .value (.func 94), args := #[.tmp 45], argTypes := #[9] }, type := 4, pos := "l06_form.go:126", after := #[{ on := 33, ground := .data }, { on := 29, ground := .chain }, { on := 29, ground := .guard }], guard := some (29, true) }) rfl (fun K hK => ?_) AllReadyH.nil
    go_simp
    go_at_call 94
    have hp := hHeld.1
    refine (impl_asked t _ HT.out).mono ?_
    rintro e w' ⟨rfl, hB⟩
    rw [h3.out]
    have hN := hp.on hB
    clear hp hB
    (try go_wp2_with fail)
    refine hK.out _ _ ?_ (fun hHeld2 => ?_)
    · (try dsimp only) <;> (first | exact keepT hN | exact keepT h0)
    clear hK K hHeld
    have hHeld := hHeld2
    clear hHeld2
    (try simp only [Act.put, z1, z2, z3])
    refine wpAnyH_ready (rs := [38]) (by kernel_rfl) (by simp) ?_
    refine AllReadyH.cons (o := { dst := some 50, op := .call { callee := .value (.func 91), args := #[.tmp 43, .tmp 46, .tmp 49], argTypes := #[4, 4, 4] }, type := 4, pos := "l06_form.go:126", after := #[{ on := 31, ground := .data }, { on := 34, ground := .data }, { on := 37, ground := .data }, { on := 34, ground := .chain }, { on := 29, ground := .guard }], guard := some (29, true) }) rfl (fun K hK => ?_) AllReadyH.nil
    go_simp
    go_at_call 91
    have hp := hHeld.1
    refine (as_for _ _ _ _).mono ?_
    rintro e w' ⟨rfl, rfl⟩
    (first | rw [hr1.out] | rw [hr2.out] | rw [hr3.out] | rw [hr4.out])
    have hN := hp
    clear hp
    (try go_wp2_with fail)
    refine hK.out _ _ ?_ (fun hHeld2 => ?_)
    · (try dsimp only) <;> (first | exact keepT hN | exact keepT h0)
    clear hK K hHeld
    have hHeld := hHeld2
    clear hHeld2
    (try simp only [Act.put, z1, z2, z3])
    refine wpAnyH_take (i := 39) (oi := { dst := some 51, op := .pick (.tmp 41) (.tmp 50) (.const (.bool false)), type := 4, pos := "l06_form.go:124", after := #[{ on := 29, ground := .data }, { on := 38, ground := .data }], guard := none }) (v := ?_) rfl (by kernel_rfl) (by kernel_rfl) (by kernel_rfl) (fun _ _ _ h => h) (Or.inl ⟨by rfl, ?yld87⟩) hHeld ?nxt87
    case yld87 => (intro w hSw; (try dsimp only at hSw); go_simp) <;> with_reducible rfl
    (try simp only [Act.put, z1, z2, z3])
    refine wpAnyH_take (i := 40) (oi := { dst := some 52, op := .move (.tmp 51), type := 4, pos := "l06_form.go:124", after := #[{ on := 39, ground := .data }, { on := 38, ground := .chain }], guard := none }) (v := ?_) rfl (by kernel_rfl) (by kernel_rfl) (by kernel_rfl) (fun _ _ _ h => h) (Or.inl ⟨by rfl, ?yld88⟩) hHeld ?nxt88
    case yld88 => (intro w hSw; (try dsimp only at hSw); go_simp) <;> with_reducible rfl
    (try simp only [Act.put, z1, z2, z3])
    refine wpAnyH_take (i := 41) (oi := { dst := some 53, op := .fieldAddr 121 (.tmp 3) 4, type := 0, pos := "l06_form.go:124", after := #[{ on := 40, ground := .guard }], guard := some (40, true) }) (v := ?_) rfl (by kernel_rfl) (by kernel_rfl) (by kernel_rfl) (fun _ _ _ h => h) (Or.inl ⟨by rfl, ?yld89⟩) hHeld ?nxt89
    case yld89 => (intro w hSw; (try dsimp only at hSw); go_simp) <;> with_reducible rfl
    (try simp only [Act.put, z1, z2, z3])
    refine wpAnyH_take (i := 42) (oi := { dst := some 54, op := .load 2 (.tmp 53), type := 2, pos := "l06_form.go:124", after := #[{ on := 41, ground := .data }, { on := 40, ground := .guard }], guard := some (40, true) }) (v := ?_) rfl (by kernel_rfl) (by kernel_rfl) (by kernel_rfl) (fun _ _ _ h => h) (Or.inl ⟨by rfl, ?yld90⟩) hHeld ?nxt90
    case yld90 => (intro w hSw; (try dsimp only at hSw); go_simp) <;> with_reducible rfl
    (try simp only [Act.put, z1, z2, z3])
    refine wpAnyH_take (i := 43) (oi := { dst := some 55, op := .binOp .neq 2 (.tmp 54) (.const (.int .i64 0)) 2, type := 4, pos := "l06_form.go:124", after := #[{ on := 42, ground := .data }, { on := 40, ground := .guard }], guard := some (40, true) }) (v := ?_) rfl (by kernel_rfl) (by kernel_rfl) (by kernel_rfl) (fun _ _ _ h => h) (Or.inl ⟨by rfl, ?yld91⟩) hHeld ?nxt91
    case yld91 => (intro w hSw; (try dsimp only at hSw); go_simp) <;> with_reducible rfl
    (try simp only [Act.put, z1, z2, z3])
    refine wpAnyH_take (i := 44) (oi := { dst := some 56, op := .fieldAddr 54 (.tmp 1) 6, type := 0, pos := "l06_form.go:124", after := #[{ on := 40, ground := .guard }], guard := some (40, true) }) (v := ?_) rfl (by kernel_rfl) (by kernel_rfl) (by kernel_rfl) (fun _ _ _ h => h) (Or.inl ⟨by rfl, ?yld92⟩) hHeld ?nxt92
    case yld92 => (intro w hSw; (try dsimp only at hSw); go_simp) <;> with_reducible rfl
    (try simp only [Act.put, z1, z2, z3])
    refine wpAnyH_take (i := 45) (oi := { dst := some 57, op := .load 31 (.tmp 56), type := 31, pos := "l06_form.go:124", after := #[{ on := 44, ground := .data }, { on := 40, ground := .guard }], guard := some (40, true) }) (v := ?_) rfl (by kernel_rfl) (by kernel_rfl) (by kernel_rfl) (fun _ _ _ h => h) (Or.inl ⟨by rfl, ?yld93⟩) hHeld ?nxt93
    case yld93 => (intro w hSw; (try dsimp only at hSw); go_simp) <;> with_reducible rfl
    (try simp only [Act.put, z1, z2, z3])
    refine wpAnyH_take (i := 47) (oi := { dst := some 59, op := .fieldAddr 121 (.tmp 3) 4, type := 0, pos := "l06_form.go:124", after := #[{ on := 40, ground := .guard }], guard := some (40, true) }) (v := ?_) rfl (by kernel_rfl) (by kernel_rfl) (by kernel_rfl) (fun _ _ _ h => h) (Or.inl ⟨by rfl, ?yld94⟩) hHeld ?nxt94
    case yld94 => (intro w hSw; (try dsimp only at hSw); go_simp) <;> with_reducible rfl
    (try simp only [Act.put, z1, z2, z3])
    refine wpAnyH_take (i := 48) (oi := { dst := some 60, op := .load 2 (.tmp 59), type := 2, pos := "l06_form.go:124", after := #[{ on := 47, ground := .data }, { on := 40, ground := .guard }], guard := some (40, true) }) (v := ?_) rfl (by kernel_rfl) (by kernel_rfl) (by kernel_rfl) (fun _ _ _ h => h) (Or.inl ⟨by rfl, ?yld95⟩) hHeld ?nxt95
    case yld95 => (intro w hSw; (try dsimp only at hSw); go_simp) <;> with_reducible rfl
    (try simp only [Act.put, z1, z2, z3])
    refine wpAnyH_take (i := 50) (oi := { dst := some 62, op := .fieldAddr 54 (.tmp 1) 6, type := 0, pos := "l06_form.go:124", after := #[{ on := 40, ground := .guard }], guard := some (40, true) }) (v := ?_) rfl (by kernel_rfl) (by kernel_rfl) (by kernel_rfl) (fun _ _ _ h => h) (Or.inl ⟨by rfl, ?yld96⟩) hHeld ?nxt96
    case yld96 => (intro w hSw; (try dsimp only at hSw); go_simp) <;> with_reducible rfl
    (try simp only [Act.put, z1, z2, z3])
    refine wpAnyH_take (i := 51) (oi := { dst := some 63, op := .load 31 (.tmp 62), type := 31, pos := "l06_form.go:124", after := #[{ on := 50, ground := .data }, { on := 40, ground := .guard }], guard := some (40, true) }) (v := ?_) rfl (by kernel_rfl) (by kernel_rfl) (by kernel_rfl) (fun _ _ _ h => h) (Or.inl ⟨by rfl, ?yld97⟩) hHeld ?nxt97
    case yld97 => (intro w hSw; (try dsimp only at hSw); go_simp) <;> with_reducible rfl
    (try simp only [Act.put, z1, z2, z3])
    refine wpAnyH_take (i := 52) (oi := { dst := some 64, op := .call { callee := .builtin .len, args := #[.tmp 63], argTypes := #[31] }, type := 3, pos := "l06_form.go:124", after := #[{ on := 51, ground := .data }, { on := 40, ground := .guard }], guard := some (40, true) }) (v := ?_) rfl (by kernel_rfl) (by kernel_rfl) (by kernel_rfl) (fun _ _ _ h => h) (Or.inl ⟨by rfl, ?yld98⟩) hHeld ?nxt98
    case yld98 => (intro w hSw; (try dsimp only at hSw); go_simp) <;> with_reducible rfl
    (try simp only [Act.put, z1, z2, z3])
    refine wpAnyH_take (i := 53) (oi := { dst := some 65, op := .binOp .eql 3 (.tmp 64) (.const (.int .i64 0)) 3, type := 4, pos := "l06_form.go:124", after := #[{ on := 52, ground := .data }, { on := 40, ground := .guard }], guard := some (40, true) }) (v := ?_) rfl (by kernel_rfl) (by kernel_rfl) (by kernel_rfl) (fun _ _ _ h => h) (Or.inl ⟨by rfl, ?yld99⟩) hHeld ?nxt99
    case yld99 => (intro w hSw; (try dsimp only at hSw); go_simp) <;> with_reducible rfl
    (try simp only [Act.put, z1, z2, z3])
    refine wpAnyH_ready (rs := [46]) (by kernel_rfl) (by simp) ?_
    refine AllReadyH.cons (o := { dst := some 58, op := .call { callee := .value (.func 54), args := #[.tmp 57], argTypes := #[31] }, type := 2, pos := "l06_form.go:127", after := #[{ on := 45, ground := .data }, { on := 40, ground := .chain }, { on := 40, ground := .guard }], guard := some (40, true) }) rfl (fun K hK => ?_) AllReadyH.nil
    go_simp
    go_at_call 54
    have hp := hHeld.1
    refine (expr_tells a cap ps _ (HP.out.on hp.2.2) hcap (HE.out.1.on hp.2.2)).mono ?_
    rintro e w' ⟨rfl, hB⟩
    rw [h4.out]
    have hN := hp.on hB
    clear hp hB
    (try go_wp2_with fail)
    refine hK.out _ _ ?_ (fun hHeld2 => ?_)
    · (try dsimp only) <;> (first | exact keepT hN | exact keepT h0)
    clear hK K hHeld
    have hHeld := hHeld2
    clear hHeld2
    (try simp only [Act.put, z1, z2, z3])
    refine wpAnyH_take (i := 49) (oi := { dst := some 61, op := .binOp .eql 2 (.tmp 58) (.tmp 60) 2, type := 4, pos := "l06_form.go:124", after := #[{ on := 46, ground := .data }, { on := 48, ground := .data }, { on := 40, ground := .guard }], guard := some (40, true) }) (v := ?_) rfl (by kernel_rfl) (by kernel_rfl) (by kernel_rfl) (fun _ _ _ h => h) (Or.inl ⟨by rfl, ?yld100⟩) hHeld ?nxt100
    case yld100 => (intro w hSw; (try dsimp only at hSw); go_simp) <;> with_reducible rfl
    (try simp only [Act.put, z1, z2, z3])
    refine wpAnyH_ready (rs := [54]) (by kernel_rfl) (by simp) ?_
    refine AllReadyH.cons (o := { dst := some 66, op := .call { callee := .value (.func 91), args := #[.tmp 55, .tmp 61, .tmp 65], argTypes := #[4, 4, 4] }, type := 4, pos := "l06_form.go:127", after := #[{ on := 43, ground := .data }, { on := 49, ground := .data }, { on := 53, ground := .data }, { on := 46, ground := .chain }, { on := 40, ground := .guard }], guard := some (40, true) }) rfl (fun K hK => ?_) AllReadyH.nil
    go_simp
    go_at_call 91
    have hp := hHeld.1
    refine (as_for _ _ _ _).mono ?_
    rintro e w' ⟨rfl, rfl⟩
    (first | rw [hr1.out] | rw [hr2.out] | rw [hr3.out] | rw [hr4.out])
    have hN := hp
    clear hp
    (try go_wp2_with fail)
    refine hK.out _ _ ?_ (fun hHeld2 => ?_)
    · (try dsimp only) <;> (first | exact keepT hN | exact keepT h0)
    clear hK K hHeld
    have hHeld := hHeld2
    clear hHeld2
    (try simp only [Act.put, z1, z2, z3])
    refine wpAnyH_take (i := 55) (oi := { dst := some 67, op := .pick (.tmp 52) (.tmp 66) (.const (.bool false)), type := 4, pos := "l06_form.go:124", after := #[{ on := 40, ground := .data }, { on := 54, ground := .data }], guard := none }) (v := ?_) rfl (by kernel_rfl) (by kernel_rfl) (by kernel_rfl) (fun _ _ _ h => h) (Or.inl ⟨by rfl, ?yld101⟩) hHeld ?nxt101
    case yld101 => (intro w hSw; (try dsimp only at hSw); go_simp) <;> with_reducible rfl
    (try simp only [Act.put, z1, z2, z3])
    refine wpAnyH_take (i := 56) (oi := { dst := some 68, op := .move (.tmp 67), type := 4, pos := "l06_form.go:124", after := #[{ on := 55, ground := .data }, { on := 54, ground := .chain }], guard := none }) (v := ?_) rfl (by kernel_rfl) (by kernel_rfl) (by kernel_rfl) (fun _ _ _ h => h) (Or.inl ⟨by rfl, ?yld102⟩) hHeld ?nxt102
    case yld102 => (intro w hSw; (try dsimp only at hSw); go_simp) <;> with_reducible rfl
    (try simp only [Act.put, z1, z2, z3])
    refine wpAnyH_take (i := 57) (oi := { dst := some 69, op := .fieldAddr 121 (.tmp 3) 3, type := 0, pos := "l06_form.go:124", after := #[{ on := 56, ground := .guard }], guard := some (56, true) }) (v := undef) rfl (by kernel_rfl) (by kernel_rfl) (by kernel_rfl) (fun _ _ _ h => h) (Or.inr ⟨by rfl, rfl⟩) hHeld ?_
    (try simp only [Act.put, z1, z2, z3])
    refine wpAnyH_take (i := 58) (oi := { dst := some 70, op := .load 4 (.tmp 69), type := 4, pos := "l06_form.go:124", after := #[{ on := 57, ground := .data }, { on := 56, ground := .guard }], guard := some (56, true) }) (v := undef) rfl (by kernel_rfl) (by kernel_rfl) (by kernel_rfl) (fun _ _ _ h => h) (Or.inr ⟨by rfl, rfl⟩) hHeld ?_
    (try simp only [Act.put, z1, z2, z3])
    refine wpAnyH_take (i := 59) (oi := { dst := some 71, op := .move (.tmp 70), type := 4, pos := "l06_form.go:124", after := #[{ on := 58, ground := .data }, { on := 56, ground := .chain }, { on := 56, ground := .guard }], guard := some (56, true) }) (v := undef) rfl (by kernel_rfl) (by kernel_rfl) (by kernel_rfl) (fun _ _ _ h => h) (Or.inr ⟨by rfl, rfl⟩) hHeld ?_
    (try simp only [Act.put, z1, z2, z3])
    refine wpAnyH_take (i := 60) (oi := { dst := some 72, op := .fieldAddr 54 (.tmp 1) 7, type := 0, pos := "l06_form.go:124", after := #[{ on := 59, ground := .guard }], guard := some (59, false) }) (v := undef) rfl (by kernel_rfl) (by kernel_rfl) (by kernel_rfl) (fun _ _ _ h => h) (Or.inr ⟨by rfl, rfl⟩) hHeld ?_
    (try simp only [Act.put, z1, z2, z3])
    refine wpAnyH_take (i := 61) (oi := { dst := some 73, op := .load 4 (.tmp 72), type := 4, pos := "l06_form.go:124", after := #[{ on := 60, ground := .data }, { on := 59, ground := .guard }], guard := some (59, false) }) (v := undef) rfl (by kernel_rfl) (by kernel_rfl) (by kernel_rfl) (fun _ _ _ h => h) (Or.inr ⟨by rfl, rfl⟩) hHeld ?_
    (try simp only [Act.put, z1, z2, z3])
    refine wpAnyH_take (i := 62) (oi := { dst := some 74, op := .unOp .not 4 (.tmp 73), type := 4, pos := "l06_form.go:124", after := #[{ on := 61, ground := .data }, { on := 59, ground := .guard }], guard := some (59, false) }) (v := undef) rfl (by kernel_rfl) (by kernel_rfl) (by kernel_rfl) (fun _ _ _ h => h) (Or.inr ⟨by rfl, rfl⟩) hHeld ?_
    (try simp only [Act.put, z1, z2, z3])
    refine wpAnyH_take (i := 63) (oi := { dst := some 75, op := .pick (.tmp 71) (.const (.bool true)) (.tmp 74), type := 4, pos := "l06_form.go:124", after := #[{ on := 59, ground := .data }, { on := 62, ground := .data }, { on := 56, ground := .guard }], guard := some (56, true) }) (v := undef) rfl (by kernel_rfl) (by kernel_rfl) (by kernel_rfl) (fun _ _ _ h => h) (Or.inr ⟨by rfl, rfl⟩) hHeld ?_
    (try simp only [Act.put, z1, z2, z3])
    refine wpAnyH_take (i := 64) (oi := { dst := some 76, op := .pick (.tmp 68) (.tmp 75) (.const (.bool false)), type := 4, pos := "l06_form.go:124", after := #[{ on := 56, ground := .data }, { on := 63, ground := .data }], guard := none }) (v := ?_) rfl (by kernel_rfl) (by kernel_rfl) (by kernel_rfl) (fun _ _ _ h => h) (Or.inl ⟨by rfl, ?yld103⟩) hHeld ?nxt103
    case yld103 => (intro w hSw; (try dsimp only at hSw); go_simp) <;> with_reducible rfl
    (try simp only [Act.put, z1, z2, z3])
    refine wpAnyH_take (i := 65) (oi := { dst := some 2, op := .assign (.tmp 76), type := 4, pos := "l06_form.go:124", after := ([{ on := 64, ground := .data }, { on := 59, ground := .chain }, { on := 0, ground := .phase }, { on := 1, ground := .phase }, { on := 2, ground := .phase }, { on := 3, ground := .phase }, { on := 4, ground := .phase }, { on := 5, ground := .phase }, { on := 6, ground := .phase }, { on := 7, ground := .phase }, { on := 8, ground := .phase }, { on := 9, ground := .phase }, { on := 10, ground := .phase }, { on := 11, ground := .phase }, { on := 12, ground := .phase }, { on := 13, ground := .phase }, { on := 14, ground := .phase }, { on := 15, ground := .phase }, { on := 16, ground := .phase }, { on := 17, ground := .phase }, { on := 18, ground := .phase }, { on := 19, ground := .phase }, { on := 20, ground := .phase }, { on := 21, ground := .phase }, { on := 22, ground := .phase }, { on := 23, ground := .phase }, { on := 24, ground := .phase }, { on := 25, ground := .phase }, { on := 26, ground := .phase }, { on := 27, ground := .phase }, { on := 28, ground := .phase }, { on := 29, ground := .phase }, { on := 30, ground := .phase }].append [{ on := 31, ground := .phase }, { on := 32, ground := .phase }, { on := 33, ground := .phase }, { on := 34, ground := .phase }, { on := 35, ground := .phase }, { on := 36, ground := .phase }, { on := 37, ground := .phase }, { on := 38, ground := .phase }, { on := 39, ground := .phase }, { on := 40, ground := .phase }, { on := 41, ground := .phase }, { on := 42, ground := .phase }, { on := 43, ground := .phase }, { on := 44, ground := .phase }, { on := 45, ground := .phase }, { on := 46, ground := .phase }, { on := 47, ground := .phase }, { on := 48, ground := .phase }, { on := 49, ground := .phase }, { on := 50, ground := .phase }, { on := 51, ground := .phase }, { on := 52, ground := .phase }, { on := 53, ground := .phase }, { on := 54, ground := .phase }, { on := 55, ground := .phase }, { on := 56, ground := .phase }, { on := 57, ground := .phase }, { on := 58, ground := .phase }, { on := 59, ground := .phase }, { on := 60, ground := .phase }, { on := 61, ground := .phase }, { on := 62, ground := .phase }, { on := 63, ground := .phase }, { on := 64, ground := .phase }]).toArray, guard := none }) (v := ?_) rfl (by kernel_rfl) (by kernel_rfl) (by kernel_rfl) (fun _ _ _ h => h) (Or.inl ⟨by rfl, ?yld104⟩) hHeld ?nxt104
    case yld104 => (intro w hSw; (try dsimp only at hSw); go_simp) <;> with_reducible rfl
    (try simp only [Act.put, z1, z2, z3])
    refine wpAnyH_done (by kernel_rfl) ?_ _
    have HZ := hid hHeld.1
    clear hHeld h0
    go_wp2_with fail
    go_ret
    exact ⟨rfl, HZ.out.2.2⟩
  cases o4
  case true =>
    go_enter Tryz.func76, Tryz.ntmps76
    go_wp2_with (first | (go_at_call 90; refine (between_any _ _ _ _).mono ?_; rintro e w' ⟨rfl, rfl⟩; rw [hin.out]))
    have hT := HW.out
    obtain ⟨W0, hW0⟩ : ∃ W0, Hid ((w.alloc (.cells #[.int .i64 j, .string s, .int .i64 ty, .int .i64 lo, .int .i64 hi, .string t, .slice a ps.length cap, .bool hd] 54)).alloc (.cells #[.bool o1, .bool o2, .bool o3, .bool true, .int .i64 o5] 121) = W0) := ⟨_, rfl⟩
    rw [hW0.out] at hT ⊢
    have h0 : Two w W0.drew j s ty lo hi t a ps.length cap hd o1 o2 o3 true o5 := hT.on (Below.refl _ _).drew
    clear hT hW0 g0 g1 g2 g3 g4 HW
    refine wp_region_held_drew (S := (fun w' => Two w w' j s ty lo hi t a ps.length cap hd o1 o2 o3 true o5 ∧ (w'.cell? ⟨w.heap.size, 0, none⟩ = some (.int .i64 j) ∧ w'.cell? ⟨w.heap.size, 1, none⟩ = some (.string s) ∧ w'.cell? ⟨w.heap.size, 2, none⟩ = some (.int .i64 ty) ∧ w'.cell? ⟨w.heap.size, 3, none⟩ = some (.int .i64 lo) ∧ w'.cell? ⟨w.heap.size, 4, none⟩ = some (.int .i64 hi) ∧ w'.cell? ⟨w.heap.size, 5, none⟩ = some (.string t) ∧ w'.cell? ⟨w.heap.size, 6, none⟩ = some (.slice a ps.length cap) ∧ w'.cell? ⟨w.heap.size, 7, none⟩ = some (.bool hd)) ∧ (w'.cell? ⟨w.heap.size + 1, 0, none⟩ = some (.bool o1) ∧ w'.cell? ⟨w.heap.size + 1, 1, none⟩ = some (.bool o2) ∧ w'.cell? ⟨w.heap.size + 1, 2, none⟩ = some (.bool o3) ∧ w'.cell? ⟨w.heap.size + 1, 3, none⟩ = some (.bool true) ∧ w'.cell? ⟨w.heap.size + 1, 4, none⟩ = some (.int .i64 o5)))) (by kernel_rfl) ?_ (fun hHeld => ?_)
    · (try dsimp only) <;> (first | exact keepT hN | exact keepT h0)
    refine wpAnyH_take (i := 0) (oi := { dst := some 12, op := .fieldAddr 121 (.tmp 3) 0, type := 0, pos := "l06_form.go:124", after := #[], guard := none }) (v := ?_) rfl (by kernel_rfl) (by kernel_rfl) (by kernel_rfl) (fun _ _ _ h => h) (Or.inl ⟨by rfl, ?yld105⟩) hHeld ?nxt105
    case yld105 => (intro w hSw; (try dsimp only at hSw); go_simp) <;> with_reducible rfl
    (try simp only [Act.put, z1, z2, z3])
    refine wpAnyH_take (i := 1) (oi := { dst := some 13, op := .load 4 (.tmp 12), type := 4, pos := "l06_form.go:124", after := #[{ on := 0, ground := .data }], guard := none }) (v := ?_) rfl (by kernel_rfl) (by kernel_rfl) (by kernel_rfl) (fun _ _ _ h => h) (Or.inl ⟨by rfl, ?yld106⟩) hHeld ?nxt106
    case yld106 => (intro w hSw; (try dsimp only at hSw); go_simp) <;> with_reducible rfl
    (try simp only [Act.put, z1, z2, z3])
    refine wpAnyH_take (i := 2) (oi := { dst := some 14, op := .fieldAddr 54 (.tmp 1) 1, type := 0, pos := "l06_form.go:124", after := #[], guard := none }) (v := ?_) rfl (by kernel_rfl) (by kernel_rfl) (by kernel_rfl) (fun _ _ _ h => h) (Or.inl ⟨by rfl, ?yld107⟩) hHeld ?nxt107
    case yld107 => (intro w hSw; (try dsimp only at hSw); go_simp) <;> with_reducible rfl
    (try simp only [Act.put, z1, z2, z3])
    refine wpAnyH_take (i := 3) (oi := { dst := some 15, op := .load 9 (.tmp 14), type := 9, pos := "l06_form.go:124", after := #[{ on := 2, ground := .data }], guard := none }) (v := ?_) rfl (by kernel_rfl) (by kernel_rfl) (by kernel_rfl) (fun _ _ _ h => h) (Or.inl ⟨by rfl, ?yld108⟩) hHeld ?nxt108
    case yld108 => (intro w hSw; (try dsimp only at hSw); go_simp) <;> with_reducible rfl
    (try simp only [Act.put, z1, z2, z3])
    refine wpAnyH_take (i := 5) (oi := { dst := some 17, op := .fieldAddr 54 (.tmp 1) 1, type := 0, pos := "l06_form.go:124", after := #[], guard := none }) (v := ?_) rfl (by kernel_rfl) (by kernel_rfl) (by kernel_rfl) (fun _ _ _ h => h) (Or.inl ⟨by rfl, ?yld109⟩) hHeld ?nxt109
    case yld109 => (intro w hSw; (try dsimp only at hSw); go_simp) <;> with_reducible rfl
    (try simp only [Act.put, z1, z2, z3])
    refine wpAnyH_take (i := 6) (oi := { dst := some 18, op := .load 9 (.tmp 17), type := 9, pos := "l06_form.go:124", after := #[{ on := 5, ground := .data }], guard := none }) (v := ?_) rfl (by kernel_rfl) (by kernel_rfl) (by kernel_rfl) (fun _ _ _ h => h) (Or.inl ⟨by rfl, ?yld110⟩) hHeld ?nxt110
    case yld110 => (intro w hSw; (try dsimp only at hSw); go_simp) <;> with_reducible rfl
    (try simp only [Act.put, z1, z2, z3])
    refine wpAnyH_take (i := 7) (oi := { dst := some 19, op := .binOp .eql 9 (.tmp 18) (.const (.string { data := #[] })) 9, type := 4, pos := "l06_form.go:124", after := #[{ on := 6, ground := .data }], guard := none }) (v := ?_) rfl (by kernel_rfl) (by kernel_rfl) (by kernel_rfl) (fun _ _ _ h => h) (Or.inl ⟨by rfl, ?yld111⟩) hHeld ?nxt111
    case yld111 => (intro w hSw; (try dsimp only at hSw); go_simp) <;> with_reducible rfl
    (try simp only [Act.put, z1, z2, z3])
    refine wpAnyH_ready (rs := [4]) (by kernel_rfl) (by simp) ?_
    refine AllReadyH.cons (o := { dst := some 16, op := .call { callee := .value (.func 92), args := #[.tmp 15], argTypes := #[9] }, type := 4, pos := "l06_form.go:124", after := #[{ on := 3, ground := .data }], guard := none }) rfl (fun K hK => ?_) AllReadyH.nil
    go_simp
    go_at_call 92
    have hp := hHeld.1
    refine (impl_name s _ HS.out).mono ?_
    rintro e w' ⟨rfl, rfl⟩
    rw [h1.out]
    have hN := hp
    clear hp
    (try go_wp2_with fail)
    refine hK.out _ _ ?_ (fun hHeld2 => ?_)
    · (try dsimp only) <;> (first | exact keepT hN | exact keepT h0)
    clear hK K hHeld
    have hHeld := hHeld2
    clear hHeld2
    (try simp only [Act.put, z1, z2, z3])
    refine wpAnyH_ready (rs := [8]) (by kernel_rfl) (by simp) ?_
    refine AllReadyH.cons (o := { dst := some 20, op := .call { callee := .value (.func 91), args := #[.tmp 13, .tmp 16, .tmp 19], argTypes := #[4, 4, 4] }, type := 4, pos := "l06_form.go:124", after := #[{ on := 1, ground := .data }, { on := 4, ground := .data }, { on := 7, ground := .data }, { on := 4, ground := .chain }], guard := none }) rfl (fun K hK => ?_) AllReadyH.nil
    go_simp
    go_at_call 91
    have hp := hHeld.1
    refine (as_for _ _ _ _).mono ?_
    rintro e w' ⟨rfl, rfl⟩
    (first | rw [hr1.out] | rw [hr2.out] | rw [hr3.out] | rw [hr4.out])
    have hN := hp
    clear hp
    (try go_wp2_with fail)
    refine hK.out _ _ ?_ (fun hHeld2 => ?_)
    · (try dsimp only) <;> (first | exact keepT hN | exact keepT h0)
    clear hK K hHeld
    have hHeld := hHeld2
    clear hHeld2
    (try simp only [Act.put, z1, z2, z3])
    refine wpAnyH_take (i := 9) (oi := { dst := some 21, op := .move (.tmp 20), type := 4, pos := "l06_form.go:124", after := #[{ on := 8, ground := .data }, { on := 8, ground := .chain }], guard := none }) (v := ?_) rfl (by kernel_rfl) (by kernel_rfl) (by kernel_rfl) (fun _ _ _ h => h) (Or.inl ⟨by rfl, ?yld112⟩) hHeld ?nxt112
    case yld112 => (intro w hSw; (try dsimp only at hSw); go_simp) <;> with_reducible rfl
    (try simp only [Act.put, z1, z2, z3])
    refine wpAnyH_take (i := 10) (oi := { dst := some 22, op := .fieldAddr 121 (.tmp 3) 1, type := 0, pos := "l06_form.go:124", after := #[{ on := 9, ground := .guard }], guard := some (9, true) }) (v := ?_) rfl (by kernel_rfl) (by kernel_rfl) (by kernel_rfl) (fun _ _ _ h => h) (Or.inl ⟨by rfl, ?yld113⟩) hHeld ?nxt113
    case yld113 => (intro w hSw; (try dsimp only at hSw); go_simp) <;> with_reducible rfl
    (try simp only [Act.put, z1, z2, z3])
    refine wpAnyH_take (i := 11) (oi := { dst := some 23, op := .load 4 (.tmp 22), type := 4, pos := "l06_form.go:124", after := #[{ on := 10, ground := .data }, { on := 9, ground := .guard }], guard := some (9, true) }) (v := ?_) rfl (by kernel_rfl) (by kernel_rfl) (by kernel_rfl) (fun _ _ _ h => h) (Or.inl ⟨by rfl, ?yld114⟩) hHeld ?nxt114
    case yld114 => (intro w hSw; (try dsimp only at hSw); go_simp) <;> with_reducible rfl
    (try simp only [Act.put, z1, z2, z3])
    refine wpAnyH_take (i := 12) (oi := { dst := some 24, op := .load 54 (.tmp 1), type := 54, pos := "l06_form.go:124", after := #[{ on := 9, ground := .guard }], guard := some (9, true) }) (v := ?_) rfl (by kernel_rfl) (by kernel_rfl) (by kernel_rfl) (fun _ _ _ h => h) (Or.inl ⟨by rfl, ?yld115⟩) hHeld ?nxt115
    case yld115 => (intro w hSw; (try dsimp only at hSw); go_simp) <;> with_reducible rfl
    (try simp only [Act.put, z1, z2, z3])
    refine wpAnyH_take (i := 14) (oi := { dst := some 26, op := .fieldAddr 54 (.tmp 1) 2, type := 0, pos := "l06_form.go:124", after := #[{ on := 9, ground := .guard }], guard := some (9, true) }) (v := ?_) rfl (by kernel_rfl) (by kernel_rfl) (by kernel_rfl) (fun _ _ _ h => h) (Or.inl ⟨by rfl, ?yld116⟩) hHeld ?nxt116
    case yld116 => (intro w hSw; (try dsimp only at hSw); go_simp) <;> with_reducible rfl
    (try simp only [Act.put, z1, z2, z3])
    refine wpAnyH_take (i := 15) (oi := { dst := some 27, op := .load 2 (.tmp 26), type := 2, pos := "l06_form.go:124", after := #[{ on := 14, ground := .data }, { on := 9, ground := .guard }], guard := some (9, true) }) (v := ?_) rfl (by kernel_rfl) (by kernel_rfl) (by kernel_rfl) (fun _ _ _ h => h) (Or.inl ⟨by rfl, ?yld117⟩) hHeld ?nxt117
    case yld117 => (intro w hSw; (try dsimp only at hSw); go_simp) <;> with_reducible rfl
    (try simp only [Act.put, z1, z2, z3])
    refine wpAnyH_take (i := 16) (oi := { dst := some 28, op := .binOp .eql 2 (.tmp 27) (.const (.int .i64 0)) 2, type := 4, pos := "l06_form.go:124", after := #[{ on := 15, ground := .data }, { on := 9, ground := .guard }], guard := some (9, true) }) (v := ?_) rfl (by kernel_rfl) (by kernel_rfl) (by kernel_rfl) (fun _ _ _ h => h) (Or.inl ⟨by rfl, ?yld118⟩) hHeld ?nxt118
    case yld118 => (intro w hSw; (try dsimp only at hSw); go_simp) <;> with_reducible rfl
    (try simp only [Act.put, z1, z2, z3])
    refine wpAnyH_ready (rs := [13]) (by kernel_rfl) (by simp) ?_
    refine AllReadyH.cons (o := { dst := some 25, op := .call { callee := .value (.func 93), args := #[.tmp 24], argTypes := #[54] }, type := 4, pos := "l06_form.go:125", after := #[{ on := 12, ground := .data }, { on := 9, ground := .chain }, { on := 9, ground := .guard }], guard := some (9, true) }) rfl (fun K hK => ?_) AllReadyH.nil
    go_simp
    go_at_call 93
    have hp := hHeld.1
    refine (impl_bounds j s ty lo hi t a ps.length cap hd _).mono ?_
    rintro e w' ⟨rfl, hB⟩
    rw [h2.out]
    have hN := hp.on hB
    clear hp hB
    (try go_wp2_with fail)
    refine hK.out _ _ ?_ (fun hHeld2 => ?_)
    · (try dsimp only) <;> (first | exact keepT hN | exact keepT h0)
    clear hK K hHeld
    have hHeld := hHeld2
    clear hHeld2
    (try simp only [Act.put, z1, z2, z3])
    refine wpAnyH_take (i := 17) (oi := { dst := some 29, op := .move (.tmp 28), type := 4, pos := "l06_form.go:124", after := #[{ on := 16, ground := .data }, { on := 13, ground := .chain }, { on := 9, ground := .guard }], guard := some (9, true) }) (v := ?_) rfl (by kernel_rfl) (by kernel_rfl) (by kernel_rfl) (fun _ _ _ h => h) (Or.inl ⟨by rfl, ?yld119⟩) hHeld ?nxt119
    case yld119 => (intro w hSw; (try dsimp only at hSw); go_simp) <;> with_reducible rfl
    (try simp only [Act.put, z1, z2, z3])
    refine wpAnyH_take (i := 18) (oi := { dst := some 30, op := .fieldAddr 54 (.tmp 1) 3, type := 0, pos := "l06_form.go:124", after := #[{ on := 17, ground := .guard }], guard := some (17, true) }) (v := undef) rfl (by kernel_rfl) (by kernel_rfl) (by kernel_rfl) (fun _ _ _ h => h) (Or.inr ⟨by rfl, rfl⟩) hHeld ?_
    (try simp only [Act.put, z1, z2, z3])
    refine wpAnyH_take (i := 19) (oi := { dst := some 31, op := .load 2 (.tmp 30), type := 2, pos := "l06_form.go:124", after := #[{ on := 18, ground := .data }, { on := 17, ground := .guard }], guard := some (17, true) }) (v := undef) rfl (by kernel_rfl) (by kernel_rfl) (by kernel_rfl) (fun _ _ _ h => h) (Or.inr ⟨by rfl, rfl⟩) hHeld ?_
    (try simp only [Act.put, z1, z2, z3])
    refine wpAnyH_take (i := 20) (oi := { dst := some 32, op := .binOp .eql 2 (.tmp 31) (.const (.int .i64 0)) 2, type := 4, pos := "l06_form.go:124", after := #[{ on := 19, ground := .data }, { on := 17, ground := .guard }], guard := some (17, true) }) (v := undef) rfl (by kernel_rfl) (by kernel_rfl) (by kernel_rfl) (fun _ _ _ h => h) (Or.inr ⟨by rfl, rfl⟩) hHeld ?_
    (try simp only [Act.put, z1, z2, z3])
    refine wpAnyH_take (i := 21) (oi := { dst := some 33, op := .pick (.tmp 29) (.tmp 32) (.const (.bool false)), type := 4, pos := "l06_form.go:124", after := #[{ on := 17, ground := .data }, { on := 20, ground := .data }, { on := 9, ground := .guard }], guard := some (9, true) }) (v := ?_) rfl (by kernel_rfl) (by kernel_rfl) (by kernel_rfl) (fun _ _ _ h => h) (Or.inl ⟨by rfl, ?yld120⟩) hHeld ?nxt120
    case yld120 => (intro w hSw; (try dsimp only at hSw); go_simp) <;> with_reducible rfl
    (try simp only [Act.put, z1, z2, z3])
    refine wpAnyH_take (i := 22) (oi := { dst := some 34, op := .move (.tmp 33), type := 4, pos := "l06_form.go:124", after := #[{ on := 21, ground := .data }, { on := 17, ground := .chain }, { on := 9, ground := .guard }], guard := some (9, true) }) (v := ?_) rfl (by kernel_rfl) (by kernel_rfl) (by kernel_rfl) (fun _ _ _ h => h) (Or.inl ⟨by rfl, ?yld121⟩) hHeld ?nxt121
    case yld121 => (intro w hSw; (try dsimp only at hSw); go_simp) <;> with_reducible rfl
    (try simp only [Act.put, z1, z2, z3])
    refine wpAnyH_take (i := 23) (oi := { dst := some 35, op := .fieldAddr 54 (.tmp 1) 4, type := 0, pos := "l06_form.go:124", after := #[{ on := 22, ground := .guard }], guard := some (22, true) }) (v := undef) rfl (by kernel_rfl) (by kernel_rfl) (by kernel_rfl) (fun _ _ _ h => h) (Or.inr ⟨by rfl, rfl⟩) hHeld ?_
    (try simp only [Act.put, z1, z2, z3])
    refine wpAnyH_take (i := 24) (oi := { dst := some 36, op := .load 2 (.tmp 35), type := 2, pos := "l06_form.go:124", after := #[{ on := 23, ground := .data }, { on := 22, ground := .guard }], guard := some (22, true) }) (v := undef) rfl (by kernel_rfl) (by kernel_rfl) (by kernel_rfl) (fun _ _ _ h => h) (Or.inr ⟨by rfl, rfl⟩) hHeld ?_
    (try simp only [Act.put, z1, z2, z3])
    refine wpAnyH_take (i := 25) (oi := { dst := some 37, op := .binOp .eql 2 (.tmp 36) (.const (.int .i64 0)) 2, type := 4, pos := "l06_form.go:124", after := #[{ on := 24, ground := .data }, { on := 22, ground := .guard }], guard := some (22, true) }) (v := undef) rfl (by kernel_rfl) (by kernel_rfl) (by kernel_rfl) (fun _ _ _ h => h) (Or.inr ⟨by rfl, rfl⟩) hHeld ?_
    (try simp only [Act.put, z1, z2, z3])
    refine wpAnyH_take (i := 26) (oi := { dst := some 38, op := .pick (.tmp 34) (.tmp 37) (.const (.bool false)), type := 4, pos := "l06_form.go:124", after := #[{ on := 22, ground := .data }, { on := 25, ground := .data }, { on := 9, ground := .guard }], guard := some (9, true) }) (v := ?_) rfl (by kernel_rfl) (by kernel_rfl) (by kernel_rfl) (fun _ _ _ h => h) (Or.inl ⟨by rfl, ?yld122⟩) hHeld ?nxt122
    case yld122 => (intro w hSw; (try dsimp only at hSw); go_simp) <;> with_reducible rfl
    (try simp only [Act.put, z1, z2, z3])
    refine wpAnyH_ready (rs := [27]) (by kernel_rfl) (by simp) ?_
    refine AllReadyH.cons (o := { dst := some 39, op := .call { callee := .value (.func 91), args := #[.tmp 23, .tmp 25, .tmp 38], argTypes := #[4, 4, 4] }, type := 4, pos := "l06_form.go:125", after := #[{ on := 11, ground := .data }, { on := 13, ground := .data }, { on := 26, ground := .data }, { on := 22, ground := .chain }, { on := 9, ground := .guard }], guard := some (9, true) }) rfl (fun K hK => ?_) AllReadyH.nil
    go_simp
    go_at_call 91
    have hp := hHeld.1
    refine (as_for _ _ _ _).mono ?_
    rintro e w' ⟨rfl, rfl⟩
    (first | rw [hr1.out] | rw [hr2.out] | rw [hr3.out] | rw [hr4.out])
    have hN := hp
    clear hp
    (try go_wp2_with fail)
    refine hK.out _ _ ?_ (fun hHeld2 => ?_)
    · (try dsimp only) <;> (first | exact keepT hN | exact keepT h0)
    clear hK K hHeld
    have hHeld := hHeld2
    clear hHeld2
    (try simp only [Act.put, z1, z2, z3])
    refine wpAnyH_take (i := 28) (oi := { dst := some 40, op := .pick (.tmp 21) (.tmp 39) (.const (.bool false)), type := 4, pos := "l06_form.go:124", after := #[{ on := 9, ground := .data }, { on := 27, ground := .data }], guard := none }) (v := ?_) rfl (by kernel_rfl) (by kernel_rfl) (by kernel_rfl) (fun _ _ _ h => h) (Or.inl ⟨by rfl, ?yld123⟩) hHeld ?nxt123
    case yld123 => (intro w hSw; (try dsimp only at hSw); go_simp) <;> with_reducible rfl
    (try simp only [Act.put, z1, z2, z3])
    refine wpAnyH_take (i := 29) (oi := { dst := some 41, op := .move (.tmp 40), type := 4, pos := "l06_form.go:124", after := #[{ on := 28, ground := .data }, { on := 27, ground := .chain }], guard := none }) (v := ?_) rfl (by kernel_rfl) (by kernel_rfl) (by kernel_rfl) (fun _ _ _ h => h) (Or.inl ⟨by rfl, ?yld124⟩) hHeld ?nxt124
    case yld124 => (intro w hSw; (try dsimp only at hSw); go_simp) <;> with_reducible rfl
    (try simp only [Act.put, z1, z2, z3])
    refine wpAnyH_take (i := 30) (oi := { dst := some 42, op := .fieldAddr 121 (.tmp 3) 2, type := 0, pos := "l06_form.go:124", after := #[{ on := 29, ground := .guard }], guard := some (29, true) }) (v := ?_) rfl (by kernel_rfl) (by kernel_rfl) (by kernel_rfl) (fun _ _ _ h => h) (Or.inl ⟨by rfl, ?yld125⟩) hHeld ?nxt125
    case yld125 => (intro w hSw; (try dsimp only at hSw); go_simp) <;> with_reducible rfl
    (try simp only [Act.put, z1, z2, z3])
    refine wpAnyH_take (i := 31) (oi := { dst := some 43, op := .load 4 (.tmp 42), type := 4, pos := "l06_form.go:124", after := #[{ on := 30, ground := .data }, { on := 29, ground := .guard }], guard := some (29, true) }) (v := ?_) rfl (by kernel_rfl) (by kernel_rfl) (by kernel_rfl) (fun _ _ _ h => h) (Or.inl ⟨by rfl, ?yld126⟩) hHeld ?nxt126
    case yld126 => (intro w hSw; (try dsimp only at hSw); go_simp) <;> with_reducible rfl
    (try simp only [Act.put, z1, z2, z3])
    refine wpAnyH_take (i := 32) (oi := { dst := some 44, op := .fieldAddr 54 (.tmp 1) 5, type := 0, pos := "l06_form.go:124", after := #[{ on := 29, ground := .guard }], guard := some (29, true) }) (v := ?_) rfl (by kernel_rfl) (by kernel_rfl) (by kernel_rfl) (fun _ _ _ h => h) (Or.inl ⟨by rfl, ?yld127⟩) hHeld ?nxt127
    case yld127 => (intro w hSw; (try dsimp only at hSw); go_simp) <;> with_reducible rfl
    (try simp only [Act.put, z1, z2, z3])
    refine wpAnyH_take (i := 33) (oi := { dst := some 45, op := .load 9 (.tmp 44), type := 9, pos := "l06_form.go:124", after := #[{ on := 32, ground := .data }, { on := 29, ground := .guard }], guard := some (29, true) }) (v := ?_) rfl (by kernel_rfl) (by kernel_rfl) (by kernel_rfl) (fun _ _ _ h => h) (Or.inl ⟨by rfl, ?yld128⟩) hHeld ?nxt128
    case yld128 => (intro w hSw; (try dsimp only at hSw); go_simp) <;> with_reducible rfl
    (try simp only [Act.put, z1, z2, z3])
    refine wpAnyH_take (i := 35) (oi := { dst := some 47, op := .fieldAddr 54 (.tmp 1) 5, type := 0, pos := "l06_form.go:124", after := #[{ on := 29, ground := .guard }], guard := some (29, true) }) (v := ?_) rfl (by kernel_rfl) (by kernel_rfl) (by kernel_rfl) (fun _ _ _ h => h) (Or.inl ⟨by rfl, ?yld129⟩) hHeld ?nxt129
    case yld129 => (intro w hSw; (try dsimp only at hSw); go_simp) <;> with_reducible rfl
    (try simp only [Act.put, z1, z2, z3])
    refine wpAnyH_take (i := 36) (oi := { dst := some 48, op := .load 9 (.tmp 47), type := 9, pos := "l06_form.go:124", after := #[{ on := 35, ground := .data }, { on := 29, ground := .guard }], guard := some (29, true) }) (v := ?_) rfl (by kernel_rfl) (by kernel_rfl) (by kernel_rfl) (fun _ _ _ h => h) (Or.inl ⟨by rfl, ?yld130⟩) hHeld ?nxt130
    case yld130 => (intro w hSw; (try dsimp only at hSw); go_simp) <;> with_reducible rfl
    (try simp only [Act.put, z1, z2, z3])
    refine wpAnyH_take (i := 37) (oi := { dst := some 49, op := .binOp .eql 9 (.tmp 48) (.const (.string { data := #[] })) 9, type := 4, pos := "l06_form.go:124", after := #[{ on := 36, ground := .data }, { on := 29, ground := .guard }], guard := some (29, true) }) (v := ?_) rfl (by kernel_rfl) (by kernel_rfl) (by kernel_rfl) (fun _ _ _ h => h) (Or.inl ⟨by rfl, ?yld131⟩) hHeld ?nxt131
    case yld131 => (intro w hSw; (try dsimp only at hSw); go_simp) <;> with_reducible rfl
    (try simp only [Act.put, z1, z2, z3])
    refine wpAnyH_ready (rs := [34]) (by kernel_rfl) (by simp) ?_
    refine AllReadyH.cons (o := { dst := some 46, op := .call { callee := .value (.func 94), args := #[.tmp 45], argTypes := #[9] }, type := 4, pos := "l06_form.go:126", after := #[{ on := 33, ground := .data }, { on := 29, ground := .chain }, { on := 29, ground := .guard }], guard := some (29, true) }) rfl (fun K hK => ?_) AllReadyH.nil
    go_simp
    go_at_call 94
    have hp := hHeld.1
    refine (impl_asked t _ HT.out).mono ?_
    rintro e w' ⟨rfl, hB⟩
    rw [h3.out]
    have hN := hp.on hB
    clear hp hB
    (try go_wp2_with fail)
    refine hK.out _ _ ?_ (fun hHeld2 => ?_)
    · (try dsimp only) <;> (first | exact keepT hN | exact keepT h0)
    clear hK K hHeld
    have hHeld := hHeld2
    clear hHeld2
    (try simp only [Act.put, z1, z2, z3])
    refine wpAnyH_ready (rs := [38]) (by kernel_rfl) (by simp) ?_
    refine AllReadyH.cons (o := { dst := some 50, op := .call { callee := .value (.func 91), args := #[.tmp 43, .tmp 46, .tmp 49], argTypes := #[4, 4, 4] }, type := 4, pos := "l06_form.go:126", after := #[{ on := 31, ground := .data }, { on := 34, ground := .data }, { on := 37, ground := .data }, { on := 34, ground := .chain }, { on := 29, ground := .guard }], guard := some (29, true) }) rfl (fun K hK => ?_) AllReadyH.nil
    go_simp
    go_at_call 91
    have hp := hHeld.1
    refine (as_for _ _ _ _).mono ?_
    rintro e w' ⟨rfl, rfl⟩
    (first | rw [hr1.out] | rw [hr2.out] | rw [hr3.out] | rw [hr4.out])
    have hN := hp
    clear hp
    (try go_wp2_with fail)
    refine hK.out _ _ ?_ (fun hHeld2 => ?_)
    · (try dsimp only) <;> (first | exact keepT hN | exact keepT h0)
    clear hK K hHeld
    have hHeld := hHeld2
    clear hHeld2
    (try simp only [Act.put, z1, z2, z3])
    refine wpAnyH_take (i := 39) (oi := { dst := some 51, op := .pick (.tmp 41) (.tmp 50) (.const (.bool false)), type := 4, pos := "l06_form.go:124", after := #[{ on := 29, ground := .data }, { on := 38, ground := .data }], guard := none }) (v := ?_) rfl (by kernel_rfl) (by kernel_rfl) (by kernel_rfl) (fun _ _ _ h => h) (Or.inl ⟨by rfl, ?yld132⟩) hHeld ?nxt132
    case yld132 => (intro w hSw; (try dsimp only at hSw); go_simp) <;> with_reducible rfl
    (try simp only [Act.put, z1, z2, z3])
    refine wpAnyH_take (i := 40) (oi := { dst := some 52, op := .move (.tmp 51), type := 4, pos := "l06_form.go:124", after := #[{ on := 39, ground := .data }, { on := 38, ground := .chain }], guard := none }) (v := ?_) rfl (by kernel_rfl) (by kernel_rfl) (by kernel_rfl) (fun _ _ _ h => h) (Or.inl ⟨by rfl, ?yld133⟩) hHeld ?nxt133
    case yld133 => (intro w hSw; (try dsimp only at hSw); go_simp) <;> with_reducible rfl
    (try simp only [Act.put, z1, z2, z3])
    refine wpAnyH_take (i := 41) (oi := { dst := some 53, op := .fieldAddr 121 (.tmp 3) 4, type := 0, pos := "l06_form.go:124", after := #[{ on := 40, ground := .guard }], guard := some (40, true) }) (v := ?_) rfl (by kernel_rfl) (by kernel_rfl) (by kernel_rfl) (fun _ _ _ h => h) (Or.inl ⟨by rfl, ?yld134⟩) hHeld ?nxt134
    case yld134 => (intro w hSw; (try dsimp only at hSw); go_simp) <;> with_reducible rfl
    (try simp only [Act.put, z1, z2, z3])
    refine wpAnyH_take (i := 42) (oi := { dst := some 54, op := .load 2 (.tmp 53), type := 2, pos := "l06_form.go:124", after := #[{ on := 41, ground := .data }, { on := 40, ground := .guard }], guard := some (40, true) }) (v := ?_) rfl (by kernel_rfl) (by kernel_rfl) (by kernel_rfl) (fun _ _ _ h => h) (Or.inl ⟨by rfl, ?yld135⟩) hHeld ?nxt135
    case yld135 => (intro w hSw; (try dsimp only at hSw); go_simp) <;> with_reducible rfl
    (try simp only [Act.put, z1, z2, z3])
    refine wpAnyH_take (i := 43) (oi := { dst := some 55, op := .binOp .neq 2 (.tmp 54) (.const (.int .i64 0)) 2, type := 4, pos := "l06_form.go:124", after := #[{ on := 42, ground := .data }, { on := 40, ground := .guard }], guard := some (40, true) }) (v := ?_) rfl (by kernel_rfl) (by kernel_rfl) (by kernel_rfl) (fun _ _ _ h => h) (Or.inl ⟨by rfl, ?yld136⟩) hHeld ?nxt136
    case yld136 => (intro w hSw; (try dsimp only at hSw); go_simp) <;> with_reducible rfl
    (try simp only [Act.put, z1, z2, z3])
    refine wpAnyH_take (i := 44) (oi := { dst := some 56, op := .fieldAddr 54 (.tmp 1) 6, type := 0, pos := "l06_form.go:124", after := #[{ on := 40, ground := .guard }], guard := some (40, true) }) (v := ?_) rfl (by kernel_rfl) (by kernel_rfl) (by kernel_rfl) (fun _ _ _ h => h) (Or.inl ⟨by rfl, ?yld137⟩) hHeld ?nxt137
    case yld137 => (intro w hSw; (try dsimp only at hSw); go_simp) <;> with_reducible rfl
    (try simp only [Act.put, z1, z2, z3])
    refine wpAnyH_take (i := 45) (oi := { dst := some 57, op := .load 31 (.tmp 56), type := 31, pos := "l06_form.go:124", after := #[{ on := 44, ground := .data }, { on := 40, ground := .guard }], guard := some (40, true) }) (v := ?_) rfl (by kernel_rfl) (by kernel_rfl) (by kernel_rfl) (fun _ _ _ h => h) (Or.inl ⟨by rfl, ?yld138⟩) hHeld ?nxt138
    case yld138 => (intro w hSw; (try dsimp only at hSw); go_simp) <;> with_reducible rfl
    (try simp only [Act.put, z1, z2, z3])
    refine wpAnyH_take (i := 47) (oi := { dst := some 59, op := .fieldAddr 121 (.tmp 3) 4, type := 0, pos := "l06_form.go:124", after := #[{ on := 40, ground := .guard }], guard := some (40, true) }) (v := ?_) rfl (by kernel_rfl) (by kernel_rfl) (by kernel_rfl) (fun _ _ _ h => h) (Or.inl ⟨by rfl, ?yld139⟩) hHeld ?nxt139
    case yld139 => (intro w hSw; (try dsimp only at hSw); go_simp) <;> with_reducible rfl
    (try simp only [Act.put, z1, z2, z3])
    refine wpAnyH_take (i := 48) (oi := { dst := some 60, op := .load 2 (.tmp 59), type := 2, pos := "l06_form.go:124", after := #[{ on := 47, ground := .data }, { on := 40, ground := .guard }], guard := some (40, true) }) (v := ?_) rfl (by kernel_rfl) (by kernel_rfl) (by kernel_rfl) (fun _ _ _ h => h) (Or.inl ⟨by rfl, ?yld140⟩) hHeld ?nxt140
    case yld140 => (intro w hSw; (try dsimp only at hSw); go_simp) <;> with_reducible rfl
    (try simp only [Act.put, z1, z2, z3])
    refine wpAnyH_take (i := 50) (oi := { dst := some 62, op := .fieldAddr 54 (.tmp 1) 6, type := 0, pos := "l06_form.go:124", after := #[{ on := 40, ground := .guard }], guard := some (40, true) }) (v := ?_) rfl (by kernel_rfl) (by kernel_rfl) (by kernel_rfl) (fun _ _ _ h => h) (Or.inl ⟨by rfl, ?yld141⟩) hHeld ?nxt141
    case yld141 => (intro w hSw; (try dsimp only at hSw); go_simp) <;> with_reducible rfl
    (try simp only [Act.put, z1, z2, z3])
    refine wpAnyH_take (i := 51) (oi := { dst := some 63, op := .load 31 (.tmp 62), type := 31, pos := "l06_form.go:124", after := #[{ on := 50, ground := .data }, { on := 40, ground := .guard }], guard := some (40, true) }) (v := ?_) rfl (by kernel_rfl) (by kernel_rfl) (by kernel_rfl) (fun _ _ _ h => h) (Or.inl ⟨by rfl, ?yld142⟩) hHeld ?nxt142
    case yld142 => (intro w hSw; (try dsimp only at hSw); go_simp) <;> with_reducible rfl
    (try simp only [Act.put, z1, z2, z3])
    refine wpAnyH_take (i := 52) (oi := { dst := some 64, op := .call { callee := .builtin .len, args := #[.tmp 63], argTypes := #[31] }, type := 3, pos := "l06_form.go:124", after := #[{ on := 51, ground := .data }, { on := 40, ground := .guard }], guard := some (40, true) }) (v := ?_) rfl (by kernel_rfl) (by kernel_rfl) (by kernel_rfl) (fun _ _ _ h => h) (Or.inl ⟨by rfl, ?yld143⟩) hHeld ?nxt143
    case yld143 => (intro w hSw; (try dsimp only at hSw); go_simp) <;> with_reducible rfl
    (try simp only [Act.put, z1, z2, z3])
    refine wpAnyH_take (i := 53) (oi := { dst := some 65, op := .binOp .eql 3 (.tmp 64) (.const (.int .i64 0)) 3, type := 4, pos := "l06_form.go:124", after := #[{ on := 52, ground := .data }, { on := 40, ground := .guard }], guard := some (40, true) }) (v := ?_) rfl (by kernel_rfl) (by kernel_rfl) (by kernel_rfl) (fun _ _ _ h => h) (Or.inl ⟨by rfl, ?yld144⟩) hHeld ?nxt144
    case yld144 => (intro w hSw; (try dsimp only at hSw); go_simp) <;> with_reducible rfl
    (try simp only [Act.put, z1, z2, z3])
    refine wpAnyH_ready (rs := [46]) (by kernel_rfl) (by simp) ?_
    refine AllReadyH.cons (o := { dst := some 58, op := .call { callee := .value (.func 54), args := #[.tmp 57], argTypes := #[31] }, type := 2, pos := "l06_form.go:127", after := #[{ on := 45, ground := .data }, { on := 40, ground := .chain }, { on := 40, ground := .guard }], guard := some (40, true) }) rfl (fun K hK => ?_) AllReadyH.nil
    go_simp
    go_at_call 54
    have hp := hHeld.1
    refine (expr_tells a cap ps _ (HP.out.on hp.2.2) hcap (HE.out.1.on hp.2.2)).mono ?_
    rintro e w' ⟨rfl, hB⟩
    rw [h4.out]
    have hN := hp.on hB
    clear hp hB
    (try go_wp2_with fail)
    refine hK.out _ _ ?_ (fun hHeld2 => ?_)
    · (try dsimp only) <;> (first | exact keepT hN | exact keepT h0)
    clear hK K hHeld
    have hHeld := hHeld2
    clear hHeld2
    (try simp only [Act.put, z1, z2, z3])
    refine wpAnyH_take (i := 49) (oi := { dst := some 61, op := .binOp .eql 2 (.tmp 58) (.tmp 60) 2, type := 4, pos := "l06_form.go:124", after := #[{ on := 46, ground := .data }, { on := 48, ground := .data }, { on := 40, ground := .guard }], guard := some (40, true) }) (v := ?_) rfl (by kernel_rfl) (by kernel_rfl) (by kernel_rfl) (fun _ _ _ h => h) (Or.inl ⟨by rfl, ?yld145⟩) hHeld ?nxt145
    case yld145 => (intro w hSw; (try dsimp only at hSw); go_simp) <;> with_reducible rfl
    (try simp only [Act.put, z1, z2, z3])
    refine wpAnyH_ready (rs := [54]) (by kernel_rfl) (by simp) ?_
    refine AllReadyH.cons (o := { dst := some 66, op := .call { callee := .value (.func 91), args := #[.tmp 55, .tmp 61, .tmp 65], argTypes := #[4, 4, 4] }, type := 4, pos := "l06_form.go:127", after := #[{ on := 43, ground := .data }, { on := 49, ground := .data }, { on := 53, ground := .data }, { on := 46, ground := .chain }, { on := 40, ground := .guard }], guard := some (40, true) }) rfl (fun K hK => ?_) AllReadyH.nil
    go_simp
    go_at_call 91
    have hp := hHeld.1
    refine (as_for _ _ _ _).mono ?_
    rintro e w' ⟨rfl, rfl⟩
    (first | rw [hr1.out] | rw [hr2.out] | rw [hr3.out] | rw [hr4.out])
    have hN := hp
    clear hp
    (try go_wp2_with fail)
    refine hK.out _ _ ?_ (fun hHeld2 => ?_)
    · (try dsimp only) <;> (first | exact keepT hN | exact keepT h0)
    clear hK K hHeld
    have hHeld := hHeld2
    clear hHeld2
    (try simp only [Act.put, z1, z2, z3])
    refine wpAnyH_take (i := 55) (oi := { dst := some 67, op := .pick (.tmp 52) (.tmp 66) (.const (.bool false)), type := 4, pos := "l06_form.go:124", after := #[{ on := 40, ground := .data }, { on := 54, ground := .data }], guard := none }) (v := ?_) rfl (by kernel_rfl) (by kernel_rfl) (by kernel_rfl) (fun _ _ _ h => h) (Or.inl ⟨by rfl, ?yld146⟩) hHeld ?nxt146
    case yld146 => (intro w hSw; (try dsimp only at hSw); go_simp) <;> with_reducible rfl
    (try simp only [Act.put, z1, z2, z3])
    refine wpAnyH_take (i := 56) (oi := { dst := some 68, op := .move (.tmp 67), type := 4, pos := "l06_form.go:124", after := #[{ on := 55, ground := .data }, { on := 54, ground := .chain }], guard := none }) (v := ?_) rfl (by kernel_rfl) (by kernel_rfl) (by kernel_rfl) (fun _ _ _ h => h) (Or.inl ⟨by rfl, ?yld147⟩) hHeld ?nxt147
    case yld147 => (intro w hSw; (try dsimp only at hSw); go_simp) <;> with_reducible rfl
    (try simp only [Act.put, z1, z2, z3])
    refine wpAnyH_take (i := 57) (oi := { dst := some 69, op := .fieldAddr 121 (.tmp 3) 3, type := 0, pos := "l06_form.go:124", after := #[{ on := 56, ground := .guard }], guard := some (56, true) }) (v := ?_) rfl (by kernel_rfl) (by kernel_rfl) (by kernel_rfl) (fun _ _ _ h => h) (Or.inl ⟨by rfl, ?yld148⟩) hHeld ?nxt148
    case yld148 => (intro w hSw; (try dsimp only at hSw); go_simp) <;> with_reducible rfl
    (try simp only [Act.put, z1, z2, z3])
    refine wpAnyH_take (i := 58) (oi := { dst := some 70, op := .load 4 (.tmp 69), type := 4, pos := "l06_form.go:124", after := #[{ on := 57, ground := .data }, { on := 56, ground := .guard }], guard := some (56, true) }) (v := ?_) rfl (by kernel_rfl) (by kernel_rfl) (by kernel_rfl) (fun _ _ _ h => h) (Or.inl ⟨by rfl, ?yld149⟩) hHeld ?nxt149
    case yld149 => (intro w hSw; (try dsimp only at hSw); go_simp) <;> with_reducible rfl
    (try simp only [Act.put, z1, z2, z3])
    refine wpAnyH_take (i := 59) (oi := { dst := some 71, op := .move (.tmp 70), type := 4, pos := "l06_form.go:124", after := #[{ on := 58, ground := .data }, { on := 56, ground := .chain }, { on := 56, ground := .guard }], guard := some (56, true) }) (v := ?_) rfl (by kernel_rfl) (by kernel_rfl) (by kernel_rfl) (fun _ _ _ h => h) (Or.inl ⟨by rfl, ?yld150⟩) hHeld ?nxt150
    case yld150 => (intro w hSw; (try dsimp only at hSw); go_simp) <;> with_reducible rfl
    (try simp only [Act.put, z1, z2, z3])
    refine wpAnyH_take (i := 60) (oi := { dst := some 72, op := .fieldAddr 54 (.tmp 1) 7, type := 0, pos := "l06_form.go:124", after := #[{ on := 59, ground := .guard }], guard := some (59, false) }) (v := undef) rfl (by kernel_rfl) (by kernel_rfl) (by kernel_rfl) (fun _ _ _ h => h) (Or.inr ⟨by rfl, rfl⟩) hHeld ?_
    (try simp only [Act.put, z1, z2, z3])
    refine wpAnyH_take (i := 61) (oi := { dst := some 73, op := .load 4 (.tmp 72), type := 4, pos := "l06_form.go:124", after := #[{ on := 60, ground := .data }, { on := 59, ground := .guard }], guard := some (59, false) }) (v := undef) rfl (by kernel_rfl) (by kernel_rfl) (by kernel_rfl) (fun _ _ _ h => h) (Or.inr ⟨by rfl, rfl⟩) hHeld ?_
    (try simp only [Act.put, z1, z2, z3])
    refine wpAnyH_take (i := 62) (oi := { dst := some 74, op := .unOp .not 4 (.tmp 73), type := 4, pos := "l06_form.go:124", after := #[{ on := 61, ground := .data }, { on := 59, ground := .guard }], guard := some (59, false) }) (v := undef) rfl (by kernel_rfl) (by kernel_rfl) (by kernel_rfl) (fun _ _ _ h => h) (Or.inr ⟨by rfl, rfl⟩) hHeld ?_
    (try simp only [Act.put, z1, z2, z3])
    refine wpAnyH_take (i := 63) (oi := { dst := some 75, op := .pick (.tmp 71) (.const (.bool true)) (.tmp 74), type := 4, pos := "l06_form.go:124", after := #[{ on := 59, ground := .data }, { on := 62, ground := .data }, { on := 56, ground := .guard }], guard := some (56, true) }) (v := ?_) rfl (by kernel_rfl) (by kernel_rfl) (by kernel_rfl) (fun _ _ _ h => h) (Or.inl ⟨by rfl, ?yld151⟩) hHeld ?nxt151
    case yld151 => (intro w hSw; (try dsimp only at hSw); go_simp) <;> with_reducible rfl
    (try simp only [Act.put, z1, z2, z3])
    refine wpAnyH_take (i := 64) (oi := { dst := some 76, op := .pick (.tmp 68) (.tmp 75) (.const (.bool false)), type := 4, pos := "l06_form.go:124", after := #[{ on := 56, ground := .data }, { on := 63, ground := .data }], guard := none }) (v := ?_) rfl (by kernel_rfl) (by kernel_rfl) (by kernel_rfl) (fun _ _ _ h => h) (Or.inl ⟨by rfl, ?yld152⟩) hHeld ?nxt152
    case yld152 => (intro w hSw; (try dsimp only at hSw); go_simp) <;> with_reducible rfl
    (try simp only [Act.put, z1, z2, z3])
    refine wpAnyH_take (i := 65) (oi := { dst := some 2, op := .assign (.tmp 76), type := 4, pos := "l06_form.go:124", after := ([{ on := 64, ground := .data }, { on := 59, ground := .chain }, { on := 0, ground := .phase }, { on := 1, ground := .phase }, { on := 2, ground := .phase }, { on := 3, ground := .phase }, { on := 4, ground := .phase }, { on := 5, ground := .phase }, { on := 6, ground := .phase }, { on := 7, ground := .phase }, { on := 8, ground := .phase }, { on := 9, ground := .phase }, { on := 10, ground := .phase }, { on := 11, ground := .phase }, { on := 12, ground := .phase }, { on := 13, ground := .phase }, { on := 14, ground := .phase }, { on := 15, ground := .phase }, { on := 16, ground := .phase }, { on := 17, ground := .phase }, { on := 18, ground := .phase }, { on := 19, ground := .phase }, { on := 20, ground := .phase }, { on := 21, ground := .phase }, { on := 22, ground := .phase }, { on := 23, ground := .phase }, { on := 24, ground := .phase }, { on := 25, ground := .phase }, { on := 26, ground := .phase }, { on := 27, ground := .phase }, { on := 28, ground := .phase }, { on := 29, ground := .phase }, { on := 30, ground := .phase }].append [{ on := 31, ground := .phase }, { on := 32, ground := .phase }, { on := 33, ground := .phase }, { on := 34, ground := .phase }, { on := 35, ground := .phase }, { on := 36, ground := .phase }, { on := 37, ground := .phase }, { on := 38, ground := .phase }, { on := 39, ground := .phase }, { on := 40, ground := .phase }, { on := 41, ground := .phase }, { on := 42, ground := .phase }, { on := 43, ground := .phase }, { on := 44, ground := .phase }, { on := 45, ground := .phase }, { on := 46, ground := .phase }, { on := 47, ground := .phase }, { on := 48, ground := .phase }, { on := 49, ground := .phase }, { on := 50, ground := .phase }, { on := 51, ground := .phase }, { on := 52, ground := .phase }, { on := 53, ground := .phase }, { on := 54, ground := .phase }, { on := 55, ground := .phase }, { on := 56, ground := .phase }, { on := 57, ground := .phase }, { on := 58, ground := .phase }, { on := 59, ground := .phase }, { on := 60, ground := .phase }, { on := 61, ground := .phase }, { on := 62, ground := .phase }, { on := 63, ground := .phase }, { on := 64, ground := .phase }]).toArray, guard := none }) (v := ?_) rfl (by kernel_rfl) (by kernel_rfl) (by kernel_rfl) (fun _ _ _ h => h) (Or.inl ⟨by rfl, ?yld153⟩) hHeld ?nxt153
    case yld153 => (intro w hSw; (try dsimp only at hSw); go_simp) <;> with_reducible rfl
    (try simp only [Act.put, z1, z2, z3])
    refine wpAnyH_done (by kernel_rfl) ?_ _
    have HZ := hid hHeld.1
    clear hHeld h0
    go_wp2_with fail
    go_ret
    exact ⟨rfl, HZ.out.2.2⟩
  go_enter Tryz.func76, Tryz.ntmps76
  go_wp2_with (first | (go_at_call 90; refine (between_any _ _ _ _).mono ?_; rintro e w' ⟨rfl, rfl⟩; rw [hin.out]))
  have hT := HW.out
  obtain ⟨W0, hW0⟩ : ∃ W0, Hid ((w.alloc (.cells #[.int .i64 j, .string s, .int .i64 ty, .int .i64 lo, .int .i64 hi, .string t, .slice a ps.length cap, .bool hd] 54)).alloc (.cells #[.bool o1, .bool o2, .bool o3, .bool false, .int .i64 o5] 121) = W0) := ⟨_, rfl⟩
  rw [hW0.out] at hT ⊢
  have h0 : Two w W0.drew j s ty lo hi t a ps.length cap hd o1 o2 o3 false o5 := hT.on (Below.refl _ _).drew
  clear hT hW0 g0 g1 g2 g3 g4 HW
  refine wp_region_held_drew (S := (fun w' => Two w w' j s ty lo hi t a ps.length cap hd o1 o2 o3 false o5 ∧ (w'.cell? ⟨w.heap.size, 0, none⟩ = some (.int .i64 j) ∧ w'.cell? ⟨w.heap.size, 1, none⟩ = some (.string s) ∧ w'.cell? ⟨w.heap.size, 2, none⟩ = some (.int .i64 ty) ∧ w'.cell? ⟨w.heap.size, 3, none⟩ = some (.int .i64 lo) ∧ w'.cell? ⟨w.heap.size, 4, none⟩ = some (.int .i64 hi) ∧ w'.cell? ⟨w.heap.size, 5, none⟩ = some (.string t) ∧ w'.cell? ⟨w.heap.size, 6, none⟩ = some (.slice a ps.length cap) ∧ w'.cell? ⟨w.heap.size, 7, none⟩ = some (.bool hd)) ∧ (w'.cell? ⟨w.heap.size + 1, 0, none⟩ = some (.bool o1) ∧ w'.cell? ⟨w.heap.size + 1, 1, none⟩ = some (.bool o2) ∧ w'.cell? ⟨w.heap.size + 1, 2, none⟩ = some (.bool o3) ∧ w'.cell? ⟨w.heap.size + 1, 3, none⟩ = some (.bool false) ∧ w'.cell? ⟨w.heap.size + 1, 4, none⟩ = some (.int .i64 o5)))) (by kernel_rfl) ?_ (fun hHeld => ?_)
  · (try dsimp only) <;> (first | exact keepT hN | exact keepT h0)
  refine wpAnyH_take (i := 0) (oi := { dst := some 12, op := .fieldAddr 121 (.tmp 3) 0, type := 0, pos := "l06_form.go:124", after := #[], guard := none }) (v := ?_) rfl (by kernel_rfl) (by kernel_rfl) (by kernel_rfl) (fun _ _ _ h => h) (Or.inl ⟨by rfl, ?yld154⟩) hHeld ?nxt154
  case yld154 => (intro w hSw; (try dsimp only at hSw); go_simp) <;> with_reducible rfl
  (try simp only [Act.put, z1, z2, z3])
  refine wpAnyH_take (i := 1) (oi := { dst := some 13, op := .load 4 (.tmp 12), type := 4, pos := "l06_form.go:124", after := #[{ on := 0, ground := .data }], guard := none }) (v := ?_) rfl (by kernel_rfl) (by kernel_rfl) (by kernel_rfl) (fun _ _ _ h => h) (Or.inl ⟨by rfl, ?yld155⟩) hHeld ?nxt155
  case yld155 => (intro w hSw; (try dsimp only at hSw); go_simp) <;> with_reducible rfl
  (try simp only [Act.put, z1, z2, z3])
  refine wpAnyH_take (i := 2) (oi := { dst := some 14, op := .fieldAddr 54 (.tmp 1) 1, type := 0, pos := "l06_form.go:124", after := #[], guard := none }) (v := ?_) rfl (by kernel_rfl) (by kernel_rfl) (by kernel_rfl) (fun _ _ _ h => h) (Or.inl ⟨by rfl, ?yld156⟩) hHeld ?nxt156
  case yld156 => (intro w hSw; (try dsimp only at hSw); go_simp) <;> with_reducible rfl
  (try simp only [Act.put, z1, z2, z3])
  refine wpAnyH_take (i := 3) (oi := { dst := some 15, op := .load 9 (.tmp 14), type := 9, pos := "l06_form.go:124", after := #[{ on := 2, ground := .data }], guard := none }) (v := ?_) rfl (by kernel_rfl) (by kernel_rfl) (by kernel_rfl) (fun _ _ _ h => h) (Or.inl ⟨by rfl, ?yld157⟩) hHeld ?nxt157
  case yld157 => (intro w hSw; (try dsimp only at hSw); go_simp) <;> with_reducible rfl
  (try simp only [Act.put, z1, z2, z3])
  refine wpAnyH_take (i := 5) (oi := { dst := some 17, op := .fieldAddr 54 (.tmp 1) 1, type := 0, pos := "l06_form.go:124", after := #[], guard := none }) (v := ?_) rfl (by kernel_rfl) (by kernel_rfl) (by kernel_rfl) (fun _ _ _ h => h) (Or.inl ⟨by rfl, ?yld158⟩) hHeld ?nxt158
  case yld158 => (intro w hSw; (try dsimp only at hSw); go_simp) <;> with_reducible rfl
  (try simp only [Act.put, z1, z2, z3])
  refine wpAnyH_take (i := 6) (oi := { dst := some 18, op := .load 9 (.tmp 17), type := 9, pos := "l06_form.go:124", after := #[{ on := 5, ground := .data }], guard := none }) (v := ?_) rfl (by kernel_rfl) (by kernel_rfl) (by kernel_rfl) (fun _ _ _ h => h) (Or.inl ⟨by rfl, ?yld159⟩) hHeld ?nxt159
  case yld159 => (intro w hSw; (try dsimp only at hSw); go_simp) <;> with_reducible rfl
  (try simp only [Act.put, z1, z2, z3])
  refine wpAnyH_take (i := 7) (oi := { dst := some 19, op := .binOp .eql 9 (.tmp 18) (.const (.string { data := #[] })) 9, type := 4, pos := "l06_form.go:124", after := #[{ on := 6, ground := .data }], guard := none }) (v := ?_) rfl (by kernel_rfl) (by kernel_rfl) (by kernel_rfl) (fun _ _ _ h => h) (Or.inl ⟨by rfl, ?yld160⟩) hHeld ?nxt160
  case yld160 => (intro w hSw; (try dsimp only at hSw); go_simp) <;> with_reducible rfl
  (try simp only [Act.put, z1, z2, z3])
  refine wpAnyH_ready (rs := [4]) (by kernel_rfl) (by simp) ?_
  refine AllReadyH.cons (o := { dst := some 16, op := .call { callee := .value (.func 92), args := #[.tmp 15], argTypes := #[9] }, type := 4, pos := "l06_form.go:124", after := #[{ on := 3, ground := .data }], guard := none }) rfl (fun K hK => ?_) AllReadyH.nil
  go_simp
  go_at_call 92
  have hp := hHeld.1
  refine (impl_name s _ HS.out).mono ?_
  rintro e w' ⟨rfl, rfl⟩
  rw [h1.out]
  have hN := hp
  clear hp
  (try go_wp2_with fail)
  refine hK.out _ _ ?_ (fun hHeld2 => ?_)
  · (try dsimp only) <;> (first | exact keepT hN | exact keepT h0)
  clear hK K hHeld
  have hHeld := hHeld2
  clear hHeld2
  (try simp only [Act.put, z1, z2, z3])
  refine wpAnyH_ready (rs := [8]) (by kernel_rfl) (by simp) ?_
  refine AllReadyH.cons (o := { dst := some 20, op := .call { callee := .value (.func 91), args := #[.tmp 13, .tmp 16, .tmp 19], argTypes := #[4, 4, 4] }, type := 4, pos := "l06_form.go:124", after := #[{ on := 1, ground := .data }, { on := 4, ground := .data }, { on := 7, ground := .data }, { on := 4, ground := .chain }], guard := none }) rfl (fun K hK => ?_) AllReadyH.nil
  go_simp
  go_at_call 91
  have hp := hHeld.1
  refine (as_for _ _ _ _).mono ?_
  rintro e w' ⟨rfl, rfl⟩
  (first | rw [hr1.out] | rw [hr2.out] | rw [hr3.out] | rw [hr4.out])
  have hN := hp
  clear hp
  (try go_wp2_with fail)
  refine hK.out _ _ ?_ (fun hHeld2 => ?_)
  · (try dsimp only) <;> (first | exact keepT hN | exact keepT h0)
  clear hK K hHeld
  have hHeld := hHeld2
  clear hHeld2
  (try simp only [Act.put, z1, z2, z3])
  refine wpAnyH_take (i := 9) (oi := { dst := some 21, op := .move (.tmp 20), type := 4, pos := "l06_form.go:124", after := #[{ on := 8, ground := .data }, { on := 8, ground := .chain }], guard := none }) (v := ?_) rfl (by kernel_rfl) (by kernel_rfl) (by kernel_rfl) (fun _ _ _ h => h) (Or.inl ⟨by rfl, ?yld161⟩) hHeld ?nxt161
  case yld161 => (intro w hSw; (try dsimp only at hSw); go_simp) <;> with_reducible rfl
  (try simp only [Act.put, z1, z2, z3])
  refine wpAnyH_take (i := 10) (oi := { dst := some 22, op := .fieldAddr 121 (.tmp 3) 1, type := 0, pos := "l06_form.go:124", after := #[{ on := 9, ground := .guard }], guard := some (9, true) }) (v := ?_) rfl (by kernel_rfl) (by kernel_rfl) (by kernel_rfl) (fun _ _ _ h => h) (Or.inl ⟨by rfl, ?yld162⟩) hHeld ?nxt162
  case yld162 => (intro w hSw; (try dsimp only at hSw); go_simp) <;> with_reducible rfl
  (try simp only [Act.put, z1, z2, z3])
  refine wpAnyH_take (i := 11) (oi := { dst := some 23, op := .load 4 (.tmp 22), type := 4, pos := "l06_form.go:124", after := #[{ on := 10, ground := .data }, { on := 9, ground := .guard }], guard := some (9, true) }) (v := ?_) rfl (by kernel_rfl) (by kernel_rfl) (by kernel_rfl) (fun _ _ _ h => h) (Or.inl ⟨by rfl, ?yld163⟩) hHeld ?nxt163
  case yld163 => (intro w hSw; (try dsimp only at hSw); go_simp) <;> with_reducible rfl
  (try simp only [Act.put, z1, z2, z3])
  refine wpAnyH_take (i := 12) (oi := { dst := some 24, op := .load 54 (.tmp 1), type := 54, pos := "l06_form.go:124", after := #[{ on := 9, ground := .guard }], guard := some (9, true) }) (v := ?_) rfl (by kernel_rfl) (by kernel_rfl) (by kernel_rfl) (fun _ _ _ h => h) (Or.inl ⟨by rfl, ?yld164⟩) hHeld ?nxt164
  case yld164 => (intro w hSw; (try dsimp only at hSw); go_simp) <;> with_reducible rfl
  (try simp only [Act.put, z1, z2, z3])
  refine wpAnyH_take (i := 14) (oi := { dst := some 26, op := .fieldAddr 54 (.tmp 1) 2, type := 0, pos := "l06_form.go:124", after := #[{ on := 9, ground := .guard }], guard := some (9, true) }) (v := ?_) rfl (by kernel_rfl) (by kernel_rfl) (by kernel_rfl) (fun _ _ _ h => h) (Or.inl ⟨by rfl, ?yld165⟩) hHeld ?nxt165
  case yld165 => (intro w hSw; (try dsimp only at hSw); go_simp) <;> with_reducible rfl
  (try simp only [Act.put, z1, z2, z3])
  refine wpAnyH_take (i := 15) (oi := { dst := some 27, op := .load 2 (.tmp 26), type := 2, pos := "l06_form.go:124", after := #[{ on := 14, ground := .data }, { on := 9, ground := .guard }], guard := some (9, true) }) (v := ?_) rfl (by kernel_rfl) (by kernel_rfl) (by kernel_rfl) (fun _ _ _ h => h) (Or.inl ⟨by rfl, ?yld166⟩) hHeld ?nxt166
  case yld166 => (intro w hSw; (try dsimp only at hSw); go_simp) <;> with_reducible rfl
  (try simp only [Act.put, z1, z2, z3])
  refine wpAnyH_take (i := 16) (oi := { dst := some 28, op := .binOp .eql 2 (.tmp 27) (.const (.int .i64 0)) 2, type := 4, pos := "l06_form.go:124", after := #[{ on := 15, ground := .data }, { on := 9, ground := .guard }], guard := some (9, true) }) (v := ?_) rfl (by kernel_rfl) (by kernel_rfl) (by kernel_rfl) (fun _ _ _ h => h) (Or.inl ⟨by rfl, ?yld167⟩) hHeld ?nxt167
  case yld167 => (intro w hSw; (try dsimp only at hSw); go_simp) <;> with_reducible rfl
  (try simp only [Act.put, z1, z2, z3])
  refine wpAnyH_ready (rs := [13]) (by kernel_rfl) (by simp) ?_
  refine AllReadyH.cons (o := { dst := some 25, op := .call { callee := .value (.func 93), args := #[.tmp 24], argTypes := #[54] }, type := 4, pos := "l06_form.go:125", after := #[{ on := 12, ground := .data }, { on := 9, ground := .chain }, { on := 9, ground := .guard }], guard := some (9, true) }) rfl (fun K hK => ?_) AllReadyH.nil
  go_simp
  go_at_call 93
  have hp := hHeld.1
  refine (impl_bounds j s ty lo hi t a ps.length cap hd _).mono ?_
  rintro e w' ⟨rfl, hB⟩
  rw [h2.out]
  have hN := hp.on hB
  clear hp hB
  (try go_wp2_with fail)
  refine hK.out _ _ ?_ (fun hHeld2 => ?_)
  · (try dsimp only) <;> (first | exact keepT hN | exact keepT h0)
  clear hK K hHeld
  have hHeld := hHeld2
  clear hHeld2
  (try simp only [Act.put, z1, z2, z3])
  refine wpAnyH_take (i := 17) (oi := { dst := some 29, op := .move (.tmp 28), type := 4, pos := "l06_form.go:124", after := #[{ on := 16, ground := .data }, { on := 13, ground := .chain }, { on := 9, ground := .guard }], guard := some (9, true) }) (v := ?_) rfl (by kernel_rfl) (by kernel_rfl) (by kernel_rfl) (fun _ _ _ h => h) (Or.inl ⟨by rfl, ?yld168⟩) hHeld ?nxt168
  case yld168 => (intro w hSw; (try dsimp only at hSw); go_simp) <;> with_reducible rfl
  (try simp only [Act.put, z1, z2, z3])
  refine wpAnyH_take (i := 18) (oi := { dst := some 30, op := .fieldAddr 54 (.tmp 1) 3, type := 0, pos := "l06_form.go:124", after := #[{ on := 17, ground := .guard }], guard := some (17, true) }) (v := undef) rfl (by kernel_rfl) (by kernel_rfl) (by kernel_rfl) (fun _ _ _ h => h) (Or.inr ⟨by rfl, rfl⟩) hHeld ?_
  (try simp only [Act.put, z1, z2, z3])
  refine wpAnyH_take (i := 19) (oi := { dst := some 31, op := .load 2 (.tmp 30), type := 2, pos := "l06_form.go:124", after := #[{ on := 18, ground := .data }, { on := 17, ground := .guard }], guard := some (17, true) }) (v := undef) rfl (by kernel_rfl) (by kernel_rfl) (by kernel_rfl) (fun _ _ _ h => h) (Or.inr ⟨by rfl, rfl⟩) hHeld ?_
  (try simp only [Act.put, z1, z2, z3])
  refine wpAnyH_take (i := 20) (oi := { dst := some 32, op := .binOp .eql 2 (.tmp 31) (.const (.int .i64 0)) 2, type := 4, pos := "l06_form.go:124", after := #[{ on := 19, ground := .data }, { on := 17, ground := .guard }], guard := some (17, true) }) (v := undef) rfl (by kernel_rfl) (by kernel_rfl) (by kernel_rfl) (fun _ _ _ h => h) (Or.inr ⟨by rfl, rfl⟩) hHeld ?_
  (try simp only [Act.put, z1, z2, z3])
  refine wpAnyH_take (i := 21) (oi := { dst := some 33, op := .pick (.tmp 29) (.tmp 32) (.const (.bool false)), type := 4, pos := "l06_form.go:124", after := #[{ on := 17, ground := .data }, { on := 20, ground := .data }, { on := 9, ground := .guard }], guard := some (9, true) }) (v := ?_) rfl (by kernel_rfl) (by kernel_rfl) (by kernel_rfl) (fun _ _ _ h => h) (Or.inl ⟨by rfl, ?yld169⟩) hHeld ?nxt169
  case yld169 => (intro w hSw; (try dsimp only at hSw); go_simp) <;> with_reducible rfl
  (try simp only [Act.put, z1, z2, z3])
  refine wpAnyH_take (i := 22) (oi := { dst := some 34, op := .move (.tmp 33), type := 4, pos := "l06_form.go:124", after := #[{ on := 21, ground := .data }, { on := 17, ground := .chain }, { on := 9, ground := .guard }], guard := some (9, true) }) (v := ?_) rfl (by kernel_rfl) (by kernel_rfl) (by kernel_rfl) (fun _ _ _ h => h) (Or.inl ⟨by rfl, ?yld170⟩) hHeld ?nxt170
  case yld170 => (intro w hSw; (try dsimp only at hSw); go_simp) <;> with_reducible rfl
  (try simp only [Act.put, z1, z2, z3])
  refine wpAnyH_take (i := 23) (oi := { dst := some 35, op := .fieldAddr 54 (.tmp 1) 4, type := 0, pos := "l06_form.go:124", after := #[{ on := 22, ground := .guard }], guard := some (22, true) }) (v := undef) rfl (by kernel_rfl) (by kernel_rfl) (by kernel_rfl) (fun _ _ _ h => h) (Or.inr ⟨by rfl, rfl⟩) hHeld ?_
  (try simp only [Act.put, z1, z2, z3])
  refine wpAnyH_take (i := 24) (oi := { dst := some 36, op := .load 2 (.tmp 35), type := 2, pos := "l06_form.go:124", after := #[{ on := 23, ground := .data }, { on := 22, ground := .guard }], guard := some (22, true) }) (v := undef) rfl (by kernel_rfl) (by kernel_rfl) (by kernel_rfl) (fun _ _ _ h => h) (Or.inr ⟨by rfl, rfl⟩) hHeld ?_
  (try simp only [Act.put, z1, z2, z3])
  refine wpAnyH_take (i := 25) (oi := { dst := some 37, op := .binOp .eql 2 (.tmp 36) (.const (.int .i64 0)) 2, type := 4, pos := "l06_form.go:124", after := #[{ on := 24, ground := .data }, { on := 22, ground := .guard }], guard := some (22, true) }) (v := undef) rfl (by kernel_rfl) (by kernel_rfl) (by kernel_rfl) (fun _ _ _ h => h) (Or.inr ⟨by rfl, rfl⟩) hHeld ?_
  (try simp only [Act.put, z1, z2, z3])
  refine wpAnyH_take (i := 26) (oi := { dst := some 38, op := .pick (.tmp 34) (.tmp 37) (.const (.bool false)), type := 4, pos := "l06_form.go:124", after := #[{ on := 22, ground := .data }, { on := 25, ground := .data }, { on := 9, ground := .guard }], guard := some (9, true) }) (v := ?_) rfl (by kernel_rfl) (by kernel_rfl) (by kernel_rfl) (fun _ _ _ h => h) (Or.inl ⟨by rfl, ?yld171⟩) hHeld ?nxt171
  case yld171 => (intro w hSw; (try dsimp only at hSw); go_simp) <;> with_reducible rfl
  (try simp only [Act.put, z1, z2, z3])
  refine wpAnyH_ready (rs := [27]) (by kernel_rfl) (by simp) ?_
  refine AllReadyH.cons (o := { dst := some 39, op := .call { callee := .value (.func 91), args := #[.tmp 23, .tmp 25, .tmp 38], argTypes := #[4, 4, 4] }, type := 4, pos := "l06_form.go:125", after := #[{ on := 11, ground := .data }, { on := 13, ground := .data }, { on := 26, ground := .data }, { on := 22, ground := .chain }, { on := 9, ground := .guard }], guard := some (9, true) }) rfl (fun K hK => ?_) AllReadyH.nil
  go_simp
  go_at_call 91
  have hp := hHeld.1
  refine (as_for _ _ _ _).mono ?_
  rintro e w' ⟨rfl, rfl⟩
  (first | rw [hr1.out] | rw [hr2.out] | rw [hr3.out] | rw [hr4.out])
  have hN := hp
  clear hp
  (try go_wp2_with fail)
  refine hK.out _ _ ?_ (fun hHeld2 => ?_)
  · (try dsimp only) <;> (first | exact keepT hN | exact keepT h0)
  clear hK K hHeld
  have hHeld := hHeld2
  clear hHeld2
  (try simp only [Act.put, z1, z2, z3])
  refine wpAnyH_take (i := 28) (oi := { dst := some 40, op := .pick (.tmp 21) (.tmp 39) (.const (.bool false)), type := 4, pos := "l06_form.go:124", after := #[{ on := 9, ground := .data }, { on := 27, ground := .data }], guard := none }) (v := ?_) rfl (by kernel_rfl) (by kernel_rfl) (by kernel_rfl) (fun _ _ _ h => h) (Or.inl ⟨by rfl, ?yld172⟩) hHeld ?nxt172
  case yld172 => (intro w hSw; (try dsimp only at hSw); go_simp) <;> with_reducible rfl
  (try simp only [Act.put, z1, z2, z3])
  refine wpAnyH_take (i := 29) (oi := { dst := some 41, op := .move (.tmp 40), type := 4, pos := "l06_form.go:124", after := #[{ on := 28, ground := .data }, { on := 27, ground := .chain }], guard := none }) (v := ?_) rfl (by kernel_rfl) (by kernel_rfl) (by kernel_rfl) (fun _ _ _ h => h) (Or.inl ⟨by rfl, ?yld173⟩) hHeld ?nxt173
  case yld173 => (intro w hSw; (try dsimp only at hSw); go_simp) <;> with_reducible rfl
  (try simp only [Act.put, z1, z2, z3])
  refine wpAnyH_take (i := 30) (oi := { dst := some 42, op := .fieldAddr 121 (.tmp 3) 2, type := 0, pos := "l06_form.go:124", after := #[{ on := 29, ground := .guard }], guard := some (29, true) }) (v := ?_) rfl (by kernel_rfl) (by kernel_rfl) (by kernel_rfl) (fun _ _ _ h => h) (Or.inl ⟨by rfl, ?yld174⟩) hHeld ?nxt174
  case yld174 => (intro w hSw; (try dsimp only at hSw); go_simp) <;> with_reducible rfl
  (try simp only [Act.put, z1, z2, z3])
  refine wpAnyH_take (i := 31) (oi := { dst := some 43, op := .load 4 (.tmp 42), type := 4, pos := "l06_form.go:124", after := #[{ on := 30, ground := .data }, { on := 29, ground := .guard }], guard := some (29, true) }) (v := ?_) rfl (by kernel_rfl) (by kernel_rfl) (by kernel_rfl) (fun _ _ _ h => h) (Or.inl ⟨by rfl, ?yld175⟩) hHeld ?nxt175
  case yld175 => (intro w hSw; (try dsimp only at hSw); go_simp) <;> with_reducible rfl
  (try simp only [Act.put, z1, z2, z3])
  refine wpAnyH_take (i := 32) (oi := { dst := some 44, op := .fieldAddr 54 (.tmp 1) 5, type := 0, pos := "l06_form.go:124", after := #[{ on := 29, ground := .guard }], guard := some (29, true) }) (v := ?_) rfl (by kernel_rfl) (by kernel_rfl) (by kernel_rfl) (fun _ _ _ h => h) (Or.inl ⟨by rfl, ?yld176⟩) hHeld ?nxt176
  case yld176 => (intro w hSw; (try dsimp only at hSw); go_simp) <;> with_reducible rfl
  (try simp only [Act.put, z1, z2, z3])
  refine wpAnyH_take (i := 33) (oi := { dst := some 45, op := .load 9 (.tmp 44), type := 9, pos := "l06_form.go:124", after := #[{ on := 32, ground := .data }, { on := 29, ground := .guard }], guard := some (29, true) }) (v := ?_) rfl (by kernel_rfl) (by kernel_rfl) (by kernel_rfl) (fun _ _ _ h => h) (Or.inl ⟨by rfl, ?yld177⟩) hHeld ?nxt177
  case yld177 => (intro w hSw; (try dsimp only at hSw); go_simp) <;> with_reducible rfl
  (try simp only [Act.put, z1, z2, z3])
  refine wpAnyH_take (i := 35) (oi := { dst := some 47, op := .fieldAddr 54 (.tmp 1) 5, type := 0, pos := "l06_form.go:124", after := #[{ on := 29, ground := .guard }], guard := some (29, true) }) (v := ?_) rfl (by kernel_rfl) (by kernel_rfl) (by kernel_rfl) (fun _ _ _ h => h) (Or.inl ⟨by rfl, ?yld178⟩) hHeld ?nxt178
  case yld178 => (intro w hSw; (try dsimp only at hSw); go_simp) <;> with_reducible rfl
  (try simp only [Act.put, z1, z2, z3])
  refine wpAnyH_take (i := 36) (oi := { dst := some 48, op := .load 9 (.tmp 47), type := 9, pos := "l06_form.go:124", after := #[{ on := 35, ground := .data }, { on := 29, ground := .guard }], guard := some (29, true) }) (v := ?_) rfl (by kernel_rfl) (by kernel_rfl) (by kernel_rfl) (fun _ _ _ h => h) (Or.inl ⟨by rfl, ?yld179⟩) hHeld ?nxt179
  case yld179 => (intro w hSw; (try dsimp only at hSw); go_simp) <;> with_reducible rfl
  (try simp only [Act.put, z1, z2, z3])
  refine wpAnyH_take (i := 37) (oi := { dst := some 49, op := .binOp .eql 9 (.tmp 48) (.const (.string { data := #[] })) 9, type := 4, pos := "l06_form.go:124", after := #[{ on := 36, ground := .data }, { on := 29, ground := .guard }], guard := some (29, true) }) (v := ?_) rfl (by kernel_rfl) (by kernel_rfl) (by kernel_rfl) (fun _ _ _ h => h) (Or.inl ⟨by rfl, ?yld180⟩) hHeld ?nxt180
  case yld180 => (intro w hSw; (try dsimp only at hSw); go_simp) <;> with_reducible rfl
  (try simp only [Act.put, z1, z2, z3])
  refine wpAnyH_ready (rs := [34]) (by kernel_rfl) (by simp) ?_
  refine AllReadyH.cons (o := { dst := some 46, op := .call { callee := .value (.func 94), args := #[.tmp 45], argTypes := #[9] }, type := 4, pos := "l06_form.go:126", after := #[{ on := 33, ground := .data }, { on := 29, ground := .chain }, { on := 29, ground := .guard }], guard := some (29, true) }) rfl (fun K hK => ?_) AllReadyH.nil
  go_simp
  go_at_call 94
  have hp := hHeld.1
  refine (impl_asked t _ HT.out).mono ?_
  rintro e w' ⟨rfl, hB⟩
  rw [h3.out]
  have hN := hp.on hB
  clear hp hB
  (try go_wp2_with fail)
  refine hK.out _ _ ?_ (fun hHeld2 => ?_)
  · (try dsimp only) <;> (first | exact keepT hN | exact keepT h0)
  clear hK K hHeld
  have hHeld := hHeld2
  clear hHeld2
  (try simp only [Act.put, z1, z2, z3])
  refine wpAnyH_ready (rs := [38]) (by kernel_rfl) (by simp) ?_
  refine AllReadyH.cons (o := { dst := some 50, op := .call { callee := .value (.func 91), args := #[.tmp 43, .tmp 46, .tmp 49], argTypes := #[4, 4, 4] }, type := 4, pos := "l06_form.go:126", after := #[{ on := 31, ground := .data }, { on := 34, ground := .data }, { on := 37, ground := .data }, { on := 34, ground := .chain }, { on := 29, ground := .guard }], guard := some (29, true) }) rfl (fun K hK => ?_) AllReadyH.nil
  go_simp
  go_at_call 91
  have hp := hHeld.1
  refine (as_for _ _ _ _).mono ?_
  rintro e w' ⟨rfl, rfl⟩
  (first | rw [hr1.out] | rw [hr2.out] | rw [hr3.out] | rw [hr4.out])
  have hN := hp
  clear hp
  (try go_wp2_with fail)
  refine hK.out _ _ ?_ (fun hHeld2 => ?_)
  · (try dsimp only) <;> (first | exact keepT hN | exact keepT h0)
  clear hK K hHeld
  have hHeld := hHeld2
  clear hHeld2
  (try simp only [Act.put, z1, z2, z3])
  refine wpAnyH_take (i := 39) (oi := { dst := some 51, op := .pick (.tmp 41) (.tmp 50) (.const (.bool false)), type := 4, pos := "l06_form.go:124", after := #[{ on := 29, ground := .data }, { on := 38, ground := .data }], guard := none }) (v := ?_) rfl (by kernel_rfl) (by kernel_rfl) (by kernel_rfl) (fun _ _ _ h => h) (Or.inl ⟨by rfl, ?yld181⟩) hHeld ?nxt181
  case yld181 => (intro w hSw; (try dsimp only at hSw); go_simp) <;> with_reducible rfl
  (try simp only [Act.put, z1, z2, z3])
  refine wpAnyH_take (i := 40) (oi := { dst := some 52, op := .move (.tmp 51), type := 4, pos := "l06_form.go:124", after := #[{ on := 39, ground := .data }, { on := 38, ground := .chain }], guard := none }) (v := ?_) rfl (by kernel_rfl) (by kernel_rfl) (by kernel_rfl) (fun _ _ _ h => h) (Or.inl ⟨by rfl, ?yld182⟩) hHeld ?nxt182
  case yld182 => (intro w hSw; (try dsimp only at hSw); go_simp) <;> with_reducible rfl
  (try simp only [Act.put, z1, z2, z3])
  refine wpAnyH_take (i := 41) (oi := { dst := some 53, op := .fieldAddr 121 (.tmp 3) 4, type := 0, pos := "l06_form.go:124", after := #[{ on := 40, ground := .guard }], guard := some (40, true) }) (v := ?_) rfl (by kernel_rfl) (by kernel_rfl) (by kernel_rfl) (fun _ _ _ h => h) (Or.inl ⟨by rfl, ?yld183⟩) hHeld ?nxt183
  case yld183 => (intro w hSw; (try dsimp only at hSw); go_simp) <;> with_reducible rfl
  (try simp only [Act.put, z1, z2, z3])
  refine wpAnyH_take (i := 42) (oi := { dst := some 54, op := .load 2 (.tmp 53), type := 2, pos := "l06_form.go:124", after := #[{ on := 41, ground := .data }, { on := 40, ground := .guard }], guard := some (40, true) }) (v := ?_) rfl (by kernel_rfl) (by kernel_rfl) (by kernel_rfl) (fun _ _ _ h => h) (Or.inl ⟨by rfl, ?yld184⟩) hHeld ?nxt184
  case yld184 => (intro w hSw; (try dsimp only at hSw); go_simp) <;> with_reducible rfl
  (try simp only [Act.put, z1, z2, z3])
  refine wpAnyH_take (i := 43) (oi := { dst := some 55, op := .binOp .neq 2 (.tmp 54) (.const (.int .i64 0)) 2, type := 4, pos := "l06_form.go:124", after := #[{ on := 42, ground := .data }, { on := 40, ground := .guard }], guard := some (40, true) }) (v := ?_) rfl (by kernel_rfl) (by kernel_rfl) (by kernel_rfl) (fun _ _ _ h => h) (Or.inl ⟨by rfl, ?yld185⟩) hHeld ?nxt185
  case yld185 => (intro w hSw; (try dsimp only at hSw); go_simp) <;> with_reducible rfl
  (try simp only [Act.put, z1, z2, z3])
  refine wpAnyH_take (i := 44) (oi := { dst := some 56, op := .fieldAddr 54 (.tmp 1) 6, type := 0, pos := "l06_form.go:124", after := #[{ on := 40, ground := .guard }], guard := some (40, true) }) (v := ?_) rfl (by kernel_rfl) (by kernel_rfl) (by kernel_rfl) (fun _ _ _ h => h) (Or.inl ⟨by rfl, ?yld186⟩) hHeld ?nxt186
  case yld186 => (intro w hSw; (try dsimp only at hSw); go_simp) <;> with_reducible rfl
  (try simp only [Act.put, z1, z2, z3])
  refine wpAnyH_take (i := 45) (oi := { dst := some 57, op := .load 31 (.tmp 56), type := 31, pos := "l06_form.go:124", after := #[{ on := 44, ground := .data }, { on := 40, ground := .guard }], guard := some (40, true) }) (v := ?_) rfl (by kernel_rfl) (by kernel_rfl) (by kernel_rfl) (fun _ _ _ h => h) (Or.inl ⟨by rfl, ?yld187⟩) hHeld ?nxt187
  case yld187 => (intro w hSw; (try dsimp only at hSw); go_simp) <;> with_reducible rfl
  (try simp only [Act.put, z1, z2, z3])
  refine wpAnyH_take (i := 47) (oi := { dst := some 59, op := .fieldAddr 121 (.tmp 3) 4, type := 0, pos := "l06_form.go:124", after := #[{ on := 40, ground := .guard }], guard := some (40, true) }) (v := ?_) rfl (by kernel_rfl) (by kernel_rfl) (by kernel_rfl) (fun _ _ _ h => h) (Or.inl ⟨by rfl, ?yld188⟩) hHeld ?nxt188
  case yld188 => (intro w hSw; (try dsimp only at hSw); go_simp) <;> with_reducible rfl
  (try simp only [Act.put, z1, z2, z3])
  refine wpAnyH_take (i := 48) (oi := { dst := some 60, op := .load 2 (.tmp 59), type := 2, pos := "l06_form.go:124", after := #[{ on := 47, ground := .data }, { on := 40, ground := .guard }], guard := some (40, true) }) (v := ?_) rfl (by kernel_rfl) (by kernel_rfl) (by kernel_rfl) (fun _ _ _ h => h) (Or.inl ⟨by rfl, ?yld189⟩) hHeld ?nxt189
  case yld189 => (intro w hSw; (try dsimp only at hSw); go_simp) <;> with_reducible rfl
  (try simp only [Act.put, z1, z2, z3])
  refine wpAnyH_take (i := 50) (oi := { dst := some 62, op := .fieldAddr 54 (.tmp 1) 6, type := 0, pos := "l06_form.go:124", after := #[{ on := 40, ground := .guard }], guard := some (40, true) }) (v := ?_) rfl (by kernel_rfl) (by kernel_rfl) (by kernel_rfl) (fun _ _ _ h => h) (Or.inl ⟨by rfl, ?yld190⟩) hHeld ?nxt190
  case yld190 => (intro w hSw; (try dsimp only at hSw); go_simp) <;> with_reducible rfl
  (try simp only [Act.put, z1, z2, z3])
  refine wpAnyH_take (i := 51) (oi := { dst := some 63, op := .load 31 (.tmp 62), type := 31, pos := "l06_form.go:124", after := #[{ on := 50, ground := .data }, { on := 40, ground := .guard }], guard := some (40, true) }) (v := ?_) rfl (by kernel_rfl) (by kernel_rfl) (by kernel_rfl) (fun _ _ _ h => h) (Or.inl ⟨by rfl, ?yld191⟩) hHeld ?nxt191
  case yld191 => (intro w hSw; (try dsimp only at hSw); go_simp) <;> with_reducible rfl
  (try simp only [Act.put, z1, z2, z3])
  refine wpAnyH_take (i := 52) (oi := { dst := some 64, op := .call { callee := .builtin .len, args := #[.tmp 63], argTypes := #[31] }, type := 3, pos := "l06_form.go:124", after := #[{ on := 51, ground := .data }, { on := 40, ground := .guard }], guard := some (40, true) }) (v := ?_) rfl (by kernel_rfl) (by kernel_rfl) (by kernel_rfl) (fun _ _ _ h => h) (Or.inl ⟨by rfl, ?yld192⟩) hHeld ?nxt192
  case yld192 => (intro w hSw; (try dsimp only at hSw); go_simp) <;> with_reducible rfl
  (try simp only [Act.put, z1, z2, z3])
  refine wpAnyH_take (i := 53) (oi := { dst := some 65, op := .binOp .eql 3 (.tmp 64) (.const (.int .i64 0)) 3, type := 4, pos := "l06_form.go:124", after := #[{ on := 52, ground := .data }, { on := 40, ground := .guard }], guard := some (40, true) }) (v := ?_) rfl (by kernel_rfl) (by kernel_rfl) (by kernel_rfl) (fun _ _ _ h => h) (Or.inl ⟨by rfl, ?yld193⟩) hHeld ?nxt193
  case yld193 => (intro w hSw; (try dsimp only at hSw); go_simp) <;> with_reducible rfl
  (try simp only [Act.put, z1, z2, z3])
  refine wpAnyH_ready (rs := [46]) (by kernel_rfl) (by simp) ?_
  refine AllReadyH.cons (o := { dst := some 58, op := .call { callee := .value (.func 54), args := #[.tmp 57], argTypes := #[31] }, type := 2, pos := "l06_form.go:127", after := #[{ on := 45, ground := .data }, { on := 40, ground := .chain }, { on := 40, ground := .guard }], guard := some (40, true) }) rfl (fun K hK => ?_) AllReadyH.nil
  go_simp
  go_at_call 54
  have hp := hHeld.1
  refine (expr_tells a cap ps _ (HP.out.on hp.2.2) hcap (HE.out.1.on hp.2.2)).mono ?_
  rintro e w' ⟨rfl, hB⟩
  rw [h4.out]
  have hN := hp.on hB
  clear hp hB
  (try go_wp2_with fail)
  refine hK.out _ _ ?_ (fun hHeld2 => ?_)
  · (try dsimp only) <;> (first | exact keepT hN | exact keepT h0)
  clear hK K hHeld
  have hHeld := hHeld2
  clear hHeld2
  (try simp only [Act.put, z1, z2, z3])
  refine wpAnyH_take (i := 49) (oi := { dst := some 61, op := .binOp .eql 2 (.tmp 58) (.tmp 60) 2, type := 4, pos := "l06_form.go:124", after := #[{ on := 46, ground := .data }, { on := 48, ground := .data }, { on := 40, ground := .guard }], guard := some (40, true) }) (v := ?_) rfl (by kernel_rfl) (by kernel_rfl) (by kernel_rfl) (fun _ _ _ h => h) (Or.inl ⟨by rfl, ?yld194⟩) hHeld ?nxt194
  case yld194 => (intro w hSw; (try dsimp only at hSw); go_simp) <;> with_reducible rfl
  (try simp only [Act.put, z1, z2, z3])
  refine wpAnyH_ready (rs := [54]) (by kernel_rfl) (by simp) ?_
  refine AllReadyH.cons (o := { dst := some 66, op := .call { callee := .value (.func 91), args := #[.tmp 55, .tmp 61, .tmp 65], argTypes := #[4, 4, 4] }, type := 4, pos := "l06_form.go:127", after := #[{ on := 43, ground := .data }, { on := 49, ground := .data }, { on := 53, ground := .data }, { on := 46, ground := .chain }, { on := 40, ground := .guard }], guard := some (40, true) }) rfl (fun K hK => ?_) AllReadyH.nil
  go_simp
  go_at_call 91
  have hp := hHeld.1
  refine (as_for _ _ _ _).mono ?_
  rintro e w' ⟨rfl, rfl⟩
  (first | rw [hr1.out] | rw [hr2.out] | rw [hr3.out] | rw [hr4.out])
  have hN := hp
  clear hp
  (try go_wp2_with fail)
  refine hK.out _ _ ?_ (fun hHeld2 => ?_)
  · (try dsimp only) <;> (first | exact keepT hN | exact keepT h0)
  clear hK K hHeld
  have hHeld := hHeld2
  clear hHeld2
  (try simp only [Act.put, z1, z2, z3])
  refine wpAnyH_take (i := 55) (oi := { dst := some 67, op := .pick (.tmp 52) (.tmp 66) (.const (.bool false)), type := 4, pos := "l06_form.go:124", after := #[{ on := 40, ground := .data }, { on := 54, ground := .data }], guard := none }) (v := ?_) rfl (by kernel_rfl) (by kernel_rfl) (by kernel_rfl) (fun _ _ _ h => h) (Or.inl ⟨by rfl, ?yld195⟩) hHeld ?nxt195
  case yld195 => (intro w hSw; (try dsimp only at hSw); go_simp) <;> with_reducible rfl
  (try simp only [Act.put, z1, z2, z3])
  refine wpAnyH_take (i := 56) (oi := { dst := some 68, op := .move (.tmp 67), type := 4, pos := "l06_form.go:124", after := #[{ on := 55, ground := .data }, { on := 54, ground := .chain }], guard := none }) (v := ?_) rfl (by kernel_rfl) (by kernel_rfl) (by kernel_rfl) (fun _ _ _ h => h) (Or.inl ⟨by rfl, ?yld196⟩) hHeld ?nxt196
  case yld196 => (intro w hSw; (try dsimp only at hSw); go_simp) <;> with_reducible rfl
  (try simp only [Act.put, z1, z2, z3])
  refine wpAnyH_take (i := 57) (oi := { dst := some 69, op := .fieldAddr 121 (.tmp 3) 3, type := 0, pos := "l06_form.go:124", after := #[{ on := 56, ground := .guard }], guard := some (56, true) }) (v := ?_) rfl (by kernel_rfl) (by kernel_rfl) (by kernel_rfl) (fun _ _ _ h => h) (Or.inl ⟨by rfl, ?yld197⟩) hHeld ?nxt197
  case yld197 => (intro w hSw; (try dsimp only at hSw); go_simp) <;> with_reducible rfl
  (try simp only [Act.put, z1, z2, z3])
  refine wpAnyH_take (i := 58) (oi := { dst := some 70, op := .load 4 (.tmp 69), type := 4, pos := "l06_form.go:124", after := #[{ on := 57, ground := .data }, { on := 56, ground := .guard }], guard := some (56, true) }) (v := ?_) rfl (by kernel_rfl) (by kernel_rfl) (by kernel_rfl) (fun _ _ _ h => h) (Or.inl ⟨by rfl, ?yld198⟩) hHeld ?nxt198
  case yld198 => (intro w hSw; (try dsimp only at hSw); go_simp) <;> with_reducible rfl
  (try simp only [Act.put, z1, z2, z3])
  refine wpAnyH_take (i := 59) (oi := { dst := some 71, op := .move (.tmp 70), type := 4, pos := "l06_form.go:124", after := #[{ on := 58, ground := .data }, { on := 56, ground := .chain }, { on := 56, ground := .guard }], guard := some (56, true) }) (v := ?_) rfl (by kernel_rfl) (by kernel_rfl) (by kernel_rfl) (fun _ _ _ h => h) (Or.inl ⟨by rfl, ?yld199⟩) hHeld ?nxt199
  case yld199 => (intro w hSw; (try dsimp only at hSw); go_simp) <;> with_reducible rfl
  (try simp only [Act.put, z1, z2, z3])
  refine wpAnyH_take (i := 60) (oi := { dst := some 72, op := .fieldAddr 54 (.tmp 1) 7, type := 0, pos := "l06_form.go:124", after := #[{ on := 59, ground := .guard }], guard := some (59, false) }) (v := ?_) rfl (by kernel_rfl) (by kernel_rfl) (by kernel_rfl) (fun _ _ _ h => h) (Or.inl ⟨by rfl, ?yld200⟩) hHeld ?nxt200
  case yld200 => (intro w hSw; (try dsimp only at hSw); go_simp) <;> with_reducible rfl
  (try simp only [Act.put, z1, z2, z3])
  refine wpAnyH_take (i := 61) (oi := { dst := some 73, op := .load 4 (.tmp 72), type := 4, pos := "l06_form.go:124", after := #[{ on := 60, ground := .data }, { on := 59, ground := .guard }], guard := some (59, false) }) (v := ?_) rfl (by kernel_rfl) (by kernel_rfl) (by kernel_rfl) (fun _ _ _ h => h) (Or.inl ⟨by rfl, ?yld201⟩) hHeld ?nxt201
  case yld201 => (intro w hSw; (try dsimp only at hSw); go_simp) <;> with_reducible rfl
  (try simp only [Act.put, z1, z2, z3])
  refine wpAnyH_take (i := 62) (oi := { dst := some 74, op := .unOp .not 4 (.tmp 73), type := 4, pos := "l06_form.go:124", after := #[{ on := 61, ground := .data }, { on := 59, ground := .guard }], guard := some (59, false) }) (v := ?_) rfl (by kernel_rfl) (by kernel_rfl) (by kernel_rfl) (fun _ _ _ h => h) (Or.inl ⟨by rfl, ?yld202⟩) hHeld ?nxt202
  case yld202 => (intro w hSw; (try dsimp only at hSw); go_simp) <;> with_reducible rfl
  (try simp only [Act.put, z1, z2, z3])
  refine wpAnyH_take (i := 63) (oi := { dst := some 75, op := .pick (.tmp 71) (.const (.bool true)) (.tmp 74), type := 4, pos := "l06_form.go:124", after := #[{ on := 59, ground := .data }, { on := 62, ground := .data }, { on := 56, ground := .guard }], guard := some (56, true) }) (v := ?_) rfl (by kernel_rfl) (by kernel_rfl) (by kernel_rfl) (fun _ _ _ h => h) (Or.inl ⟨by rfl, ?yld203⟩) hHeld ?nxt203
  case yld203 => (intro w hSw; (try dsimp only at hSw); go_simp) <;> with_reducible rfl
  (try simp only [Act.put, z1, z2, z3])
  refine wpAnyH_take (i := 64) (oi := { dst := some 76, op := .pick (.tmp 68) (.tmp 75) (.const (.bool false)), type := 4, pos := "l06_form.go:124", after := #[{ on := 56, ground := .data }, { on := 63, ground := .data }], guard := none }) (v := ?_) rfl (by kernel_rfl) (by kernel_rfl) (by kernel_rfl) (fun _ _ _ h => h) (Or.inl ⟨by rfl, ?yld204⟩) hHeld ?nxt204
  case yld204 => (intro w hSw; (try dsimp only at hSw); go_simp) <;> with_reducible rfl
  (try simp only [Act.put, z1, z2, z3])
  refine wpAnyH_take (i := 65) (oi := { dst := some 2, op := .assign (.tmp 76), type := 4, pos := "l06_form.go:124", after := ([{ on := 64, ground := .data }, { on := 59, ground := .chain }, { on := 0, ground := .phase }, { on := 1, ground := .phase }, { on := 2, ground := .phase }, { on := 3, ground := .phase }, { on := 4, ground := .phase }, { on := 5, ground := .phase }, { on := 6, ground := .phase }, { on := 7, ground := .phase }, { on := 8, ground := .phase }, { on := 9, ground := .phase }, { on := 10, ground := .phase }, { on := 11, ground := .phase }, { on := 12, ground := .phase }, { on := 13, ground := .phase }, { on := 14, ground := .phase }, { on := 15, ground := .phase }, { on := 16, ground := .phase }, { on := 17, ground := .phase }, { on := 18, ground := .phase }, { on := 19, ground := .phase }, { on := 20, ground := .phase }, { on := 21, ground := .phase }, { on := 22, ground := .phase }, { on := 23, ground := .phase }, { on := 24, ground := .phase }, { on := 25, ground := .phase }, { on := 26, ground := .phase }, { on := 27, ground := .phase }, { on := 28, ground := .phase }, { on := 29, ground := .phase }, { on := 30, ground := .phase }].append [{ on := 31, ground := .phase }, { on := 32, ground := .phase }, { on := 33, ground := .phase }, { on := 34, ground := .phase }, { on := 35, ground := .phase }, { on := 36, ground := .phase }, { on := 37, ground := .phase }, { on := 38, ground := .phase }, { on := 39, ground := .phase }, { on := 40, ground := .phase }, { on := 41, ground := .phase }, { on := 42, ground := .phase }, { on := 43, ground := .phase }, { on := 44, ground := .phase }, { on := 45, ground := .phase }, { on := 46, ground := .phase }, { on := 47, ground := .phase }, { on := 48, ground := .phase }, { on := 49, ground := .phase }, { on := 50, ground := .phase }, { on := 51, ground := .phase }, { on := 52, ground := .phase }, { on := 53, ground := .phase }, { on := 54, ground := .phase }, { on := 55, ground := .phase }, { on := 56, ground := .phase }, { on := 57, ground := .phase }, { on := 58, ground := .phase }, { on := 59, ground := .phase }, { on := 60, ground := .phase }, { on := 61, ground := .phase }, { on := 62, ground := .phase }, { on := 63, ground := .phase }, { on := 64, ground := .phase }]).toArray, guard := none }) (v := ?_) rfl (by kernel_rfl) (by kernel_rfl) (by kernel_rfl) (fun _ _ _ h => h) (Or.inl ⟨by rfl, ?yld205⟩) hHeld ?nxt205
  case yld205 => (intro w hSw; (try dsimp only at hSw); go_simp) <;> with_reducible rfl
  (try simp only [Act.put, z1, z2, z3])
  refine wpAnyH_done (by kernel_rfl) ?_ _
  have HZ := hid hHeld.1
  clear hHeld h0
  go_wp2_with fail
  go_ret
  exact ⟨rfl, HZ.out.2.2⟩
end Go.Proofs.YtaofdckdmffaiaaGreatDoor.ItmI
