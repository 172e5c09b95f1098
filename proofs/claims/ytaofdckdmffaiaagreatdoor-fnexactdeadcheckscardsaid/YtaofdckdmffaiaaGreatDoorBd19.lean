/- Texts of ours, laid together: PrtBehind, PrtTop, PrtTopT. -/
import Derived.Test.YtaofdckdmffaiaaGreatDoorBd11
import Derived.Deep.Cut
import Derived.Deep.CutRange
import Derived.Deep.RegionHeld
/- The program finds what is left behind an expression. -/
namespace Go.Proofs.YtaofdckdmffaiaaGreatDoor.PrtI
open Go.RowKit
open PrtW PrtM NameW PrtS

theorem num_truth (k : Nat) (h1 : 1 ≤ k) (h2 : k ≤ 13) : numB (k : Int) = !truthF k := by
  rcases (by omega : k = 1 ∨ k = 2 ∨ k = 3 ∨ k = 4 ∨ k = 5 ∨ k = 6 ∨ k = 7 ∨ k = 8 ∨ k = 9 ∨ k = 10 ∨ k = 11 ∨ k = 12 ∨ k = 13) with rfl | rfl | rfl | rfl | rfl | rfl | rfl | rfl | rfl | rfl | rfl | rfl | rfl <;> decide
theorem many_inner (k : Nat) (h1 : 1 ≤ k) (h2 : k ≤ 13) : many (k : Int) = innerF k := by
  rcases (by omega : k = 1 ∨ k = 2 ∨ k = 3 ∨ k = 4 ∨ k = 5 ∨ k = 6 ∨ k = 7 ∨ k = 8 ∨ k = 9 ∨ k = 10 ∨ k = 11 ∨ k = 12 ∨ k = 13) with rfl | rfl | rfl | rfl | rfl | rfl | rfl | rfl | rfl | rfl | rfl | rfl | rfl <;> decide
theorem wants_truths (k : Nat) (h1 : 1 ≤ k) (h2 : k ≤ 13) (h3 : 0 < innerF k) : wantsB (k : Int) = !truthsF k := by
  rcases (by omega : k = 1 ∨ k = 2 ∨ k = 3 ∨ k = 4 ∨ k = 5 ∨ k = 6 ∨ k = 7 ∨ k = 8 ∨ k = 9 ∨ k = 10 ∨ k = 11 ∨ k = 12 ∨ k = 13) with rfl | rfl | rfl | rfl | rfl | rfl | rfl | rfl | rfl | rfl | rfl | rfl | rfl <;> first | decide | (revert h3; decide)
theorem behind_head {d : Nat} {l r : List Pt} (h : behind d l = some r) : 0 < l.length ∧ 1 ≤ (l.headD pt0).1 ∧ (l.headD pt0).1 ≤ 13 := by
  cases d with
  | zero => cases h
  | succ d =>
    cases l with
    | nil => cases h
    | cons p q =>
      rw [behind_succ] at h
      by_cases hp : partB p = true
      · exact ⟨by simp, part_in (x := p.1) (n := p.2.1) (t := p.2.2) hp⟩
      · rw [if_neg hp] at h; cases h
/-- what the program makes of one expression inside of an op -/
theorem child_by (d k : Nat) (l : List Pt) (h1 : 1 ≤ k) (h2 : k ≤ 13) (h3 : 0 < innerF k) :
    (behind d l = none → child d k l = none) ∧ ∀ r j, behind d l = some r → (l.headD pt0).1 = ((j : Nat) : Int) → child d k l = if truthF j = truthsF k then some r else none := by
  constructor
  · intro h; unfold child; rw [h]; split <;> rfl
  · intro r j h hj
    obtain ⟨_, hl, hh⟩ := behind_head h
    unfold child
    rw [h, hj, num_truth j (by omega) (by omega), wants_truths k h1 h2 h3]
    cases truthF j <;> cases truthsF k <;> rfl
theorem below_one (w : World) (o : Obj) : Below w.heap.size w (w.alloc o) := (Below.refl _ _).alloc (Nat.le_refl _) o
theorem parts_tail {w : World} {a : Option Addr} {p : Pt} {r : List Pt} (h : Parts w a (p :: r)) : ∀ b o, a = some ⟨b, o, none⟩ → Parts w (some ⟨b, o + 3, none⟩) r := by
  intro b o ha
  refine ⟨by have := h.1; simp at this; omega, fun i hi => ?_, fun hp => ?_⟩
  · have := h.2.1 (i + 1) (by simp; omega)
    simpa using this
  · obtain ⟨b1, o1, ha1, hb, hc⟩ := h.2.2 (by simp)
    rw [ha] at ha1
    cases ha1
    refine ⟨b, o + 3, rfl, hb, fun i hi => ?_⟩
    have := hc (i + 1) (by simp; omega)
    simp only [List.getD_cons_succ] at this
    rw [show o + (i + 1) * 3 = o + 3 + i * 3 by omega] at this
    exact this

set_option maxRecDepth 10000 in
set_option maxHeartbeats 1600000 in
theorem impl_behind : ∀ (d : Nat), d ≤ 6 → ∀ (a : Option Addr) (cap : Nat) (ps : List Pt) (w : World), Parts w a ps → ps.length ≤ cap → EnvS w →
    Calls Tryz.prog 84 #[.slice a ps.length cap, .int .i64 d] w fun e w' => (match behind d ps with
      | none => e = .returned (.tuple #[.slice none 0 0, .bool false])
      | some r => ∃ a' cap', e = .returned (.tuple #[.slice a' r.length cap', .bool true]) ∧ Parts w' a' r ∧ r.length ≤ cap') ∧ Below w.heap.size w w' := by
  intro d
  induction d with
  | zero =>
    intro _ a cap ps w hP hcap hE
    have hl := hP.1
    have e : behind 0 ps = none := rfl
    rw [e]
    clear e
    by_cases h0 : ps.length = 0
    · go_enter Tryz.func84, Tryz.ntmps84
      go_wp2_with fail
      go_ret2
      exact ⟨rfl, by go_grown⟩
    · have h0' : (((ps.length : Nat) : Int) == 0) = false := by rw [beq_eq_false_iff_ne]; omega
      go_enter Tryz.func84, Tryz.ntmps84
      go_wp2_with fail
      go_ret2
      exact ⟨rfl, by go_grown⟩
  | succ d ih =>
    intro hd a cap ps w hP hcap hE
    have HI := hid ih
    have HE := hid hE
    clear ih hE
    cases ps with
    | nil =>
      rw [behind_nil]
      go_enter Tryz.func84, Tryz.ntmps84
      go_wp2_with fail
      go_ret2
      exact ⟨rfl, by go_grown⟩
    | cons p r =>
      have HP := hid hP
      have hl := hP.1
      clear hP
      obtain ⟨b, o, x, n, t, rfl, hb, hg, hf, c0, c1, c2⟩ := parts_at HP.out (show 0 < (p :: r).length by simp)
      have hp : p = (x, n, t) := hg
      subst hp
      rw [behind_succ]
      simp only [Nat.zero_mul, Nat.add_zero] at c0 c1 c2
      have hsz := hf.2.2
      obtain ⟨q, hq⟩ : ∃ q, Hid (partB (x, n, t) = q) := ⟨_, rfl⟩
      rw [hq.out]
      have h0 : ((((x, n, t) :: r).length : Nat) : Int) = (r.length : Int) + 1 := by simp
      have h0' : (((r.length : Int) + 1) == 0) = false := by rw [beq_eq_false_iff_ne]; omega
      have h0'' : (((d : Int) + 1) == 0) = false := by rw [beq_eq_false_iff_ne]; omega
      cases q
      · rw [if_neg (by decide)]
        go_enter Tryz.func84, Tryz.ntmps84
        go_wp2_with fail
        refine (impl_part x n t (by unfold maxLen; omega) w HE.out).mono ?_
        rintro e w1 ⟨rfl, hB1⟩
        rw [hq.out]
        have HB1 := hid hB1
        clear hB1 c0 c1 c2 HI
        go_wp2_with fail
        go_ret2
        exact ⟨rfl, HB1.out⟩
      · rw [if_pos rfl]
        have hx := part_in hq.out
        obtain ⟨k, rfl⟩ : ∃ k : Nat, x = k := ⟨x.toNat, by omega⟩
        have hk13 : k < 14 := by omega
        rw [many_inner k (by omega) (by omega)]
        obtain ⟨F, HF⟩ : ∃ F, Hid (iter (child d (k : Int)) (innerF k) (some r) = F) := ⟨_, rfl⟩
        rw [HF.out]
        have hin2 : innerF k ≤ 2 := by rw [← many_inner k (by omega) (by omega)]; exact many_le _
        go_enter Tryz.func84, Tryz.ntmps84
        go_wp2_with fail
        refine (impl_part k n t (by unfold maxLen; omega) w HE.out).mono ?_
        rintro e w1 ⟨rfl, hB1⟩
        rw [hq.out]
        have HB1 := hid hB1
        rw [← hB1.cell (p := ⟨b, _, none⟩) hb] at c0
        have HE1 := hid (HE.out.on hB1)
        have hg1 := HE1.out.1
        obtain ⟨e0, e1, e2, e3, e4, e5, e6⟩ := HE1.out.2 k (by omega)
        have HP1 := hid (parts_tail (HP.out.on hB1) b o rfl)
        obtain ⟨s1, hs1⟩ : ∃ s1, innerF k = s1 := ⟨_, rfl⟩
        obtain ⟨s2, hs2⟩ : ∃ s2, truthsF k = s2 := ⟨_, rfl⟩
        rw [hs1] at e1 hin2
        rw [hs2] at e2
        have HS1 := hid hs1
        have HS2 := hid hs2
        rw [hs1] at HF
        generalize truthF k = s0 at *
        generalize namedF k = s3 at *
        generalize lowF k = s4 at *
        generalize highF k = s5 at *
        generalize signF k = s6 at *
        clear hB1 c1 c2 hs1 hs2 HP
        have hbr : b < w1.heap.size := Nat.lt_of_lt_of_le hb HB1.out.size
        go_upto_region 4 with fail
        go_cut [7] from 30 to 31 (fun s wx => ∃ (a' : Option Addr) (cap' : Nat), s = .slice a' r.length cap' ∧ r.length ≤ cap' ∧ Parts w1 a' r ∧ wx = w1.alloc (.cells #[.bool s0, .int .i64 s1, .bool s2, .bool s3, .int .i64 s4, .int .i64 s5, .string s6] 100))
        case first =>
          by_cases hc1 : cap = 1
          · subst hc1
            go_wp2_with fail
            go_meet
            obtain rfl : r = [] := List.length_eq_zero_iff.1 (by have h := hcap; simp only [List.length_cons] at h; omega)
            exact ⟨_, _, rfl, Nat.le_refl _, Parts.nil _ _, rfl⟩
          · go_wp2_with fail
            go_meet
            exact ⟨_, _, rfl, by have h := hcap; simp only [List.length_cons] at h; omega, HP1.out, rfl⟩
        case rest =>
          obtain ⟨a', cap', rfl, hcap', hP', rfl⟩ := hcut
          have HP' := hid (hP'.alloc (.cells #[.bool s0, .int .i64 s1, .bool s2, .bool s3, .int .i64 s4, .int .i64 s5, .string s6] 100))
          have HE2 := hid (HE1.out.on (below_one w1 (.cells #[.bool s0, .int .i64 s1, .bool s2, .bool s3, .int .i64 s4, .int .i64 s5, .string s6] 100)))
          have HB2 : Hid (Below w.heap.size w (w1.alloc (.cells #[.bool s0, .int .i64 s1, .bool s2, .bool s3, .int .i64 s4, .int .i64 s5, .string s6] 100))) := HB1.out.trans ((below_one w1 _).mono HB1.out.size)
          have k1 : (w1.alloc (.cells #[.bool s0, .int .i64 s1, .bool s2, .bool s3, .int .i64 s4, .int .i64 s5, .string s6] 100)).cell? ⟨w1.heap.size, 1, none⟩ = some (.int .i64 s1) := by go_simp
          have k2 : (w1.alloc (.cells #[.bool s0, .int .i64 s1, .bool s2, .bool s3, .int .i64 s4, .int .i64 s5, .string s6] 100)).cell? ⟨w1.heap.size, 2, none⟩ = some (.bool s2) := by go_simp
          have hlt6 : w1.heap.size < (w1.alloc (.cells #[.bool s0, .int .i64 s1, .bool s2, .bool s3, .int .i64 s4, .int .i64 s5, .string s6] 100)).heap.size := by simp
          clear hP' HP1 e0 e1 e2 e3 e4 e5 e6 c0 HB1 HE1
          generalize w1.alloc (.cells #[.bool s0, .int .i64 s1, .bool s2, .bool s3, .int .i64 s4, .int .i64 s5, .string s6] 100) = W2 at *
          generalize w1.heap.size = g6 at *
          go_wp2_with fail
          clear k1
          go_loopw [7, 34] (fun left cnt wr => ∃ (i : Nat) (l : List Pt) (al : Option Addr) (cl : Nat), i ≤ s1 ∧ cnt = .int .i64 i ∧ left = .slice al l.length cl ∧ Hid (Parts wr al l) ∧ l.length ≤ cl ∧ l.length ≤ 1048576 ∧ Hid (iter (child d (k : Int)) (s1 - i) (some l) = F) ∧ Below W2.heap.size W2 wr) (fun _ cnt _ => s1 - (intOf cnt).toNat)
          case atStart => exact ⟨0, r, a', cap', Nat.zero_le _, rfl, rfl, HP', hcap', by have h := hl; simp only [List.length_cons] at h; omega, HF, Below.refl _ _⟩
          case round =>
            obtain ⟨i, l, al, cl, hi, rfl, rfl, hPl, hcl, hll, hit, hbel⟩ := hrel
            by_cases hlt : i < s1
            · have hk1 : 1 ≤ k := by omega
              have hk2 : k ≤ 13 := by omega
              have h3 : 0 < innerF k := by rw [HS1.out]; omega
              obtain ⟨hno, hyes⟩ := child_by d k l hk1 hk2 h3
              rw [show s1 - i = (s1 - (i + 1)) + 1 by omega] at hit
              have hit2 : Hid (iter (child d (k : Int)) (s1 - (i + 1)) (child d (k : Int) l) = F) := hit.out
              have HN := hid hno
              have HY := hid hyes
              have HBL := hid hbel
              rw [← hbel.cell (p := ⟨g6, _, none⟩) hlt6] at k2
              clear hno hyes hit hbel h3
              go_wp2_with fail
              refine (HI.out (by omega) al cl l wr hPl.out hcl (HE2.out.on HBL.out)).mono ?_
              rintro e w3 ⟨hcase, hB3⟩
              have HBL3 : Hid (Below W2.heap.size W2 w3) := HBL.out.trans (hB3.mono HBL.out.size)
              cases hbd : behind d l with
              | none =>
                rw [hbd] at hcase
                obtain rfl := hcase
                rw [HN.out hbd, iter_none] at hit2
                obtain rfl := hit2.out
                clear hbd hB3 HN HY hit2
                go_wp2_with fail
                refine wp_region_held_drew (S := (fun _ => True)) (by kernel_rfl) ?_ (fun hHeld => ?_)
                · (try dsimp only) <;> (trivial)
                refine wpAnyH_take (i := 0) (oi := { dst := some 43, op := Go.Op.move (Go.Operand.tmp 9), type := 4, pos := "l04_expr.go:95", after := #[], guard := none }) (v := ?_) rfl (by kernel_rfl) (by kernel_rfl) (by kernel_rfl) (fun _ _ _ h => h) (Or.inl ⟨by rfl, ?yld1⟩) hHeld ?nxt1
                case yld1 => (intro w hSw; (try dsimp only at hSw); go_simp) <;> with_reducible rfl
                (try simp only [Act.put, List.setIfInBounds_toArray, List.set_cons_zero, List.set_cons_succ])
                refine wpAnyH_take (i := 1) (oi := { dst := some 44, op := Go.Op.unOp Go.UnOp.not 4 (Go.Operand.tmp 43), type := 4, pos := "l04_expr.go:95", after := #[{ on := 0, ground := Go.Ground.data }], guard := none }) (v := ?_) rfl (by kernel_rfl) (by kernel_rfl) (by kernel_rfl) (fun _ _ _ h => h) (Or.inl ⟨by rfl, ?yld2⟩) hHeld ?nxt2
                case yld2 => (intro w hSw; (try dsimp only at hSw); go_simp) <;> with_reducible rfl
                (try simp only [Act.put, List.setIfInBounds_toArray, List.set_cons_zero, List.set_cons_succ])
                refine wpAnyH_take (i := 2) (oi := { dst := some 45, op := Go.Op.move (Go.Operand.tmp 44), type := 4, pos := "l04_expr.go:95", after := #[{ on := 1, ground := Go.Ground.data }], guard := none }) (v := ?_) rfl (by kernel_rfl) (by kernel_rfl) (by kernel_rfl) (fun _ _ _ h => h) (Or.inl ⟨by rfl, ?yld3⟩) hHeld ?nxt3
                case yld3 => (intro w hSw; (try dsimp only at hSw); go_simp) <;> with_reducible rfl
                (try simp only [Act.put, List.setIfInBounds_toArray, List.set_cons_zero, List.set_cons_succ])
                refine wpAnyH_take (i := 3) (oi := { dst := some 46, op := Go.Op.move (Go.Operand.tmp 7), type := 31, pos := "l04_expr.go:95", after := #[{ on := 2, ground := Go.Ground.guard }], guard := some (2, false) }) (v := undef) rfl (by kernel_rfl) (by kernel_rfl) (by kernel_rfl) (fun _ _ _ h => h) (Or.inr ⟨by rfl, rfl⟩) hHeld ?_
                (try simp only [Act.put, List.setIfInBounds_toArray, List.set_cons_zero, List.set_cons_succ])
                refine wpAnyH_take (i := 4) (oi := { dst := some 47, op := Go.Op.indexAddr 31 (Go.Operand.tmp 46) (Go.Operand.const (Go.Value.int Go.IntKind.i64 0)), type := 0, pos := "l04_expr.go:95", after := #[{ on := 3, ground := Go.Ground.data }, { on := 2, ground := Go.Ground.guard }], guard := some (2, false) }) (v := undef) rfl (by kernel_rfl) (by kernel_rfl) (by kernel_rfl) (fun _ _ _ h => h) (Or.inr ⟨by rfl, rfl⟩) hHeld ?_
                (try simp only [Act.put, List.setIfInBounds_toArray, List.set_cons_zero, List.set_cons_succ])
                refine wpAnyH_take (i := 5) (oi := { dst := some 48, op := Go.Op.fieldAddr 56 (Go.Operand.tmp 47) 0, type := 0, pos := "l04_expr.go:95", after := #[{ on := 4, ground := Go.Ground.data }, { on := 2, ground := Go.Ground.guard }], guard := some (2, false) }) (v := undef) rfl (by kernel_rfl) (by kernel_rfl) (by kernel_rfl) (fun _ _ _ h => h) (Or.inr ⟨by rfl, rfl⟩) hHeld ?_
                (try simp only [Act.put, List.setIfInBounds_toArray, List.set_cons_zero, List.set_cons_succ])
                refine wpAnyH_take (i := 6) (oi := { dst := some 49, op := Go.Op.load 2 (Go.Operand.tmp 48), type := 2, pos := "l04_expr.go:95", after := #[{ on := 5, ground := Go.Ground.data }, { on := 2, ground := Go.Ground.guard }], guard := some (2, false) }) (v := undef) rfl (by kernel_rfl) (by kernel_rfl) (by kernel_rfl) (fun _ _ _ h => h) (Or.inr ⟨by rfl, rfl⟩) hHeld ?_
                (try simp only [Act.put, List.setIfInBounds_toArray, List.set_cons_zero, List.set_cons_succ])
                refine wpAnyH_take (i := 7) (oi := { dst := some 50, op := Go.Op.indexAddr 101 (Go.Operand.global 1) (Go.Operand.tmp 49), type := 0, pos := "l04_expr.go:95", after := #[{ on := 6, ground := Go.Ground.data }, { on := 2, ground := Go.Ground.guard }], guard := some (2, false) }) (v := undef) rfl (by kernel_rfl) (by kernel_rfl) (by kernel_rfl) (fun _ _ _ h => h) (Or.inr ⟨by rfl, rfl⟩) hHeld ?_
                (try simp only [Act.put, List.setIfInBounds_toArray, List.set_cons_zero, List.set_cons_succ])
                refine wpAnyH_take (i := 8) (oi := { dst := some 51, op := Go.Op.fieldAddr 100 (Go.Operand.tmp 50) 0, type := 0, pos := "l04_expr.go:95", after := #[{ on := 7, ground := Go.Ground.data }, { on := 2, ground := Go.Ground.guard }], guard := some (2, false) }) (v := undef) rfl (by kernel_rfl) (by kernel_rfl) (by kernel_rfl) (fun _ _ _ h => h) (Or.inr ⟨by rfl, rfl⟩) hHeld ?_
                (try simp only [Act.put, List.setIfInBounds_toArray, List.set_cons_zero, List.set_cons_succ])
                refine wpAnyH_take (i := 9) (oi := { dst := some 52, op := Go.Op.load 4 (Go.Operand.tmp 51), type := 4, pos := "l04_expr.go:95", after := #[{ on := 8, ground := Go.Ground.data }, { on := 2, ground := Go.Ground.guard }], guard := some (2, false) }) (v := undef) rfl (by kernel_rfl) (by kernel_rfl) (by kernel_rfl) (fun _ _ _ h => h) (Or.inr ⟨by rfl, rfl⟩) hHeld ?_
                (try simp only [Act.put, List.setIfInBounds_toArray, List.set_cons_zero, List.set_cons_succ])
                refine wpAnyH_take (i := 10) (oi := { dst := some 53, op := Go.Op.fieldAddr 100 (Go.Operand.tmp 6) 2, type := 0, pos := "l04_expr.go:95", after := #[{ on := 2, ground := Go.Ground.guard }], guard := some (2, false) }) (v := undef) rfl (by kernel_rfl) (by kernel_rfl) (by kernel_rfl) (fun _ _ _ h => h) (Or.inr ⟨by rfl, rfl⟩) hHeld ?_
                (try simp only [Act.put, List.setIfInBounds_toArray, List.set_cons_zero, List.set_cons_succ])
                refine wpAnyH_take (i := 11) (oi := { dst := some 54, op := Go.Op.load 4 (Go.Operand.tmp 53), type := 4, pos := "l04_expr.go:95", after := #[{ on := 10, ground := Go.Ground.data }, { on := 2, ground := Go.Ground.guard }], guard := some (2, false) }) (v := undef) rfl (by kernel_rfl) (by kernel_rfl) (by kernel_rfl) (fun _ _ _ h => h) (Or.inr ⟨by rfl, rfl⟩) hHeld ?_
                (try simp only [Act.put, List.setIfInBounds_toArray, List.set_cons_zero, List.set_cons_succ])
                refine wpAnyH_take (i := 12) (oi := { dst := some 55, op := Go.Op.binOp Go.BinOp.neq 4 (Go.Operand.tmp 52) (Go.Operand.tmp 54) 4, type := 4, pos := "l04_expr.go:95", after := #[{ on := 9, ground := Go.Ground.data }, { on := 11, ground := Go.Ground.data }, { on := 2, ground := Go.Ground.guard }], guard := some (2, false) }) (v := undef) rfl (by kernel_rfl) (by kernel_rfl) (by kernel_rfl) (fun _ _ _ h => h) (Or.inr ⟨by rfl, rfl⟩) hHeld ?_
                (try simp only [Act.put, List.setIfInBounds_toArray, List.set_cons_zero, List.set_cons_succ])
                refine wpAnyH_take (i := 13) (oi := { dst := some 56, op := Go.Op.pick (Go.Operand.tmp 45) (Go.Operand.const (Go.Value.bool true)) (Go.Operand.tmp 55), type := 4, pos := "l04_expr.go:95", after := #[{ on := 2, ground := Go.Ground.data }, { on := 12, ground := Go.Ground.data }], guard := none }) (v := ?_) rfl (by kernel_rfl) (by kernel_rfl) (by kernel_rfl) (fun _ _ _ h => h) (Or.inl ⟨by rfl, ?yld4⟩) hHeld ?nxt4
                case yld4 => (intro w hSw; (try dsimp only at hSw); go_simp) <;> with_reducible rfl
                (try simp only [Act.put, List.setIfInBounds_toArray, List.set_cons_zero, List.set_cons_succ])
                refine wpAnyH_done (by kernel_rfl) ?_ _
                go_wp2_with fail
                go_ret2
                exact ⟨rfl, (HB2.out.trans (HBL3.out.mono HB2.out.size)).drew⟩
              | some l' =>
                rw [hbd] at hcase
                obtain ⟨a3, c3, rfl, hP3, hc3⟩ := hcase
                obtain ⟨hlp, hj1, hj2⟩ := behind_head hbd
                obtain ⟨b4, o4, x4, n4, t4, rfl, hb4, hg4, hf4, d0, d1, d2⟩ := parts_at hPl.out hlp
                have hx4 : (l.headD pt0).1 = x4 := by
                  have e := drop_at l 0 hlp
                  rw [List.drop_zero] at e
                  rw [e, hg4]; rfl
                rw [hx4] at hj1 hj2
                obtain ⟨j, rfl⟩ : ∃ j : Nat, x4 = j := ⟨x4.toNat, by omega⟩
                have hch := HY.out l' j hbd hx4
                rw [HS2.out] at hch
                have HC := hid hch
                have hl' := (behind_suffix _ _ _ hbd).2
                rw [Nat.zero_mul, Nat.add_zero] at d0
                rw [← hB3.cell (p := ⟨b4, _, none⟩) hb4] at d0
                have hlt63 : g6 < wr.heap.size := Nat.lt_of_lt_of_le hlt6 HBL.out.size
                rw [← hB3.cell (p := ⟨g6, _, none⟩) hlt63] at k2
                have hj14 : j < 14 := by omega
                have hj14' : (j : Int) < 14 := by omega
                obtain ⟨e0, -⟩ := (HE2.out.on HBL3.out).2 j hj14
                have HP3 := hid hP3
                obtain ⟨tj, htj⟩ : ∃ tj, truthF j = tj := ⟨_, rfl⟩
                rw [htj] at e0 HC
                clear hbd hB3 HN HY hch hP3 htj d1 d2 hg4 hx4 HI HBL hPl hf4 HS1 HS2 HE2 HE
                go_wp2_with fail
                by_cases htt : tj = s2
                · subst htt
                  rw [HC.out, if_pos rfl] at hit2
                  clear HC
                  refine wp_region_held_drew (S := (fun w' => w'.cell? ⟨b4, o4, none⟩ = some (.int .i64 j) ∧ w'.cell? ⟨1, j * 7, none⟩ = some (.bool tj) ∧ w'.cell? ⟨g6, 2, none⟩ = some (.bool tj))) (by kernel_rfl) ?_ (fun hHeld => ?_)
                  · (try dsimp only) <;> (exact ⟨d0, e0, k2⟩)
                  refine wpAnyH_take (i := 0) (oi := { dst := some 43, op := Go.Op.move (Go.Operand.tmp 9), type := 4, pos := "l04_expr.go:95", after := #[], guard := none }) (v := ?_) rfl (by kernel_rfl) (by kernel_rfl) (by kernel_rfl) (fun _ _ _ h => h) (Or.inl ⟨by rfl, ?yld5⟩) hHeld ?nxt5
                  case yld5 => (intro w hSw; (try dsimp only at hSw); go_simp) <;> with_reducible rfl
                  (try simp only [Act.put, List.setIfInBounds_toArray, List.set_cons_zero, List.set_cons_succ])
                  refine wpAnyH_take (i := 1) (oi := { dst := some 44, op := Go.Op.unOp Go.UnOp.not 4 (Go.Operand.tmp 43), type := 4, pos := "l04_expr.go:95", after := #[{ on := 0, ground := Go.Ground.data }], guard := none }) (v := ?_) rfl (by kernel_rfl) (by kernel_rfl) (by kernel_rfl) (fun _ _ _ h => h) (Or.inl ⟨by rfl, ?yld6⟩) hHeld ?nxt6
                  case yld6 => (intro w hSw; (try dsimp only at hSw); go_simp) <;> with_reducible rfl
                  (try simp only [Act.put, List.setIfInBounds_toArray, List.set_cons_zero, List.set_cons_succ])
                  refine wpAnyH_take (i := 2) (oi := { dst := some 45, op := Go.Op.move (Go.Operand.tmp 44), type := 4, pos := "l04_expr.go:95", after := #[{ on := 1, ground := Go.Ground.data }], guard := none }) (v := ?_) rfl (by kernel_rfl) (by kernel_rfl) (by kernel_rfl) (fun _ _ _ h => h) (Or.inl ⟨by rfl, ?yld7⟩) hHeld ?nxt7
                  case yld7 => (intro w hSw; (try dsimp only at hSw); go_simp) <;> with_reducible rfl
                  (try simp only [Act.put, List.setIfInBounds_toArray, List.set_cons_zero, List.set_cons_succ])
                  refine wpAnyH_take (i := 3) (oi := { dst := some 46, op := Go.Op.move (Go.Operand.tmp 7), type := 31, pos := "l04_expr.go:95", after := #[{ on := 2, ground := Go.Ground.guard }], guard := some (2, false) }) (v := ?_) rfl (by kernel_rfl) (by kernel_rfl) (by kernel_rfl) (fun _ _ _ h => h) (Or.inl ⟨by rfl, ?yld8⟩) hHeld ?nxt8
                  case yld8 => (intro w hSw; (try dsimp only at hSw); go_simp) <;> with_reducible rfl
                  (try simp only [Act.put, List.setIfInBounds_toArray, List.set_cons_zero, List.set_cons_succ])
                  refine wpAnyH_take (i := 4) (oi := { dst := some 47, op := Go.Op.indexAddr 31 (Go.Operand.tmp 46) (Go.Operand.const (Go.Value.int Go.IntKind.i64 0)), type := 0, pos := "l04_expr.go:95", after := #[{ on := 3, ground := Go.Ground.data }, { on := 2, ground := Go.Ground.guard }], guard := some (2, false) }) (v := ?_) rfl (by kernel_rfl) (by kernel_rfl) (by kernel_rfl) (fun _ _ _ h => h) (Or.inl ⟨by rfl, ?yld9⟩) hHeld ?nxt9
                  case yld9 => (intro w hSw; (try dsimp only at hSw); go_simp) <;> with_reducible rfl
                  (try simp only [Act.put, List.setIfInBounds_toArray, List.set_cons_zero, List.set_cons_succ])
                  refine wpAnyH_take (i := 5) (oi := { dst := some 48, op := Go.Op.fieldAddr 56 (Go.Operand.tmp 47) 0, type := 0, pos := "l04_expr.go:95", after := #[{ on := 4, ground := Go.Ground.data }, { on := 2, ground := Go.Ground.guard }], guard := some (2, false) }) (v := ?_) rfl (by kernel_rfl) (by kernel_rfl) (by kernel_rfl) (fun _ _ _ h => h) (Or.inl ⟨by rfl, ?yld10⟩) hHeld ?nxt10
                  case yld10 => (intro w hSw; (try dsimp only at hSw); go_simp) <;> with_reducible rfl
                  (try simp only [Act.put, List.setIfInBounds_toArray, List.set_cons_zero, List.set_cons_succ])
                  refine wpAnyH_take (i := 6) (oi := { dst := some 49, op := Go.Op.load 2 (Go.Operand.tmp 48), type := 2, pos := "l04_expr.go:95", after := #[{ on := 5, ground := Go.Ground.data }, { on := 2, ground := Go.Ground.guard }], guard := some (2, false) }) (v := ?_) rfl (by kernel_rfl) (by kernel_rfl) (by kernel_rfl) (fun _ _ _ h => h) (Or.inl ⟨by rfl, ?yld11⟩) hHeld ?nxt11
                  case yld11 => (intro w hSw; (try dsimp only at hSw); go_simp) <;> with_reducible rfl
                  (try simp only [Act.put, List.setIfInBounds_toArray, List.set_cons_zero, List.set_cons_succ])
                  refine wpAnyH_take (i := 7) (oi := { dst := some 50, op := Go.Op.indexAddr 101 (Go.Operand.global 1) (Go.Operand.tmp 49), type := 0, pos := "l04_expr.go:95", after := #[{ on := 6, ground := Go.Ground.data }, { on := 2, ground := Go.Ground.guard }], guard := some (2, false) }) (v := ?_) rfl (by kernel_rfl) (by kernel_rfl) (by kernel_rfl) (fun _ _ _ h => h) (Or.inl ⟨by rfl, ?yld12⟩) hHeld ?nxt12
                  case yld12 => (intro w hSw; (try dsimp only at hSw); go_simp) <;> with_reducible rfl
                  (try simp only [Act.put, List.setIfInBounds_toArray, List.set_cons_zero, List.set_cons_succ])
                  refine wpAnyH_take (i := 8) (oi := { dst := some 51, op := Go.Op.fieldAddr 100 (Go.Operand.tmp 50) 0, type := 0, pos := "l04_expr.go:95", after := #[{ on := 7, ground := Go.Ground.data }, { on := 2, ground := Go.Ground.guard }], guard := some (2, false) }) (v := ?_) rfl (by kernel_rfl) (by kernel_rfl) (by kernel_rfl) (fun _ _ _ h => h) (Or.inl ⟨by rfl, ?yld13⟩) hHeld ?nxt13
                  case yld13 => (intro w hSw; (try dsimp only at hSw); go_simp) <;> with_reducible rfl
                  (try simp only [Act.put, List.setIfInBounds_toArray, List.set_cons_zero, List.set_cons_succ])
                  refine wpAnyH_take (i := 9) (oi := { dst := some 52, op := Go.Op.load 4 (Go.Operand.tmp 51), type := 4, pos := "l04_expr.go:95", after := #[{ on := 8, ground := Go.Ground.data }, { on := 2, ground := Go.Ground.guard }], guard := some (2, false) }) (v := ?_) rfl (by kernel_rfl) (by kernel_rfl) (by kernel_rfl) (fun _ _ _ h => h) (Or.inl ⟨by rfl, ?yld14⟩) hHeld ?nxt14
                  case yld14 => (intro w hSw; (try dsimp only at hSw); go_simp) <;> with_reducible rfl
                  (try simp only [Act.put, List.setIfInBounds_toArray, List.set_cons_zero, List.set_cons_succ])
                  refine wpAnyH_take (i := 10) (oi := { dst := some 53, op := Go.Op.fieldAddr 100 (Go.Operand.tmp 6) 2, type := 0, pos := "l04_expr.go:95", after := #[{ on := 2, ground := Go.Ground.guard }], guard := some (2, false) }) (v := ?_) rfl (by kernel_rfl) (by kernel_rfl) (by kernel_rfl) (fun _ _ _ h => h) (Or.inl ⟨by rfl, ?yld15⟩) hHeld ?nxt15
                  case yld15 => (intro w hSw; (try dsimp only at hSw); go_simp) <;> with_reducible rfl
                  (try simp only [Act.put, List.setIfInBounds_toArray, List.set_cons_zero, List.set_cons_succ])
                  refine wpAnyH_take (i := 11) (oi := { dst := some 54, op := Go.Op.load 4 (Go.Operand.tmp 53), type := 4, pos := "l04_expr.go:95", after := #[{ on := 10, ground := Go.Ground.data }, { on := 2, ground := Go.Ground.guard }], guard := some (2, false) }) (v := ?_) rfl (by kernel_rfl) (by kernel_rfl) (by kernel_rfl) (fun _ _ _ h => h) (Or.inl ⟨by rfl, ?yld16⟩) hHeld ?nxt16
                  case yld16 => (intro w hSw; (try dsimp only at hSw); go_simp) <;> with_reducible rfl
                  (try simp only [Act.put, List.setIfInBounds_toArray, List.set_cons_zero, List.set_cons_succ])
                  refine wpAnyH_take (i := 12) (oi := { dst := some 55, op := Go.Op.binOp Go.BinOp.neq 4 (Go.Operand.tmp 52) (Go.Operand.tmp 54) 4, type := 4, pos := "l04_expr.go:95", after := #[{ on := 9, ground := Go.Ground.data }, { on := 11, ground := Go.Ground.data }, { on := 2, ground := Go.Ground.guard }], guard := some (2, false) }) (v := ?_) rfl (by kernel_rfl) (by kernel_rfl) (by kernel_rfl) (fun _ _ _ h => h) (Or.inl ⟨by rfl, ?yld17⟩) hHeld ?nxt17
                  case yld17 => (intro w hSw; (try dsimp only at hSw); go_simp) <;> with_reducible rfl
                  (try simp only [Act.put, List.setIfInBounds_toArray, List.set_cons_zero, List.set_cons_succ])
                  refine wpAnyH_take (i := 13) (oi := { dst := some 56, op := Go.Op.pick (Go.Operand.tmp 45) (Go.Operand.const (Go.Value.bool true)) (Go.Operand.tmp 55), type := 4, pos := "l04_expr.go:95", after := #[{ on := 2, ground := Go.Ground.data }, { on := 12, ground := Go.Ground.data }], guard := none }) (v := ?_) rfl (by kernel_rfl) (by kernel_rfl) (by kernel_rfl) (fun _ _ _ h => h) (Or.inl ⟨by rfl, ?yld18⟩) hHeld ?nxt18
                  case yld18 => (intro w hSw; (try dsimp only at hSw); go_simp) <;> with_reducible rfl
                  (try simp only [Act.put, List.setIfInBounds_toArray, List.set_cons_zero, List.set_cons_succ])
                  refine wpAnyH_done (by kernel_rfl) ?_ _
                  clear d0 e0 hHeld
                  go_wp2_with fail
                  exact ⟨⟨i + 1, l', a3, c3, by omega, by go_num, rfl, HP3.out.on (Below.refl _ _).drew, hc3, by omega, hit2, HBL3.out.drew⟩, by simp [intOf]; omega⟩
                · rw [HC.out, if_neg htt, iter_none] at hit2
                  obtain rfl := hit2.out
                  have hne : (tj == s2) = false := by simp [htt]
                  clear HC hit2
                  refine wp_region_held_drew (S := (fun w' => w'.cell? ⟨b4, o4, none⟩ = some (.int .i64 j) ∧ w'.cell? ⟨1, j * 7, none⟩ = some (.bool tj) ∧ w'.cell? ⟨g6, 2, none⟩ = some (.bool s2))) (by kernel_rfl) ?_ (fun hHeld => ?_)
                  · (try dsimp only) <;> (exact ⟨d0, e0, k2⟩)
                  refine wpAnyH_take (i := 0) (oi := { dst := some 43, op := Go.Op.move (Go.Operand.tmp 9), type := 4, pos := "l04_expr.go:95", after := #[], guard := none }) (v := ?_) rfl (by kernel_rfl) (by kernel_rfl) (by kernel_rfl) (fun _ _ _ h => h) (Or.inl ⟨by rfl, ?yld19⟩) hHeld ?nxt19
                  case yld19 => (intro w hSw; (try dsimp only at hSw); go_simp) <;> with_reducible rfl
                  (try simp only [Act.put, List.setIfInBounds_toArray, List.set_cons_zero, List.set_cons_succ])
                  refine wpAnyH_take (i := 1) (oi := { dst := some 44, op := Go.Op.unOp Go.UnOp.not 4 (Go.Operand.tmp 43), type := 4, pos := "l04_expr.go:95", after := #[{ on := 0, ground := Go.Ground.data }], guard := none }) (v := ?_) rfl (by kernel_rfl) (by kernel_rfl) (by kernel_rfl) (fun _ _ _ h => h) (Or.inl ⟨by rfl, ?yld20⟩) hHeld ?nxt20
                  case yld20 => (intro w hSw; (try dsimp only at hSw); go_simp) <;> with_reducible rfl
                  (try simp only [Act.put, List.setIfInBounds_toArray, List.set_cons_zero, List.set_cons_succ])
                  refine wpAnyH_take (i := 2) (oi := { dst := some 45, op := Go.Op.move (Go.Operand.tmp 44), type := 4, pos := "l04_expr.go:95", after := #[{ on := 1, ground := Go.Ground.data }], guard := none }) (v := ?_) rfl (by kernel_rfl) (by kernel_rfl) (by kernel_rfl) (fun _ _ _ h => h) (Or.inl ⟨by rfl, ?yld21⟩) hHeld ?nxt21
                  case yld21 => (intro w hSw; (try dsimp only at hSw); go_simp) <;> with_reducible rfl
                  (try simp only [Act.put, List.setIfInBounds_toArray, List.set_cons_zero, List.set_cons_succ])
                  refine wpAnyH_take (i := 3) (oi := { dst := some 46, op := Go.Op.move (Go.Operand.tmp 7), type := 31, pos := "l04_expr.go:95", after := #[{ on := 2, ground := Go.Ground.guard }], guard := some (2, false) }) (v := ?_) rfl (by kernel_rfl) (by kernel_rfl) (by kernel_rfl) (fun _ _ _ h => h) (Or.inl ⟨by rfl, ?yld22⟩) hHeld ?nxt22
                  case yld22 => (intro w hSw; (try dsimp only at hSw); go_simp) <;> with_reducible rfl
                  (try simp only [Act.put, List.setIfInBounds_toArray, List.set_cons_zero, List.set_cons_succ])
                  refine wpAnyH_take (i := 4) (oi := { dst := some 47, op := Go.Op.indexAddr 31 (Go.Operand.tmp 46) (Go.Operand.const (Go.Value.int Go.IntKind.i64 0)), type := 0, pos := "l04_expr.go:95", after := #[{ on := 3, ground := Go.Ground.data }, { on := 2, ground := Go.Ground.guard }], guard := some (2, false) }) (v := ?_) rfl (by kernel_rfl) (by kernel_rfl) (by kernel_rfl) (fun _ _ _ h => h) (Or.inl ⟨by rfl, ?yld23⟩) hHeld ?nxt23
                  case yld23 => (intro w hSw; (try dsimp only at hSw); go_simp) <;> with_reducible rfl
                  (try simp only [Act.put, List.setIfInBounds_toArray, List.set_cons_zero, List.set_cons_succ])
                  refine wpAnyH_take (i := 5) (oi := { dst := some 48, op := Go.Op.fieldAddr 56 (Go.Operand.tmp 47) 0, type := 0, pos := "l04_expr.go:95", after := #[{ on := 4, ground := Go.Ground.data }, { on := 2, ground := Go.Ground.guard }], guard := some (2, false) }) (v := ?_) rfl (by kernel_rfl) (by kernel_rfl) (by kernel_rfl) (fun _ _ _ h => h) (Or.inl ⟨by rfl, ?yld24⟩) hHeld ?nxt24
                  case yld24 => (intro w hSw; (try dsimp only at hSw); go_simp) <;> with_reducible rfl
                  (try simp only [Act.put, List.setIfInBounds_toArray, List.set_cons_zero, List.set_cons_succ])
                  refine wpAnyH_take (i := 6) (oi := { dst := some 49, op := Go.Op.load 2 (Go.Operand.tmp 48), type := 2, pos := "l04_expr.go:95", after := #[{ on := 5, ground := Go.Ground.data }, { on := 2, ground := Go.Ground.guard }], guard := some (2, false) }) (v := ?_) rfl (by kernel_rfl) (by kernel_rfl) (by kernel_rfl) (fun _ _ _ h => h) (Or.inl ⟨by rfl, ?yld25⟩) hHeld ?nxt25
                  case yld25 => (intro w hSw; (try dsimp only at hSw); go_simp) <;> with_reducible rfl
                  (try simp only [Act.put, List.setIfInBounds_toArray, List.set_cons_zero, List.set_cons_succ])
                  refine wpAnyH_take (i := 7) (oi := { dst := some 50, op := Go.Op.indexAddr 101 (Go.Operand.global 1) (Go.Operand.tmp 49), type := 0, pos := "l04_expr.go:95", after := #[{ on := 6, ground := Go.Ground.data }, { on := 2, ground := Go.Ground.guard }], guard := some (2, false) }) (v := ?_) rfl (by kernel_rfl) (by kernel_rfl) (by kernel_rfl) (fun _ _ _ h => h) (Or.inl ⟨by rfl, ?yld26⟩) hHeld ?nxt26
                  case yld26 => (intro w hSw; (try dsimp only at hSw); go_simp) <;> with_reducible rfl
                  (try simp only [Act.put, List.setIfInBounds_toArray, List.set_cons_zero, List.set_cons_succ])
                  refine wpAnyH_take (i := 8) (oi := { dst := some 51, op := Go.Op.fieldAddr 100 (Go.Operand.tmp 50) 0, type := 0, pos := "l04_expr.go:95", after := #[{ on := 7, ground := Go.Ground.data }, { on := 2, ground := Go.Ground.guard }], guard := some (2, false) }) (v := ?_) rfl (by kernel_rfl) (by kernel_rfl) (by kernel_rfl) (fun _ _ _ h => h) (Or.inl ⟨by rfl, ?yld27⟩) hHeld ?nxt27
                  case yld27 => (intro w hSw; (try dsimp only at hSw); go_simp) <;> with_reducible rfl
                  (try simp only [Act.put, List.setIfInBounds_toArray, List.set_cons_zero, List.set_cons_succ])
                  refine wpAnyH_take (i := 9) (oi := { dst := some 52, op := Go.Op.load 4 (Go.Operand.tmp 51), type := 4, pos := "l04_expr.go:95", after := #[{ on := 8, ground := Go.Ground.data }, { on := 2, ground := Go.Ground.guard }], guard := some (2, false) }) (v := ?_) rfl (by kernel_rfl) (by kernel_rfl) (by kernel_rfl) (fun _ _ _ h => h) (Or.inl ⟨by rfl, ?yld28⟩) hHeld ?nxt28
                  case yld28 => (intro w hSw; (try dsimp only at hSw); go_simp) <;> with_reducible rfl
                  (try simp only [Act.put, List.setIfInBounds_toArray, List.set_cons_zero, List.set_cons_succ])
                  refine wpAnyH_take (i := 10) (oi := { dst := some 53, op := Go.Op.fieldAddr 100 (Go.Operand.tmp 6) 2, type := 0, pos := "l04_expr.go:95", after := #[{ on := 2, ground := Go.Ground.guard }], guard := some (2, false) }) (v := ?_) rfl (by kernel_rfl) (by kernel_rfl) (by kernel_rfl) (fun _ _ _ h => h) (Or.inl ⟨by rfl, ?yld29⟩) hHeld ?nxt29
                  case yld29 => (intro w hSw; (try dsimp only at hSw); go_simp) <;> with_reducible rfl
                  (try simp only [Act.put, List.setIfInBounds_toArray, List.set_cons_zero, List.set_cons_succ])
                  refine wpAnyH_take (i := 11) (oi := { dst := some 54, op := Go.Op.load 4 (Go.Operand.tmp 53), type := 4, pos := "l04_expr.go:95", after := #[{ on := 10, ground := Go.Ground.data }, { on := 2, ground := Go.Ground.guard }], guard := some (2, false) }) (v := ?_) rfl (by kernel_rfl) (by kernel_rfl) (by kernel_rfl) (fun _ _ _ h => h) (Or.inl ⟨by rfl, ?yld30⟩) hHeld ?nxt30
                  case yld30 => (intro w hSw; (try dsimp only at hSw); go_simp) <;> with_reducible rfl
                  (try simp only [Act.put, List.setIfInBounds_toArray, List.set_cons_zero, List.set_cons_succ])
                  refine wpAnyH_take (i := 12) (oi := { dst := some 55, op := Go.Op.binOp Go.BinOp.neq 4 (Go.Operand.tmp 52) (Go.Operand.tmp 54) 4, type := 4, pos := "l04_expr.go:95", after := #[{ on := 9, ground := Go.Ground.data }, { on := 11, ground := Go.Ground.data }, { on := 2, ground := Go.Ground.guard }], guard := some (2, false) }) (v := ?_) rfl (by kernel_rfl) (by kernel_rfl) (by kernel_rfl) (fun _ _ _ h => h) (Or.inl ⟨by rfl, ?yld31⟩) hHeld ?nxt31
                  case yld31 => (intro w hSw; (try dsimp only at hSw); go_simp) <;> with_reducible rfl
                  (try simp only [Act.put, List.setIfInBounds_toArray, List.set_cons_zero, List.set_cons_succ])
                  refine wpAnyH_take (i := 13) (oi := { dst := some 56, op := Go.Op.pick (Go.Operand.tmp 45) (Go.Operand.const (Go.Value.bool true)) (Go.Operand.tmp 55), type := 4, pos := "l04_expr.go:95", after := #[{ on := 2, ground := Go.Ground.data }, { on := 12, ground := Go.Ground.data }], guard := none }) (v := ?_) rfl (by kernel_rfl) (by kernel_rfl) (by kernel_rfl) (fun _ _ _ h => h) (Or.inl ⟨by rfl, ?yld32⟩) hHeld ?nxt32
                  case yld32 => (intro w hSw; (try dsimp only at hSw); go_simp) <;> with_reducible rfl
                  (try simp only [Act.put, List.setIfInBounds_toArray, List.set_cons_zero, List.set_cons_succ])
                  refine wpAnyH_done (by kernel_rfl) ?_ _
                  clear d0 e0 hHeld
                  go_wp2_with fail
                  go_ret2
                  exact ⟨rfl, (HB2.out.trans (HBL3.out.mono HB2.out.size)).drew⟩
            · obtain rfl : i = s1 := by omega
              rw [Nat.sub_self] at hit
              obtain rfl : some l = F := hit.out
              go_wp2_with fail
              go_ret2
              exact ⟨⟨_, _, rfl, hPl.out, hcl⟩, HB2.out.trans (hbel.mono HB2.out.size)⟩
end Go.Proofs.YtaofdckdmffaiaaGreatDoor.PrtI
/- ExprRight and ExprTruth of the program. -/
namespace Go.Proofs.YtaofdckdmffaiaaGreatDoor.PrtI
open Go.RowKit
open PrtW PrtM NameW PrtS

set_option maxHeartbeats 800000 in
theorem impl_right (a : Option Addr) (cap : Nat) (ps : List Pt) (w : World) (hP : Parts w a ps) (hcap : ps.length ≤ cap) (hE : EnvS w) :
    Calls Tryz.prog 67 #[.slice a ps.length cap] w fun e w' => e = .returned (.bool (rightB ps)) ∧ Below w.heap.size w w' := by
  have hl := hP.1
  have HP := hid hP
  have HE := hid hE
  clear hP hE
  unfold rightB
  by_cases h : ps.length ≤ 20
  · rw [decide_eq_true h, Bool.true_and]
    cases hbd : behind 6 ps with
    | none =>
      rw [decide_eq_false (by simp)]
      have HBD := hid hbd
      clear hbd
      go_enter Tryz.func67, Tryz.ntmps67
      go_wp2_with fail
      refine (impl_behind 6 (by decide) a cap ps w HP.out hcap HE.out).mono ?_
      rintro e w1 ⟨hc, hB⟩
      rw [HBD.out] at hc
      obtain rfl := hc
      have HB := hid hB
      clear hB
      go_wp2_with fail
      go_ret
      exact ⟨rfl, HB.out⟩
    | some r =>
      have HBD := hid hbd
      have hrl := (behind_suffix _ _ _ hbd).2
      rw [show decide (some r = some ([] : List Pt)) = (((r.length : Nat) : Int) == 0) by cases r <;> simp; omega]
      clear hbd
      go_enter Tryz.func67, Tryz.ntmps67
      go_wp2_with fail
      refine (impl_behind 6 (by decide) a cap ps w HP.out hcap HE.out).mono ?_
      rintro e w1 ⟨hc, hB⟩
      rw [HBD.out] at hc
      obtain ⟨a', cap', rfl, _, _⟩ := hc
      have HB := hid hB
      clear hB
      go_wp2_with fail
      go_ret
      exact ⟨rfl, HB.out⟩
  · rw [decide_eq_false h, Bool.false_and]
    go_enter Tryz.func67, Tryz.ntmps67
    go_wp2_with fail
    go_ret
    exact ⟨rfl, Below.refl _ _⟩
end Go.Proofs.YtaofdckdmffaiaaGreatDoor.PrtI
/- ExprTruth: what it says. -/
namespace Go.Proofs.YtaofdckdmffaiaaGreatDoor.PrtI
open Go.RowKit
open PrtW PrtM NameW PrtS

set_option maxHeartbeats 800000 in
theorem impl_truth (a : Option Addr) (cap : Nat) (ps : List Pt) (w : World) (hP : Parts w a ps) (hcap : ps.length ≤ cap) (hE : EnvS w) :
    Calls Tryz.prog 66 #[.slice a ps.length cap] w fun e w' => e = .returned (.bool (truthB ps)) ∧ Below w.heap.size w w' := by
  have hl := hP.1
  have HP := hid hP
  have HE := hid hE
  clear hP hE
  unfold truthB
  obtain ⟨r, hr⟩ : ∃ r, Hid (rightB ps = r) := ⟨_, rfl⟩
  rw [hr.out]
  cases r
  · rw [Bool.false_and]
    go_enter Tryz.func66, Tryz.ntmps66
    go_wp2_with fail
    refine (impl_right a cap ps w HP.out hcap HE.out).mono ?_
    rintro e w1 ⟨rfl, hB⟩
    rw [hr.out]
    have HB := hid hB
    clear hB
    go_wp2_with fail
    go_ret
    exact ⟨rfl, HB.out⟩
  · rw [Bool.true_and]
    have hpos := right_pos hr.out
    have hbd : behind 6 ps = some [] := by
      have h := hr.out
      unfold rightB at h
      rw [Bool.and_eq_true, decide_eq_true_iff, decide_eq_true_iff] at h
      exact h.2
    obtain ⟨_, hj1, hj2⟩ := behind_head hbd
    obtain ⟨b, o, x, n, t, rfl, hb, hg, hf, c0, c1, c2⟩ := parts_at HP.out hpos
    have hh : (ps.headD pt0).1 = x := by
      have e := drop_at ps 0 hpos
      rw [List.drop_zero] at e
      rw [e, hg]; rfl
    rw [hh] at hj1 hj2 ⊢
    obtain ⟨j, rfl⟩ : ∃ j : Nat, x = j := ⟨x.toNat, by omega⟩
    rw [num_truth j (by omega) (by omega), Bool.not_not]
    have hj14 : j < 14 := by omega
    have hj14' : (j : Int) < 14 := by omega
    clear hh hg hf c1 c2 hbd
    rw [Nat.zero_mul, Nat.add_zero] at c0
    obtain ⟨tj, htj⟩ : ∃ tj, truthF j = tj := ⟨_, rfl⟩
    rw [htj]
    have HTJ := hid htj
    clear htj
    go_enter Tryz.func66, Tryz.ntmps66
    go_wp2_with fail
    refine (impl_right _ cap ps w HP.out hcap HE.out).mono ?_
    rintro e w1 ⟨rfl, hB⟩
    rw [hr.out]
    have HB := hid hB
    rw [← hB.cell (p := ⟨b, _, none⟩) hb] at c0
    obtain ⟨e0, -⟩ := (HE.out.on hB).2 j hj14
    rw [HTJ.out] at e0
    clear hB
    go_wp2_with fail
    go_ret
    exact ⟨rfl, HB.out⟩
end Go.Proofs.YtaofdckdmffaiaaGreatDoor.PrtI
