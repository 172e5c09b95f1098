/- Why an item may not stand behind those ahead of it, by the program. -/
import Derived.Test.YtbhblnpehhaiiaaDoorFrmImB
import Derived.Deep.RegionHeld3
namespace Go.Proofs.YtbhblnpehhaiiaaDoor.FrmI
open Go.RowKit
open PrtW PrtM NameW ItmW ValM ItmM FrmM
open ItmI (EnvI)

/-- a sentinel error of the program's -/
def Errs (w : World) (g : Nat) : Prop := g < w.heap.size ∧ ∃ tp p, w.cell? ⟨g, 0, none⟩ = some (.iface tp p)
theorem Errs.on {w w' : World} {g : Nat} (h : Errs w g) (hB : Below w.heap.size w w') : Errs w' g := by
  obtain ⟨hl, tp, p, hc⟩ := h
  exact ⟨Nat.lt_of_lt_of_le hl hB.size, tp, p, by rw [hB.cell (p := ⟨g, 0, none⟩) hl]; exact hc⟩
/-- what the program's look at a form asks of the world -/
def EnvF (w : World) : Prop := EnvI w ∧ Errs w 0 ∧ Errs w 1 ∧ Errs w 3 ∧ Errs w 5 ∧ Errs w 6
theorem EnvF.on {w w' : World} (h : EnvF w) (hB : Below w.heap.size w w') : EnvF w' := ⟨h.1.on hB, h.2.1.on hB, h.2.2.1.on hB, h.2.2.2.1.on hB, h.2.2.2.2.1.on hB, h.2.2.2.2.2.on hB⟩
/-- an error's value: none just if all is well -/
def ErrIs (ok : Bool) (v : Value) : Prop := (ok = true ∧ v = .nilIface) ∨ (ok = false ∧ ∃ tp p, v = .iface tp p)
/-- three cells at a block's beginning -/
def At3 (w : World) (b : Nat) (v0 v1 v2 : Value) : Prop := (w.cell? ⟨b, 0, none⟩ = some v0 ∧ w.cell? ⟨b, 1, none⟩ = some v1 ∧ w.cell? ⟨b, 2, none⟩ = some v2) ∧ b < w.heap.size
theorem keepP {W0 w' : World} {b g o : Nat} {v0 v1 v2 u : Value} (h : At3 W0 b v0 v1 v2) (hs : g < W0.heap.size ∧ W0.cell? ⟨g, o, none⟩ = some u) (hB : Below W0.heap.size W0 w') :
    Below W0.heap.size W0 w' ∧ (w'.cell? ⟨b, 0, none⟩ = some v0 ∧ w'.cell? ⟨b, 1, none⟩ = some v1 ∧ w'.cell? ⟨b, 2, none⟩ = some v2) ∧ w'.cell? ⟨g, o, none⟩ = some u := by
  obtain ⟨⟨h0, h1, h2⟩, hl⟩ := h
  exact ⟨hB, ⟨by rw [hB.cell (p := ⟨b, _, none⟩) hl]; exact h0, by rw [hB.cell (p := ⟨b, _, none⟩) hl]; exact h1, by rw [hB.cell (p := ⟨b, _, none⟩) hl]; exact h2⟩, by rw [hB.cell (p := ⟨g, _, none⟩) hs.1]; exact hs.2⟩
theorem At3.laid (w : World) (T : TypeId) (v0 v1 v2 : Value) : At3 (w.alloc (.cells #[v0, v1, v2] T)) w.heap.size v0 v1 v2 := ⟨⟨by simp, by simp, by simp⟩, by simp⟩
/-- none of these items has that name -/
def nameNew (la : List It) (s : ByteArray) : Bool := s.toList.isEmpty || decide (∀ j, j < la.length → sameN (inm (la.getD j it0)) s = false)
theorem nn_empty {la : List It} {s : ByteArray} (h : s.toList.isEmpty = true) : nameNew la s = true := by unfold nameNew; rw [h]; rfl
theorem nn_yes {la : List It} {s : ByteArray} (h : ∀ j, j < la.length → sameN (inm (la.getD j it0)) s = false) : nameNew la s = true := by unfold nameNew; rw [decide_eq_true h, Bool.or_true]
theorem nn_no {la : List It} {s : ByteArray} {j : Nat} (h : s.toList.isEmpty = false) (hj : j < la.length) (hs : sameN (inm (la.getD j it0)) s = true) : nameNew la s = false := by
  unfold nameNew
  rw [h, Bool.false_or]
  exact decide_eq_false fun a => by rw [a j hj] at hs; cases hs

set_option maxRecDepth 10000 in
set_option maxHeartbeats 12800000 in
theorem not_behind (a : Option Addr) (cap : Nat) (la : List It) (kk : Int) (s : ByteArray) (ty lo hi : Int) (t : ByteArray) (ai : Option Addr) (ci : Nat) (ps : List Pt) (hd : Bool) (w : World) (hA : Its w a la) (hr : ∀ i, i < la.length → itemB (la.getD i it0) = true)
    (hP : Parts w ai ps) (hpr : ∀ k, k < ps.length → partB (ps.getD k pt0) = true) (hE : EnvF w) :
    Calls Tryd.prog 59 #[.slice a la.length cap, .agg #[.int .i64 kk, .string s, .int .i64 ty, .int .i64 lo, .int .i64 hi, .string t, .slice ai ps.length ci, .bool hd]] w fun e w' => (∃ v, e = .returned v ∧ ErrIs (nameNew la s && usesB la la.length ps) v) ∧ Below w.heap.size w w' := by
  have HA := hid hA
  have HP := hid hP
  have HE := hid hE
  have HR := hid hr
  have HPR := hid hpr
  have hl := hA.1
  have hpl := hP.1
  clear hA hP hE hr hpr
  obtain ⟨n1, hn1⟩ : ∃ v, Hid (nameNew la s = v) := ⟨_, rfl⟩
  obtain ⟨n2, hn2⟩ : ∃ v, Hid (usesB la la.length ps = v) := ⟨_, rfl⟩
  rw [hn1.out, hn2.out]
  have HB0 := hid (Blk.laid w (kk, s, ty, lo, hi, t, ps, hd) ai ci)
  go_enter Tryd.func59, Tryd.ntmps59
  go_wp2_with fail
  go_loopw [11] (fun i wr => ∃ j : Nat, j ≤ la.length ∧ i = .int .i64 j ∧ Hid (noText s = false → ∀ m, m < j → sameN (inm (la.getD m it0)) s = false) ∧ Hid (Blk wr w.heap.size (kk, s, ty, lo, hi, t, ps, hd) ai ci) ∧ Hid (Below w.heap.size w wr)) (fun i _ => la.length - (intOf i).toNat)
  case atStart => exact ⟨0, Nat.zero_le _, rfl, fun _ j hj => absurd hj (Nat.not_lt_zero _), HB0.out, (Below.refl _ _).alloc (Nat.le_refl _) _⟩
  case round =>
    obtain ⟨j, hj, rfl, HS, HBk, HB⟩ := hrel
    obtain ⟨⟨y0, y1, y2, y3, y4, y5, y6, y7⟩, yf, yl⟩ := HBk.out.all
    dsimp only [ik, inm, ity, ilo, ihi, itx, iex, ihd] at y0 y1 y2 y3 y4 y5 y6 y7
    by_cases hlt : j < la.length
    · obtain ⟨_, b, o, aj, cj, rfl, hb, hF, _⟩ := HA.out.at (Below.refl _ _) hlt
      have HNo : Hid (s.toList.isEmpty = false → sameN (inm (la.getD j it0)) s = true → n1 = false) := fun h1 h2 => by rw [← hn1.out]; exact nn_no h1 hlt h2
      have HNext : Hid ((noText s = false → sameN (inm (la.getD j it0)) s = false) → noText s = false → ∀ m, m < j + 1 → sameN (inm (la.getD m it0)) s = false) := fun h h0 m hm => by
        rcases Nat.lt_succ_iff_lt_or_eq.1 hm with hm' | rfl
        · exact HS.out h0 m hm'
        · exact h h0
      have HSd : Hid (sameN (inm (la.getD j it0)) s = ((inm (la.getD j it0)).toList == s.toList)) := rfl
      obtain ⟨c0, c1, c2, c3, c4, c5, c6, c7⟩ := hF.on hb HB.out
      generalize sameN (inm (la.getD j it0)) s = sm at HNo HNext HSd
      generalize la.getD j it0 = p at c0 c1 c2 c3 c4 c5 c6 c7 HSd
      obtain ⟨k1, s1, p1, p2, p3, p4, p5, p6⟩ := p
      dsimp only [ik, inm, ity, ilo, ihi, itx, iex, ihd] at c0 c1 c2 c3 c4 c5 c6 c7 HSd
      have hBn : Hid (Below wr.heap.size wr (wr.alloc (.cells #[.int .i64 k1, .string s1, .int .i64 p1, .int .i64 p2, .int .i64 p3, .string p4, .slice aj p5.length cj, .bool p6] 31))) := (Below.refl _ _).alloc (Nat.le_refl _) _
      obtain ⟨-, tp, pe, r3⟩ := HE.out.2.2.2.1.on HB.out
      have hg3 := HE.out.2.2.2.1.1
      have hg3' : 3 < wr.heap.size := Nat.lt_of_lt_of_le hg3 HB.out.size
      clear hF HS
      cases hse : s.toList.isEmpty
      · cases hsm : (s1.toList == s.toList)
        · have hs0 : sm = false := by rw [HSd.out, hsm]
          have HX := hid (HNext.out (fun _ => hs0))
          go_wp2_with fail
          exact ⟨⟨j + 1, by omega, by go_num, HX.out, HBk.out.on hBn.out, HB.out.trans (hBn.out.mono HB.out.size)⟩, by simp [intOf]; omega⟩
        · have hs0 : sm = true := by rw [HSd.out, hsm]
          have HZ := hid (HNo.out hse hs0)
          go_wp2_with fail
          go_ret
          exact ⟨⟨_, rfl, .inr ⟨by rw [HZ.out]; rfl, tp, pe, rfl⟩⟩, HB.out.trans (hBn.out.mono HB.out.size)⟩
      · have HX : Hid (noText s = false → ∀ m, m < j + 1 → sameN (inm (la.getD m it0)) s = false) := fun h => by unfold noText at h; rw [hse] at h; cases h
        clear HNo HNext
        go_wp2_with fail
        exact ⟨⟨j + 1, by omega, by go_num, HX.out, HBk.out.on hBn.out, HB.out.trans (hBn.out.mono HB.out.size)⟩, by simp [intOf]; omega⟩
    · obtain rfl : j = la.length := by omega
      have HN1 : Hid (n1 = true) := by
        show _ = _
        rw [← hn1.out]
        cases hse : s.toList.isEmpty
        · exact nn_yes (HS.out hse)
        · exact nn_empty hse
      have HB1 := hid HB.out
      have HBk1 := hid HBk.out
      clear HS
      go_wp2_with fail
      go_loopw [30] (fun i wr => ∃ j : Nat, j ≤ ps.length ∧ i = .int .i64 j ∧ Hid (∀ m, m < j → useB la la.length (ps.getD m pt0) = true) ∧ Hid (Blk wr w.heap.size (kk, s, ty, lo, hi, t, ps, hd) ai ci) ∧ Hid (Below w.heap.size w wr)) (fun i _ => ps.length - (intOf i).toNat)
      case atStart => exact ⟨0, Nat.zero_le _, rfl, fun j hj => absurd hj (Nat.not_lt_zero _), HBk1.out, HB1.out⟩
      case round =>
        clear y0 y1 y2 y3 y4 y5 y6 y7 yf yl HBk HB HBk1 HB1
        obtain ⟨j, hj, rfl, HU, HBk, HB⟩ := hrel
        obtain ⟨⟨y0, y1, y2, y3, y4, y5, y6, y7⟩, yf, yl⟩ := HBk.out.all
        dsimp only [ik, inm, ity, ilo, ihi, itx, iex, ihd] at y0 y1 y2 y3 y4 y5 y6 y7
        by_cases hlt : j < ps.length
        · obtain ⟨b2, o2, rfl, hb2, hcs⟩ := HP.out.2.2 (by omega)
          obtain ⟨d0, d1, d2⟩ := hcs j hlt
          rw [← HB.out.cell (p := ⟨b2, _, none⟩) hb2] at d0 d1 d2
          obtain ⟨kx, hkx, hk1, hk13, hnm⟩ := part_named (HPR.out j hlt)
          have HNo : Hid (useB la la.length (ps.getD j pt0) = false → n2 = false) := fun h => by rw [← hn2.out]; exact uses_no hlt h
          have HNext : Hid (useB la la.length (ps.getD j pt0) = true → ∀ m, m < j + 1 → useB la la.length (ps.getD m pt0) = true) := fun h m hm => by
            rcases Nat.lt_succ_iff_lt_or_eq.1 hm with hm' | rfl
            · exact HU.out m hm'
            · exact h
          have HE1 : Hid ((ps.getD j pt0).2.2.toList.isEmpty = true → useB la la.length (ps.getD j pt0) = true) := fun h => use_empty h
          have HE2 : Hid ((ps.getD j pt0).2.2.toList.isEmpty = false → useB la la.length (ps.getD j pt0) = servesI (ps.getD j pt0).1 (fieldQ la la.length (ps.getD j pt0).2.2)) := fun h => use_impl h HR.out
          generalize useB la la.length (ps.getD j pt0) = u at HNo HNext HE1 HE2
          generalize ps.getD j pt0 = p at d0 d1 d2 hkx hnm HE1 HE2
          obtain ⟨x, n, m⟩ := p
          dsimp only at d0 d1 d2 hkx hnm HE1 HE2
          subst hkx
          have HNm := hid hnm
          clear hnm hcs HU
          have hBn : Hid (Below wr.heap.size wr (wr.alloc (.cells #[.int .i64 (kx : Int), .int .i64 n, .string m] 75))) := (Below.refl _ _).alloc (Nat.le_refl _) _
          have HES := hid ((HE.out.1.1.on HB.out).on hBn.out)
          have hsh := HES.out.1
          obtain ⟨-, -, -, e3, -⟩ := HES.out.2 kx (by omega)
          have HSh0 := hid (And.intro hsh e3)
          have HP3a := hid (At3.laid wr 75 (.int .i64 (kx : Int)) (.int .i64 n) (.string m))
          have hk14 : kx < 14 := by omega
          have hkI : (kx : Int) < 14 := by omega
          have HR5 : Hid (Errs (wr.alloc (.cells #[.int .i64 (kx : Int), .int .i64 n, .string m] 75)) 5) := (HE.out.2.2.2.2.1.on HB.out).on hBn.out
          go_wp2_with fail
          obtain ⟨W0, hW0⟩ : ∃ W0, Hid (wr.alloc (.cells #[.int .i64 (kx : Int), .int .i64 n, .string m] 75) = W0) := ⟨_, rfl⟩
          rw [hW0.out] at HSh0 HP3a HR5 hBn e3 ⊢
          have HSh : Hid (4 < W0.heap.size ∧ W0.cell? ⟨4, kx * 7 + 3, none⟩ = some (.bool (PrtI.namedF kx))) := HSh0.out
          have HP3 : Hid (At3 W0 wr.heap.size (.int .i64 (kx : Int)) (.int .i64 n) (.string m)) := HP3a.out
          have HBs : Hid (w.heap.size ≤ W0.heap.size) := Nat.le_trans HB.out.size hBn.out.size
          have HBW : Hid (Below w.heap.size w W0) := HB.out.trans (hBn.out.mono HB.out.size)
          have HBk0 := hid (HBk.out.on hBn.out)
          have h0 : Below W0.heap.size W0 W0.drew := (Below.refl _ _).drew
          clear HSh0 HP3a hW0 e3 y0 y1 y2 y3 y4 y5 y6 y7 yf yl d0 d1 d2 HBk hsh HES
          clear HB
          have HB := HBW
          cases hnf : PrtI.namedF kx
          · rw [hnf] at HSh HNm
            have hu : u = true := HE1.out (by rw [HNm.out]; rfl)
            have HX := hid (HNext.out hu)
            clear HNo HNext HE1 HE2
            refine wp_region_held_drew (S := (fun w' => Below W0.heap.size W0 w' ∧ (w'.cell? ⟨wr.heap.size, 0, none⟩ = some (.int .i64 (kx : Int)) ∧ w'.cell? ⟨wr.heap.size, 1, none⟩ = some (.int .i64 n) ∧ w'.cell? ⟨wr.heap.size, 2, none⟩ = some (.string m)) ∧ w'.cell? ⟨4, kx * 7 + 3, none⟩ = some (.bool false))) (by kernel_rfl) ?_ (fun hHeld => ?_)
            · (try dsimp only) <;> (first | exact keepP HP3.out HSh.out hN | exact keepP HP3.out HSh.out h0)
            refine wpAnyH_take (i := 0) (oi := { dst := some 34, op := Go.Op.fieldAddr 75 (Go.Operand.tmp 8) 0, type := 0, pos := "l06_form.go:165", after := #[], guard := none }) (v := ?_) rfl (by kernel_rfl) (by kernel_rfl) (by kernel_rfl) (fun _ _ _ h => h) (Or.inl ⟨by rfl, ?yld1⟩) hHeld ?nxt1
            case yld1 => (intro w hSw; (try dsimp only at hSw); go_simp) <;> with_reducible rfl
            (try simp only [Act.put, List.setIfInBounds_toArray, List.set_cons_zero, List.set_cons_succ])
            refine wpAnyH_take (i := 1) (oi := { dst := some 35, op := Go.Op.load 2 (Go.Operand.tmp 34), type := 2, pos := "l06_form.go:165", after := #[{ on := 0, ground := Go.Ground.data }], guard := none }) (v := ?_) rfl (by kernel_rfl) (by kernel_rfl) (by kernel_rfl) (fun _ _ _ h => h) (Or.inl ⟨by rfl, ?yld2⟩) hHeld ?nxt2
            case yld2 => (intro w hSw; (try dsimp only at hSw); go_simp) <;> with_reducible rfl
            (try simp only [Act.put, List.setIfInBounds_toArray, List.set_cons_zero, List.set_cons_succ])
            refine wpAnyH_take (i := 2) (oi := { dst := some 36, op := Go.Op.indexAddr 105 (Go.Operand.global 4) (Go.Operand.tmp 35), type := 0, pos := "l06_form.go:165", after := #[{ on := 1, ground := Go.Ground.data }], guard := none }) (v := ?_) rfl (by kernel_rfl) (by kernel_rfl) (by kernel_rfl) (fun _ _ _ h => h) (Or.inl ⟨by rfl, ?yld3⟩) hHeld ?nxt3
            case yld3 => (intro w hSw; (try dsimp only at hSw); go_simp) <;> with_reducible rfl
            (try simp only [Act.put, List.setIfInBounds_toArray, List.set_cons_zero, List.set_cons_succ])
            refine wpAnyH_take (i := 3) (oi := { dst := some 37, op := Go.Op.fieldAddr 104 (Go.Operand.tmp 36) 3, type := 0, pos := "l06_form.go:165", after := #[{ on := 2, ground := Go.Ground.data }], guard := none }) (v := ?_) rfl (by kernel_rfl) (by kernel_rfl) (by kernel_rfl) (fun _ _ _ h => h) (Or.inl ⟨by rfl, ?yld4⟩) hHeld ?nxt4
            case yld4 => (intro w hSw; (try dsimp only at hSw); go_simp) <;> with_reducible rfl
            (try simp only [Act.put, List.setIfInBounds_toArray, List.set_cons_zero, List.set_cons_succ])
            refine wpAnyH_take (i := 4) (oi := { dst := some 38, op := Go.Op.load 4 (Go.Operand.tmp 37), type := 4, pos := "l06_form.go:165", after := #[{ on := 3, ground := Go.Ground.data }], guard := none }) (v := ?_) rfl (by kernel_rfl) (by kernel_rfl) (by kernel_rfl) (fun _ _ _ h => h) (Or.inl ⟨by rfl, ?yld5⟩) hHeld ?nxt5
            case yld5 => (intro w hSw; (try dsimp only at hSw); go_simp) <;> with_reducible rfl
            (try simp only [Act.put, List.setIfInBounds_toArray, List.set_cons_zero, List.set_cons_succ])
            refine wpAnyH_take (i := 5) (oi := { dst := some 39, op := Go.Op.move (Go.Operand.tmp 38), type := 4, pos := "l06_form.go:165", after := #[{ on := 4, ground := Go.Ground.data }], guard := none }) (v := ?_) rfl (by kernel_rfl) (by kernel_rfl) (by kernel_rfl) (fun _ _ _ h => h) (Or.inl ⟨by rfl, ?yld6⟩) hHeld ?nxt6
            case yld6 => (intro w hSw; (try dsimp only at hSw); go_simp) <;> with_reducible rfl
            (try simp only [Act.put, List.setIfInBounds_toArray, List.set_cons_zero, List.set_cons_succ])
            refine wpAnyH_take (i := 6) (oi := { dst := some 40, op := Go.Op.move (Go.Operand.tmp 0), type := 25, pos := "l06_form.go:165", after := #[{ on := 5, ground := Go.Ground.guard }], guard := some (5, true) }) (v := undef) rfl (by kernel_rfl) (by kernel_rfl) (by kernel_rfl) (fun _ _ _ h => h) (Or.inr ⟨by rfl, rfl⟩) hHeld ?_
            (try simp only [Act.put, List.setIfInBounds_toArray, List.set_cons_zero, List.set_cons_succ])
            refine wpAnyH_take (i := 7) (oi := { dst := some 41, op := Go.Op.fieldAddr 75 (Go.Operand.tmp 8) 2, type := 0, pos := "l06_form.go:165", after := #[{ on := 5, ground := Go.Ground.guard }], guard := some (5, true) }) (v := undef) rfl (by kernel_rfl) (by kernel_rfl) (by kernel_rfl) (fun _ _ _ h => h) (Or.inr ⟨by rfl, rfl⟩) hHeld ?_
            (try simp only [Act.put, List.setIfInBounds_toArray, List.set_cons_zero, List.set_cons_succ])
            refine wpAnyH_take (i := 8) (oi := { dst := some 42, op := Go.Op.load 9 (Go.Operand.tmp 41), type := 9, pos := "l06_form.go:165", after := #[{ on := 7, ground := Go.Ground.data }, { on := 5, ground := Go.Ground.guard }], guard := some (5, true) }) (v := undef) rfl (by kernel_rfl) (by kernel_rfl) (by kernel_rfl) (fun _ _ _ h => h) (Or.inr ⟨by rfl, rfl⟩) hHeld ?_
            (try simp only [Act.put, List.setIfInBounds_toArray, List.set_cons_zero, List.set_cons_succ])
            refine wpAnyH_take (i := 9) (oi := { dst := some 43, op := Go.Op.call { callee := Go.Callee.value (Go.Operand.func 37), args := #[Go.Operand.tmp 40, Go.Operand.tmp 42], argTypes := #[25, 9] }, type := 31, pos := "l06_form.go:165", after := #[{ on := 6, ground := Go.Ground.data }, { on := 8, ground := Go.Ground.data }, { on := 5, ground := Go.Ground.chain }, { on := 5, ground := Go.Ground.guard }], guard := some (5, true) }) (v := undef) rfl (by kernel_rfl) (by kernel_rfl) (by kernel_rfl) (fun _ _ _ h => h) (Or.inr ⟨by rfl, rfl⟩) hHeld ?_
            (try simp only [Act.put, List.setIfInBounds_toArray, List.set_cons_zero, List.set_cons_succ])
            refine wpAnyH_take (i := 10) (oi := { dst := some 44, op := Go.Op.load 75 (Go.Operand.tmp 8), type := 75, pos := "l06_form.go:165", after := #[{ on := 5, ground := Go.Ground.guard }], guard := some (5, true) }) (v := undef) rfl (by kernel_rfl) (by kernel_rfl) (by kernel_rfl) (fun _ _ _ h => h) (Or.inr ⟨by rfl, rfl⟩) hHeld ?_
            (try simp only [Act.put, List.setIfInBounds_toArray, List.set_cons_zero, List.set_cons_succ])
            refine wpAnyH_take (i := 11) (oi := { dst := some 45, op := Go.Op.call { callee := Go.Callee.value (Go.Operand.func 78), args := #[Go.Operand.tmp 43, Go.Operand.tmp 44], argTypes := #[31, 75] }, type := 4, pos := "l06_form.go:165", after := #[{ on := 9, ground := Go.Ground.data }, { on := 10, ground := Go.Ground.data }, { on := 9, ground := Go.Ground.chain }, { on := 5, ground := Go.Ground.guard }], guard := some (5, true) }) (v := undef) rfl (by kernel_rfl) (by kernel_rfl) (by kernel_rfl) (fun _ _ _ h => h) (Or.inr ⟨by rfl, rfl⟩) hHeld ?_
            (try simp only [Act.put, List.setIfInBounds_toArray, List.set_cons_zero, List.set_cons_succ])
            refine wpAnyH_take (i := 12) (oi := { dst := some 46, op := Go.Op.unOp Go.UnOp.not 4 (Go.Operand.tmp 45), type := 4, pos := "l06_form.go:165", after := #[{ on := 11, ground := Go.Ground.data }, { on := 5, ground := Go.Ground.guard }], guard := some (5, true) }) (v := undef) rfl (by kernel_rfl) (by kernel_rfl) (by kernel_rfl) (fun _ _ _ h => h) (Or.inr ⟨by rfl, rfl⟩) hHeld ?_
            (try simp only [Act.put, List.setIfInBounds_toArray, List.set_cons_zero, List.set_cons_succ])
            refine wpAnyH_take (i := 13) (oi := { dst := some 47, op := Go.Op.pick (Go.Operand.tmp 39) (Go.Operand.tmp 46) (Go.Operand.const (Go.Value.bool false)), type := 4, pos := "l06_form.go:165", after := #[{ on := 5, ground := Go.Ground.data }, { on := 12, ground := Go.Ground.data }], guard := none }) (v := ?_) rfl (by kernel_rfl) (by kernel_rfl) (by kernel_rfl) (fun _ _ _ h => h) (Or.inl ⟨by rfl, ?yld7⟩) hHeld ?nxt7
            case yld7 => (intro w hSw; (try dsimp only at hSw); go_simp) <;> with_reducible rfl
            (try simp only [Act.put, List.setIfInBounds_toArray, List.set_cons_zero, List.set_cons_succ])
            refine wpAnyH_done (by kernel_rfl) ?_ _
            have HZ := hid hHeld.1
            clear hHeld h0
            go_wp2_with fail
            exact ⟨⟨j + 1, by omega, by go_num, HX.out, HBk0.out.on HZ.out, HBW.out.trans (HZ.out.mono HBs.out)⟩, by simp [intOf]; omega⟩
          · rw [hnf] at HSh HNm
            have HU2 : Hid (u = servesI (kx : Int) (fieldQ la la.length m)) := HE2.out (by rw [HNm.out]; rfl)
            obtain ⟨fq, hfq⟩ : ∃ fq, Hid (fieldQ la la.length m = fq) := ⟨_, rfl⟩
            rw [hfq.out] at HU2
            obtain ⟨k2, s2, ty2, lo2, hi2, t2, ps2, hd2⟩ := fq
            obtain ⟨sv, hsv⟩ : ∃ v, Hid (servesI (kx : Int) (k2, s2, ty2, lo2, hi2, t2, ps2, hd2) = v) := ⟨_, rfl⟩
            rw [hsv.out] at HU2
            clear HE1 HE2
            cases sv
            · have HZz := hid (HNo.out HU2.out)
              clear HNo HNext
              refine wp_region_held_drew (S := (fun w' => Below W0.heap.size W0 w' ∧ (w'.cell? ⟨wr.heap.size, 0, none⟩ = some (.int .i64 (kx : Int)) ∧ w'.cell? ⟨wr.heap.size, 1, none⟩ = some (.int .i64 n) ∧ w'.cell? ⟨wr.heap.size, 2, none⟩ = some (.string m)) ∧ w'.cell? ⟨4, kx * 7 + 3, none⟩ = some (.bool true))) (by kernel_rfl) ?_ (fun hHeld => ?_)
              · (try dsimp only) <;> (first | exact keepP HP3.out HSh.out hN | exact keepP HP3.out HSh.out h0)
              refine wpAnyH_take (i := 0) (oi := { dst := some 34, op := Go.Op.fieldAddr 75 (Go.Operand.tmp 8) 0, type := 0, pos := "l06_form.go:165", after := #[], guard := none }) (v := ?_) rfl (by kernel_rfl) (by kernel_rfl) (by kernel_rfl) (fun _ _ _ h => h) (Or.inl ⟨by rfl, ?yld8⟩) hHeld ?nxt8
              case yld8 => (intro w hSw; (try dsimp only at hSw); go_simp) <;> with_reducible rfl
              (try simp only [Act.put, List.setIfInBounds_toArray, List.set_cons_zero, List.set_cons_succ])
              refine wpAnyH_take (i := 1) (oi := { dst := some 35, op := Go.Op.load 2 (Go.Operand.tmp 34), type := 2, pos := "l06_form.go:165", after := #[{ on := 0, ground := Go.Ground.data }], guard := none }) (v := ?_) rfl (by kernel_rfl) (by kernel_rfl) (by kernel_rfl) (fun _ _ _ h => h) (Or.inl ⟨by rfl, ?yld9⟩) hHeld ?nxt9
              case yld9 => (intro w hSw; (try dsimp only at hSw); go_simp) <;> with_reducible rfl
              (try simp only [Act.put, List.setIfInBounds_toArray, List.set_cons_zero, List.set_cons_succ])
              refine wpAnyH_take (i := 2) (oi := { dst := some 36, op := Go.Op.indexAddr 105 (Go.Operand.global 4) (Go.Operand.tmp 35), type := 0, pos := "l06_form.go:165", after := #[{ on := 1, ground := Go.Ground.data }], guard := none }) (v := ?_) rfl (by kernel_rfl) (by kernel_rfl) (by kernel_rfl) (fun _ _ _ h => h) (Or.inl ⟨by rfl, ?yld10⟩) hHeld ?nxt10
              case yld10 => (intro w hSw; (try dsimp only at hSw); go_simp) <;> with_reducible rfl
              (try simp only [Act.put, List.setIfInBounds_toArray, List.set_cons_zero, List.set_cons_succ])
              refine wpAnyH_take (i := 3) (oi := { dst := some 37, op := Go.Op.fieldAddr 104 (Go.Operand.tmp 36) 3, type := 0, pos := "l06_form.go:165", after := #[{ on := 2, ground := Go.Ground.data }], guard := none }) (v := ?_) rfl (by kernel_rfl) (by kernel_rfl) (by kernel_rfl) (fun _ _ _ h => h) (Or.inl ⟨by rfl, ?yld11⟩) hHeld ?nxt11
              case yld11 => (intro w hSw; (try dsimp only at hSw); go_simp) <;> with_reducible rfl
              (try simp only [Act.put, List.setIfInBounds_toArray, List.set_cons_zero, List.set_cons_succ])
              refine wpAnyH_take (i := 4) (oi := { dst := some 38, op := Go.Op.load 4 (Go.Operand.tmp 37), type := 4, pos := "l06_form.go:165", after := #[{ on := 3, ground := Go.Ground.data }], guard := none }) (v := ?_) rfl (by kernel_rfl) (by kernel_rfl) (by kernel_rfl) (fun _ _ _ h => h) (Or.inl ⟨by rfl, ?yld12⟩) hHeld ?nxt12
              case yld12 => (intro w hSw; (try dsimp only at hSw); go_simp) <;> with_reducible rfl
              (try simp only [Act.put, List.setIfInBounds_toArray, List.set_cons_zero, List.set_cons_succ])
              refine wpAnyH_take (i := 5) (oi := { dst := some 39, op := Go.Op.move (Go.Operand.tmp 38), type := 4, pos := "l06_form.go:165", after := #[{ on := 4, ground := Go.Ground.data }], guard := none }) (v := ?_) rfl (by kernel_rfl) (by kernel_rfl) (by kernel_rfl) (fun _ _ _ h => h) (Or.inl ⟨by rfl, ?yld13⟩) hHeld ?nxt13
              case yld13 => (intro w hSw; (try dsimp only at hSw); go_simp) <;> with_reducible rfl
              (try simp only [Act.put, List.setIfInBounds_toArray, List.set_cons_zero, List.set_cons_succ])
              refine wpAnyH_take (i := 6) (oi := { dst := some 40, op := Go.Op.move (Go.Operand.tmp 0), type := 25, pos := "l06_form.go:165", after := #[{ on := 5, ground := Go.Ground.guard }], guard := some (5, true) }) (v := ?_) rfl (by kernel_rfl) (by kernel_rfl) (by kernel_rfl) (fun _ _ _ h => h) (Or.inl ⟨by rfl, ?yld14⟩) hHeld ?nxt14
              case yld14 => (intro w hSw; (try dsimp only at hSw); go_simp) <;> with_reducible rfl
              (try simp only [Act.put, List.setIfInBounds_toArray, List.set_cons_zero, List.set_cons_succ])
              refine wpAnyH_take (i := 7) (oi := { dst := some 41, op := Go.Op.fieldAddr 75 (Go.Operand.tmp 8) 2, type := 0, pos := "l06_form.go:165", after := #[{ on := 5, ground := Go.Ground.guard }], guard := some (5, true) }) (v := ?_) rfl (by kernel_rfl) (by kernel_rfl) (by kernel_rfl) (fun _ _ _ h => h) (Or.inl ⟨by rfl, ?yld15⟩) hHeld ?nxt15
              case yld15 => (intro w hSw; (try dsimp only at hSw); go_simp) <;> with_reducible rfl
              (try simp only [Act.put, List.setIfInBounds_toArray, List.set_cons_zero, List.set_cons_succ])
              refine wpAnyH_take (i := 8) (oi := { dst := some 42, op := Go.Op.load 9 (Go.Operand.tmp 41), type := 9, pos := "l06_form.go:165", after := #[{ on := 7, ground := Go.Ground.data }, { on := 5, ground := Go.Ground.guard }], guard := some (5, true) }) (v := ?_) rfl (by kernel_rfl) (by kernel_rfl) (by kernel_rfl) (fun _ _ _ h => h) (Or.inl ⟨by rfl, ?yld16⟩) hHeld ?nxt16
              case yld16 => (intro w hSw; (try dsimp only at hSw); go_simp) <;> with_reducible rfl
              (try simp only [Act.put, List.setIfInBounds_toArray, List.set_cons_zero, List.set_cons_succ])
              refine wpAnyH_take (i := 10) (oi := { dst := some 44, op := Go.Op.load 75 (Go.Operand.tmp 8), type := 75, pos := "l06_form.go:165", after := #[{ on := 5, ground := Go.Ground.guard }], guard := some (5, true) }) (v := ?_) rfl (by kernel_rfl) (by kernel_rfl) (by kernel_rfl) (fun _ _ _ h => h) (Or.inl ⟨by rfl, ?yld17⟩) hHeld ?nxt17
              case yld17 => (intro w hSw; (try dsimp only at hSw); go_simp) <;> with_reducible rfl
              (try simp only [Act.put, List.setIfInBounds_toArray, List.set_cons_zero, List.set_cons_succ])
              refine wpAnyH_ready (rs := [9]) (by kernel_rfl) (by simp) ?_
              refine AllReadyH.cons (o := { dst := some 43, op := Go.Op.call { callee := Go.Callee.value (Go.Operand.func 37), args := #[Go.Operand.tmp 40, Go.Operand.tmp 42], argTypes := #[25, 9] }, type := 31, pos := "l06_form.go:165", after := #[{ on := 6, ground := Go.Ground.data }, { on := 8, ground := Go.Ground.data }, { on := 5, ground := Go.Ground.chain }, { on := 5, ground := Go.Ground.guard }], guard := some (5, true) }) rfl (fun K hK => ?_) AllReadyH.nil
              go_simp
              go_at_call 37
              have hp := hHeld.1
              refine (impl_field a cap la m _ (HA.out.on (HB.out.trans (hp.mono HBs.out)))).mono ?_
              rintro e w' ⟨⟨ai2, ci2, rfl, -, -⟩, hB⟩
              rw [hfq.out]
              dsimp only [itv, ik, inm, ity, ilo, ihi, itx, iex, ihd]
              have hN := hp.trans (hB.mono hp.size)
              clear hp hB
              (try go_wp2_with fail)
              refine hK.out _ _ ?_ (fun hHeld2 => ?_)
              · (try dsimp only) <;> (first | exact keepP HP3.out HSh.out hN | exact keepP HP3.out HSh.out h0)
              clear hK K hHeld
              have hHeld := hHeld2
              clear hHeld2
              (try simp only [Act.put, List.setIfInBounds_toArray, List.set_cons_zero, List.set_cons_succ])
              refine wpAnyH_ready (rs := [11]) (by kernel_rfl) (by simp) ?_
              refine AllReadyH.cons (o := { dst := some 45, op := Go.Op.call { callee := Go.Callee.value (Go.Operand.func 78), args := #[Go.Operand.tmp 43, Go.Operand.tmp 44], argTypes := #[31, 75] }, type := 4, pos := "l06_form.go:165", after := #[{ on := 9, ground := Go.Ground.data }, { on := 10, ground := Go.Ground.data }, { on := 9, ground := Go.Ground.chain }, { on := 5, ground := Go.Ground.guard }], guard := some (5, true) }) rfl (fun K hK => ?_) AllReadyH.nil
              go_simp
              go_at_call 78
              have hp := hHeld.1
              refine (impl_serves k2 s2 ty2 lo2 hi2 t2 ai2 ps2.length ci2 hd2 ps2 (kx : Int) n m _).mono ?_
              rintro e w' ⟨rfl, hB⟩
              rw [hsv.out]
              have hN := hp.trans (hB.mono hp.size)
              clear hp hB
              (try go_wp2_with fail)
              refine hK.out _ _ ?_ (fun hHeld2 => ?_)
              · (try dsimp only) <;> (first | exact keepP HP3.out HSh.out hN | exact keepP HP3.out HSh.out h0)
              clear hK K hHeld
              have hHeld := hHeld2
              clear hHeld2
              (try simp only [Act.put, List.setIfInBounds_toArray, List.set_cons_zero, List.set_cons_succ])
              refine wpAnyH_take (i := 12) (oi := { dst := some 46, op := Go.Op.unOp Go.UnOp.not 4 (Go.Operand.tmp 45), type := 4, pos := "l06_form.go:165", after := #[{ on := 11, ground := Go.Ground.data }, { on := 5, ground := Go.Ground.guard }], guard := some (5, true) }) (v := ?_) rfl (by kernel_rfl) (by kernel_rfl) (by kernel_rfl) (fun _ _ _ h => h) (Or.inl ⟨by rfl, ?yld18⟩) hHeld ?nxt18
              case yld18 => (intro w hSw; (try dsimp only at hSw); go_simp) <;> with_reducible rfl
              (try simp only [Act.put, List.setIfInBounds_toArray, List.set_cons_zero, List.set_cons_succ])
              refine wpAnyH_take (i := 13) (oi := { dst := some 47, op := Go.Op.pick (Go.Operand.tmp 39) (Go.Operand.tmp 46) (Go.Operand.const (Go.Value.bool false)), type := 4, pos := "l06_form.go:165", after := #[{ on := 5, ground := Go.Ground.data }, { on := 12, ground := Go.Ground.data }], guard := none }) (v := ?_) rfl (by kernel_rfl) (by kernel_rfl) (by kernel_rfl) (fun _ _ _ h => h) (Or.inl ⟨by rfl, ?yld19⟩) hHeld ?nxt19
              case yld19 => (intro w hSw; (try dsimp only at hSw); go_simp) <;> with_reducible rfl
              (try simp only [Act.put, List.setIfInBounds_toArray, List.set_cons_zero, List.set_cons_succ])
              refine wpAnyH_done (by kernel_rfl) ?_ _
              have HZ := hid hHeld.1
              obtain ⟨-, tp, pe, r5⟩ := HR5.out.on HZ.out
              have hg5 := (HR5.out.on HZ.out).1
              clear hHeld h0
              go_wp2_with fail
              go_ret
              exact ⟨⟨_, rfl, .inr ⟨by rw [HZz.out, Bool.and_false], tp, pe, rfl⟩⟩, HBW.out.trans (HZ.out.mono HBs.out)⟩
            · have HX := hid (HNext.out HU2.out)
              clear HNo HNext
              refine wp_region_held_drew (S := (fun w' => Below W0.heap.size W0 w' ∧ (w'.cell? ⟨wr.heap.size, 0, none⟩ = some (.int .i64 (kx : Int)) ∧ w'.cell? ⟨wr.heap.size, 1, none⟩ = some (.int .i64 n) ∧ w'.cell? ⟨wr.heap.size, 2, none⟩ = some (.string m)) ∧ w'.cell? ⟨4, kx * 7 + 3, none⟩ = some (.bool true))) (by kernel_rfl) ?_ (fun hHeld => ?_)
              · (try dsimp only) <;> (first | exact keepP HP3.out HSh.out hN | exact keepP HP3.out HSh.out h0)
              refine wpAnyH_take (i := 0) (oi := { dst := some 34, op := Go.Op.fieldAddr 75 (Go.Operand.tmp 8) 0, type := 0, pos := "l06_form.go:165", after := #[], guard := none }) (v := ?_) rfl (by kernel_rfl) (by kernel_rfl) (by kernel_rfl) (fun _ _ _ h => h) (Or.inl ⟨by rfl, ?yld20⟩) hHeld ?nxt20
              case yld20 => (intro w hSw; (try dsimp only at hSw); go_simp) <;> with_reducible rfl
              (try simp only [Act.put, List.setIfInBounds_toArray, List.set_cons_zero, List.set_cons_succ])
              refine wpAnyH_take (i := 1) (oi := { dst := some 35, op := Go.Op.load 2 (Go.Operand.tmp 34), type := 2, pos := "l06_form.go:165", after := #[{ on := 0, ground := Go.Ground.data }], guard := none }) (v := ?_) rfl (by kernel_rfl) (by kernel_rfl) (by kernel_rfl) (fun _ _ _ h => h) (Or.inl ⟨by rfl, ?yld21⟩) hHeld ?nxt21
              case yld21 => (intro w hSw; (try dsimp only at hSw); go_simp) <;> with_reducible rfl
              (try simp only [Act.put, List.setIfInBounds_toArray, List.set_cons_zero, List.set_cons_succ])
              refine wpAnyH_take (i := 2) (oi := { dst := some 36, op := Go.Op.indexAddr 105 (Go.Operand.global 4) (Go.Operand.tmp 35), type := 0, pos := "l06_form.go:165", after := #[{ on := 1, ground := Go.Ground.data }], guard := none }) (v := ?_) rfl (by kernel_rfl) (by kernel_rfl) (by kernel_rfl) (fun _ _ _ h => h) (Or.inl ⟨by rfl, ?yld22⟩) hHeld ?nxt22
              case yld22 => (intro w hSw; (try dsimp only at hSw); go_simp) <;> with_reducible rfl
              (try simp only [Act.put, List.setIfInBounds_toArray, List.set_cons_zero, List.set_cons_succ])
              refine wpAnyH_take (i := 3) (oi := { dst := some 37, op := Go.Op.fieldAddr 104 (Go.Operand.tmp 36) 3, type := 0, pos := "l06_form.go:165", after := #[{ on := 2, ground := Go.Ground.data }], guard := none }) (v := ?_) rfl (by kernel_rfl) (by kernel_rfl) (by kernel_rfl) (fun _ _ _ h => h) (Or.inl ⟨by rfl, ?yld23⟩) hHeld ?nxt23
              case yld23 => (intro w hSw; (try dsimp only at hSw); go_simp) <;> with_reducible rfl
              (try simp only [Act.put, List.setIfInBounds_toArray, List.set_cons_zero, List.set_cons_succ])
              refine wpAnyH_take (i := 4) (oi := { dst := some 38, op := Go.Op.load 4 (Go.Operand.tmp 37), type := 4, pos := "l06_form.go:165", after := #[{ on := 3, ground := Go.Ground.data }], guard := none }) (v := ?_) rfl (by kernel_rfl) (by kernel_rfl) (by kernel_rfl) (fun _ _ _ h => h) (Or.inl ⟨by rfl, ?yld24⟩) hHeld ?nxt24
              case yld24 => (intro w hSw; (try dsimp only at hSw); go_simp) <;> with_reducible rfl
              (try simp only [Act.put, List.setIfInBounds_toArray, List.set_cons_zero, List.set_cons_succ])
              refine wpAnyH_take (i := 5) (oi := { dst := some 39, op := Go.Op.move (Go.Operand.tmp 38), type := 4, pos := "l06_form.go:165", after := #[{ on := 4, ground := Go.Ground.data }], guard := none }) (v := ?_) rfl (by kernel_rfl) (by kernel_rfl) (by kernel_rfl) (fun _ _ _ h => h) (Or.inl ⟨by rfl, ?yld25⟩) hHeld ?nxt25
              case yld25 => (intro w hSw; (try dsimp only at hSw); go_simp) <;> with_reducible rfl
              (try simp only [Act.put, List.setIfInBounds_toArray, List.set_cons_zero, List.set_cons_succ])
              refine wpAnyH_take (i := 6) (oi := { dst := some 40, op := Go.Op.move (Go.Operand.tmp 0), type := 25, pos := "l06_form.go:165", after := #[{ on := 5, ground := Go.Ground.guard }], guard := some (5, true) }) (v := ?_) rfl (by kernel_rfl) (by kernel_rfl) (by kernel_rfl) (fun _ _ _ h => h) (Or.inl ⟨by rfl, ?yld26⟩) hHeld ?nxt26
              case yld26 => (intro w hSw; (try dsimp only at hSw); go_simp) <;> with_reducible rfl
              (try simp only [Act.put, List.setIfInBounds_toArray, List.set_cons_zero, List.set_cons_succ])
              refine wpAnyH_take (i := 7) (oi := { dst := some 41, op := Go.Op.fieldAddr 75 (Go.Operand.tmp 8) 2, type := 0, pos := "l06_form.go:165", after := #[{ on := 5, ground := Go.Ground.guard }], guard := some (5, true) }) (v := ?_) rfl (by kernel_rfl) (by kernel_rfl) (by kernel_rfl) (fun _ _ _ h => h) (Or.inl ⟨by rfl, ?yld27⟩) hHeld ?nxt27
              case yld27 => (intro w hSw; (try dsimp only at hSw); go_simp) <;> with_reducible rfl
              (try simp only [Act.put, List.setIfInBounds_toArray, List.set_cons_zero, List.set_cons_succ])
              refine wpAnyH_take (i := 8) (oi := { dst := some 42, op := Go.Op.load 9 (Go.Operand.tmp 41), type := 9, pos := "l06_form.go:165", after := #[{ on := 7, ground := Go.Ground.data }, { on := 5, ground := Go.Ground.guard }], guard := some (5, true) }) (v := ?_) rfl (by kernel_rfl) (by kernel_rfl) (by kernel_rfl) (fun _ _ _ h => h) (Or.inl ⟨by rfl, ?yld28⟩) hHeld ?nxt28
              case yld28 => (intro w hSw; (try dsimp only at hSw); go_simp) <;> with_reducible rfl
              (try simp only [Act.put, List.setIfInBounds_toArray, List.set_cons_zero, List.set_cons_succ])
              refine wpAnyH_take (i := 10) (oi := { dst := some 44, op := Go.Op.load 75 (Go.Operand.tmp 8), type := 75, pos := "l06_form.go:165", after := #[{ on := 5, ground := Go.Ground.guard }], guard := some (5, true) }) (v := ?_) rfl (by kernel_rfl) (by kernel_rfl) (by kernel_rfl) (fun _ _ _ h => h) (Or.inl ⟨by rfl, ?yld29⟩) hHeld ?nxt29
              case yld29 => (intro w hSw; (try dsimp only at hSw); go_simp) <;> with_reducible rfl
              (try simp only [Act.put, List.setIfInBounds_toArray, List.set_cons_zero, List.set_cons_succ])
              refine wpAnyH_ready (rs := [9]) (by kernel_rfl) (by simp) ?_
              refine AllReadyH.cons (o := { dst := some 43, op := Go.Op.call { callee := Go.Callee.value (Go.Operand.func 37), args := #[Go.Operand.tmp 40, Go.Operand.tmp 42], argTypes := #[25, 9] }, type := 31, pos := "l06_form.go:165", after := #[{ on := 6, ground := Go.Ground.data }, { on := 8, ground := Go.Ground.data }, { on := 5, ground := Go.Ground.chain }, { on := 5, ground := Go.Ground.guard }], guard := some (5, true) }) rfl (fun K hK => ?_) AllReadyH.nil
              go_simp
              go_at_call 37
              have hp := hHeld.1
              refine (impl_field a cap la m _ (HA.out.on (HB.out.trans (hp.mono HBs.out)))).mono ?_
              rintro e w' ⟨⟨ai2, ci2, rfl, -, -⟩, hB⟩
              rw [hfq.out]
              dsimp only [itv, ik, inm, ity, ilo, ihi, itx, iex, ihd]
              have hN := hp.trans (hB.mono hp.size)
              clear hp hB
              (try go_wp2_with fail)
              refine hK.out _ _ ?_ (fun hHeld2 => ?_)
              · (try dsimp only) <;> (first | exact keepP HP3.out HSh.out hN | exact keepP HP3.out HSh.out h0)
              clear hK K hHeld
              have hHeld := hHeld2
              clear hHeld2
              (try simp only [Act.put, List.setIfInBounds_toArray, List.set_cons_zero, List.set_cons_succ])
              refine wpAnyH_ready (rs := [11]) (by kernel_rfl) (by simp) ?_
              refine AllReadyH.cons (o := { dst := some 45, op := Go.Op.call { callee := Go.Callee.value (Go.Operand.func 78), args := #[Go.Operand.tmp 43, Go.Operand.tmp 44], argTypes := #[31, 75] }, type := 4, pos := "l06_form.go:165", after := #[{ on := 9, ground := Go.Ground.data }, { on := 10, ground := Go.Ground.data }, { on := 9, ground := Go.Ground.chain }, { on := 5, ground := Go.Ground.guard }], guard := some (5, true) }) rfl (fun K hK => ?_) AllReadyH.nil
              go_simp
              go_at_call 78
              have hp := hHeld.1
              refine (impl_serves k2 s2 ty2 lo2 hi2 t2 ai2 ps2.length ci2 hd2 ps2 (kx : Int) n m _).mono ?_
              rintro e w' ⟨rfl, hB⟩
              rw [hsv.out]
              have hN := hp.trans (hB.mono hp.size)
              clear hp hB
              (try go_wp2_with fail)
              refine hK.out _ _ ?_ (fun hHeld2 => ?_)
              · (try dsimp only) <;> (first | exact keepP HP3.out HSh.out hN | exact keepP HP3.out HSh.out h0)
              clear hK K hHeld
              have hHeld := hHeld2
              clear hHeld2
              (try simp only [Act.put, List.setIfInBounds_toArray, List.set_cons_zero, List.set_cons_succ])
              refine wpAnyH_take (i := 12) (oi := { dst := some 46, op := Go.Op.unOp Go.UnOp.not 4 (Go.Operand.tmp 45), type := 4, pos := "l06_form.go:165", after := #[{ on := 11, ground := Go.Ground.data }, { on := 5, ground := Go.Ground.guard }], guard := some (5, true) }) (v := ?_) rfl (by kernel_rfl) (by kernel_rfl) (by kernel_rfl) (fun _ _ _ h => h) (Or.inl ⟨by rfl, ?yld30⟩) hHeld ?nxt30
              case yld30 => (intro w hSw; (try dsimp only at hSw); go_simp) <;> with_reducible rfl
              (try simp only [Act.put, List.setIfInBounds_toArray, List.set_cons_zero, List.set_cons_succ])
              refine wpAnyH_take (i := 13) (oi := { dst := some 47, op := Go.Op.pick (Go.Operand.tmp 39) (Go.Operand.tmp 46) (Go.Operand.const (Go.Value.bool false)), type := 4, pos := "l06_form.go:165", after := #[{ on := 5, ground := Go.Ground.data }, { on := 12, ground := Go.Ground.data }], guard := none }) (v := ?_) rfl (by kernel_rfl) (by kernel_rfl) (by kernel_rfl) (fun _ _ _ h => h) (Or.inl ⟨by rfl, ?yld31⟩) hHeld ?nxt31
              case yld31 => (intro w hSw; (try dsimp only at hSw); go_simp) <;> with_reducible rfl
              (try simp only [Act.put, List.setIfInBounds_toArray, List.set_cons_zero, List.set_cons_succ])
              refine wpAnyH_done (by kernel_rfl) ?_ _
              have HZ := hid hHeld.1
              clear hHeld h0
              go_wp2_with fail
              exact ⟨⟨j + 1, by omega, by go_num, HX.out, HBk0.out.on HZ.out, HBW.out.trans (HZ.out.mono HBs.out)⟩, by simp [intOf]; omega⟩
        · obtain rfl : j = ps.length := by omega
          have HN2 : Hid (n2 = true) := by
            show _ = _
            rw [← hn2.out]
            exact uses_yes HU.out
          go_wp2_with fail
          go_ret
          exact ⟨⟨_, rfl, .inl ⟨by rw [HN1.out, HN2.out]; rfl, rfl⟩⟩, HB.out⟩
end Go.Proofs.YtbhblnpehhaiiaaDoor.FrmI
