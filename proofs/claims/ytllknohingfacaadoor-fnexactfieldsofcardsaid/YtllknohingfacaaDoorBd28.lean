/- Texts of ours, laid together: MarkRowP. -/
import Derived.Test.YtllknohingfacaaDoorBd22
import Derived.Test.YtllknohingfacaaDoorBd17
/- Marks that the laws write into rows of parts that a call has made, and look for. -/
namespace Go.Proofs.YtllknohingfacaaDoor.FldK
open Go.RowKit
open StrW DecM

/-- the mark of a cell -/
def mkc (i : Nat) : Value := if i % 3 = 2 then encS (markL (i + 1)) else .int .i64 ((i : Int) + 1)
theorem mkc0 (k : Nat) : mkc (k * 3) = .int .i64 (1 + 3 * (k : Int)) := by unfold mkc; rw [if_neg (by omega)]; congr 1; omega
theorem mkc1 (k : Nat) : mkc (k * 3 + 1) = .int .i64 (1 + 3 * (k : Int) + 1) := by unfold mkc; rw [if_neg (by omega)]; congr 1; omega
theorem mkc2 (k : Nat) : mkc (k * 3 + 2) = encS (markL (3 * k + 3)) := by unfold mkc; rw [if_pos (by omega), show k * 3 + 2 + 1 = 3 * k + 3 by omega]
/-- the first j cells of block g bear marks -/
def Mk3 (w : World) (g cap j : Nat) : Prop := ∃ cur : Array Value, w.heap[g]? = some (.cells cur 61 (0, 0)) ∧ cur.size = cap * 3 ∧ ∀ i, i < j → cur[i]? = some (mkc i)
theorem Mk3.on {w w' : World} {g cap j : Nat} (h : Mk3 w g cap j) (hB : Below w.heap.size w w') : Mk3 w' g cap j := by
  obtain ⟨cur, hg, hs, hc⟩ := h
  exact ⟨cur, by rw [hB.block g (blk_lt hg)]; exact hg, hs, hc⟩
theorem Mk3.room {w : World} {g cap j i : Nat} (h : Mk3 w g cap j) (hi : i < cap * 3) : (∃ v, w.cell? ⟨g, i, none⟩ = some v) ∧ w.frozen? ⟨g, i, none⟩ = false := by
  obtain ⟨cur, hg, hs, hc⟩ := h
  refine ⟨⟨cur[i]'(by omega), ?_⟩, by simp [World.frozen?, hg]⟩
  simp [World.cell?, hg, show i < cur.size by omega]
theorem Mk3.put {w : World} {g cap j : Nat} (h : Mk3 w g cap j) (hj : j < cap * 3) {v : Value} (hv : mkc j = v) : Mk3 (w.setCell ⟨g, j, none⟩ v) g cap (j + 1) := by
  subst hv
  obtain ⟨cur, hg, hs, hc⟩ := h
  refine ⟨_, PrtW.blk_set _ _ _ _ _ _ hg, by simpa using hs, fun i hi => ?_⟩
  rw [Array.getElem?_setIfInBounds]
  by_cases he : j = i
  · subst he; rw [if_pos rfl, if_pos (by omega)]
  · rw [if_neg he]; exact hc i (by omega)
theorem Mk3.at {w : World} {g cap j i : Nat} (h : Mk3 w g cap j) (hi : i < j) : w.cell? ⟨g, i, none⟩ = some (mkc i) := by
  obtain ⟨cur, hg, hs, hc⟩ := h
  simp [World.cell?, hg, hc i hi]
theorem Mk3.lt {w : World} {g cap j : Nat} (h : Mk3 w g cap j) : g < w.heap.size := by
  obtain ⟨cur, hg, _⟩ := h
  exact blk_lt hg
/-- a row of n parts, each with its marks -/
def Mkd (w : World) (a : Option Addr) (n : Nat) : Prop := n ≤ 1048576 ∧ (0 < n → ∃ g cap, a = some ⟨g, 0, none⟩ ∧ Mk3 w g cap (n * 3))
theorem Mkd.on {w w' : World} {a : Option Addr} {n : Nat} (h : Mkd w a n) (hB : Below w.heap.size w w') : Mkd w' a n := ⟨h.1, fun hp => by
  obtain ⟨g, cap, e, hm⟩ := h.2 hp
  exact ⟨g, cap, e, hm.on hB⟩⟩

set_option maxRecDepth 10000 in
set_option maxHeartbeats 1600000 in
theorem mark_row (base : Nat) (v : Value) (n : Nat) (xs : List Value) (w : World) (hown : w.ownsRow base 61 3 v n xs) (hl : n ≤ 1048576) :
    Calls Tryd.prog 29 #[v, .int .i64 1] w fun e w' => e = .returned (.int .i64 (1 + 3 * (n : Int))) ∧ w.grownBy w' v.ownBlock ∧ ∀ a len cap, v = .slice a len cap → Mkd w' a n := by
  rcases hown.2 with ⟨rfl, rfl⟩ | ⟨g, cap, cur, rfl, hb, hg, hc, hm, hs, ht⟩
  · clear hown
    go_enter Tryd.func29, Tryd.ntmps29
    go_wp2
    go_loopw [1, 5] (fun k i wr => k = .int .i64 1 ∧ i = .int .i64 0 ∧ wr = w) (fun _ _ _ => 0)
    case atStart => exact ⟨rfl, rfl, rfl⟩
    case round =>
      obtain ⟨rfl, rfl, hw⟩ := hrel
      obtain rfl := hw
      go_wp2
      go_ret
      exact ⟨rfl, ⟨rfl, rfl, rfl, Nat.le_refl _, fun _ _ _ => rfl⟩, fun a len cap _ => ⟨Nat.zero_le _, fun h => absurd h (Nat.lt_irrefl _)⟩⟩
  · have HM0 : Hid (Mk3 w g cap 0) := ⟨cur, hg, by omega, fun i hi => absurd hi (Nat.not_lt_zero _)⟩
    clear hown hg hs ht
    go_enter Tryd.func29, Tryd.ntmps29
    go_wp2
    go_loopw [1, 5] (fun k i wr => ∃ j : Nat, j ≤ n ∧ i = .int .i64 j ∧ k = .int .i64 (1 + 3 * (j : Int)) ∧ Hid (Mk3 wr g cap (j * 3)) ∧ Hid (Only w wr g)) (fun _ i _ => n - (intOf i).toNat)
    case atStart => exact ⟨0, Nat.zero_le _, rfl, rfl, HM0, Only.refl _ _⟩
    case round =>
      obtain ⟨k, hk, rfl, rfl, hM, hO⟩ := hrel
      by_cases hlt : k < n
      · obtain ⟨⟨v0, r0⟩, f0⟩ := hM.out.room (i := k * 3) (by omega)
        obtain ⟨⟨v1, r1⟩, f1⟩ := hM.out.room (i := k * 3 + 1) (by omega)
        have HO1 := hid ((hO.out.set (k * 3) (.int .i64 (1 + 3 * (k : Int)))).set (k * 3 + 1) (.int .i64 (1 + 3 * (k : Int) + 1)))
        have HM1 := hid ((hM.out.put (by omega) (mkc0 k)).put (by omega) (mkc1 k))
        clear hO hM
        go_wp2_with fail
        clear r0 r1 f0 f1
        generalize (wr.setCell ⟨g, k * 3, none⟩ (.int .i64 (1 + 3 * (k : Int)))).setCell ⟨g, k * 3 + 1, none⟩ (.int .i64 (1 + 3 * (k : Int) + 1)) = W2 at *
        rw [show (1 + 3 * (k : Int) + 1 + 1) = ((3 * k + 3 : Nat) : Int) by omega]
        refine (mark_text (3 * k + 3) W2 (by omega) (by omega)).mono ?_
        rintro e w3 ⟨rfl, hB3⟩
        have HM3 := hid (HM1.out.on hB3)
        have HO3 := hid (HO1.out.on hB3)
        obtain ⟨⟨v2, r2⟩, f2⟩ := HM3.out.room (i := k * 3 + 2) (by omega)
        have HP := hid (HM3.out.put (by omega) (mkc2 k))
        obtain ⟨T, hT⟩ : ∃ T : ByteArray, Hid ((⟨(markL (3 * k + 3)).toArray⟩ : ByteArray) = T) := ⟨_, rfl⟩
        unfold encS at HP ⊢
        rw [hT.out] at HP ⊢
        clear HM1 HO1 hB3 HM3
        go_wp2_with fail
        refine ⟨⟨k + 1, by omega, by go_num, by congr 1; omega, by rw [show (k + 1) * 3 = k * 3 + 1 + 1 + 1 by omega]; exact HP, HO3.out.set _ _⟩, by simp [intOf]; omega⟩
      · obtain rfl : k = n := by omega
        go_wp2
        go_ret
        exact ⟨rfl, hO.out, fun a len cap' e => by cases e; exact ⟨hl, fun _ => ⟨g, cap, rfl, hM.out⟩⟩⟩

set_option maxRecDepth 10000 in
set_option maxHeartbeats 1600000 in
theorem held_row (a : Option Addr) (n cap : Nat) (w : World) (hM : Mkd w a n) :
    Calls Tryd.prog 30 #[.slice a n cap, .int .i64 1] w fun e w' => e = .returned (.int .i64 (1 + 3 * (n : Int))) ∧ Below w.heap.size w w' := by
  have HM := hid hM
  have hl := hM.1
  clear hM
  go_enter Tryd.func30, Tryd.ntmps30
  go_wp2
  go_loopw [1, 5] (fun k i wr => ∃ j : Nat, j ≤ n ∧ i = .int .i64 j ∧ k = .int .i64 (1 + 3 * (j : Int)) ∧ Below w.heap.size w wr) (fun _ i _ => n - (intOf i).toNat)
  case atStart => exact ⟨0, Nat.zero_le _, rfl, rfl, Below.refl _ _⟩
  case round =>
    obtain ⟨k, hk, rfl, rfl, hbel⟩ := hrel
    by_cases hlt : k < n
    · obtain ⟨g, cap', rfl, hm⟩ := HM.out.2 (by omega)
      have hgl := hm.lt
      have c0 := hm.at (i := k * 3) (by omega)
      have c1 := hm.at (i := k * 3 + 1) (by omega)
      have c2 := hm.at (i := k * 3 + 2) (by omega)
      rw [mkc0] at c0
      rw [mkc1] at c1
      rw [mkc2] at c2
      rw [← hbel.cell (p := ⟨g, _, none⟩) hgl] at c0 c1 c2
      obtain ⟨T, hT⟩ : ∃ T : ByteArray, Hid ((⟨(markL (3 * k + 3)).toArray⟩ : ByteArray) = T) := ⟨_, rfl⟩
      unfold encS at c2
      rw [hT.out] at c2
      have HB := hid hbel
      have hbr : g < wr.heap.size := Nat.lt_of_lt_of_le hgl hbel.size
      have hB0 : Below wr.heap.size wr wr.drew := (Below.refl _ _).drew
      clear hbel hm
      have e3 : (1 + 3 * (k : Int) + 1 + 1) = ((3 * k + 3 : Nat) : Int) := by omega
      go_wp2_with fail
      clear e3 c0 c1
      refine wp_region_held_drew (S := (fun w' => Below wr.heap.size wr w' ∧ w'.cell? ⟨g, k * 3 + 2, none⟩ = some (.string T))) (by kernel_rfl) ?_ (fun hHeld => ?_)
      · (try dsimp only) <;> (first | exact ⟨hBn, (hBn.cell (p := ⟨g, k * 3 + 2, none⟩) hbr).trans c2⟩ | exact ⟨hB0, c2⟩)
      refine wpAnyH_take (i := 0) (oi := { dst := some 30, op := Go.Op.move (Go.Operand.tmp 0), type := 24, pos := "exact.go:309", after := #[], guard := none }) (v := ?_) rfl (by kernel_rfl) (by kernel_rfl) (by kernel_rfl) (fun _ _ _ h => h) (Or.inl ⟨by rfl, ?yld1⟩) hHeld ?nxt1
      case yld1 => (intro w hSw; (try dsimp only at hSw); go_simp) <;> with_reducible rfl
      (try simp only [Act.put, List.setIfInBounds_toArray, List.set_cons_zero, List.set_cons_succ])
      refine wpAnyH_take (i := 1) (oi := { dst := some 31, op := Go.Op.move (Go.Operand.tmp 5), type := 3, pos := "exact.go:309", after := #[], guard := none }) (v := ?_) rfl (by kernel_rfl) (by kernel_rfl) (by kernel_rfl) (fun _ _ _ h => h) (Or.inl ⟨by rfl, ?yld2⟩) hHeld ?nxt2
      case yld2 => (intro w hSw; (try dsimp only at hSw); go_simp) <;> with_reducible rfl
      (try simp only [Act.put, List.setIfInBounds_toArray, List.set_cons_zero, List.set_cons_succ])
      refine wpAnyH_take (i := 2) (oi := { dst := some 32, op := Go.Op.indexAddr 24 (Go.Operand.tmp 30) (Go.Operand.tmp 31), type := 0, pos := "exact.go:309", after := #[{ on := 0, ground := Go.Ground.data }, { on := 1, ground := Go.Ground.data }], guard := none }) (v := ?_) rfl (by kernel_rfl) (by kernel_rfl) (by kernel_rfl) (fun _ _ _ h => h) (Or.inl ⟨by rfl, ?yld3⟩) hHeld ?nxt3
      case yld3 => (intro w hSw; (try dsimp only at hSw); go_simp) <;> with_reducible rfl
      (try simp only [Act.put, List.setIfInBounds_toArray, List.set_cons_zero, List.set_cons_succ])
      refine wpAnyH_take (i := 3) (oi := { dst := some 33, op := Go.Op.fieldAddr 61 (Go.Operand.tmp 32) 2, type := 0, pos := "exact.go:309", after := #[{ on := 2, ground := Go.Ground.data }], guard := none }) (v := ?_) rfl (by kernel_rfl) (by kernel_rfl) (by kernel_rfl) (fun _ _ _ h => h) (Or.inl ⟨by rfl, ?yld4⟩) hHeld ?nxt4
      case yld4 => (intro w hSw; (try dsimp only at hSw); go_simp) <;> with_reducible rfl
      (try simp only [Act.put, List.setIfInBounds_toArray, List.set_cons_zero, List.set_cons_succ])
      refine wpAnyH_take (i := 4) (oi := { dst := some 34, op := Go.Op.load 9 (Go.Operand.tmp 33), type := 9, pos := "exact.go:309", after := #[{ on := 3, ground := Go.Ground.data }], guard := none }) (v := ?_) rfl (by kernel_rfl) (by kernel_rfl) (by kernel_rfl) (fun _ _ _ h => h) (Or.inl ⟨by rfl, ?yld5⟩) hHeld ?nxt5
      case yld5 => (intro w hSw; (try dsimp only at hSw); go_simp) <;> with_reducible rfl
      (try simp only [Act.put, List.setIfInBounds_toArray, List.set_cons_zero, List.set_cons_succ])
      refine wpAnyH_take (i := 5) (oi := { dst := some 35, op := Go.Op.move (Go.Operand.tmp 1), type := 3, pos := "exact.go:309", after := #[], guard := none }) (v := ?_) rfl (by kernel_rfl) (by kernel_rfl) (by kernel_rfl) (fun _ _ _ h => h) (Or.inl ⟨by rfl, ?yld6⟩) hHeld ?nxt6
      case yld6 => (intro w hSw; (try dsimp only at hSw); go_simp) <;> with_reducible rfl
      (try simp only [Act.put, List.setIfInBounds_toArray, List.set_cons_zero, List.set_cons_succ])
      refine wpAnyH_ready (rs := [6]) (by kernel_rfl) (by simp) ?_
      refine AllReadyH.cons (o := { dst := some 36, op := Go.Op.call { callee := Go.Callee.value (Go.Operand.func 28), args := #[Go.Operand.tmp 35], argTypes := #[3] }, type := 9, pos := "exact.go:309", after := #[{ on := 5, ground := Go.Ground.data }], guard := none }) rfl (fun K hK => ?_) AllReadyH.nil
      go_simp
      go_at_call 28
      have hp := hHeld.1
      refine (mark_text (3 * k + 3) _ (by omega) (by omega)).mono ?_
      rintro e w' ⟨rfl, hB⟩
      unfold encS
      rw [hT.out]
      have hBn := hp.trans (hB.mono hp.size)
      clear hp hB
      (try go_wp2_with fail)
      refine hK.out _ _ ?_ (fun hHeld2 => ?_)
      · (try dsimp only) <;> (first | exact ⟨hBn, (hBn.cell (p := ⟨g, k * 3 + 2, none⟩) hbr).trans c2⟩ | exact ⟨hB0, c2⟩)
      clear hK K hHeld
      have hHeld := hHeld2
      clear hHeld2
      (try simp only [Act.put, List.setIfInBounds_toArray, List.set_cons_zero, List.set_cons_succ])
      refine wpAnyH_take (i := 7) (oi := { dst := some 37, op := Go.Op.binOp Go.BinOp.neq 9 (Go.Operand.tmp 34) (Go.Operand.tmp 36) 9, type := 4, pos := "exact.go:309", after := #[{ on := 4, ground := Go.Ground.data }, { on := 6, ground := Go.Ground.data }], guard := none }) (v := ?_) rfl (by kernel_rfl) (by kernel_rfl) (by kernel_rfl) (fun _ _ _ h => h) (Or.inl ⟨by rfl, ?yld7⟩) hHeld ?nxt7
      case yld7 => (intro w hSw; (try dsimp only at hSw); go_simp) <;> with_reducible rfl
      (try simp only [Act.put, List.setIfInBounds_toArray, List.set_cons_zero, List.set_cons_succ])
      refine wpAnyH_done (by kernel_rfl) ?_ _
      have HBL := hid hHeld.1
      clear hHeld hB0 c2
      go_wp2_with fail
      refine ⟨⟨k + 1, by omega, by go_num, by congr 1; omega, HB.out.trans (HBL.out.mono HB.out.size)⟩, by simp [intOf]; omega⟩
    · obtain rfl : k = n := by omega
      go_wp2
      go_ret
      exact ⟨rfl, hbel⟩
end Go.Proofs.YtllknohingfacaaDoor.FldK
