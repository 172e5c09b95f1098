/- Marks that the laws write into lists of texts and of parts, and look for (2). -/
import Derived.Test.YtblnkdenkblhiaaDoorFldMark
namespace Go.Proofs.YtblnkdenkblhiaaDoor.FldK
open Go.RowKit
open StrW DecM

/-- nothing that lay there but block g has changed -/
def Only (w w' : World) (g : Nat) : Prop := w.grownBy w' (some g)
theorem Only.refl (w : World) (g : Nat) : Only w w g := ⟨rfl, rfl, rfl, Nat.le_refl _, fun _ _ _ => rfl⟩
theorem Only.on {w w' w'' : World} {g : Nat} (h : Only w w' g) (hB : Below w'.heap.size w' w'') : Only w w'' g :=
  ⟨hB.os.trans h.os, hB.tape.trans h.tape, hB.output.trans h.output, Nat.le_trans h.size hB.size, fun k hk hne => (hB.block k (Nat.lt_of_lt_of_le hk h.size)).trans (h.block k hk hne)⟩
theorem Only.set {w w' : World} {g : Nat} (h : Only w w' g) (o : Nat) (v : Value) : Only w (w'.setCell ⟨g, o, none⟩ v) g :=
  ⟨h.os, h.tape, h.output, by have := h.size; simpa using this, fun k hk hne => by
    rw [Below.heap_setCell _ _ _ _ (show k ≠ g from fun e => hne (by rw [e]))]; exact h.block k hk hne⟩
theorem Only.below {w w' : World} {g B : Nat} (h : Only w w' g) (hB : B ≤ g) (hs : B ≤ w.heap.size) : Below B w w' :=
  ⟨h.os, h.tape, h.output, h.size, fun k hk => h.block k (by omega) (fun e => by cases e; omega)⟩
theorem blk_lt {w : World} {g : Nat} {cs : Array Value} {T : TypeId} {f : Nat × Nat} (h : w.heap[g]? = some (.cells cs T f)) : g < w.heap.size := (Array.getElem?_eq_some_iff.1 h).1

/-- the first j texts of block g bear marks -/
def Mk (w : World) (g cap j : Nat) : Prop := ∃ cur : Array Value, w.heap[g]? = some (.cells cur 9 (0, 0)) ∧ cur.size = cap ∧ ∀ i, i < j → cur[i]? = some (encS (markL (1 + i)))
theorem Mk.on {w w' : World} {g cap j : Nat} (h : Mk w g cap j) (hB : Below w.heap.size w w') : Mk w' g cap j := by
  obtain ⟨cur, hg, hs, hc⟩ := h
  exact ⟨cur, by rw [hB.block g (blk_lt hg)]; exact hg, hs, hc⟩
theorem Mk.room {w : World} {g cap j i : Nat} (h : Mk w g cap j) (hi : i < cap) : (∃ v, w.cell? ⟨g, i, none⟩ = some v) ∧ w.frozen? ⟨g, i, none⟩ = false := by
  obtain ⟨cur, hg, hs, hc⟩ := h
  refine ⟨⟨cur[i]'(by omega), ?_⟩, by simp [World.frozen?, hg]⟩
  simp [World.cell?, hg, show i < cur.size by omega]
theorem Mk.put {w : World} {g cap j : Nat} (h : Mk w g cap j) (hj : j < cap) : Mk (w.setCell ⟨g, j, none⟩ (encS (markL (1 + j)))) g cap (j + 1) := by
  obtain ⟨cur, hg, hs, hc⟩ := h
  refine ⟨_, PrtW.blk_set _ _ _ _ _ _ hg, by simpa using hs, fun i hi => ?_⟩
  rw [Array.getElem?_setIfInBounds]
  by_cases he : j = i
  · subst he; rw [if_pos rfl, if_pos (by omega)]
  · rw [if_neg he]; exact hc i (by omega)

set_option maxRecDepth 10000 in
set_option maxHeartbeats 800000 in
theorem mark_strs (base : Nat) (v : Value) (ss : List (List UInt8)) (w : World) (hown : w.ownsRow base 9 1 v ss.length (strs ss)) (hl : ss.length ≤ 1048576) :
    Calls Tryd.prog 20 #[v, .int .i64 1] w fun e w' => e = .returned (.int .i64 (1 + ss.length)) ∧ w'.ownsRow base 9 1 v ss.length (strs (marks 1 ss.length)) ∧ w.grownBy w' v.ownBlock := by
  rcases hown.2 with ⟨rfl, h0⟩ | ⟨g, cap, cur, rfl, hb, hg, hc, hm, hs, ht⟩
  · obtain rfl := List.length_eq_zero_iff.1 h0
    clear hown
    go_enter Tryd.func20, Tryd.ntmps20
    go_wp2
    go_loopw [1, 5] (fun k i wr => k = .int .i64 1 ∧ i = .int .i64 0 ∧ wr = w) (fun _ _ _ => 0)
    case atStart => exact ⟨rfl, rfl, rfl⟩
    case round =>
      obtain ⟨rfl, rfl, hw⟩ := hrel
      obtain rfl := hw
      go_wp2
      go_ret
      exact ⟨rfl, ⟨rfl, .inl ⟨rfl, rfl⟩⟩, ⟨rfl, rfl, rfl, Nat.le_refl _, fun _ _ _ => rfl⟩⟩
  · have hM0 : Mk w g cap 0 := ⟨cur, hg, by omega, fun i hi => absurd hi (Nat.not_lt_zero _)⟩
    have HM0 := hid hM0
    clear hown hg hs ht hM0
    go_enter Tryd.func20, Tryd.ntmps20
    go_wp2
    go_loopw [1, 5] (fun k i wr => ∃ j : Nat, j ≤ ss.length ∧ i = .int .i64 j ∧ k = .int .i64 (1 + (j : Int)) ∧ Hid (Mk wr g cap j) ∧ Hid (Only w wr g)) (fun _ i _ => ss.length - (intOf i).toNat)
    case atStart => exact ⟨0, Nat.zero_le _, rfl, rfl, HM0, Only.refl _ _⟩
    case round =>
      obtain ⟨k, hk, rfl, rfl, hM, hO⟩ := hrel
      by_cases hlt : k < ss.length
      · go_wp2_with fail
        refine (mark_text (1 + k) wr (by omega) (by omega)).mono ?_
        rintro e w2 ⟨rfl, hB2⟩
        have HM2 := hid (hM.out.on hB2)
        have HO2 := hid (hO.out.on hB2)
        obtain ⟨⟨v0, r0⟩, f0⟩ := HM2.out.room (i := k) (by omega)
        have HP := hid (HM2.out.put (by omega))
        obtain ⟨T, hT⟩ : ∃ T : ByteArray, Hid ((⟨(markL (1 + k)).toArray⟩ : ByteArray) = T) := ⟨_, rfl⟩
        unfold encS at HP ⊢
        rw [hT.out] at HP ⊢
        clear hM hO hB2
        go_wp2_with fail
        refine ⟨⟨k + 1, by omega, by go_num, by go_num, HP, HO2.out.set _ _⟩, by simp [intOf]; omega⟩
      · obtain rfl : k = ss.length := by omega
        go_wp2
        go_ret
        refine ⟨rfl, ?_, hO.out⟩
        obtain ⟨cur2, hg2, hs2, hc2⟩ := hM.out
        refine ⟨by rw [strs_len, marks_len]; omega, .inr ⟨g, cap, cur2, rfl, hb, hg2, hc, hm, by omega, ?_⟩⟩
        apply List.ext_getElem?
        intro i
        rw [Nat.mul_one, List.getElem?_take]
        by_cases hi : i < ss.length
        · rw [if_pos hi, Array.getElem?_toList, hc2 i hi]
          unfold strs marks
          simp [hi]
        · rw [if_neg hi, List.getElem?_eq_none (by rw [strs_len, marks_len]; omega)]

set_option maxRecDepth 10000 in
set_option maxHeartbeats 800000 in
theorem held_strs (a : Option Addr) (cap n : Nat) (w : World) (hS : Strs w a (marks 1 n)) (hl : n ≤ 1048576) :
    Calls Tryd.prog 21 #[.slice a n cap, .int .i64 1] w fun e w' => e = .returned (.int .i64 (1 + n)) ∧ Below w.heap.size w w' := by
  have HS := hid hS
  clear hS
  go_enter Tryd.func21, Tryd.ntmps21
  go_wp2
  go_loopw [1, 5] (fun k i wr => ∃ j : Nat, j ≤ n ∧ i = .int .i64 j ∧ k = .int .i64 (1 + (j : Int)) ∧ Below w.heap.size w wr) (fun _ i _ => n - (intOf i).toNat)
  case atStart => exact ⟨0, Nat.zero_le _, rfl, rfl, Below.refl _ _⟩
  case round =>
    obtain ⟨k, hk, rfl, rfl, hbel⟩ := hrel
    by_cases hlt : k < n
    · obtain ⟨b, o, rfl, hb, c0⟩ := Strs.at HS.out (i := k) (by rw [marks_len]; exact hlt)
      rw [marks_at 1 n k hlt, ← hbel.cell (p := ⟨b, _, none⟩) hb] at c0
      obtain ⟨T, hT⟩ : ∃ T : ByteArray, Hid ((⟨(markL (1 + k)).toArray⟩ : ByteArray) = T) := ⟨_, rfl⟩
      unfold encS at c0
      rw [hT.out] at c0
      have HB := hid hbel
      have hbr : b < wr.heap.size := Nat.lt_of_lt_of_le hb hbel.size
      have hB0 : Below wr.heap.size wr wr.drew := (Below.refl _ _).drew
      clear hbel
      go_wp2_with fail
      refine wp_region_held_drew (S := (fun w' => Below wr.heap.size wr w' ∧ w'.cell? ⟨b, o + k, none⟩ = some (.string T))) (by kernel_rfl) ?_ (fun hHeld => ?_)
      · (try dsimp only) <;> (first | exact ⟨hBn, (hBn.cell (p := ⟨b, o + k, none⟩) hbr).trans c0⟩ | exact ⟨hB0, c0⟩)
      refine wpAnyH_take (i := 0) (oi := { dst := some 12, op := Go.Op.move (Go.Operand.tmp 0), type := 30, pos := "exact.go:352", after := #[], guard := none }) (v := ?_) rfl (by kernel_rfl) (by kernel_rfl) (by kernel_rfl) (fun _ _ _ h => h) (Or.inl ⟨by rfl, ?yld38⟩) hHeld ?nxt38
      case yld38 => (intro w hSw; (try dsimp only at hSw); go_simp) <;> with_reducible rfl
      (try simp only [Act.put, List.setIfInBounds_toArray, List.set_cons_zero, List.set_cons_succ])
      refine wpAnyH_take (i := 1) (oi := { dst := some 13, op := Go.Op.move (Go.Operand.tmp 5), type := 3, pos := "exact.go:352", after := #[], guard := none }) (v := ?_) rfl (by kernel_rfl) (by kernel_rfl) (by kernel_rfl) (fun _ _ _ h => h) (Or.inl ⟨by rfl, ?yld39⟩) hHeld ?nxt39
      case yld39 => (intro w hSw; (try dsimp only at hSw); go_simp) <;> with_reducible rfl
      (try simp only [Act.put, List.setIfInBounds_toArray, List.set_cons_zero, List.set_cons_succ])
      refine wpAnyH_take (i := 2) (oi := { dst := some 14, op := Go.Op.indexAddr 30 (Go.Operand.tmp 12) (Go.Operand.tmp 13), type := 0, pos := "exact.go:352", after := #[{ on := 0, ground := Go.Ground.data }, { on := 1, ground := Go.Ground.data }], guard := none }) (v := ?_) rfl (by kernel_rfl) (by kernel_rfl) (by kernel_rfl) (fun _ _ _ h => h) (Or.inl ⟨by rfl, ?yld40⟩) hHeld ?nxt40
      case yld40 => (intro w hSw; (try dsimp only at hSw); go_simp) <;> with_reducible rfl
      (try simp only [Act.put, List.setIfInBounds_toArray, List.set_cons_zero, List.set_cons_succ])
      refine wpAnyH_take (i := 3) (oi := { dst := some 15, op := Go.Op.load 9 (Go.Operand.tmp 14), type := 9, pos := "exact.go:352", after := #[{ on := 2, ground := Go.Ground.data }], guard := none }) (v := ?_) rfl (by kernel_rfl) (by kernel_rfl) (by kernel_rfl) (fun _ _ _ h => h) (Or.inl ⟨by rfl, ?yld41⟩) hHeld ?nxt41
      case yld41 => (intro w hSw; (try dsimp only at hSw); go_simp) <;> with_reducible rfl
      (try simp only [Act.put, List.setIfInBounds_toArray, List.set_cons_zero, List.set_cons_succ])
      refine wpAnyH_take (i := 4) (oi := { dst := some 16, op := Go.Op.move (Go.Operand.tmp 1), type := 3, pos := "exact.go:352", after := #[], guard := none }) (v := ?_) rfl (by kernel_rfl) (by kernel_rfl) (by kernel_rfl) (fun _ _ _ h => h) (Or.inl ⟨by rfl, ?yld42⟩) hHeld ?nxt42
      case yld42 => (intro w hSw; (try dsimp only at hSw); go_simp) <;> with_reducible rfl
      (try simp only [Act.put, List.setIfInBounds_toArray, List.set_cons_zero, List.set_cons_succ])
      refine wpAnyH_ready (rs := [5]) (by kernel_rfl) (by simp) ?_
      refine AllReadyH.cons (o := { dst := some 17, op := Go.Op.call { callee := Go.Callee.value (Go.Operand.func 34), args := #[Go.Operand.tmp 16], argTypes := #[3] }, type := 9, pos := "exact.go:352", after := #[{ on := 4, ground := Go.Ground.data }], guard := none }) rfl (fun K hK => ?_) AllReadyH.nil
      go_simp
      go_at_call 34
      have hp := hHeld.1
      refine (mark_text (1 + k) _ (by omega) (by omega)).mono ?_
      rintro e w' ⟨rfl, hB⟩
      unfold encS
      rw [hT.out]
      have hBn := hp.trans (hB.mono hp.size)
      clear hp hB
      (try go_wp2_with fail)
      refine hK.out _ _ ?_ (fun hHeld2 => ?_)
      · (try dsimp only) <;> (first | exact ⟨hBn, (hBn.cell (p := ⟨b, o + k, none⟩) hbr).trans c0⟩ | exact ⟨hB0, c0⟩)
      clear hK K hHeld
      have hHeld := hHeld2
      clear hHeld2
      (try simp only [Act.put, List.setIfInBounds_toArray, List.set_cons_zero, List.set_cons_succ])
      refine wpAnyH_take (i := 6) (oi := { dst := some 18, op := Go.Op.binOp Go.BinOp.neq 9 (Go.Operand.tmp 15) (Go.Operand.tmp 17) 9, type := 4, pos := "exact.go:352", after := #[{ on := 3, ground := Go.Ground.data }, { on := 5, ground := Go.Ground.data }], guard := none }) (v := ?_) rfl (by kernel_rfl) (by kernel_rfl) (by kernel_rfl) (fun _ _ _ h => h) (Or.inl ⟨by rfl, ?yld43⟩) hHeld ?nxt43
      case yld43 => (intro w hSw; (try dsimp only at hSw); go_simp) <;> with_reducible rfl
      (try simp only [Act.put, List.setIfInBounds_toArray, List.set_cons_zero, List.set_cons_succ])
      refine wpAnyH_done (by kernel_rfl) ?_ _
      have HBL := hid hHeld.1
      clear hHeld hB0 c0
      go_wp2_with fail
      refine ⟨⟨k + 1, by omega, by go_num, by go_num, HB.out.trans (HBL.out.mono HB.out.size)⟩, by simp [intOf]; omega⟩
    · obtain rfl : k = n := by omega
      go_wp2
      go_ret
      exact ⟨rfl, hbel⟩

/-- block g has room for n parts -/
def Room (w : World) (g n : Nat) : Prop := ∃ cs : Array Value, w.heap[g]? = some (.cells cs 39 (0, 0)) ∧ cs.size = n * 3
theorem Room.on {w w' : World} {g n : Nat} (h : Room w g n) (hB : Below w.heap.size w w') : Room w' g n := by
  obtain ⟨cs, hg, hs⟩ := h
  exact ⟨cs, by rw [hB.block g (blk_lt hg)]; exact hg, hs⟩
theorem Room.set {w : World} {g n : Nat} (h : Room w g n) (o : Nat) (v : Value) : Room (w.setCell ⟨g, o, none⟩ v) g n := by
  obtain ⟨cs, hg, hs⟩ := h
  exact ⟨_, PrtW.blk_set _ _ _ _ _ _ hg, by simpa using hs⟩
theorem Room.at {w : World} {g n i : Nat} (h : Room w g n) (hi : i < n * 3) : (∃ v, w.cell? ⟨g, i, none⟩ = some v) ∧ w.frozen? ⟨g, i, none⟩ = false := by
  obtain ⟨cs, hg, hs⟩ := h
  refine ⟨⟨cs[i]'(by omega), ?_⟩, by simp [World.frozen?, hg]⟩
  simp [World.cell?, hg, show i < cs.size by omega]

set_option maxRecDepth 10000 in
set_option maxHeartbeats 1600000 in
theorem mark_parts (g n cap : Nat) (w : World) (hR : Room w g n) (hl : n ≤ 1048576) :
    Calls Tryd.prog 19 #[.slice (some ⟨g, 0, none⟩) n cap, .int .i64 1] w fun e w' => e = .returned (.int .i64 (1 + 3 * (n : Int))) ∧ Only w w' g := by
  have HR := hid hR
  clear hR
  go_enter Tryd.func19, Tryd.ntmps19
  go_wp2
  go_loopw [1, 5] (fun k i wr => ∃ j : Nat, j ≤ n ∧ i = .int .i64 j ∧ k = .int .i64 (1 + 3 * (j : Int)) ∧ Hid (Room wr g n) ∧ Hid (Only w wr g)) (fun _ i _ => n - (intOf i).toNat)
  case atStart => exact ⟨0, Nat.zero_le _, rfl, rfl, HR, Only.refl _ _⟩
  case round =>
    obtain ⟨k, hk, rfl, rfl, hM, hO⟩ := hrel
    by_cases hlt : k < n
    · obtain ⟨⟨v0, r0⟩, f0⟩ := hM.out.at (i := k * 3) (by omega)
      obtain ⟨⟨v1, r1⟩, f1⟩ := hM.out.at (i := k * 3 + 1) (by omega)
      have HO1 := hid ((hO.out.set (k * 3) (.int .i64 (1 + 3 * (k : Int)))).set (k * 3 + 1) (.int .i64 (1 + 3 * (k : Int) + 1)))
      have HM1 := hid ((hM.out.set (k * 3) (.int .i64 (1 + 3 * (k : Int)))).set (k * 3 + 1) (.int .i64 (1 + 3 * (k : Int) + 1)))
      clear hO hM
      go_wp2_with fail
      clear r0 r1 f0 f1
      generalize (wr.setCell ⟨g, k * 3, none⟩ (.int .i64 (1 + 3 * (k : Int)))).setCell ⟨g, k * 3 + 1, none⟩ (.int .i64 (1 + 3 * (k : Int) + 1)) = W2 at *
      rw [show (1 + 3 * (k : Int) + 1 + 1) = ((3 * k + 3 : Nat) : Int) by omega]
      refine (mark_text (3 * k + 3) W2 (by omega) (by omega)).mono ?_
      rintro e w3 ⟨rfl, hB3⟩
      have HM3 := hid (HM1.out.on hB3)
      have HO3 := hid (HO1.out.on hB3)
      obtain ⟨⟨v2, r2⟩, f2⟩ := HM3.out.at (i := k * 3 + 2) (by omega)
      unfold encS
      generalize (⟨(markL (3 * k + 3)).toArray⟩ : ByteArray) = T
      clear HM1 HO1 hB3
      go_wp2_with fail
      refine ⟨⟨k + 1, by omega, by go_num, by congr 1; omega, HM3.out.set _ _, HO3.out.set _ _⟩, by simp [intOf]; omega⟩
    · obtain rfl : k = n := by omega
      go_wp2
      go_ret
      exact ⟨rfl, hO.out⟩
end Go.Proofs.YtblnkdenkblhiaaDoor.FldK
