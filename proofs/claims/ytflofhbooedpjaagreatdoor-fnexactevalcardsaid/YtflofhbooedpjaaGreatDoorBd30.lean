/- Texts of ours, laid together: EvlH1, EvlH2, EvlH3, EvlSp, EvlTop, EvlLaw. -/
import Derived.Test.YtflofhbooedpjaaGreatDoorBd29
import Derived.Test.YtflofhbooedpjaaGreatDoorBd28
import Derived.Test.YtflofhbooedpjaaGreatDoorBd16
import Derived.Deep.Cut
import Derived.Deep.CutRange
import Derived.Test.YtflofhbooedpjaaGreatDoorBd27
import Derived.Test.YtflofhbooedpjaaGreatDoorBd26
import Derived.Test.YtflofhbooedpjaaGreatDoorBd25
import Derived.Test.YtflofhbooedpjaaGreatDoorBd10
/- What holds while the program tells what an expression at the head tells. -/
namespace Go.Proofs.YtflofhbooedpjaaGreatDoor.EvlI
open Go.RowKit Go.Maps
open EvlM EvlS ValW PrtW BookW
open AnsW (An kd nu cd tx told rightA found_or told_found told_lacks data_ne zeroV)

/-- all but block g, which is a result's, lies as in W1 -/
def HdS (W1 : World) (g : Nat) (w' : World) : Prop := W1.grownBy w' (some g) ∧ ∃ cs : Array Value, w'.heap[g]? = some (.cells cs 27 (0, 0)) ∧ cs.size = 2
theorem HdS.on {W1 W W' : World} {g : Nat} (h : HdS W1 g W) (hB : Below W.heap.size W W') : HdS W1 g W' := by
  obtain ⟨h1, cs, h2, h3⟩ := h
  exact ⟨⟨hB.os.trans h1.os, hB.tape.trans h1.tape, hB.output.trans h1.output, Nat.le_trans h1.size hB.size, fun k hk hn => (hB.block k (Nat.lt_of_lt_of_le hk h1.size)).trans (h1.block k hk hn)⟩, cs, by rw [hB.block g (Array.getElem?_eq_some_iff.1 h2).1]; exact h2, h3⟩
theorem HdS.put {W1 W : World} {g : Nat} (h : HdS W1 g W) (j : Nat) (v : Value) : HdS W1 g (W.setCell ⟨g, j, none⟩ v) := by
  obtain ⟨h1, cs, h2, h3⟩ := h
  exact ⟨⟨h1.os, h1.tape, h1.output, by simpa using h1.size, fun k hk hn => by rw [Below.heap_setCell _ _ _ _ (fun e => hn (by rw [e]))]; exact h1.block k hk hn⟩, cs.setIfInBounds j v, by simp [World.setCell, Array.getElem?_modify, h2], by simpa using h3⟩
theorem HdS.room {W1 W : World} {g : Nat} (h : HdS W1 g W) (j : Nat) (hj : j < 2) : (∃ v, W.cell? ⟨g, j, none⟩ = some v) ∧ W.frozen? ⟨g, j, none⟩ = false := by
  obtain ⟨_, cs, h2, h3⟩ := h
  refine ⟨⟨cs[j]'(by omega), ?_⟩, by simp [World.frozen?, h2]⟩
  simp [World.cell?, h2, show j < cs.size by omega]
theorem HdS.refl {W : World} {g : Nat} {r : Rs} (h : R2 W g r) : HdS W g W.drew := ⟨⟨rfl, rfl, rfl, Nat.le_refl _, fun _ _ _ => rfl⟩, _, h, rfl⟩
theorem HdS.cell {W1 W : World} {g b j : Nat} (h : HdS W1 g W) (hb : b < W1.heap.size) (hne : b ≠ g) : W.cell? ⟨b, j, none⟩ = W1.cell? ⟨b, j, none⟩ := World.cell?_of_block (w := W1) (h.1.block b hb (fun e => hne (Option.some.inj e)))
theorem HdS.below {w W1 W : World} {g : Nat} (h : HdS W1 g W) (hB : Below w.heap.size w W1) (hg : w.heap.size ≤ g) : Below w.heap.size w W :=
  hB.trans ⟨h.1.os, h.1.tape, h.1.output, h.1.size, fun k hk => h.1.block k (Nat.lt_of_lt_of_le hk hB.size) (fun e => by have := Option.some.inj e; omega)⟩

set_option maxRecDepth 10000 in
/-- what the book says of a name, in every world in which its block lies as it lay -/
theorem book_look2 {w : World} {B : Nat} {ls : List An} {s : ByteArray} (h : Book w B ls) (hr : rightA ls = true) (hs : s.size ≤ maxLen) :
    B < w.heap.size ∧ ∃ v, (∀ W : World, W.heap[B]? = w.heap[B]? → (Instr.lookup 57 (.map (some B)) (.string s) false).run Tryz.prog W = .ok v W) ∧ Cpy w (B + 1) (told ls s) v := by
  obtain ⟨D, hM, hH⟩ := h
  have hlt := hM.lt
  have key : ∀ W : World, W.heap[B]? = w.heap[B]? → ∃ v, (Instr.lookup 57 (.map (some B)) (.string s) false).run Tryz.prog W = .ok v W ∧ (DataW.held v : DataW Value) = D.atKey (.string s.data.toList) (.held (av 0 0 none 0 0 ByteArray.empty)) := fun W hW => by
    have hM2 : Mp W B ls.length D := by
      obtain ⟨es, clock, hb, F, hsz, hD⟩ := hM
      exact ⟨es, clock, by rw [hW]; exact hb, F, hsz, hD⟩
    obtain ⟨v, ps, hrun, hv⟩ := World.ownsMap.lookup hM2 key_law Tryz.underlying57 (zeroV W) (rfl : heldR (av 0 0 none 0 0 ByteArray.empty) = some (.held (av 0 0 none 0 0 ByteArray.empty), [])) (Go.WideMaps.keyOf_string_mk Tryz.underlying9 hs)
    have hv1 := Option.some.inj hv
    injection hv1 with hv2 _
    exact ⟨v, hrun, hv2⟩
  obtain ⟨v, hrun, hv2⟩ := key w rfl
  refine ⟨hlt, v, fun W hW => ?_, ?_⟩
  · obtain ⟨v', hrun', hv'⟩ := key W hW
    rw [← hv2] at hv'
    injection hv' with e
    rw [e] at hrun'
    exact hrun'
  · rcases found_or ls s with ⟨i, hi⟩ | hl
    · obtain ⟨u, hu, hat⟩ := hH.1 i hi.1
      rw [hi.2] at hat
      rw [hat] at hv2
      injection hv2 with hv3
      rw [told_found hr hi, hv3]
      exact hu
    · rw [hH.2 s.data.toList (fun i hi e => hl i hi (data_ne.1 e))] at hv2
      injection hv2 with hv3
      rw [told_lacks hl, hv3]
      exact ⟨none, 0, rfl, Codes.nil _ _, RdI.free_nil _ _, RdS.fresh_none _⟩
end Go.Proofs.YtflofhbooedpjaaGreatDoor.EvlI
/- A leaf at the head. -/
namespace Go.Proofs.YtflofhbooedpjaaGreatDoor.EvlI
open Go.RowKit
open EvlM EvlS ValW PrtW PrtM PrtS PrtI TexM BookW
open AnsW (An kd nu cd tx told rightA)

theorem told_right {ls : List An} (h : rightA ls = true) (s : ByteArray) : ValM.right (kd (told ls s)) (nu (told ls s)) (cd (told ls s)) (tx (told ls s)) = true := by
  rcases AnsW.found_or ls s with ⟨i, hi⟩ | hl
  · rw [AnsW.told_found h hi]
    have := (AnsW.okA_parts ((AnsW.rightA_at h).2 i hi.1)).2.2
    unfold ValK.answeredB at this
    simp at this
    exact this.1
  · rw [AnsW.told_lacks hl]; decide +kernel

set_option maxRecDepth 10000 in
set_option maxHeartbeats 3200000 in
theorem head_leaf (ls : List An) (hra : rightA ls = true) (k : Nat) (n : Int) (t : ByteArray) (r : List Pt) (b o cap B : Nat) (w0 w : World) (hw0 : Below w0.heap.size w0 w) (hp : partB ((k : Int), n, t) = true) (h0 : many (k : Int) = 0)
    (hP : Parts w0 (some ⟨b, o, none⟩) (((k : Int), n, t) :: r)) (hcap : r.length + 1 ≤ cap) (hlen : r.length + 1 ≤ 20) (hE : EnvS w) (hBk : Book w B ls) :
    Calls Tryz.prog 25 #[.slice (some ⟨b, o, none⟩) (r.length + 1) cap, .map (some B)] w fun e w' => (∃ a' cap', e = .returned (.tuple #[rv (leafR ls ((k : Int), n, t)), .slice a' r.length cap']) ∧ Parts w0 a' r ∧ r.length ≤ cap') ∧ Below w.heap.size w w' := by
  obtain ⟨b', o', x, n', t', hab, hb, hg, hf, c0, c1, c2⟩ := parts_at (hP.on hw0) (show 0 < (((k : Int), n, t) :: r).length by simp)
  cases hab
  have hpe : ((k : Int), n, t) = (x, n', t') := hg
  injection hpe with e1 e2
  injection e2 with e3 e4
  subst e1 e3 e4
  simp only [Nat.zero_mul, Nat.add_zero] at c0 c1 c2
  have hin := part_in hp
  have hk13 : k < 14 := by omega
  have hk13' : (k : Int) < 14 := by omega
  have hsz := part_size hp
  have hx : (k : Int) = 1 ∨ (k : Int) = 2 ∨ (k : Int) = 12 ∨ (k : Int) = 13 := leaf_op hp h0
  have HP1 := EvlS.hid (parts_tail hP b o rfl)
  obtain ⟨e0, e1, e2, e3, e4, e5, e6⟩ := hE.2 k hk13
  have hg0 := hE.1
  have hmi := many_inner k (by omega) (by omega)
  rw [h0] at hmi
  have hs1 : innerF k = 0 := by omega
  rw [hs1] at e1
  obtain ⟨hBl, v, hlook, va, vc, hv, hcv, _, _⟩ := book_look2 hBk hra (s := t) (by unfold maxLen; omega)
  have hrt := told_right hra t
  obtain ⟨rr, hrr⟩ : ∃ rr, Hid (leafR ls ((k : Int), n, t) = rr) := ⟨_, rfl⟩
  rw [hrr.out]
  have hle : leafV (k : Int) n (kd (told ls t)) (nu (told ls t)) (cd (told ls t)) = rr := by rw [← hrr.out]; exact (leafV_eq ls (k : Int) n t).symm
  generalize told ls t = q at hv hcv hrt hle
  obtain ⟨qs, vk, vm, zs, vt⟩ := q
  dsimp only [kd, nu, cd, tx] at hv hcv hrt hle
  subst hv
  obtain ⟨r0, r1⟩ := rr
  have HL := EvlS.hid hle
  have HCv := EvlS.hid hcv
  have HVr := EvlS.hid hrt
  have HVt : Hid (vt.size ≤ maxLen) := by
    show _ ≤ _
    rcases ValM.kinds hrt with ⟨_, _, _, h⟩ | ⟨_, _, _, _, h⟩ | ⟨_, _, _, _, h⟩ | ⟨_, _, _, h⟩ | ⟨_, _, _, _, h⟩ <;> (unfold maxLen; omega)
  clear hle hcv hrt hg hf hP hBk hrr hE hp h0 hmi hs1 hw0
  go_enter Tryz.func25, Tryz.ntmps25
  go_upto_region 10 with fail
  obtain ⟨W1, hW1⟩ : ∃ W1, Hid ((w.alloc (.cells #[.int .i64 0, .int .i64 0] 27)).alloc (.cells #[.int .i64 (k : Int), .int .i64 n, .string t] 49) = W1) := ⟨_, rfl⟩
  have hBW : Below w.heap.size w ((w.alloc (.cells #[.int .i64 0, .int .i64 0] 27)).alloc (.cells #[.int .i64 (k : Int), .int .i64 n, .string t] 49)) := by go_grown
  have hR := (R2.new w 0 0).alloc (.cells #[.int .i64 (k : Int), .int .i64 n, .string t] 49)
  have hq0 : ((w.alloc (.cells #[.int .i64 0, .int .i64 0] 27)).alloc (.cells #[.int .i64 (k : Int), .int .i64 n, .string t] 49)).heap[w.heap.size + 1]? = some (.cells #[.int .i64 (k : Int), .int .i64 n, .string t] 49 (0, 0)) := by
    have := heap_alloc_new (w.alloc (.cells #[.int .i64 0, .int .i64 0] 27)) (.cells #[.int .i64 (k : Int), .int .i64 n, .string t] 49)
    simpa using this
  rw [hW1.out] at hBW hR hq0 ⊢
  have HBW := EvlS.hid hBW
  have hS0 := HdS.refl hR
  have hpl : w.heap.size + 1 < W1.heap.size := (Array.getElem?_eq_some_iff.1 hq0).1
  have HAll : Hid (∀ w', HdS W1 w.heap.size w' → HdS W1 w.heap.size w' ∧ (Instr.lookup 57 (.map (some B)) (.string t) false).run Tryz.prog w' = .ok (av vk vm va zs.length vc vt) w' ∧ w'.cell? ⟨w.heap.size + 1, 0, none⟩ = some (.int .i64 (k : Int)) ∧ w'.cell? ⟨w.heap.size + 1, 1, none⟩ = some (.int .i64 n) ∧ w'.cell? ⟨w.heap.size + 1, 2, none⟩ = some (.string t)) := fun w' hS => by
    refine ⟨hS, hlook w' ?_, ?_, ?_, ?_⟩
    · have h1 := hS.1.block B (Nat.lt_of_lt_of_le hBl hBW.size) (fun e => by have := Option.some.inj e; omega)
      exact h1.trans (hBW.block B hBl)
    · rw [hS.cell hpl (by omega)]; simp [World.cell?, hq0]
    · rw [hS.cell hpl (by omega)]; simp [World.cell?, hq0]
    · rw [hS.cell hpl (by omega)]; simp [World.cell?, hq0]
  clear e0 e1 e2 e3 e4 e5 e6 c0 c1 c2 hlook hq0 hR hW1 hBW
  by_cases hc1 : cap = 1
  · subst hc1
    obtain rfl : r = [] := List.length_eq_zero_iff.1 (by omega)
    refine wp_region_held_drew (S := (fun w' => HdS W1 w.heap.size w' ∧ (Instr.lookup 57 (.map (some B)) (.string t) false).run Tryz.prog w' = .ok (av vk vm va zs.length vc vt) w' ∧ w'.cell? ⟨w.heap.size + 1, 0, none⟩ = some (.int .i64 (k : Int)) ∧ w'.cell? ⟨w.heap.size + 1, 1, none⟩ = some (.int .i64 n) ∧ w'.cell? ⟨w.heap.size + 1, 2, none⟩ = some (.string t))) (by kernel_rfl) ?_ (fun hHeld => ?_)
    · (try dsimp only) <;> (first | exact HAll.out _ hSn | exact HAll.out _ hS0)
    refine wpAnyH_take (i := 0) (oi := { dst := some 54, op := Go.Op.load 49 (Go.Operand.tmp 6), type := 49, pos := "l05_eval.go:264", after := #[], guard := none }) (v := ?_) rfl (by kernel_rfl) (by kernel_rfl) (by kernel_rfl) (fun _ _ _ h => h) (Or.inl ⟨by rfl, ?yld146⟩) hHeld ?nxt146
    case yld146 => (intro w hSw; (try dsimp only at hSw); go_simp) <;> with_reducible rfl
    (try simp only [Act.put, List.setIfInBounds_toArray, List.set_cons_zero, List.set_cons_succ])
    refine wpAnyH_take (i := 1) (oi := { dst := some 55, op := Go.Op.move (Go.Operand.tmp 1), type := 57, pos := "l05_eval.go:264", after := #[], guard := none }) (v := ?_) rfl (by kernel_rfl) (by kernel_rfl) (by kernel_rfl) (fun _ _ _ h => h) (Or.inl ⟨by rfl, ?yld147⟩) hHeld ?nxt147
    case yld147 => (intro w hSw; (try dsimp only at hSw); go_simp) <;> with_reducible rfl
    (try simp only [Act.put, List.setIfInBounds_toArray, List.set_cons_zero, List.set_cons_succ])
    refine wpAnyH_take (i := 2) (oi := { dst := some 56, op := Go.Op.fieldAddr 49 (Go.Operand.tmp 6) 2, type := 0, pos := "l05_eval.go:264", after := #[], guard := none }) (v := ?_) rfl (by kernel_rfl) (by kernel_rfl) (by kernel_rfl) (fun _ _ _ h => h) (Or.inl ⟨by rfl, ?yld148⟩) hHeld ?nxt148
    case yld148 => (intro w hSw; (try dsimp only at hSw); go_simp) <;> with_reducible rfl
    (try simp only [Act.put, List.setIfInBounds_toArray, List.set_cons_zero, List.set_cons_succ])
    refine wpAnyH_take (i := 3) (oi := { dst := some 57, op := Go.Op.load 9 (Go.Operand.tmp 56), type := 9, pos := "l05_eval.go:264", after := #[{ on := 2, ground := Go.Ground.data }], guard := none }) (v := ?_) rfl (by kernel_rfl) (by kernel_rfl) (by kernel_rfl) (fun _ _ _ h => h) (Or.inl ⟨by rfl, ?yld149⟩) hHeld ?nxt149
    case yld149 => (intro w hSw; (try dsimp only at hSw); go_simp) <;> with_reducible rfl
    (try simp only [Act.put, List.setIfInBounds_toArray, List.set_cons_zero, List.set_cons_succ])
    refine wpAnyH_take (i := 4) (oi := { dst := some 58, op := Go.Op.lookup 57 (Go.Operand.tmp 55) (Go.Operand.tmp 57) false, type := 51, pos := "l05_eval.go:264", after := #[{ on := 1, ground := Go.Ground.data }, { on := 3, ground := Go.Ground.data }], guard := none }) (v := ?_) rfl (by kernel_rfl) (by kernel_rfl) (by kernel_rfl) (fun _ _ _ h => h) (Or.inl ⟨by rfl, ?yld150⟩) hHeld ?nxt150
    case yld150 => (intro w hSw; (try dsimp only at hSw); go_simp) <;> with_reducible rfl
    (try simp only [Act.put, List.setIfInBounds_toArray, List.set_cons_zero, List.set_cons_succ])
    refine wpAnyH_take (i := 6) (oi := { dst := some 60, op := Go.Op.move (Go.Operand.tmp 0), type := 29, pos := "l05_eval.go:264", after := #[], guard := none }) (v := ?_) rfl (by kernel_rfl) (by kernel_rfl) (by kernel_rfl) (fun _ _ _ h => h) (Or.inl ⟨by rfl, ?yld151⟩) hHeld ?nxt151
    case yld151 => (intro w hSw; (try dsimp only at hSw); go_simp) <;> with_reducible rfl
    (try simp only [Act.put, List.setIfInBounds_toArray, List.set_cons_zero, List.set_cons_succ])
    refine wpAnyH_take (i := 7) (oi := { dst := some 61, op := Go.Op.slice 29 (Go.Operand.tmp 60) (some (Go.Operand.const (Go.Value.int Go.IntKind.i64 1))) none none, type := 29, pos := "l05_eval.go:264", after := #[{ on := 6, ground := Go.Ground.data }], guard := none }) (v := ?_) rfl (by kernel_rfl) (by kernel_rfl) (by kernel_rfl) (fun _ _ _ h => h) (Or.inl ⟨by rfl, ?yld152⟩) hHeld ?nxt152
    case yld152 => (intro w hSw; (try dsimp only at hSw); go_simp) <;> with_reducible rfl
    (try simp only [Act.put, List.setIfInBounds_toArray, List.set_cons_zero, List.set_cons_succ])
    refine wpAnyH_ready (rs := [5]) (by kernel_rfl) (by simp) ?_
    refine AllReadyH.cons (o := { dst := some 59, op := Go.Op.call { callee := Go.Callee.value (Go.Operand.func 42), args := #[Go.Operand.tmp 54, Go.Operand.tmp 58], argTypes := #[49, 51] }, type := 27, pos := "l05_eval.go:264", after := #[{ on := 0, ground := Go.Ground.data }, { on := 4, ground := Go.Ground.data }], guard := none }) rfl (fun K hK => ?_) AllReadyH.nil
    go_simp
    go_at_call 42
    have hp := hHeld.1
    refine (impl_leaf (k : Int) n t vk vm va vc zs vt _ hx (HCv.out.on (hp.below HBW.out (Nat.le_refl _))) HVt.out HVr.out).mono ?_
    rintro e w' ⟨rfl, hB⟩
    rw [HL.out]
    have hSn := hp.on hB
    clear hp hB
    (try go_wp2_with fail)
    refine hK.out _ _ ?_ (fun hHeld2 => ?_)
    · (try dsimp only) <;> (first | exact HAll.out _ hSn | exact HAll.out _ hS0)
    clear hK K hHeld
    have hHeld := hHeld2
    clear hHeld2
    (try simp only [Act.put, List.setIfInBounds_toArray, List.set_cons_zero, List.set_cons_succ])
    refine wpAnyH_ready (rs := [8]) (by kernel_rfl) (by simp) ?_
    refine AllReadyH.cons (o := { dst := none, op := Go.Op.store 27 (Go.Operand.tmp 4) (Go.Operand.tmp 59), type := 0, pos := "l05_eval.go:264", after := #[{ on := 5, ground := Go.Ground.data }, { on := 5, ground := Go.Ground.chain }, { on := 0, ground := Go.Ground.phase }, { on := 1, ground := Go.Ground.phase }, { on := 2, ground := Go.Ground.phase }, { on := 3, ground := Go.Ground.phase }, { on := 4, ground := Go.Ground.phase }, { on := 5, ground := Go.Ground.phase }, { on := 6, ground := Go.Ground.textOnly Go.Departure.lateStores }, { on := 7, ground := Go.Ground.textOnly Go.Departure.lateStoresUnsure }], guard := none }) rfl (fun K hK => ?_) AllReadyH.nil
    obtain ⟨⟨v0, y0⟩, f0⟩ := hHeld.1.room 0 (by decide)
    obtain ⟨⟨v1, y1⟩, f1⟩ := hHeld.1.room 1 (by decide)
    go_simp
    have hSn := (hHeld.1.put 0 (.int .i64 r0)).put 1 (.int .i64 r1)
    refine hK.out _ _ ?_ (fun hHeld2 => ?_)
    · (try dsimp only) <;> (first | exact HAll.out _ hSn | exact HAll.out _ hS0)
    clear hK K hHeld
    have hHeld := hHeld2
    clear hHeld2
    (try simp only [Act.put, List.setIfInBounds_toArray, List.set_cons_zero, List.set_cons_succ])
    refine wpAnyH_take (i := 9) (oi := { dst := some 5, op := Go.Op.assign (Go.Operand.tmp 61), type := 29, pos := "l05_eval.go:264", after := #[{ on := 7, ground := Go.Ground.data }, { on := 8, ground := Go.Ground.chain }, { on := 0, ground := Go.Ground.phase }, { on := 1, ground := Go.Ground.phase }, { on := 2, ground := Go.Ground.phase }, { on := 3, ground := Go.Ground.phase }, { on := 4, ground := Go.Ground.phase }, { on := 5, ground := Go.Ground.phase }, { on := 6, ground := Go.Ground.phase }, { on := 7, ground := Go.Ground.phase }, { on := 8, ground := Go.Ground.phase }], guard := none }) (v := ?_) rfl (by kernel_rfl) (by kernel_rfl) (by kernel_rfl) (fun _ _ _ h => h) (Or.inl ⟨by rfl, ?yld153⟩) hHeld ?nxt153
    case yld153 => (intro w hSw; (try dsimp only at hSw); go_simp) <;> with_reducible rfl
    (try simp only [Act.put, List.setIfInBounds_toArray, List.set_cons_zero, List.set_cons_succ])
    refine wpAnyH_done (by kernel_rfl) ?_ _
    have HBL := EvlS.hid (hHeld.1.below HBW.out (Nat.le_refl _))
    clear hHeld hS0 HAll
    go_wp2_with fail
    refine bodyPost_ret (v := _) (by simp [results, Tryz.results25, go_sem, y0, y1]; exact ⟨rfl, rfl⟩) rfl ⟨⟨_, _, rfl, Parts.nil _ _, Nat.zero_le _⟩, HBL.out⟩
  · have hc2 : ¬ (cap : Int) = 1 := by omega
    have hc3 : (1 : Int) ≤ (r.length : Int) + 1 := by omega
    refine wp_region_held_drew (S := (fun w' => HdS W1 w.heap.size w' ∧ (Instr.lookup 57 (.map (some B)) (.string t) false).run Tryz.prog w' = .ok (av vk vm va zs.length vc vt) w' ∧ w'.cell? ⟨w.heap.size + 1, 0, none⟩ = some (.int .i64 (k : Int)) ∧ w'.cell? ⟨w.heap.size + 1, 1, none⟩ = some (.int .i64 n) ∧ w'.cell? ⟨w.heap.size + 1, 2, none⟩ = some (.string t))) (by kernel_rfl) ?_ (fun hHeld => ?_)
    · (try dsimp only) <;> (first | exact HAll.out _ hSn | exact HAll.out _ hS0)
    refine wpAnyH_take (i := 0) (oi := { dst := some 54, op := Go.Op.load 49 (Go.Operand.tmp 6), type := 49, pos := "l05_eval.go:264", after := #[], guard := none }) (v := ?_) rfl (by kernel_rfl) (by kernel_rfl) (by kernel_rfl) (fun _ _ _ h => h) (Or.inl ⟨by rfl, ?yld154⟩) hHeld ?nxt154
    case yld154 => (intro w hSw; (try dsimp only at hSw); go_simp) <;> with_reducible rfl
    (try simp only [Act.put, List.setIfInBounds_toArray, List.set_cons_zero, List.set_cons_succ])
    refine wpAnyH_take (i := 1) (oi := { dst := some 55, op := Go.Op.move (Go.Operand.tmp 1), type := 57, pos := "l05_eval.go:264", after := #[], guard := none }) (v := ?_) rfl (by kernel_rfl) (by kernel_rfl) (by kernel_rfl) (fun _ _ _ h => h) (Or.inl ⟨by rfl, ?yld155⟩) hHeld ?nxt155
    case yld155 => (intro w hSw; (try dsimp only at hSw); go_simp) <;> with_reducible rfl
    (try simp only [Act.put, List.setIfInBounds_toArray, List.set_cons_zero, List.set_cons_succ])
    refine wpAnyH_take (i := 2) (oi := { dst := some 56, op := Go.Op.fieldAddr 49 (Go.Operand.tmp 6) 2, type := 0, pos := "l05_eval.go:264", after := #[], guard := none }) (v := ?_) rfl (by kernel_rfl) (by kernel_rfl) (by kernel_rfl) (fun _ _ _ h => h) (Or.inl ⟨by rfl, ?yld156⟩) hHeld ?nxt156
    case yld156 => (intro w hSw; (try dsimp only at hSw); go_simp) <;> with_reducible rfl
    (try simp only [Act.put, List.setIfInBounds_toArray, List.set_cons_zero, List.set_cons_succ])
    refine wpAnyH_take (i := 3) (oi := { dst := some 57, op := Go.Op.load 9 (Go.Operand.tmp 56), type := 9, pos := "l05_eval.go:264", after := #[{ on := 2, ground := Go.Ground.data }], guard := none }) (v := ?_) rfl (by kernel_rfl) (by kernel_rfl) (by kernel_rfl) (fun _ _ _ h => h) (Or.inl ⟨by rfl, ?yld157⟩) hHeld ?nxt157
    case yld157 => (intro w hSw; (try dsimp only at hSw); go_simp) <;> with_reducible rfl
    (try simp only [Act.put, List.setIfInBounds_toArray, List.set_cons_zero, List.set_cons_succ])
    refine wpAnyH_take (i := 4) (oi := { dst := some 58, op := Go.Op.lookup 57 (Go.Operand.tmp 55) (Go.Operand.tmp 57) false, type := 51, pos := "l05_eval.go:264", after := #[{ on := 1, ground := Go.Ground.data }, { on := 3, ground := Go.Ground.data }], guard := none }) (v := ?_) rfl (by kernel_rfl) (by kernel_rfl) (by kernel_rfl) (fun _ _ _ h => h) (Or.inl ⟨by rfl, ?yld158⟩) hHeld ?nxt158
    case yld158 => (intro w hSw; (try dsimp only at hSw); go_simp) <;> with_reducible rfl
    (try simp only [Act.put, List.setIfInBounds_toArray, List.set_cons_zero, List.set_cons_succ])
    refine wpAnyH_take (i := 6) (oi := { dst := some 60, op := Go.Op.move (Go.Operand.tmp 0), type := 29, pos := "l05_eval.go:264", after := #[], guard := none }) (v := ?_) rfl (by kernel_rfl) (by kernel_rfl) (by kernel_rfl) (fun _ _ _ h => h) (Or.inl ⟨by rfl, ?yld159⟩) hHeld ?nxt159
    case yld159 => (intro w hSw; (try dsimp only at hSw); go_simp) <;> with_reducible rfl
    (try simp only [Act.put, List.setIfInBounds_toArray, List.set_cons_zero, List.set_cons_succ])
    refine wpAnyH_take (i := 7) (oi := { dst := some 61, op := Go.Op.slice 29 (Go.Operand.tmp 60) (some (Go.Operand.const (Go.Value.int Go.IntKind.i64 1))) none none, type := 29, pos := "l05_eval.go:264", after := #[{ on := 6, ground := Go.Ground.data }], guard := none }) (v := ?_) rfl (by kernel_rfl) (by kernel_rfl) (by kernel_rfl) (fun _ _ _ h => h) (Or.inl ⟨by rfl, ?yld160⟩) hHeld ?nxt160
    case yld160 => (intro w hSw; (try dsimp only at hSw); go_simp) <;> with_reducible rfl
    (try simp only [Act.put, List.setIfInBounds_toArray, List.set_cons_zero, List.set_cons_succ])
    refine wpAnyH_ready (rs := [5]) (by kernel_rfl) (by simp) ?_
    refine AllReadyH.cons (o := { dst := some 59, op := Go.Op.call { callee := Go.Callee.value (Go.Operand.func 42), args := #[Go.Operand.tmp 54, Go.Operand.tmp 58], argTypes := #[49, 51] }, type := 27, pos := "l05_eval.go:264", after := #[{ on := 0, ground := Go.Ground.data }, { on := 4, ground := Go.Ground.data }], guard := none }) rfl (fun K hK => ?_) AllReadyH.nil
    go_simp
    go_at_call 42
    have hp := hHeld.1
    refine (impl_leaf (k : Int) n t vk vm va vc zs vt _ hx (HCv.out.on (hp.below HBW.out (Nat.le_refl _))) HVt.out HVr.out).mono ?_
    rintro e w' ⟨rfl, hB⟩
    rw [HL.out]
    have hSn := hp.on hB
    clear hp hB
    (try go_wp2_with fail)
    refine hK.out _ _ ?_ (fun hHeld2 => ?_)
    · (try dsimp only) <;> (first | exact HAll.out _ hSn | exact HAll.out _ hS0)
    clear hK K hHeld
    have hHeld := hHeld2
    clear hHeld2
    (try simp only [Act.put, List.setIfInBounds_toArray, List.set_cons_zero, List.set_cons_succ])
    refine wpAnyH_ready (rs := [8]) (by kernel_rfl) (by simp) ?_
    refine AllReadyH.cons (o := { dst := none, op := Go.Op.store 27 (Go.Operand.tmp 4) (Go.Operand.tmp 59), type := 0, pos := "l05_eval.go:264", after := #[{ on := 5, ground := Go.Ground.data }, { on := 5, ground := Go.Ground.chain }, { on := 0, ground := Go.Ground.phase }, { on := 1, ground := Go.Ground.phase }, { on := 2, ground := Go.Ground.phase }, { on := 3, ground := Go.Ground.phase }, { on := 4, ground := Go.Ground.phase }, { on := 5, ground := Go.Ground.phase }, { on := 6, ground := Go.Ground.textOnly Go.Departure.lateStores }, { on := 7, ground := Go.Ground.textOnly Go.Departure.lateStoresUnsure }], guard := none }) rfl (fun K hK => ?_) AllReadyH.nil
    obtain ⟨⟨v0, y0⟩, f0⟩ := hHeld.1.room 0 (by decide)
    obtain ⟨⟨v1, y1⟩, f1⟩ := hHeld.1.room 1 (by decide)
    go_simp
    have hSn := (hHeld.1.put 0 (.int .i64 r0)).put 1 (.int .i64 r1)
    refine hK.out _ _ ?_ (fun hHeld2 => ?_)
    · (try dsimp only) <;> (first | exact HAll.out _ hSn | exact HAll.out _ hS0)
    clear hK K hHeld
    have hHeld := hHeld2
    clear hHeld2
    (try simp only [Act.put, List.setIfInBounds_toArray, List.set_cons_zero, List.set_cons_succ])
    refine wpAnyH_take (i := 9) (oi := { dst := some 5, op := Go.Op.assign (Go.Operand.tmp 61), type := 29, pos := "l05_eval.go:264", after := #[{ on := 7, ground := Go.Ground.data }, { on := 8, ground := Go.Ground.chain }, { on := 0, ground := Go.Ground.phase }, { on := 1, ground := Go.Ground.phase }, { on := 2, ground := Go.Ground.phase }, { on := 3, ground := Go.Ground.phase }, { on := 4, ground := Go.Ground.phase }, { on := 5, ground := Go.Ground.phase }, { on := 6, ground := Go.Ground.phase }, { on := 7, ground := Go.Ground.phase }, { on := 8, ground := Go.Ground.phase }], guard := none }) (v := ?_) rfl (by kernel_rfl) (by kernel_rfl) (by kernel_rfl) (fun _ _ _ h => h) (Or.inl ⟨by rfl, ?yld161⟩) hHeld ?nxt161
    case yld161 => (intro w hSw; (try dsimp only at hSw); go_simp) <;> with_reducible rfl
    (try simp only [Act.put, List.setIfInBounds_toArray, List.set_cons_zero, List.set_cons_succ])
    refine wpAnyH_done (by kernel_rfl) ?_ _
    have HBL := EvlS.hid (hHeld.1.below HBW.out (Nat.le_refl _))
    clear hHeld hS0 HAll
    go_wp2_with fail
    refine bodyPost_ret (v := .tuple #[rv (r0, r1), .slice (some ⟨b, o + 3, none⟩) r.length (cap - 1)]) (by simp [results, Tryz.results25, go_sem, y0, y1]) rfl ⟨⟨_, _, rfl, HP1.out, by omega⟩, HBL.out⟩
end Go.Proofs.YtflofhbooedpjaaGreatDoor.EvlI
/- What the program tells of the expression at the head. -/
namespace Go.Proofs.YtflofhbooedpjaaGreatDoor.EvlI
open Go.RowKit
open EvlM EvlS ValW PrtW PrtM PrtS PrtI TexM BookW
open AnsW (An kd nu cd tx told rightA)

set_option maxRecDepth 10000 in
set_option maxHeartbeats 6400000 in
theorem impl_ev (ls : List An) (hra : rightA ls = true) (w0 : World) : ∀ (d : Nat) (l r : List Pt) (a : Option Addr) (cap B : Nat) (w : World), Below w0.heap.size w0 w → behind d l = some r → l.length ≤ 20 → Parts w0 a l → l.length ≤ cap → EnvS w → Book w B ls →
    Calls Tryz.prog 25 #[.slice a l.length cap, .map (some B)] w fun e w' => (∃ a' cap', e = .returned (.tuple #[rv (ev ls d l), .slice a' r.length cap']) ∧ Parts w0 a' r ∧ r.length ≤ cap') ∧ Below w.heap.size w w' := by
  intro d
  induction d with
  | zero => intro l r a cap B w _ h; cases h
  | succ d ih =>
    intro l r a cap B w hw0 hbd hlen hP hcap hE hBk
    have HI := EvlS.hid ih
    clear ih
    cases l with
    | nil => cases hbd
    | cons p q =>
    obtain ⟨b, o, x, n, t, rfl, hb, hg, hf, c0, c1, c2⟩ := parts_at (hP.on hw0) (show 0 < (p :: q).length by simp)
    have hpe : p = (x, n, t) := hg
    subst hpe
    obtain ⟨hp, hcs⟩ := behind_cases hbd
    have hin := part_in hp
    obtain ⟨k, rfl⟩ : ∃ k : Nat, x = k := ⟨x.toNat, by omega⟩
    have hl1 : ((((k : Int), n, t) :: q).length : Nat) = q.length + 1 := by simp
    simp only at hcs
    rcases hcs with ⟨h0, rfl⟩ | ⟨h0, hb1⟩ | ⟨h0, r1, hb1, hb2⟩
    · rw [hl1] at hlen hcap ⊢
      rw [show ev ls (d + 1) (((k : Int), n, t) :: r) = leafR ls ((k : Int), n, t) by rw [ev_succ, if_pos h0]]
      exact head_leaf ls hra k n t r b o cap B w0 w hw0 hp h0 hP hcap hlen hE hBk
    all_goals
      simp only [Nat.zero_mul, Nat.add_zero] at c0 c1 c2
      have hk13 : k < 14 := by omega
      have hk13' : (k : Int) < 14 := by omega
      have HP1 := EvlS.hid (parts_tail hP b o rfl)
      rw [hl1] at hlen hcap ⊢
      obtain ⟨e0, e1, e2, e3, e4, e5, e6⟩ := hE.2 k hk13
      have hg0 := hE.1
      have hmi := many_inner k (by omega) (by omega)
      rw [h0] at hmi
      rw [← hmi] at e1
      clear hmi
      have HW0 := EvlS.hid hw0
      have HE := EvlS.hid hE
      have HBk := EvlS.hid hBk
    · have hq := (behind_suffix _ _ _ hb1).2
      have hcn : ¬ cap = 1 := by omega
      have hql : q.length ≤ 20 := by omega
      have hqc : q.length ≤ cap - 1 := by omega
      obtain ⟨rr, hrr⟩ : ∃ rr, Hid (ev ls (d + 1) (((k : Int), n, t) :: q) = rr) := ⟨_, rfl⟩
      rw [hrr.out]
      obtain ⟨s, hs⟩ : ∃ s, Hid (ev ls d q = s) := ⟨_, rfl⟩
      have HT : Hid (turnR s = rr) := by
        show _ = _
        rw [← hrr.out, ← hs.out, ev_succ, if_neg (by rw [h0]; decide), if_pos h0]
      have HB1 := EvlS.hid hb1
      obtain ⟨r0, r1⟩ := rr
      obtain ⟨s0, s1⟩ := s
      clear hbd hP hE hBk hf hg hp hb1 hrr hw0
      go_enter Tryz.func25, Tryz.ntmps25
      go_wp2_with fail
      have hBW : Below w.heap.size w ((w.alloc (.cells #[.int .i64 0, .int .i64 0] 27)).alloc (.cells #[.int .i64 (k : Int), .int .i64 n, .string t] 49)) := by go_grown
      have hR := (R2.new w 0 0).alloc (.cells #[.int .i64 (k : Int), .int .i64 n, .string t] 49)
      refine (HI.out q r _ _ B _ (HW0.out.trans (hBW.mono HW0.out.size)) HB1.out hql HP1.out hqc (HE.out.on hBW) (HBk.out.on hBW)).mono ?_
      rintro e w2 ⟨⟨a', cap', rfl, hP3, hc3⟩, hB2⟩
      rw [hs.out]
      have HW2 : Hid (Below w.heap.size w w2) := hBW.trans (hB2.mono hBW.size)
      have HR2 := EvlS.hid (hR.on hB2)
      have HP3 := EvlS.hid hP3
      clear hB2 hR hBW hP3 e0 e1 e2 e3 e4 e5 e6 c0 c1 c2
      have hlt := HR2.out.lt
      go_wp2_with fail
      refine (impl_turned s0 s1 _).mono ?_
      rintro e w3 ⟨rfl, hB3⟩
      rw [HT.out]
      have hb3 : Below w2.heap.size w2 w3 := (EvlS.below_one w2 _).trans (hB3.mono (by simp))
      have HW3 : Hid (Below w.heap.size w w3) := HW2.out.trans (hb3.mono HW2.out.size)
      obtain ⟨x0, x1, xf⟩ := (HR2.out.on hb3).cells
      dsimp only at x0 x1
      clear hB3 hb3
      go_wp2_with fail
      refine bodyPost_ret (v := .tuple #[rv (r0, r1), .slice a' r.length cap']) (by simp [results, Tryz.results25, go_sem, x0, x1]) rfl ⟨⟨_, _, rfl, HP3.out, hc3⟩, ?_⟩
      repeat (refine Below.setCell ?_ (by simp) _)
      exact HW3.out
    · have hq := (behind_suffix _ _ _ hb1).2
      have hq2 := (behind_suffix _ _ _ hb2).2
      have hcn : ¬ cap = 1 := by omega
      have hql : q.length ≤ 20 := by omega
      have hql2 : r1.length ≤ 20 := by omega
      have hqc : q.length ≤ cap - 1 := by omega
      have hk310 := many_two h0
      obtain ⟨rr, hrr⟩ : ∃ rr, Hid (ev ls (d + 1) (((k : Int), n, t) :: q) = rr) := ⟨_, rfl⟩
      rw [hrr.out]
      obtain ⟨s, hs⟩ : ∃ s, Hid (ev ls d q = s) := ⟨_, rfl⟩
      obtain ⟨s', hs'⟩ : ∃ s', Hid (ev ls d r1 = s') := ⟨_, rfl⟩
      have HTw : Hid (twoR (k : Int) s s' = rr) := by
        show _ = _
        rw [← hrr.out, ← hs.out, ← hs'.out, ev_succ, if_neg (by rw [h0]; decide), if_neg (by rw [h0]; decide)]
        rw [show rest d q = r1 by unfold rest; rw [hb1]; rfl]
      have HB1 := EvlS.hid hb1
      have HB2 := EvlS.hid hb2
      obtain ⟨r0, r1'⟩ := rr
      obtain ⟨k1, n1⟩ := s
      obtain ⟨k2, n2⟩ := s'
      clear hbd hP hE hBk hf hg hp hb1 hb2 hrr hw0 h0
      go_enter Tryz.func25, Tryz.ntmps25
      go_wp2_with fail
      have hBW : Below w.heap.size w ((w.alloc (.cells #[.int .i64 0, .int .i64 0] 27)).alloc (.cells #[.int .i64 (k : Int), .int .i64 n, .string t] 49)) := by go_grown
      have hR := (R2.new w 0 0).alloc (.cells #[.int .i64 (k : Int), .int .i64 n, .string t] 49)
      have hq0 : ((w.alloc (.cells #[.int .i64 0, .int .i64 0] 27)).alloc (.cells #[.int .i64 (k : Int), .int .i64 n, .string t] 49)).heap[w.heap.size + 1]? = some (.cells #[.int .i64 (k : Int), .int .i64 n, .string t] 49 (0, 0)) := by
        have := heap_alloc_new (w.alloc (.cells #[.int .i64 0, .int .i64 0] 27)) (.cells #[.int .i64 (k : Int), .int .i64 n, .string t] 49)
        simpa using this
      refine (HI.out q r1 _ _ B _ (HW0.out.trans (hBW.mono HW0.out.size)) HB1.out hql HP1.out hqc (HE.out.on hBW) (HBk.out.on hBW)).mono ?_
      rintro e w2 ⟨⟨a', cap', rfl, hP3, hc3⟩, hB2⟩
      rw [hs.out]
      have HW2 : Hid (Below w.heap.size w w2) := hBW.trans (hB2.mono hBW.size)
      have HR2 := EvlS.hid (hR.on hB2)
      have HQ2 : Hid (w2.heap[w.heap.size + 1]? = some (.cells #[.int .i64 (k : Int), .int .i64 n, .string t] 49 (0, 0))) := by show _ = _; rw [hB2.block _ (Array.getElem?_eq_some_iff.1 hq0).1]; exact hq0
      have HP3 := EvlS.hid hP3
      clear hB2 hR hBW hP3 e0 e1 e2 e3 e4 e5 e6 c0 c1 c2 hq0
      go_wp2_with fail
      have hb2 : Below w2.heap.size w2 (w2.alloc (.cells #[.int .i64 k1, .int .i64 n1] 27)) := EvlS.below_one w2 _
      refine (HI.out r1 r a' cap' B _ (HW0.out.trans ((HW2.out.trans (hb2.mono HW2.out.size)).mono HW0.out.size)) HB2.out hql2 HP3.out hc3 ((HE.out.on HW2.out).on hb2) ((HBk.out.on HW2.out).on hb2)).mono ?_
      rintro e w3 ⟨⟨a4, cap4, rfl, hP4, hc4⟩, hB3⟩
      rw [hs'.out]
      have hb3 : Below w2.heap.size w2 w3 := hb2.trans (hB3.mono hb2.size)
      have HW3 : Hid (Below w.heap.size w w3) := HW2.out.trans (hb3.mono HW2.out.size)
      have HR3 := EvlS.hid (HR2.out.on hb3)
      have HQ3 : Hid (w3.heap[w.heap.size + 1]? = some (.cells #[.int .i64 (k : Int), .int .i64 n, .string t] 49 (0, 0))) := by show _ = _; rw [hb3.block _ (Array.getElem?_eq_some_iff.1 HQ2.out).1]; exact HQ2.out
      have HA3 : Hid (R2 w3 w2.heap.size (k1, n1)) := (R2.new w2 k1 n1).on hB3
      have HP4 := EvlS.hid hP4
      have hgl := HR2.out.lt
      have hql2' := (Array.getElem?_eq_some_iff.1 HQ2.out).1
      clear hB3 hb3 hb2 hP4 HR2 HQ2 HW2
      generalize hg9 : w2.heap.size = g9 at *
      have HG9 := EvlS.hid hg9
      clear hg9
      go_upto_region 9 with fail
      obtain ⟨W9, hW9⟩ : ∃ W9, Hid (w3.alloc (.cells #[.int .i64 k2, .int .i64 n2] 27) = W9) := ⟨_, rfl⟩
      have hb9 : Below w3.heap.size w3 (w3.alloc (.cells #[.int .i64 k2, .int .i64 n2] 27)) := EvlS.below_one w3 _
      have hC9 := R2.new w3 k2 n2
      rw [hW9.out] at hb9 hC9 ⊢
      have hR9 := HR3.out.on hb9
      have hA9 := HA3.out.on hb9
      have hQ9 : W9.heap[w.heap.size + 1]? = some (.cells #[.int .i64 (k : Int), .int .i64 n, .string t] 49 (0, 0)) := by rw [hb9.block _ (Array.getElem?_eq_some_iff.1 HQ3.out).1]; exact HQ3.out
      have HBW : Hid (Below w.heap.size w W9) := HW3.out.trans (hb9.mono HW3.out.size)
      have hS0 := HdS.refl hR9
      have hg11 : w.heap.size < w3.heap.size := HR3.out.lt
      generalize w3.heap.size = g11 at *
      have hl9 := hA9.lt
      have hl11 := hC9.lt
      have hlq := (Array.getElem?_eq_some_iff.1 hQ9).1
      obtain ⟨a0, a1, _⟩ := hA9.cells
      obtain ⟨b0, b1, _⟩ := hC9.cells
      have HAll : Hid (∀ w', HdS W9 w.heap.size w' → HdS W9 w.heap.size w' ∧ w'.cell? ⟨w.heap.size + 1, 0, none⟩ = some (.int .i64 (k : Int)) ∧ w'.cell? ⟨g9, 0, none⟩ = some (.int .i64 k1) ∧ w'.cell? ⟨g9, 1, none⟩ = some (.int .i64 n1) ∧ w'.cell? ⟨g11, 0, none⟩ = some (.int .i64 k2) ∧ w'.cell? ⟨g11, 1, none⟩ = some (.int .i64 n2)) := fun w' hS => by
        refine ⟨hS, ?_, ?_, ?_, ?_, ?_⟩
        · rw [hS.cell hlq (by omega)]; simp [World.cell?, hQ9]
        · rw [hS.cell hl9 (by omega)]; exact a0
        · rw [hS.cell hl9 (by omega)]; exact a1
        · rw [hS.cell hl11 (by omega)]; exact b0
        · rw [hS.cell hl11 (by omega)]; exact b1
      clear hb9 hC9 hR9 hA9 hQ9 hW9 a0 a1 b0 b1 HR3 HA3 HQ3 HW3
      have HTw2 := HTw
      refine wp_region_held_drew (S := (fun w' => HdS W9 w.heap.size w' ∧ w'.cell? ⟨w.heap.size + 1, 0, none⟩ = some (.int .i64 (k : Int)) ∧ w'.cell? ⟨g9, 0, none⟩ = some (.int .i64 k1) ∧ w'.cell? ⟨g9, 1, none⟩ = some (.int .i64 n1) ∧ w'.cell? ⟨g11, 0, none⟩ = some (.int .i64 k2) ∧ w'.cell? ⟨g11, 1, none⟩ = some (.int .i64 n2))) (by kernel_rfl) ?_ (fun hHeld => ?_)
      · (try dsimp only) <;> (first | exact HAll.out _ hSn | exact HAll.out _ hS0)
      refine wpAnyH_take (i := 0) (oi := { dst := some 47, op := Go.Op.fieldAddr 49 (Go.Operand.tmp 6) 0, type := 0, pos := "l05_eval.go:262", after := #[], guard := none }) (v := ?_) rfl (by kernel_rfl) (by kernel_rfl) (by kernel_rfl) (fun _ _ _ h => h) (Or.inl ⟨by rfl, ?yld162⟩) hHeld ?nxt162
      case yld162 => (intro w hSw; (try dsimp only at hSw); go_simp) <;> with_reducible rfl
      (try simp only [Act.put, List.setIfInBounds_toArray, List.set_cons_zero, List.set_cons_succ])
      refine wpAnyH_take (i := 1) (oi := { dst := some 48, op := Go.Op.load 2 (Go.Operand.tmp 47), type := 2, pos := "l05_eval.go:262", after := #[{ on := 0, ground := Go.Ground.data }], guard := none }) (v := ?_) rfl (by kernel_rfl) (by kernel_rfl) (by kernel_rfl) (fun _ _ _ h => h) (Or.inl ⟨by rfl, ?yld163⟩) hHeld ?nxt163
      case yld163 => (intro w hSw; (try dsimp only at hSw); go_simp) <;> with_reducible rfl
      (try simp only [Act.put, List.setIfInBounds_toArray, List.set_cons_zero, List.set_cons_succ])
      refine wpAnyH_take (i := 3) (oi := { dst := some 50, op := Go.Op.load 27 (Go.Operand.tmp 9), type := 27, pos := "l05_eval.go:262", after := #[], guard := none }) (v := ?_) rfl (by kernel_rfl) (by kernel_rfl) (by kernel_rfl) (fun _ _ _ h => h) (Or.inl ⟨by rfl, ?yld164⟩) hHeld ?nxt164
      case yld164 => (intro w hSw; (try dsimp only at hSw); go_simp) <;> with_reducible rfl
      (try simp only [Act.put, List.setIfInBounds_toArray, List.set_cons_zero, List.set_cons_succ])
      refine wpAnyH_take (i := 4) (oi := { dst := some 51, op := Go.Op.load 27 (Go.Operand.tmp 11), type := 27, pos := "l05_eval.go:262", after := #[], guard := none }) (v := ?_) rfl (by kernel_rfl) (by kernel_rfl) (by kernel_rfl) (fun _ _ _ h => h) (Or.inl ⟨by rfl, ?yld165⟩) hHeld ?nxt165
      case yld165 => (intro w hSw; (try dsimp only at hSw); go_simp) <;> with_reducible rfl
      (try simp only [Act.put, List.setIfInBounds_toArray, List.set_cons_zero, List.set_cons_succ])
      refine wpAnyH_take (i := 6) (oi := { dst := some 53, op := Go.Op.move (Go.Operand.tmp 10), type := 29, pos := "l05_eval.go:262", after := #[{ on := 7, ground := Go.Ground.gcOnly Go.Departure.lateStores }], guard := none }) (v := ?_) rfl (by kernel_rfl) (by kernel_rfl) (by kernel_rfl) (fun _ _ _ h => h) (Or.inl ⟨by rfl, ?yld166⟩) hHeld ?nxt166
      case yld166 => (intro w hSw; (try dsimp only at hSw); go_simp) <;> with_reducible rfl
      (try simp only [Act.put, List.setIfInBounds_toArray, List.set_cons_zero, List.set_cons_succ])
      refine wpAnyH_ready (rs := [2]) (by kernel_rfl) (by simp) ?_
      refine AllReadyH.cons (o := { dst := some 49, op := Go.Op.call { callee := Go.Callee.value (Go.Operand.func 41), args := #[Go.Operand.tmp 48], argTypes := #[2] }, type := 75, pos := "l05_eval.go:262", after := #[{ on := 1, ground := Go.Ground.data }], guard := none }) rfl (fun K hK => ?_) AllReadyH.nil
      go_simp
      go_at_call 41
      have hp := hHeld.1
      refine (ofTwo_in (k : Int) (by omega) (by omega) _).mono ?_
      rintro e w' ⟨⟨fv, rfl, hfv⟩, hB⟩
      obtain ⟨KF, fp, rfl, hent, hcall⟩ := fv_call hfv k1 n1 k2 n2
      have HCall := EvlS.hid hcall
      clear hcall hfv
      have hSn := hp.on hB
      clear hp hB
      (try go_wp2_with fail)
      refine hK.out _ _ ?_ (fun hHeld2 => ?_)
      · (try dsimp only) <;> (first | exact HAll.out _ hSn | exact HAll.out _ hS0)
      clear hK K hHeld
      have hHeld := hHeld2
      clear hHeld2
      (try simp only [Act.put, List.setIfInBounds_toArray, List.set_cons_zero, List.set_cons_succ])
      refine wpAnyH_ready (rs := [5]) (by kernel_rfl) (by simp) ?_
      refine AllReadyH.cons (o := { dst := some 52, op := Go.Op.call { callee := Go.Callee.value (Go.Operand.tmp 49), args := #[Go.Operand.tmp 50, Go.Operand.tmp 51], argTypes := #[27, 27] }, type := 27, pos := "l05_eval.go:262", after := #[{ on := 2, ground := Go.Ground.data }, { on := 3, ground := Go.Ground.data }, { on := 4, ground := Go.Ground.data }, { on := 2, ground := Go.Ground.chain }], guard := none }) rfl (fun K hK => ?_) AllReadyH.nil
      go_simp
      have hp := hHeld.1
      refine (HCall.out _ (Below.refl _ _)).mono ?_
      rintro e w'' ⟨rfl, hB⟩
      rw [HTw.out]
      have hSn := hp.on hB
      clear hp hB
      (try go_wp2_with fail)
      refine hK.out _ _ ?_ (fun hHeld2 => ?_)
      · (try dsimp only) <;> (first | exact HAll.out _ hSn | exact HAll.out _ hS0)
      clear hK K hHeld
      have hHeld := hHeld2
      clear hHeld2
      (try simp only [Act.put, List.setIfInBounds_toArray, List.set_cons_zero, List.set_cons_succ])
      refine wpAnyH_ready (rs := [7]) (by kernel_rfl) (by simp) ?_
      refine AllReadyH.cons (o := { dst := none, op := Go.Op.store 27 (Go.Operand.tmp 4) (Go.Operand.tmp 52), type := 0, pos := "l05_eval.go:262", after := #[{ on := 5, ground := Go.Ground.data }, { on := 5, ground := Go.Ground.chain }, { on := 0, ground := Go.Ground.phase }, { on := 1, ground := Go.Ground.phase }, { on := 2, ground := Go.Ground.phase }, { on := 3, ground := Go.Ground.phase }, { on := 4, ground := Go.Ground.phase }, { on := 5, ground := Go.Ground.phase }, { on := 6, ground := Go.Ground.textOnly Go.Departure.lateStores }], guard := none }) rfl (fun K hK => ?_) AllReadyH.nil
      obtain ⟨⟨v0, y0⟩, f0⟩ := hHeld.1.room 0 (by decide)
      obtain ⟨⟨v1, y1⟩, f1⟩ := hHeld.1.room 1 (by decide)
      go_simp
      have hSn := (hHeld.1.put 0 (.int .i64 r0)).put 1 (.int .i64 r1')
      refine hK.out _ _ ?_ (fun hHeld2 => ?_)
      · (try dsimp only) <;> (first | exact HAll.out _ hSn | exact HAll.out _ hS0)
      clear hK K hHeld
      have hHeld := hHeld2
      clear hHeld2
      (try simp only [Act.put, List.setIfInBounds_toArray, List.set_cons_zero, List.set_cons_succ])
      refine wpAnyH_take (i := 8) (oi := { dst := some 5, op := Go.Op.assign (Go.Operand.tmp 53), type := 29, pos := "l05_eval.go:262", after := #[{ on := 6, ground := Go.Ground.data }, { on := 7, ground := Go.Ground.chain }, { on := 0, ground := Go.Ground.phase }, { on := 1, ground := Go.Ground.phase }, { on := 2, ground := Go.Ground.phase }, { on := 3, ground := Go.Ground.phase }, { on := 4, ground := Go.Ground.phase }, { on := 5, ground := Go.Ground.phase }, { on := 6, ground := Go.Ground.phase }, { on := 7, ground := Go.Ground.phase }], guard := none }) (v := ?_) rfl (by kernel_rfl) (by kernel_rfl) (by kernel_rfl) (fun _ _ _ h => h) (Or.inl ⟨by rfl, ?yld167⟩) hHeld ?nxt167
      case yld167 => (intro w hSw; (try dsimp only at hSw); go_simp) <;> with_reducible rfl
      (try simp only [Act.put, List.setIfInBounds_toArray, List.set_cons_zero, List.set_cons_succ])
      refine wpAnyH_done (by kernel_rfl) ?_ _
      have HBL := EvlS.hid (hHeld.1.below HBW.out (Nat.le_refl _))
      clear hHeld hS0 HAll
      go_wp2_with fail
      refine bodyPost_ret (v := .tuple #[rv (r0, r1'), .slice a4 r.length cap4]) (by simp [results, Tryz.results25, go_sem, y0, y1]) rfl ⟨⟨_, _, rfl, HP4.out, hc4⟩, HBL.out⟩
end Go.Proofs.YtflofhbooedpjaaGreatDoor.EvlI
/- What the model tells of the expression at a place. -/
namespace Go.Proofs.YtflofhbooedpjaaGreatDoor.EvlI
open Go.RowKit
open EvlM EvlS ValW PrtW PrtM PrtS PrtI TexM
open AnsW (An kd nu cd tx told rightA Ans)

theorem tup_rv {a b : Rs} {v : Value} (h : a = b) : Ending.returned (.tuple #[rv a, v]) = .returned (.tuple #[rv b, v]) := by rw [h]

set_option maxRecDepth 10000 in
set_option maxHeartbeats 6400000 in
theorem spec_ev (ls : List An) (hra : rightA ls = true) (a : Option Addr) (cap : Nat) (ps : List Pt) (hlen : ps.length ≤ 20) (la : Option Addr) (lcap : Nat) : ∀ (d : Nat) (k : Nat) (r : List Pt) (w : World), k ≤ ps.length → behind d (ps.drop k) = some r → Parts w a ps → Ans w la ls →
    Calls Tryz.prog 35 #[.slice a ps.length cap, .int .i64 k, .slice la ls.length lcap] w fun e w' => e = .returned (.tuple #[rv (ev ls d (ps.drop k)), .int .i64 ((ps.length - r.length : Nat) : Int)]) ∧ Below w.heap.size w w' := by
  intro d
  induction d with
  | zero => intro k r w hk h; cases h
  | succ d ih =>
    intro k r w hk hbd hP hLs
    have HI := EvlS.hid ih
    have HP := EvlS.hid hP
    have HLs := EvlS.hid hLs
    clear ih hP hLs
    have hlt : k < ps.length := by
      rcases Nat.lt_or_ge k ps.length with h | h
      · exact h
      · rw [List.drop_of_length_le h] at hbd; cases hbd
    obtain ⟨b, o, x, n, t, rfl, hb, hg, hf, c0, c1, c2⟩ := parts_at HP.out hlt
    rw [drop_at ps k hlt, hg] at hbd ⊢
    obtain ⟨hp, hcs⟩ := behind_cases hbd
    have hsz := part_size hp
    have hdl : (ps.drop (k + 1)).length = ps.length - (k + 1) := List.length_drop
    obtain ⟨rr, hrr⟩ : ∃ rr, Hid (ev ls (d + 1) ((x, n, t) :: ps.drop (k + 1)) = rr) := ⟨_, rfl⟩
    rw [hrr.out]
    obtain ⟨r0, r1⟩ := rr
    have hin := part_in hp
    have hBW0 : Below w.heap.size w ((w.alloc (.cells #[.int .i64 0, .int .i64 0] 27)).alloc (.cells #[.int .i64 x, .int .i64 n, .string t] 49)) := by go_grown
    have hR0 := (R2.new w 0 0).alloc (.cells #[.int .i64 x, .int .i64 n, .string t] 49)
    have hq0 : ((w.alloc (.cells #[.int .i64 0, .int .i64 0] 27)).alloc (.cells #[.int .i64 x, .int .i64 n, .string t] 49)).heap[w.heap.size + 1]? = some (.cells #[.int .i64 x, .int .i64 n, .string t] 49 (0, 0)) := by
      have := heap_alloc_new (w.alloc (.cells #[.int .i64 0, .int .i64 0] 27)) (.cells #[.int .i64 x, .int .i64 n, .string t] 49)
      simpa using this
    have HBW0 := EvlS.hid hBW0
    have HR0 := EvlS.hid hR0
    have HQ0 := EvlS.hid hq0
    clear hBW0 hR0 hq0 hg hf
    rcases hcs with ⟨h0, rfl⟩ | ⟨h0, hb1⟩ | ⟨h0, rm, hb1, hb2⟩
    · have hlf : Hid (leafR ls (x, n, t) = (r0, r1)) := by
        show _ = _
        rw [← hrr.out, ev_succ, if_pos h0]
      have hend : Hid (ps.length - (ps.drop (k + 1)).length = k + 1) := by show _ = _; omega
      rw [hend.out]
      have hlo := leaf_op hp h0
      obtain ⟨q, hq⟩ : ∃ q, Hid (told ls t = q) := ⟨_, rfl⟩
      have hl2 : leafV x n (kd q) (nu q) (cd q) = (r0, r1) := by rw [← hq.out, ← leafV_eq]; exact hlf.out
      obtain ⟨qs, vk, vm, zs, vt⟩ := q
      dsimp only [kd, nu, cd, tx] at hl2
      clear hdl hbd hlf hp hrr h0 hend
      rcases hlo with e | e | e | e <;> simp only at e <;> subst e
      · have hl3 : ((1 : Int), n) = (r0, r1) := hl2
        injection hl3 with z0 z1
        subst z0 z1
        clear hl2 hq HQ0 HR0 HBW0
        go_enter Tryz.func35, Tryz.ntmps35
        go_wp2_with fail
        refine bodyPost_ret (v := .tuple #[rv (1, n), .int .i64 ((k : Int) + 1)]) (by simp [results, Tryz.results35, go_sem]) rfl ⟨by simp, by go_grown⟩
      · have HL : Hid (fieldR vk vm = (r0, r1)) := hl2
        go_enter Tryz.func35, Tryz.ntmps35
        go_wp2_with fail
        refine (AnsW.spec_l05of la lcap ls t _ (HLs.out.on HBW0.out) hra).mono ?_
        rintro e w1 ⟨⟨va, vc, rfl, _, _⟩, hB1⟩
        rw [hq.out]
        dsimp only [kd, nu, cd, tx]
        have HB1 : Hid (Below w.heap.size w w1) := HBW0.out.trans (hB1.mono HBW0.out.size)
        have HR1 := EvlS.hid (HR0.out.on hB1)
        clear hB1
        go_wp2_with fail
        refine (spec_field vk vm va zs.length vc vt w1).mono ?_
        rintro e w2 ⟨rfl, hB2⟩
        rw [HL.out]
        have HB2 : Hid (Below w.heap.size w w2) := HB1.out.trans (hB2.mono HB1.out.size)
        obtain ⟨x0, x1, xf⟩ := (HR1.out.on hB2).cells
        dsimp only at x0 x1
        clear hB2 c0 c1 c2
        go_wp2_with fail
        refine bodyPost_ret (v := .tuple #[rv (r0, r1), .int .i64 ((k : Int) + 1)]) (by simp [results, Tryz.results35, go_sem, x0, x1]) rfl ⟨by simp, ?_⟩
        repeat (refine Below.setCell ?_ (by simp) _)
        exact HB2.out
      · have HL : Hid (hasR vk (zs.contains n) = (r0, r1)) := hl2
        go_enter Tryz.func35, Tryz.ntmps35
        go_upto_region 9 with fail
        obtain ⟨W1, hW1⟩ : ∃ W1, Hid ((w.alloc (.cells #[.int .i64 0, .int .i64 0] 27)).alloc (.cells #[.int .i64 12, .int .i64 n, .string t] 49) = W1) := ⟨_, rfl⟩
        rw [hW1.out] at HBW0 HR0 HQ0 ⊢
        have HBW := HBW0
        have hS0 := HdS.refl HR0.out
        have hpl : w.heap.size + 1 < W1.heap.size := (Array.getElem?_eq_some_iff.1 HQ0.out).1
        have HAll : Hid (∀ w', HdS W1 w.heap.size w' → HdS W1 w.heap.size w' ∧ w'.cell? ⟨w.heap.size + 1, 1, none⟩ = some (.int .i64 n) ∧ w'.cell? ⟨w.heap.size + 1, 2, none⟩ = some (.string t)) := fun w' hS => by
          refine ⟨hS, ?_, ?_⟩
          · rw [hS.cell hpl (by omega)]; simp [World.cell?, HQ0.out]
          · rw [hS.cell hpl (by omega)]; simp [World.cell?, HQ0.out]
        clear hW1 HBW0 HR0 HQ0 c0 c1 c2
        refine wp_region_held_drew (S := (fun w' => HdS W1 w.heap.size w' ∧ w'.cell? ⟨w.heap.size + 1, 1, none⟩ = some (.int .i64 n) ∧ w'.cell? ⟨w.heap.size + 1, 2, none⟩ = some (.string t))) (by kernel_rfl) ?_ (fun hHeld => ?_)
        · (try dsimp only) <;> (first | exact HAll.out _ hSn | exact HAll.out _ hS0)
        refine wpAnyH_take (i := 0) (oi := { dst := some 39, op := Go.Op.move (Go.Operand.tmp 2), type := 31, pos := "l05_eval.go:193", after := #[], guard := none }) (v := ?_) rfl (by kernel_rfl) (by kernel_rfl) (by kernel_rfl) (fun _ _ _ h => h) (Or.inl ⟨by rfl, ?yld168⟩) hHeld ?nxt168
        case yld168 => (intro w hSw; (try dsimp only at hSw); go_simp) <;> with_reducible rfl
        (try simp only [Act.put, List.setIfInBounds_toArray, List.set_cons_zero, List.set_cons_succ])
        refine wpAnyH_take (i := 1) (oi := { dst := some 40, op := Go.Op.fieldAddr 49 (Go.Operand.tmp 8) 2, type := 0, pos := "l05_eval.go:193", after := #[], guard := none }) (v := ?_) rfl (by kernel_rfl) (by kernel_rfl) (by kernel_rfl) (fun _ _ _ h => h) (Or.inl ⟨by rfl, ?yld169⟩) hHeld ?nxt169
        case yld169 => (intro w hSw; (try dsimp only at hSw); go_simp) <;> with_reducible rfl
        (try simp only [Act.put, List.setIfInBounds_toArray, List.set_cons_zero, List.set_cons_succ])
        refine wpAnyH_take (i := 2) (oi := { dst := some 41, op := Go.Op.load 9 (Go.Operand.tmp 40), type := 9, pos := "l05_eval.go:193", after := #[{ on := 1, ground := Go.Ground.data }], guard := none }) (v := ?_) rfl (by kernel_rfl) (by kernel_rfl) (by kernel_rfl) (fun _ _ _ h => h) (Or.inl ⟨by rfl, ?yld170⟩) hHeld ?nxt170
        case yld170 => (intro w hSw; (try dsimp only at hSw); go_simp) <;> with_reducible rfl
        (try simp only [Act.put, List.setIfInBounds_toArray, List.set_cons_zero, List.set_cons_succ])
        refine wpAnyH_take (i := 4) (oi := { dst := some 43, op := Go.Op.fieldAddr 49 (Go.Operand.tmp 8) 1, type := 0, pos := "l05_eval.go:193", after := #[], guard := none }) (v := ?_) rfl (by kernel_rfl) (by kernel_rfl) (by kernel_rfl) (fun _ _ _ h => h) (Or.inl ⟨by rfl, ?yld171⟩) hHeld ?nxt171
        case yld171 => (intro w hSw; (try dsimp only at hSw); go_simp) <;> with_reducible rfl
        (try simp only [Act.put, List.setIfInBounds_toArray, List.set_cons_zero, List.set_cons_succ])
        refine wpAnyH_take (i := 5) (oi := { dst := some 44, op := Go.Op.load 2 (Go.Operand.tmp 43), type := 2, pos := "l05_eval.go:193", after := #[{ on := 4, ground := Go.Ground.data }], guard := none }) (v := ?_) rfl (by kernel_rfl) (by kernel_rfl) (by kernel_rfl) (fun _ _ _ h => h) (Or.inl ⟨by rfl, ?yld172⟩) hHeld ?nxt172
        case yld172 => (intro w hSw; (try dsimp only at hSw); go_simp) <;> with_reducible rfl
        (try simp only [Act.put, List.setIfInBounds_toArray, List.set_cons_zero, List.set_cons_succ])
        refine wpAnyH_take (i := 7) (oi := { dst := some 46, op := Go.Op.move (Go.Operand.tmp 1), type := 3, pos := "l05_eval.go:193", after := #[{ on := 8, ground := Go.Ground.gcOnly Go.Departure.lateStores }], guard := none }) (v := ?_) rfl (by kernel_rfl) (by kernel_rfl) (by kernel_rfl) (fun _ _ _ h => h) (Or.inl ⟨by rfl, ?yld173⟩) hHeld ?nxt173
        case yld173 => (intro w hSw; (try dsimp only at hSw); go_simp) <;> with_reducible rfl
        (try simp only [Act.put, List.setIfInBounds_toArray, List.set_cons_zero, List.set_cons_succ])
        refine wpAnyH_ready (rs := [3]) (by kernel_rfl) (by simp) ?_
        refine AllReadyH.cons (o := { dst := some 42, op := Go.Op.call { callee := Go.Callee.value (Go.Operand.func 53), args := #[Go.Operand.tmp 39, Go.Operand.tmp 41], argTypes := #[31, 9] }, type := 51, pos := "l05_eval.go:193", after := #[{ on := 0, ground := Go.Ground.data }, { on := 2, ground := Go.Ground.data }], guard := none }) rfl (fun K hK => ?_) AllReadyH.nil
        go_simp
        go_at_call 53
        have hp := hHeld.1
        refine (AnsW.spec_l05of la lcap ls t _ (HLs.out.on (hp.below HBW.out (Nat.le_refl _))) hra).mono ?_
        rintro e w' ⟨⟨va, vc, rfl, hcv, _⟩, hB⟩
        rw [hq.out] at hcv
        rw [hq.out]
        dsimp only [kd, nu, cd, tx] at hcv ⊢
        have HCv := EvlS.hid hcv
        have hSn := hp.on hB
        clear hp hB hcv
        (try go_wp2_with fail)
        refine hK.out _ _ ?_ (fun hHeld2 => ?_)
        · (try dsimp only) <;> (first | exact HAll.out _ hSn | exact HAll.out _ hS0)
        clear hK K hHeld
        have hHeld := hHeld2
        clear hHeld2
        (try simp only [Act.put, List.setIfInBounds_toArray, List.set_cons_zero, List.set_cons_succ])
        refine wpAnyH_ready (rs := [6]) (by kernel_rfl) (by simp) ?_
        refine AllReadyH.cons (o := { dst := some 45, op := Go.Op.call { callee := Go.Callee.value (Go.Operand.func 54), args := #[Go.Operand.tmp 42, Go.Operand.tmp 44], argTypes := #[51, 2] }, type := 27, pos := "l05_eval.go:193", after := #[{ on := 3, ground := Go.Ground.data }, { on := 5, ground := Go.Ground.data }, { on := 3, ground := Go.Ground.chain }], guard := none }) rfl (fun K hK => ?_) AllReadyH.nil
        go_simp
        go_at_call 54
        have hp := hHeld.1
        refine (EvlS.spec_has vk vm va vc zs vt n _ HCv.out).mono ?_
        rintro e w' ⟨rfl, hB⟩
        rw [HL.out]
        have hSn := hp.on hB
        clear hp hB
        (try go_wp2_with fail)
        refine hK.out _ _ ?_ (fun hHeld2 => ?_)
        · (try dsimp only) <;> (first | exact HAll.out _ hSn | exact HAll.out _ hS0)
        clear hK K hHeld
        have hHeld := hHeld2
        clear hHeld2
        (try simp only [Act.put, List.setIfInBounds_toArray, List.set_cons_zero, List.set_cons_succ])
        refine wpAnyH_ready (rs := [8]) (by kernel_rfl) (by simp) ?_
        refine AllReadyH.cons (o := { dst := none, op := Go.Op.store 27 (Go.Operand.tmp 6) (Go.Operand.tmp 45), type := 0, pos := "l05_eval.go:193", after := #[{ on := 6, ground := Go.Ground.data }, { on := 6, ground := Go.Ground.chain }, { on := 0, ground := Go.Ground.phase }, { on := 1, ground := Go.Ground.phase }, { on := 2, ground := Go.Ground.phase }, { on := 3, ground := Go.Ground.phase }, { on := 4, ground := Go.Ground.phase }, { on := 5, ground := Go.Ground.phase }, { on := 6, ground := Go.Ground.phase }, { on := 7, ground := Go.Ground.textOnly Go.Departure.lateStores }], guard := none }) rfl (fun K hK => ?_) AllReadyH.nil
        obtain ⟨⟨v0, y0⟩, f0⟩ := hHeld.1.room 0 (by decide)
        obtain ⟨⟨v1, y1⟩, f1⟩ := hHeld.1.room 1 (by decide)
        go_simp
        have hSn := (hHeld.1.put 0 (.int .i64 r0)).put 1 (.int .i64 r1)
        refine hK.out _ _ ?_ (fun hHeld2 => ?_)
        · (try dsimp only) <;> (first | exact HAll.out _ hSn | exact HAll.out _ hS0)
        clear hK K hHeld
        have hHeld := hHeld2
        clear hHeld2
        (try simp only [Act.put, List.setIfInBounds_toArray, List.set_cons_zero, List.set_cons_succ])
        refine wpAnyH_take (i := 9) (oi := { dst := some 7, op := Go.Op.assign (Go.Operand.tmp 46), type := 3, pos := "l05_eval.go:193", after := #[{ on := 7, ground := Go.Ground.data }, { on := 8, ground := Go.Ground.chain }, { on := 0, ground := Go.Ground.phase }, { on := 1, ground := Go.Ground.phase }, { on := 2, ground := Go.Ground.phase }, { on := 3, ground := Go.Ground.phase }, { on := 4, ground := Go.Ground.phase }, { on := 5, ground := Go.Ground.phase }, { on := 6, ground := Go.Ground.phase }, { on := 7, ground := Go.Ground.phase }, { on := 8, ground := Go.Ground.phase }], guard := none }) (v := ?_) rfl (by kernel_rfl) (by kernel_rfl) (by kernel_rfl) (fun _ _ _ h => h) (Or.inl ⟨by rfl, ?yld174⟩) hHeld ?nxt174
        case yld174 => (intro w hSw; (try dsimp only at hSw); go_simp) <;> with_reducible rfl
        (try simp only [Act.put, List.setIfInBounds_toArray, List.set_cons_zero, List.set_cons_succ])
        refine wpAnyH_done (by kernel_rfl) ?_ _
        have HBL := EvlS.hid (hHeld.1.below HBW.out (Nat.le_refl _))
        clear hHeld hS0 HAll
        go_wp2_with fail
        refine bodyPost_ret (v := .tuple #[rv (r0, r1), .int .i64 ((k : Int) + 1)]) (by simp [results, Tryz.results35, go_sem, y0, y1]) rfl ⟨by simp, HBL.out⟩
      · have HL : Hid (truthR (decide (1 ≤ vk ∧ vk ≤ 4)) = (r0, r1)) := hl2
        go_enter Tryz.func35, Tryz.ntmps35
        go_wp2_with fail
        refine (AnsW.spec_l05of la lcap ls t _ (HLs.out.on HBW0.out) hra).mono ?_
        rintro e w1 ⟨⟨va, vc, rfl, _, _⟩, hB1⟩
        rw [hq.out]
        dsimp only [kd, nu, cd, tx]
        have HB1 : Hid (Below w.heap.size w w1) := HBW0.out.trans (hB1.mono HBW0.out.size)
        have HR1 := EvlS.hid (HR0.out.on hB1)
        clear hB1
        obtain ⟨dd, hdd⟩ : ∃ dd, Hid (decide (1 ≤ vk ∧ vk ≤ 4) = dd) := ⟨_, rfl⟩
        rw [hdd.out] at HL
        go_wp2_with fail
        refine (ValK.spec_kn vk vm va zs.length vc vt w1).mono ?_
        rintro e w2 ⟨rfl, hB2⟩
        rw [hdd.out]
        have HB2 : Hid (Below w.heap.size w w2) := HB1.out.trans (hB2.mono HB1.out.size)
        have HR2 := EvlS.hid (HR1.out.on hB2)
        clear hB2
        go_wp2_with fail
        refine (EvlS.spec_truth dd w2).mono ?_
        rintro e w3 ⟨rfl, hB3⟩
        rw [HL.out]
        have HB3 : Hid (Below w.heap.size w w3) := HB2.out.trans (hB3.mono HB2.out.size)
        obtain ⟨x0, x1, xf⟩ := (HR2.out.on hB3).cells
        dsimp only at x0 x1
        clear hB3 c0 c1 c2
        go_wp2_with fail
        refine bodyPost_ret (v := .tuple #[rv (r0, r1), .int .i64 ((k : Int) + 1)]) (by simp [results, Tryz.results35, go_sem, x0, x1]) rfl ⟨by simp, ?_⟩
        repeat (refine Below.setCell ?_ (by simp) _)
        exact HB3.out
    · have hx11 : x = 11 := many_one h0
      subst hx11
      have hend : Hid (k + 1 ≤ ps.length) := by show _ ≤ _; omega
      obtain ⟨s, hs⟩ : ∃ s, Hid (ev ls d (ps.drop (k + 1)) = s) := ⟨_, rfl⟩
      have HT : Hid (turnR s = (r0, r1)) := by
        show _ = _
        rw [← hrr.out, ← hs.out, ev_succ, if_neg (by rw [h0]; decide), if_pos h0]
      have HWf : Hid (Wf s) := by show Wf s; rw [← hs.out]; exact ev_wf ls d _
      have HB1 := EvlS.hid hb1
      obtain ⟨s0, s1⟩ := s
      have hkc : Hid (((k : Int) + 1) = ((k + 1 : Nat) : Int)) := by show _ = _; omega
      clear hbd hp hb1 hrr h0
      go_enter Tryz.func35, Tryz.ntmps35
      go_wp2_with fail
      rw [hkc.out]
      refine (HI.out (k + 1) r _ hend.out HB1.out (HP.out.on HBW0.out) (HLs.out.on HBW0.out)).mono ?_
      rintro e w2 ⟨rfl, hB2⟩
      rw [hs.out]
      have HW2 : Hid (Below w.heap.size w w2) := HBW0.out.trans (hB2.mono HBW0.out.size)
      have HR2 := EvlS.hid (HR0.out.on hB2)
      clear hB2 c0 c1 c2 HQ0 HR0
      obtain ⟨x0, x1, xf⟩ := HR2.out.cells
      have hrl := HR2.out.lt
      dsimp only at x0 x1
      by_cases hk2 : s0 = 2
      · subst hk2
        have hw := HWf.out rfl
        have htm := turn_minus HWf.out rfl
        rw [HT.out] at htm
        injection htm with z0 z1
        dsimp only at z1 hw
        have hwr : IntKind.i64.wrap (1 - s1) = r1 := by rw [IntKind.wrap_i64, z1]; rcases hw with h | h <;> (rw [h]; decide)
        have hwr2 : (1 : Int) - s1 = r1 := z1.symm
        have hwr3 : Hid (wrap64 r1 = r1) := by show _ = _; rw [z1]; rcases hw with h | h <;> (rw [h]; first | rfl | (unfold wrap64; rfl) | (unfold wrap64; omega) | (simp [wrap64]; done))
        subst z0
        clear HT z1 hw HWf
        go_wp2_with fail
        refine bodyPost_ret (v := .tuple #[rv (2, r1), .int .i64 ((ps.length - r.length : Nat) : Int)]) (by simp [results, Tryz.results35, go_sem, x0, x1, hrl]; exact hwr3.out) rfl ⟨rfl, ?_⟩
        repeat (first | refine Below.setCell ?_ (by simp) _ | refine Below.setCell ?_ (by have := HW2.out.size; simp; omega) _ | refine Below.alloc ?_ (by have := HW2.out.size; simp; omega) _)
        exact HW2.out
      · have e2 : (s0 == 2) = false := by simp [hk2]
        have hts := HT.out
        unfold turnR at hts
        rw [if_neg hk2] at hts
        injection hts with z0 z1
        subst z0 z1
        clear HT HWf
        go_wp2_with fail
        refine bodyPost_ret (v := .tuple #[rv (s0, s1), .int .i64 ((ps.length - r.length : Nat) : Int)]) (by simp [results, Tryz.results35, go_sem, x0, x1, hrl]) rfl ⟨rfl, ?_⟩
        repeat (first | refine Below.setCell ?_ (by simp) _ | refine Below.alloc ?_ (by have := HW2.out.size; simp; omega) _)
        exact HW2.out
    · have hx310 := many_two h0
      have hsf := behind_suffix _ _ _ hb1
      have hrm : ps.drop (ps.length - rm.length) = rm := by
        have h1 := hsf.1.trans (List.drop_suffix (k + 1) ps)
        exact suffix_drop h1
      have hend : Hid (k + 1 ≤ ps.length) := by show _ ≤ _; omega
      have hrl1 : rm.length ≤ ps.length := by have := hsf.2; rw [hdl] at this; omega
      obtain ⟨s, hs⟩ : ∃ s, Hid (ev ls d (ps.drop (k + 1)) = s) := ⟨_, rfl⟩
      obtain ⟨s', hs'⟩ : ∃ s', Hid (ev ls d rm = s') := ⟨_, rfl⟩
      have HTw : Hid (twoR x s s' = (r0, r1)) := by
        show _ = _
        rw [← hrr.out, ← hs.out, ← hs'.out, ev_succ, if_neg (by rw [h0]; decide), if_neg (by rw [h0]; decide)]
        rw [show rest d (ps.drop (k + 1)) = rm by unfold rest; rw [hb1]; rfl]
      have HB1 := EvlS.hid hb1
      have HB2 : Hid (behind d (ps.drop (ps.length - rm.length)) = some r) := by show _ = _; rw [hrm]; exact hb2
      have HRm := EvlS.hid hrm
      obtain ⟨k1, n1⟩ := s
      obtain ⟨k2, n2⟩ := s'
      have hkc : Hid (((k : Int) + 1) = ((k + 1 : Nat) : Int)) := by show _ = _; omega
      have ex1 : (x == 1) = false := by simp; omega
      have ex2 : (x == 2) = false := by simp; omega
      have ex3 : (x == 12) = false := by simp; omega
      have ex4 : (x == 13) = false := by simp; omega
      have ex5 : (x == 11) = false := by simp; omega
      clear hbd hp hb1 hb2 hrr h0 hrm hsf hdl
      go_enter Tryz.func35, Tryz.ntmps35
      go_wp2_with fail
      rw [hkc.out]
      refine (HI.out (k + 1) rm _ hend.out HB1.out (HP.out.on HBW0.out) (HLs.out.on HBW0.out)).mono ?_
      rintro e w2 ⟨rfl, hB2⟩
      rw [hs.out]
      have HW2 : Hid (Below w.heap.size w w2) := HBW0.out.trans (hB2.mono HBW0.out.size)
      have HR2 := EvlS.hid (HR0.out.on hB2)
      have HQ2 : Hid (w2.heap[w.heap.size + 1]? = some (.cells #[.int .i64 x, .int .i64 n, .string t] 49 (0, 0))) := by show _ = _; rw [hB2.block _ (Array.getElem?_eq_some_iff.1 HQ0.out).1]; exact HQ0.out
      clear hB2 c0 c1 c2 HQ0 HR0 HBW0
      go_wp2_with fail
      have hb2 : Below w2.heap.size w2 (w2.alloc (.cells #[.int .i64 k1, .int .i64 n1] 27)) := EvlS.below_one w2 _
      refine (HI.out (ps.length - rm.length) r _ (by omega) HB2.out ((HP.out.on HW2.out).on hb2) ((HLs.out.on HW2.out).on hb2)).mono ?_
      rintro e w3 ⟨rfl, hB3⟩
      rw [HRm.out, hs'.out]
      have hb3 : Below w2.heap.size w2 w3 := hb2.trans (hB3.mono hb2.size)
      have HW3 : Hid (Below w.heap.size w w3) := HW2.out.trans (hb3.mono HW2.out.size)
      have HR3 := EvlS.hid (HR2.out.on hb3)
      have HQ3 : Hid (w3.heap[w.heap.size + 1]? = some (.cells #[.int .i64 x, .int .i64 n, .string t] 49 (0, 0))) := by show _ = _; rw [hb3.block _ (Array.getElem?_eq_some_iff.1 HQ2.out).1]; exact HQ2.out
      have HA3 : Hid (R2 w3 w2.heap.size (k1, n1)) := (R2.new w2 k1 n1).on hB3
      have hg2 := (Array.getElem?_eq_some_iff.1 HQ2.out).1
      clear hB3 hb3 hb2 HR2 HQ2 HW2
      generalize hg9 : w2.heap.size = g9 at *
      have HG9 := EvlS.hid hg9
      clear hg9
      have q0 : w3.cell? ⟨w.heap.size + 1, 0, none⟩ = some (.int .i64 x) := by simp [World.cell?, HQ3.out]
      have hql := (Array.getElem?_eq_some_iff.1 HQ3.out).1
      obtain ⟨a0, a1, af⟩ := HA3.out.cells
      have hal := HA3.out.lt
      have hrl := HR3.out.lt
      dsimp only at a0 a1
      go_wp2_with fail
      refine (spec_two x k1 n1 k2 n2 _).mono ?_
      rintro e w4 ⟨rfl, hB4⟩
      rw [HTw.out]
      have hb4 : Below w3.heap.size w3 w4 := (EvlS.below_one w3 _).trans (hB4.mono (by simp))
      have HW4 : Hid (Below w.heap.size w w4) := HW3.out.trans (hb4.mono HW3.out.size)
      obtain ⟨x0, x1, xf⟩ := (HR3.out.on hb4).cells
      dsimp only at x0 x1
      clear hB4 hb4 q0 a0 a1 af
      go_wp2_with fail
      refine bodyPost_ret (v := .tuple #[rv (r0, r1), .int .i64 ((ps.length - r.length : Nat) : Int)]) (by simp [results, Tryz.results35, go_sem, x0, x1]) rfl ⟨rfl, ?_⟩
      repeat (refine Below.setCell ?_ (by simp) _)
      exact HW4.out
end Go.Proofs.YtflofhbooedpjaaGreatDoor.EvlI
/- Eval: what the model and the program say. -/
namespace Go.Proofs.YtflofhbooedpjaaGreatDoor.EvlI
open Go.RowKit
open EvlM EvlS ValW PrtW PrtM PrtS PrtI TexM BookW
open AnsW (An kd nu cd tx told rightA Ans rightA_long)

theorem right_len {ps : List Pt} (h : rightB ps = true) : ps.length ≤ 20 := (right_behind h).1

set_option maxRecDepth 10000 in
set_option maxHeartbeats 1600000 in
theorem spec_all (a : Option Addr) (cap : Nat) (ps : List Pt) (la : Option Addr) (lcap : Nat) (ls : List An) (w : World) (hP : Parts w a ps) (hL : Ans w la ls) (hr : rightB ps = true) (hra : rightA ls = true) :
    Calls Tryz.prog 20 #[.slice a ps.length cap, .slice la ls.length lcap] w fun e w' => e = .returned (rv (ev ls 6 ps)) ∧ Below w.heap.size w w' := by
  have HP := EvlS.hid hP
  have HL := EvlS.hid hL
  obtain ⟨h20, hbh⟩ := right_behind hr
  have HB := EvlS.hid hbh
  clear hP hL hbh
  obtain ⟨r, hrr⟩ : ∃ r, Hid (ev ls 6 ps = r) := ⟨_, rfl⟩
  rw [hrr.out]
  obtain ⟨r0, r1⟩ := r
  go_enter Tryz.func20, Tryz.ntmps20
  go_wp2_with fail
  have hb0 : Below w.heap.size w (w.alloc (.cells #[.int .i64 0, .int .i64 0] 27)) := EvlS.below_one w _
  refine (spec_ev ls hra a cap ps h20 la lcap 6 0 [] _ (Nat.zero_le _) (by rw [List.drop_zero]; exact HB.out) (HP.out.on hb0) (HL.out.on hb0)).mono ?_
  rintro e w1 ⟨rfl, hB1⟩
  rw [List.drop_zero, hrr.out]
  have HB1 : Hid (Below w.heap.size w w1) := hb0.trans (hB1.mono hb0.size)
  have HR1 := EvlS.hid ((R2.new w 0 0).on hB1)
  clear hB1 hb0
  obtain ⟨x0, x1, xf⟩ := HR1.out.cells
  have hrl := HR1.out.lt
  dsimp only at x0 x1
  go_wp2_with fail
  refine bodyPost_ret (v := rv (r0, r1)) (by simp [results, Tryz.results20, go_sem, x0, x1, hrl]) rfl ⟨rfl, ?_⟩
  repeat (first | refine Below.setCell ?_ (by simp) _ | refine Below.alloc ?_ (by have := HB1.out.size; simp; omega) _)
  exact HB1.out

set_option maxRecDepth 10000 in
set_option maxHeartbeats 1600000 in
theorem spec_eval (a : Option Addr) (cap : Nat) (ps : List Pt) (la : Option Addr) (lcap : Nat) (ls : List An) (w : World) (hP : Parts w a ps) (hL : Ans w la ls) :
    Calls Tryz.prog 7 #[.slice a ps.length cap, .slice la ls.length lcap] w fun e w' => e = .returned (rv (evalR ls ps)) ∧ Below w.heap.size w w' := by
  have HP := EvlS.hid hP
  have HL := EvlS.hid hL
  have hpl := hP.1
  have hll := hL.1
  clear hP hL
  obtain ⟨r, hrr⟩ : ∃ r, Hid (evalR ls ps = r) := ⟨_, rfl⟩
  rw [hrr.out]
  obtain ⟨r0, r1⟩ := r
  have hz : ¬ (rightB ps = true ∧ rightA ls = true) → r0 = 0 ∧ r1 = 0 := fun h => by
    have h1 := hrr.out
    unfold evalR at h1
    rw [if_neg h] at h1
    injection h1 with h2 h3
    exact ⟨h2.symm, h3.symm⟩
  by_cases h1 : 400 < ps.length
  · obtain ⟨rfl, rfl⟩ := hz (fun h => by have := right_len h.1; omega)
    clear hz hrr
    go_enter Tryz.func7, Tryz.ntmps7
    go_wp2
    refine bodyPost_ret (v := rv (0, 0)) (by simp [results, Tryz.results7, go_sem]) rfl ⟨rfl, by go_grown⟩
  by_cases h2 : 400 < ls.length
  · obtain ⟨rfl, rfl⟩ := hz (fun h => by have := (AnsW.rightA_at h.2).1; omega)
    clear hz hrr
    go_enter Tryz.func7, Tryz.ntmps7
    go_wp2
    refine bodyPost_ret (v := rv (0, 0)) (by simp [results, Tryz.results7, go_sem]) rfl ⟨rfl, by go_grown⟩
  obtain ⟨rb, hrb⟩ : ∃ rb, Hid (rightB ps = rb) := ⟨_, rfl⟩
  obtain ⟨ra, hra⟩ : ∃ ra, Hid (rightA ls = ra) := ⟨_, rfl⟩
  have hb0 : Below w.heap.size w (w.alloc (.cells #[.int .i64 0, .int .i64 0] 27)) := EvlS.below_one w _
  have HB0 := EvlS.hid hb0
  clear hb0
  cases rb
  · obtain ⟨rfl, rfl⟩ := hz (fun h => by rw [hrb.out] at h; cases h.1)
    clear hz hrr
    go_enter Tryz.func7, Tryz.ntmps7
    go_wp2_with fail
    refine (PrtS.spec_right a cap ps _ (HP.out.on HB0.out)).mono ?_
    rintro e w1 ⟨rfl, hB1⟩
    rw [hrb.out]
    have HB1 : Hid (Below w.heap.size w w1) := HB0.out.trans (hB1.mono HB0.out.size)
    obtain ⟨x0, x1, xf⟩ := ((R2.new w 0 0).on hB1).cells
    dsimp only at x0 x1
    clear hB1
    go_wp2_with fail
    refine bodyPost_ret (v := rv (0, 0)) (by simp [results, Tryz.results7, go_sem, x0, x1]) rfl ⟨rfl, ?_⟩
    repeat (refine Below.setCell ?_ (by simp) _)
    exact HB1.out
  · go_enter Tryz.func7, Tryz.ntmps7
    go_wp2_with fail
    refine (PrtS.spec_right a cap ps _ (HP.out.on HB0.out)).mono ?_
    rintro e w1 ⟨rfl, hB1⟩
    rw [hrb.out]
    have HB1 : Hid (Below w.heap.size w w1) := HB0.out.trans (hB1.mono HB0.out.size)
    have HR1 := EvlS.hid ((R2.new w 0 0).on hB1)
    clear hB1
    go_wp2_with fail
    refine (AnsW.spec_answers la lcap ls _ (HL.out.on HB1.out)).mono ?_
    rintro e w2 ⟨rfl, hB2⟩
    rw [hra.out]
    have HB2 : Hid (Below w.heap.size w w2) := HB1.out.trans (hB2.mono HB1.out.size)
    have HR2 := EvlS.hid (HR1.out.on hB2)
    clear hB2
    cases ra
    · obtain ⟨rfl, rfl⟩ := hz (fun h => by rw [hra.out] at h; cases h.2)
      clear hz hrr
      obtain ⟨x0, x1, xf⟩ := HR2.out.cells
      dsimp only at x0 x1
      go_wp2_with fail
      refine bodyPost_ret (v := rv (0, 0)) (by simp [results, Tryz.results7, go_sem, x0, x1]) rfl ⟨rfl, ?_⟩
      repeat (refine Below.setCell ?_ (by simp) _)
      exact HB2.out
    · have HQ : Hid (ev ls 6 ps = (r0, r1)) := by show _ = _; rw [← hrr.out]; unfold evalR; rw [if_pos ⟨hrb.out, hra.out⟩]
      go_wp2_with fail
      refine (spec_all a cap ps la lcap ls w2 (HP.out.on HB2.out) (HL.out.on HB2.out) hrb.out hra.out).mono ?_
      rintro e w3 ⟨rfl, hB3⟩
      rw [HQ.out]
      have HB3 : Hid (Below w.heap.size w w3) := HB2.out.trans (hB3.mono HB2.out.size)
      obtain ⟨x0, x1, xf⟩ := (HR2.out.on hB3).cells
      dsimp only at x0 x1
      clear hB3 hz
      go_wp2_with fail
      refine bodyPost_ret (v := rv (r0, r1)) (by simp [results, Tryz.results7, go_sem, x0, x1]) rfl ⟨rfl, ?_⟩
      repeat (refine Below.setCell ?_ (by simp) _)
      exact HB3.out

set_option maxRecDepth 10000 in
set_option maxHeartbeats 1600000 in
theorem impl_eval (a : Option Addr) (cap : Nat) (ps : List Pt) (la : Option Addr) (lcap : Nat) (ls : List An) (w : World) (hP : Parts w a ps) (hcap : ps.length ≤ cap) (hL : Ans w la ls) (hE : EnvS w) :
    Calls Tryz.prog 10 #[.slice a ps.length cap, .slice la ls.length lcap] w fun e w' => e = .returned (rv (evalR ls ps)) ∧ Below w.heap.size w w' := by
  have HP := EvlS.hid hP
  have HL := EvlS.hid hL
  have HE := EvlS.hid hE
  clear hP hL hE
  obtain ⟨r, hrr⟩ : ∃ r, Hid (evalR ls ps = r) := ⟨_, rfl⟩
  rw [hrr.out]
  obtain ⟨r0, r1⟩ := r
  have hz : ¬ (rightB ps = true ∧ rightA ls = true) → r0 = 0 ∧ r1 = 0 := fun h => by
    have h1 := hrr.out
    unfold evalR at h1
    rw [if_neg h] at h1
    injection h1 with h2 h3
    exact ⟨h2.symm, h3.symm⟩
  obtain ⟨rb, hrb⟩ : ∃ rb, Hid (rightB ps = rb) := ⟨_, rfl⟩
  obtain ⟨ra, hra⟩ : ∃ ra, Hid (rightA ls = ra) := ⟨_, rfl⟩
  have hb0 : Below w.heap.size w (w.alloc (.cells #[.int .i64 0, .int .i64 0] 27)) := EvlS.below_one w _
  have HB0 := EvlS.hid hb0
  clear hb0
  go_enter Tryz.func10, Tryz.ntmps10
  go_wp2_with fail
  refine (PrtI.impl_right a cap ps _ (HP.out.on HB0.out) hcap (HE.out.on HB0.out)).mono ?_
  rintro e w1 ⟨rfl, hB1⟩
  rw [hrb.out]
  have HB1 : Hid (Below w.heap.size w w1) := HB0.out.trans (hB1.mono HB0.out.size)
  have HR1 := EvlS.hid ((R2.new w 0 0).on hB1)
  clear hB1
  cases rb
  · obtain ⟨rfl, rfl⟩ := hz (fun h => by rw [hrb.out] at h; cases h.1)
    clear hz hrr
    obtain ⟨x0, x1, xf⟩ := HR1.out.cells
    dsimp only at x0 x1
    go_wp2_with fail
    refine bodyPost_ret (v := rv (0, 0)) (by simp [results, Tryz.results10, go_sem, x0, x1]) rfl ⟨rfl, ?_⟩
    repeat (refine Below.setCell ?_ (by simp) _)
    exact HB1.out
  · go_wp2_with fail
    refine (AnsW.impl_answers la lcap ls _ (HL.out.on HB1.out)).mono ?_
    rintro e w2 ⟨rfl, hB2⟩
    rw [hra.out]
    have HB2 : Hid (Below w.heap.size w w2) := HB1.out.trans (hB2.mono HB1.out.size)
    have HR2 := EvlS.hid (HR1.out.on hB2)
    clear hB2
    cases ra
    · obtain ⟨rfl, rfl⟩ := hz (fun h => by rw [hra.out] at h; cases h.2)
      clear hz hrr
      obtain ⟨x0, x1, xf⟩ := HR2.out.cells
      dsimp only at x0 x1
      go_wp2_with fail
      refine bodyPost_ret (v := rv (0, 0)) (by simp [results, Tryz.results10, go_sem, x0, x1]) rfl ⟨rfl, ?_⟩
      repeat (refine Below.setCell ?_ (by simp) _)
      exact HB2.out
    · have HQ : Hid (ev ls 6 ps = (r0, r1)) := by show _ = _; rw [← hrr.out]; unfold evalR; rw [if_pos ⟨hrb.out, hra.out⟩]
      obtain ⟨h20, hbh⟩ := right_behind hrb.out
      have HBh := EvlS.hid hbh
      clear hbh hz
      go_wp2_with fail
      refine (book_of la lcap ls w2 (HL.out.on HB2.out) hra.out).mono ?_
      rintro e w3 ⟨rfl, hbk, hB3⟩
      have HB3 : Hid (Below w.heap.size w w3) := HB2.out.trans (hB3.mono HB2.out.size)
      have HR3 := EvlS.hid (HR2.out.on hB3)
      have HBk := EvlS.hid hbk
      clear hB3 hbk
      go_wp2_with fail
      refine (impl_ev ls hra.out w 6 ps [] a cap _ w3 HB3.out HBh.out h20 HP.out hcap (HE.out.on HB3.out) HBk.out).mono ?_
      rintro e w4 ⟨⟨a', cap', rfl, _, _⟩, hB4⟩
      rw [HQ.out]
      have HB4 : Hid (Below w.heap.size w w4) := HB3.out.trans (hB4.mono HB3.out.size)
      have HR4 := EvlS.hid (HR3.out.on hB4)
      clear hB4
      obtain ⟨x0, x1, xf⟩ := HR4.out.cells
      have hrl := HR4.out.lt
      dsimp only at x0 x1
      go_wp2_with fail
      refine bodyPost_ret (v := rv (r0, r1)) (by simp [results, Tryz.results10, go_sem, x0, x1, hrl]) rfl ⟨rfl, ?_⟩
      repeat (first | refine Below.setCell ?_ (by simp) _ | refine Below.alloc ?_ (by have := HB4.out.size; simp; omega) _)
      exact HB4.out
end Go.Proofs.YtflofhbooedpjaaGreatDoor.EvlI
/- The walks of the laws FnExactEval and FnExactIsTrue. -/
namespace Go.Proofs.YtflofhbooedpjaaGreatDoor.EvlL
open Go.RowKit
open EvlM EvlS EvlI PrtI
open PrtW (Pt Parts toParts eqParts szPartsX)
open AnsW (An Ans toAnsL eqAnsL szAnsL)

theorem raw_on {w w' : World} {a : Option Addr} {ls : List An} (h : AnsW.Raw w a ls) (hB : Below w.heap.size w w') : AnsW.Raw w' a ls := by
  refine ⟨h.1, h.2.1, fun hp => ?_⟩
  obtain ⟨b, o, ha, hb, hc⟩ := h.2.2 hp
  refine ⟨b, o, ha, Nat.lt_of_lt_of_le hb hB.size, fun i hi => ?_⟩
  obtain ⟨ai, cap, h1, h2, h3⟩ := hc i hi
  refine ⟨ai, cap, h1.on hb hB, ⟨h2.1, fun hz => ?_⟩, h3⟩
  obtain ⟨b2, o2, ha2, hb2, hc2⟩ := h2.2 hz
  exact ⟨b2, o2, ha2, Nat.lt_of_lt_of_le hb2 hB.size, fun j hj => by rw [hB.cell (p := ⟨b2, _, none⟩) hb2]; exact hc2 j hj⟩
theorem eq_result (k n : Int) (w : World) : Calls Tryz.prog 11 #[rv (k, n), rv (k, n)] w fun e w' => e = .returned (.bool true) ∧ Below w.heap.size w w' := by
  go_enter Tryz.func11, Tryz.ntmps11
  go_wp2
  go_ret
  exact ⟨rfl, by go_grown⟩

set_option maxRecDepth 10000 in
set_option maxHeartbeats 3200000 in
theorem law_eval (a : Option Addr) (cap : Nat) (ps : List Pt) (la : Option Addr) (lcap : Nat) (ls : List An) (w : World) (hR : PrtW.Raw w a ps) (hS : AnsW.Raw w la ls) (hE : EnvS w) :
    Calls Tryz.prog 3 #[.slice a ps.length cap, .slice la ls.length lcap] w fun e w' => e = .returned (.bool true) ∧ Below w.heap.size w w' := by
  have HR := EvlS.hid hR
  have HS := EvlS.hid hS
  have HE := EvlS.hid hE
  clear hR hS hE
  obtain ⟨r, hr⟩ : ∃ r, Hid (evalR ls ps = r) := ⟨_, rfl⟩
  obtain ⟨r0, r1⟩ := r
  go_enter Tryz.func3, Tryz.ntmps3
  go_wp2_with fail
  refine (szPartsX a cap ps w HR.out).mono ?_
  rintro e w1 ⟨⟨z, rfl, hz, hzx⟩, hB1⟩
  have HB1 := EvlS.hid hB1
  by_cases hbig : 1048576 < ps.length + PrtW.bulk ps
  · have hz0 : z < 0 := hz.2 hbig
    clear hz hB1 hzx
    go_wp2_with fail
    go_ret
    exact ⟨rfl, HB1.out⟩
  have hz0 : ¬ z < 0 := fun h => hbig (hz.1 h)
  obtain ⟨zn, hzn⟩ : ∃ zn : Nat, z = zn := ⟨z.toNat, by omega⟩
  subst hzn
  have hznl : zn ≤ 1048576 := by have := hzx (by omega); omega
  have HPp := EvlS.hid (HR.out.parts (by omega))
  have hpl : ps.length ≤ 1048576 := by omega
  clear hz hzx hB1 HR hbig
  go_wp2_with fail
  refine (szAnsL la lcap ls zn hznl w1 ?hraw).mono ?_
  case hraw => exact raw_on HS.out HB1.out
  rintro e w2 ⟨⟨y, rfl, hy, _⟩, hB2⟩
  have HB2 : Hid (Below w.heap.size w w2) := HB1.out.trans (hB2.mono HB1.out.size)
  by_cases hbig2 : zn < ls.length + AnsW.bulk ls
  · have hy0 : y < 0 := hy.2 hbig2
    clear hy hB2
    go_wp2_with fail
    go_ret
    exact ⟨rfl, HB2.out⟩
  have hy0 : ¬ y < 0 := fun h => hbig2 (hy.1 h)
  have HAn := EvlS.hid (HS.out.ans (by omega))
  have hll : ls.length ≤ 1048576 := by omega
  clear hy hB2 HS hbig2 HB1
  go_wp2_with fail
  refine (toParts a cap ps w2 (HPp.out.on HB2.out)).mono ?_
  rintro e w3 ⟨rfl, hP3, hB3⟩
  have HB3 : Hid (Below w.heap.size w w3) := HB2.out.trans (hB3.mono HB2.out.size)
  have HP3 := EvlS.hid hP3
  clear hP3 hB3 HB2
  generalize w2.heap.size = g2 at *
  go_wp2_with fail
  refine (toAnsL la lcap ls w3 (HAn.out.on HB3.out)).mono ?_
  rintro e w4 ⟨rfl, hL4, hB4⟩
  have HB4 : Hid (Below w.heap.size w w4) := HB3.out.trans (hB4.mono HB3.out.size)
  have HP4 := EvlS.hid (HP3.out.on hB4)
  have HL4 := EvlS.hid hL4
  clear hL4 hB4 HB3 HP3
  generalize w3.heap.size = g3 at *
  go_wp2_with fail
  refine (spec_eval (some ⟨g2, 0, none⟩) ps.length ps (some ⟨g3, 0, none⟩) ls.length ls w4 HP4.out HL4.out).mono ?_
  rintro e w5 ⟨rfl, hB5⟩
  rw [hr.out]
  have HB5 : Hid (Below w.heap.size w w5) := HB4.out.trans (hB5.mono HB4.out.size)
  clear hB5 HB4 HP4 HL4
  go_wp2_with fail
  have hb6 : Below w5.heap.size w5 (w5.alloc (.cells #[.int .i64 r0, .int .i64 r1] 27)) := EvlS.below_one w5 _
  have hG6 := R2.new w5 r0 r1
  obtain ⟨W6, hW6⟩ : ∃ W6, Hid (w5.alloc (.cells #[.int .i64 r0, .int .i64 r1] 27) = W6) := ⟨_, rfl⟩
  rw [hW6.out] at hb6 hG6 ⊢
  have HB6 : Hid (Below w.heap.size w W6) := HB5.out.trans (hb6.mono HB5.out.size)
  have HG6 := EvlS.hid hG6
  clear hb6 hG6 hW6 HB5
  generalize w5.heap.size = G6 at *
  refine (toParts a cap ps W6 (HPp.out.on HB6.out)).mono ?_
  rintro e w7 ⟨rfl, hP7, hB7⟩
  have HB7 : Hid (Below w.heap.size w w7) := HB6.out.trans (hB7.mono HB6.out.size)
  have HG7 := EvlS.hid (HG6.out.on hB7)
  have HP7 := EvlS.hid hP7
  clear hP7 hB7 HB6 HG6
  generalize W6.heap.size = g6 at *
  go_wp2_with fail
  refine (toAnsL la lcap ls w7 (HAn.out.on HB7.out)).mono ?_
  rintro e w8 ⟨rfl, hL8, hB8⟩
  have HB8 : Hid (Below w.heap.size w w8) := HB7.out.trans (hB8.mono HB7.out.size)
  have HG8 := EvlS.hid (HG7.out.on hB8)
  have HP8 := EvlS.hid (HP7.out.on hB8)
  have HL8 := EvlS.hid hL8
  clear hL8 hB8 HB7 HG7 HP7
  generalize w7.heap.size = g7 at *
  go_wp2_with fail
  refine (impl_eval (some ⟨g6, 0, none⟩) ps.length ps (some ⟨g7, 0, none⟩) ls.length ls w8 HP8.out (Nat.le_refl _) HL8.out (HE.out.on HB8.out)).mono ?_
  rintro e w9 ⟨rfl, hB9⟩
  rw [hr.out]
  have HB9 : Hid (Below w.heap.size w w9) := HB8.out.trans (hB9.mono HB8.out.size)
  have HG9 := EvlS.hid (HG8.out.on hB9)
  have HP9 := EvlS.hid (HP8.out.on hB9)
  have HL9 := EvlS.hid (HL8.out.on hB9)
  clear hB9 HB8 HG8 HP8 HL8
  obtain ⟨x0, x1, xf⟩ := HG9.out.cells
  have hgl := HG9.out.lt
  dsimp only at x0 x1
  go_wp2_with fail
  refine (eq_result r0 r1 _).mono ?_
  rintro e w10 ⟨rfl, hB10⟩
  have hb10 : Below w9.heap.size w9 w10 := (EvlS.below_one w9 _).trans (hB10.mono (by simp))
  have HB10 : Hid (Below w.heap.size w w10) := HB9.out.trans (hb10.mono HB9.out.size)
  have HP10 := EvlS.hid (HP9.out.on hb10)
  have HL10 := EvlS.hid (HL9.out.on hb10)
  clear hB10 hb10 HB9 HG9 HP9 HL9 x0 x1 xf hgl
  go_wp2_with fail
  refine (toParts a cap ps w10 (HPp.out.on HB10.out)).mono ?_
  rintro e w11 ⟨rfl, hP11, hB11⟩
  have HB11 : Hid (Below w.heap.size w w11) := HB10.out.trans (hB11.mono HB10.out.size)
  have HQ11 := EvlS.hid hP11
  have HP11 := EvlS.hid (HP10.out.on hB11)
  have HL11 := EvlS.hid (HL10.out.on hB11)
  clear hP11 hB11 HB10 HP10 HL10
  generalize w10.heap.size = g10 at *
  go_wp2_with fail
  refine (eqParts (some ⟨g6, 0, none⟩) (some ⟨g10, 0, none⟩) ps.length ps.length ps w11 HP11.out HQ11.out).mono ?_
  rintro e w12 ⟨rfl, hB12⟩
  have HB12 : Hid (Below w.heap.size w w12) := HB11.out.trans (hB12.mono HB11.out.size)
  have HL12 := EvlS.hid (HL11.out.on hB12)
  clear hB12 HB11 HQ11 HP11 HL11
  go_wp2_with fail
  refine (toAnsL la lcap ls w12 (HAn.out.on HB12.out)).mono ?_
  rintro e w13 ⟨rfl, hL13, hB13⟩
  have HB13 : Hid (Below w.heap.size w w13) := HB12.out.trans (hB13.mono HB12.out.size)
  have HM13 := EvlS.hid hL13
  have HL13 := EvlS.hid (HL12.out.on hB13)
  clear hL13 hB13 HB12 HL12
  generalize w12.heap.size = g12 at *
  go_wp2_with fail
  refine (eqAnsL (some ⟨g7, 0, none⟩) (some ⟨g12, 0, none⟩) ls.length ls.length ls w13 HL13.out HM13.out).mono ?_
  rintro e w14 ⟨rfl, hB14⟩
  have HB14 : Hid (Below w.heap.size w w14) := HB13.out.trans (hB14.mono HB13.out.size)
  clear hB14 HB13 HL13 HM13
  go_wp2_with fail
  go_ret
  exact ⟨rfl, HB14.out⟩
end Go.Proofs.YtflofhbooedpjaaGreatDoor.EvlL
