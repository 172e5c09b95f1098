/- Texts of ours, laid together. -/
import Derived.Test.YtmbhmknfipdadaaGreatDoorBd38
import Derived.Test.YtmbhmknfipdadaaGreatDoorBd31
import Derived.Test.YtmbhmknfipdadaaGreatDoorBd41
namespace Go.Proofs.YtmbhmknfipdadaaGreatDoor.EvlI
open Go.RowKit Go.Maps
open EvlM EvlS ValW PrtW BookW
open AnsW (An kd nu cd tx told rightA found_or told_found told_lacks data_ne zeroV)
def HdS (W1 : World) (g : Nat) (w' : World) : Prop := W1.grownBy w' (some g) ∧ ∃ cs : Array Value, w'.heap[g]? = some (.cells cs 86 (0, 0)) ∧ cs.size = 2
theorem HdS.on {W1 W W' : World} {g : Nat} (h : HdS W1 g W) (hB : Below W.heap.size W W') : HdS W1 g W' := by
 obtain ⟨h1, cs, h2, h3⟩ := h
 exact ⟨⟨hB.os.trans h1.os, hB.tape.trans h1.tape, hB.output.trans h1.output, Nat.le_trans h1.size hB.size, fun k hk hn => (hB.block k (Nat.lt_of_lt_of_le hk h1.size)).trans (h1.block k hk hn)⟩, cs, by rw [hB.block g (Array.getElem?_eq_some_iff.1 h2).1]; exact h2, h3⟩
theorem HdS.put {W1 W : World} {g : Nat} (h : HdS W1 g W) (j : Nat) (v : Value) : HdS W1 g (W.setCell ⟨g, j, none⟩ v) := by
 obtain ⟨h1, cs, h2, h3⟩ := h
 exact ⟨⟨h1.os, h1.tape, h1.output, by simpa using h1.size, fun k hk hn => by rw [Below.heap_setCell _ _ _ _ (fun e => hn (by rw [e]))]; exact h1.block k hk hn⟩, cs.setIfInBounds j v, by simp [World.setCell, Array.getElem?_modify, h2], by simpa using h3⟩
theorem HdS.room {W1 W : World} {g : Nat} (h : HdS W1 g W) (j : Nat) (hj : j < 2) : (∃ v, W.cell? ⟨g, j, none⟩ = some v) ∧ W.frozen? ⟨g, j, none⟩ = false := by
 obtain ⟨_, cs, h2, h3⟩ := h
 refine ⟨⟨cs[j]'(by omega), ?_⟩, by simp [World.frozen?, h2]⟩
 simp [World.cell?, h2, show j < cs.size by omega]
theorem HdS.refl {W : World} {g : Nat} {r : Rs} (h : R2 W g r) : HdS W g W.drew := ⟨⟨rfl, rfl, rfl, Nat.le_refl _, fun _ _ _ => rfl⟩, _, h, rfl⟩
theorem HdS.cell {W1 W : World} {g b j : Nat} (h : HdS W1 g W) (hb : b < W1.heap.size) (hne : b ≠ g) : W.cell? ⟨b, j, none⟩ = W1.cell? ⟨b, j, none⟩ := World.cell?_of_block (w := W1) (h.1.block b hb (fun e => hne (Option.some.inj e)))
theorem HdS.below {w W1 W : World} {g : Nat} (h : HdS W1 g W) (hB : Below w.heap.size w W1) (hg : w.heap.size ≤ g) : Below w.heap.size w W :=
 hB.trans ⟨h.1.os, h.1.tape, h.1.output, h.1.size, fun k hk => h.1.block k (Nat.lt_of_lt_of_le hk hB.size) (fun e => by have := Option.some.inj e; omega)⟩
set_option maxRecDepth 10000 in
theorem book_look2 {w : World} {F B : Nat} {ls : List An} {s : ByteArray} (h : BookF w F B ls) (hr : rightA ls = true) (hs : s.size ≤ maxLen) :
  B < w.heap.size ∧ ∃ v, (∀ W : World, W.heap[B]? = w.heap[B]? → (Instr.lookup 93 (.map (some B)) (.string s) false).run Tryz.prog W = .ok v W) ∧ Cpy w F (told ls s) v := by
 obtain ⟨D, hM, hH, _⟩ := h
 have hlt := hM.lt
 have key : ∀ W : World, W.heap[B]? = w.heap[B]? → ∃ v, (Instr.lookup 93 (.map (some B)) (.string s) false).run Tryz.prog W = .ok v W ∧ (DataW.held v : DataW Value) = D.atKey (.string s.data.toList) (.held (av 0 0 none 0 0 ByteArray.empty)) := fun W hW => by
  have hM2 : Mp W B ls.length D := by
   obtain ⟨es, clock, hb, F', hsz, hD⟩ := hM
   exact ⟨es, clock, by rw [hW]; exact hb, F', hsz, hD⟩
  obtain ⟨v, ps, hrun, hv⟩ := World.ownsMap.lookup hM2 key_law Tryz.underlying93 (zeroV W) (rfl : heldR (av 0 0 none 0 0 ByteArray.empty) = some (.held (av 0 0 none 0 0 ByteArray.empty), [])) (Go.WideMaps.keyOf_string_mk Tryz.underlying9 hs)
  have hv1 := Option.some.inj hv
  injection hv1 with hv2 _
  exact ⟨v, hrun, hv2⟩
 obtain ⟨v, hrun, hv2⟩ := key w rfl
 refine ⟨hlt, v, fun W hW => ?_, ?_⟩
 ·obtain ⟨v', hrun', hv'⟩ := key W hW
  rw [← hv2] at hv'
  injection hv' with e
  rw [e] at hrun'
  exact hrun'
 ·rcases found_or ls s with ⟨i, hi⟩ | hl
  ·obtain ⟨u, hu, hat⟩ := hH.1 i hi.1
   rw [hi.2] at hat
   rw [hat] at hv2
   injection hv2 with hv3
   rw [told_found hr hi, hv3]
   exact hu
  ·rw [hH.2 s.data.toList (fun i hi e => hl i hi (data_ne.1 e))] at hv2
   injection hv2 with hv3
   rw [told_lacks hl, hv3]
   exact ⟨none, 0, rfl, Codes.nil _ _, RdI.free_nil _ _, RdS.fresh_none _, fun _ => rfl⟩
open Go.RowKit
open EvlM EvlS ValW PrtW PrtM PrtS PrtI TexM BookW
open AnsW (An kd nu cd tx told rightA)
theorem told_right {ls : List An} (h : rightA ls = true) (s : ByteArray) : ValM.right (kd (told ls s)) (nu (told ls s)) (cd (told ls s)) (tx (told ls s)) = true := by
 rcases AnsW.found_or ls s with ⟨i, hi⟩ | hl
 ·rw [AnsW.told_found h hi]
  have := (AnsW.okA_parts ((AnsW.rightA_at h).2 i hi.1)).2.2
  unfold ValK.answeredB at this
  simp at this
  exact this.1
 ·rw [AnsW.told_lacks hl]; decide +kernel
set_option maxRecDepth 10000 in
set_option maxHeartbeats 3200000 in
theorem head_leaf (ls : List An) (hra : rightA ls = true) (k : Nat) (n : Int) (t : ByteArray) (r : List Pt) (b o cap B : Nat) {F : Nat} (w0 w : World) (hw0 : Below w0.heap.size w0 w) (hp : partB ((k : Int), n, t) = true) (h0 : many (k : Int) = 0)
  (hP : Parts w0 (some ⟨b, o, none⟩) (((k : Int), n, t) :: r)) (hcap : r.length + 1 ≤ cap) (hlen : r.length + 1 ≤ 20) (hE : EnvS w) (hBk : BookF w F B ls) :
  Calls Tryz.prog 97 #[.slice (some ⟨b, o, none⟩) (r.length + 1) cap, .map (some B)] w fun e w' => (∃ a' cap', e = .returned (.tuple #[rv (leafR ls ((k : Int), n, t)), .slice a' r.length cap']) ∧ Parts w0 a' r ∧ r.length ≤ cap') ∧ Below w.heap.size w w' := by
 obtain ⟨b', o', x, n', t', hab, hb, hg, hf, c0, c1, c2⟩ := parts_at (hP.on hw0) (show 0 < (((k : Int), n, t) :: r).length by simp)
 cases hab
 have hpe : ((k : Int), n, t) = (x, n', t') := hg
 injection hpe with e1 e2
 injection e2 with e3 e4
 subst e1 e3 e4
 simp only [Nat.zero_mul, Nat.add_zero] at c0 c1 c2
 have hin := part_in hp
 have hk13 : k < 14 := by omega
 have hk13' : (k : Int) < 14 := by omega
 have hsz := part_size hp
 have hx : (k : Int) = 1 ∨ (k : Int) = 2 ∨ (k : Int) = 12 ∨ (k : Int) = 13 := leaf_op hp h0
 have HP1 := EvlS.hid (parts_tail hP b o rfl)
 obtain ⟨e0, e1, e2, e3, e4, e5, e6⟩ := hE.2 k hk13
 have hg0 := hE.1
 have hmi := many_inner k (by omega) (by omega)
 rw [h0] at hmi
 have hs1 : innerF k = 0 := by omega
 rw [hs1] at e1
 obtain ⟨hBl, v, hlook, va, vc, hv, hcv, _, _⟩ := book_look2 hBk hra (s := t) (by unfold maxLen; omega)
 have hrt := told_right hra t
 obtain ⟨rr, hrr⟩ : ∃ rr, Hid (leafR ls ((k : Int), n, t) = rr) := ⟨_, rfl⟩
 rw [hrr.out]
 have hle : leafV (k : Int) n (kd (told ls t)) (nu (told ls t)) (cd (told ls t)) = rr := by rw [← hrr.out]; exact (leafV_eq ls (k : Int) n t).symm
 generalize told ls t = q at hv hcv hrt hle
 obtain ⟨qs, vk, vm, zs, vt⟩ := q
 dsimp only [kd, nu, cd, tx] at hv hcv hrt hle
 subst hv
 obtain ⟨r0, r1⟩ := rr
 have HL := EvlS.hid hle
 have HCv := EvlS.hid hcv
 have HVr := EvlS.hid hrt
 have HVt : Hid (vt.size ≤ maxLen) := by
  show _ ≤ _
  rcases ValM.kinds hrt with ⟨_, _, _, h⟩ | ⟨_, _, _, _, h⟩ | ⟨_, _, _, _, h⟩ | ⟨_, _, _, h⟩ | ⟨_, _, _, _, h⟩ <;> (unfold maxLen; omega)
 clear hle hcv hrt hg hf hP hBk hrr hE hp h0 hmi hs1 hw0
 go_enter Tryz.func97, Tryz.ntmps97
 go_upto_region 10 with fail
 obtain ⟨W1, hW1⟩ : ∃ W1, Hid ((w.alloc (.cells #[.int .i64 0, .int .i64 0] 86)).alloc (.cells #[.int .i64 (k : Int), .int .i64 n, .string t] 108) = W1) := ⟨_, rfl⟩
 have hBW : Below w.heap.size w ((w.alloc (.cells #[.int .i64 0, .int .i64 0] 86)).alloc (.cells #[.int .i64 (k : Int), .int .i64 n, .string t] 108)) := by go_grown
 have hR := (R2.new w 0 0).alloc (.cells #[.int .i64 (k : Int), .int .i64 n, .string t] 108)
 have hq0 : ((w.alloc (.cells #[.int .i64 0, .int .i64 0] 86)).alloc (.cells #[.int .i64 (k : Int), .int .i64 n, .string t] 108)).heap[w.heap.size + 1]? = some (.cells #[.int .i64 (k : Int), .int .i64 n, .string t] 108 (0, 0)) := by
  have := heap_alloc_new (w.alloc (.cells #[.int .i64 0, .int .i64 0] 86)) (.cells #[.int .i64 (k : Int), .int .i64 n, .string t] 108)
  simpa using this
 rw [hW1.out] at hBW hR hq0 ⊢
 have HBW := EvlS.hid hBW
 have hS0 := HdS.refl hR
 have hpl : w.heap.size + 1 < W1.heap.size := (Array.getElem?_eq_some_iff.1 hq0).1
 have HAll : Hid (∀ w', HdS W1 w.heap.size w' → HdS W1 w.heap.size w' ∧ (Instr.lookup 93 (.map (some B)) (.string t) false).run Tryz.prog w' = .ok (av vk vm va zs.length vc vt) w' ∧ w'.cell? ⟨w.heap.size + 1, 0, none⟩ = some (.int .i64 (k : Int)) ∧ w'.cell? ⟨w.heap.size + 1, 1, none⟩ = some (.int .i64 n) ∧ w'.cell? ⟨w.heap.size + 1, 2, none⟩ = some (.string t)) := fun w' hS => by
  refine ⟨hS, hlook w' ?_, ?_, ?_, ?_⟩
  ·have h1 := hS.1.block B (Nat.lt_of_lt_of_le hBl hBW.size) (fun e => by have := Option.some.inj e; omega)
   exact h1.trans (hBW.block B hBl)
  ·rw [hS.cell hpl (by omega)]; simp [World.cell?, hq0]
  ·rw [hS.cell hpl (by omega)]; simp [World.cell?, hq0]
  ·rw [hS.cell hpl (by omega)]; simp [World.cell?, hq0]
 clear e0 e1 e2 e3 e4 e5 e6 c0 c1 c2 hlook hq0 hR hW1 hBW
 by_cases hc1 : cap = 1
 ·subst hc1
  obtain rfl : r = [] := List.length_eq_zero_iff.1 (by omega)
  refine wp_region_held_drew (S := (fun w' => HdS W1 w.heap.size w' ∧ (Instr.lookup 93 (.map (some B)) (.string t) false).run Tryz.prog w' = .ok (av vk vm va zs.length vc vt) w' ∧ w'.cell? ⟨w.heap.size + 1, 0, none⟩ = some (.int .i64 (k : Int)) ∧ w'.cell? ⟨w.heap.size + 1, 1, none⟩ = some (.int .i64 n) ∧ w'.cell? ⟨w.heap.size + 1, 2, none⟩ = some (.string t))) (by kernel_rfl) ?_ (fun hHeld => ?_)
  ·(try dsimp only) <;> (first | exact HAll.out _ hSn | exact HAll.out _ hS0)
  refine tk 0 (some 54) rfl hHeld ?_; (try simp only [Act.put, pA, pB, pC]); refine tk 1 (some 55) rfl hHeld ?_; (try simp only [Act.put, pA, pB, pC]); refine tk 2 (some 56) rfl hHeld ?_; (try simp only [Act.put, pA, pB, pC]); refine tk 3 (some 57) rfl hHeld ?_; (try simp only [Act.put, pA, pB, pC]); refine tk 4 (some 58) rfl hHeld ?_; (try simp only [Act.put, pA, pB, pC]); refine tk 6 (some 60) rfl hHeld ?_; (try simp only [Act.put, pA, pB, pC]); refine tk 7 (some 61) rfl hHeld ?_; (try simp only [Act.put, pA, pB, pC])
  refine wpAnyH_ready (rs := [5]) (by kernel_rfl) (by simp) ?_
  refine AllReadyH.cons rfl (fun K hK => ?_) AllReadyH.nil
  go_simp
  go_at_call 125
  have hp := hHeld.1
  refine (impl_leaf (k : Int) n t vk vm va vc zs vt _ hx (HCv.out.on (hp.below HBW.out (Nat.le_refl _))) HVt.out HVr.out).mono ?_
  rintro e w' ⟨rfl, hB⟩
  rw [HL.out]
  have hSn := hp.on hB
  clear hp hB
  (try go_wp2_with fail)
  refine hK.out _ _ ?_ (fun hHeld2 => ?_)
  ·(try dsimp only) <;> (first | exact HAll.out _ hSn | exact HAll.out _ hS0)
  clear hK K hHeld
  have hHeld := hHeld2
  clear hHeld2
  (try simp only [Act.put, pA, pB, pC])
  refine wpAnyH_ready (rs := [8]) (by kernel_rfl) (by simp) ?_
  refine AllReadyH.cons rfl (fun K hK => ?_) AllReadyH.nil
  obtain ⟨⟨v0, y0⟩, f0⟩ := hHeld.1.room 0 (by decide)
  obtain ⟨⟨v1, y1⟩, f1⟩ := hHeld.1.room 1 (by decide)
  go_simp
  have hSn := (hHeld.1.put 0 (.int .i64 r0)).put 1 (.int .i64 r1)
  refine hK.out _ _ ?_ (fun hHeld2 => ?_)
  ·(try dsimp only) <;> (first | exact HAll.out _ hSn | exact HAll.out _ hS0)
  clear hK K hHeld
  have hHeld := hHeld2
  clear hHeld2
  (try simp only [Act.put, pA, pB, pC]); refine tk 9 (some 5) rfl hHeld ?_; (try simp only [Act.put, pA, pB, pC])
  refine wpAnyH_done (by kernel_rfl) ?_ _
  have HBL := EvlS.hid (hHeld.1.below HBW.out (Nat.le_refl _))
  clear hHeld hS0 HAll
  go_wp2_with fail
  refine bodyPost_ret (v := _) (by simp [results, Tryz.results97, go_sem, y0, y1]; exact ⟨rfl, rfl⟩) rfl ⟨⟨_, _, rfl, Parts.nil _ _, Nat.zero_le _⟩, HBL.out⟩
 ·have hc2 : ¬ (cap : Int) = 1 := by omega
  have hc3 : (1 : Int) ≤ (r.length : Int) + 1 := by omega
  refine wp_region_held_drew (S := (fun w' => HdS W1 w.heap.size w' ∧ (Instr.lookup 93 (.map (some B)) (.string t) false).run Tryz.prog w' = .ok (av vk vm va zs.length vc vt) w' ∧ w'.cell? ⟨w.heap.size + 1, 0, none⟩ = some (.int .i64 (k : Int)) ∧ w'.cell? ⟨w.heap.size + 1, 1, none⟩ = some (.int .i64 n) ∧ w'.cell? ⟨w.heap.size + 1, 2, none⟩ = some (.string t))) (by kernel_rfl) ?_ (fun hHeld => ?_)
  ·(try dsimp only) <;> (first | exact HAll.out _ hSn | exact HAll.out _ hS0)
  refine tk 0 (some 54) rfl hHeld ?_; (try simp only [Act.put, pA, pB, pC]); refine tk 1 (some 55) rfl hHeld ?_; (try simp only [Act.put, pA, pB, pC]); refine tk 2 (some 56) rfl hHeld ?_; (try simp only [Act.put, pA, pB, pC]); refine tk 3 (some 57) rfl hHeld ?_; (try simp only [Act.put, pA, pB, pC]); refine tk 4 (some 58) rfl hHeld ?_; (try simp only [Act.put, pA, pB, pC]); refine tk 6 (some 60) rfl hHeld ?_; (try simp only [Act.put, pA, pB, pC]); refine tk 7 (some 61) rfl hHeld ?_; (try simp only [Act.put, pA, pB, pC])
  refine wpAnyH_ready (rs := [5]) (by kernel_rfl) (by simp) ?_
  refine AllReadyH.cons rfl (fun K hK => ?_) AllReadyH.nil
  go_simp
  go_at_call 125
  have hp := hHeld.1
  refine (impl_leaf (k : Int) n t vk vm va vc zs vt _ hx (HCv.out.on (hp.below HBW.out (Nat.le_refl _))) HVt.out HVr.out).mono ?_
  rintro e w' ⟨rfl, hB⟩
  rw [HL.out]
  have hSn := hp.on hB
  clear hp hB
  (try go_wp2_with fail)
  refine hK.out _ _ ?_ (fun hHeld2 => ?_)
  ·(try dsimp only) <;> (first | exact HAll.out _ hSn | exact HAll.out _ hS0)
  clear hK K hHeld
  have hHeld := hHeld2
  clear hHeld2
  (try simp only [Act.put, pA, pB, pC])
  refine wpAnyH_ready (rs := [8]) (by kernel_rfl) (by simp) ?_
  refine AllReadyH.cons rfl (fun K hK => ?_) AllReadyH.nil
  obtain ⟨⟨v0, y0⟩, f0⟩ := hHeld.1.room 0 (by decide)
  obtain ⟨⟨v1, y1⟩, f1⟩ := hHeld.1.room 1 (by decide)
  go_simp
  have hSn := (hHeld.1.put 0 (.int .i64 r0)).put 1 (.int .i64 r1)
  refine hK.out _ _ ?_ (fun hHeld2 => ?_)
  ·(try dsimp only) <;> (first | exact HAll.out _ hSn | exact HAll.out _ hS0)
  clear hK K hHeld
  have hHeld := hHeld2
  clear hHeld2
  (try simp only [Act.put, pA, pB, pC]); refine tk 9 (some 5) rfl hHeld ?_; (try simp only [Act.put, pA, pB, pC])
  refine wpAnyH_done (by kernel_rfl) ?_ _
  have HBL := EvlS.hid (hHeld.1.below HBW.out (Nat.le_refl _))
  clear hHeld hS0 HAll
  go_wp2_with fail
  refine bodyPost_ret (v := .tuple #[rv (r0, r1), .slice (some ⟨b, o + 3, none⟩) r.length (cap - 1)]) (by simp [results, Tryz.results97, go_sem, y0, y1]) rfl ⟨⟨_, _, rfl, HP1.out, by omega⟩, HBL.out⟩
open Go.RowKit
open EvlM EvlS ValW PrtW PrtM PrtS PrtI TexM BookW
open AnsW (An kd nu cd tx told rightA)
set_option maxRecDepth 10000 in
set_option maxHeartbeats 6400000 in
theorem impl_ev {F : Nat} (ls : List An) (hra : rightA ls = true) (w0 : World) : ∀ (d : Nat) (l r : List Pt) (a : Option Addr) (cap B : Nat) (w : World), Below w0.heap.size w0 w → behind d l = some r → l.length ≤ 20 → Parts w0 a l → l.length ≤ cap → EnvS w → BookF w F B ls →
  Calls Tryz.prog 97 #[.slice a l.length cap, .map (some B)] w fun e w' => (∃ a' cap', e = .returned (.tuple #[rv (ev ls d l), .slice a' r.length cap']) ∧ Parts w0 a' r ∧ r.length ≤ cap') ∧ Below w.heap.size w w' := by
 intro d
 induction d with
 | zero => intro l r a cap B w _ h; cases h
 | succ d ih =>
  intro l r a cap B w hw0 hbd hlen hP hcap hE hBk
  have HI := EvlS.hid ih
  clear ih
  cases l with
  | nil => cases hbd
  | cons p q =>
  obtain ⟨b, o, x, n, t, rfl, hb, hg, hf, c0, c1, c2⟩ := parts_at (hP.on hw0) (show 0 < (p :: q).length by simp)
  have hpe : p = (x, n, t) := hg
  subst hpe
  obtain ⟨hp, hcs⟩ := behind_cases hbd
  have hin := part_in hp
  obtain ⟨k, rfl⟩ : ∃ k : Nat, x = k := ⟨x.toNat, by omega⟩
  have hl1 : ((((k : Int), n, t) :: q).length : Nat) = q.length + 1 := by simp
  simp only at hcs
  rcases hcs with ⟨h0, rfl⟩ | ⟨h0, hb1⟩ | ⟨h0, r1, hb1, hb2⟩
  ·rw [hl1] at hlen hcap ⊢
   rw [show ev ls (d + 1) (((k : Int), n, t) :: r) = leafR ls ((k : Int), n, t) by rw [ev_succ, if_pos h0]]
   exact head_leaf ls hra k n t r b o cap B w0 w hw0 hp h0 hP hcap hlen hE hBk
  all_goals
   simp only [Nat.zero_mul, Nat.add_zero] at c0 c1 c2
   have hk13 : k < 14 := by omega
   have hk13' : (k : Int) < 14 := by omega
   have HP1 := EvlS.hid (parts_tail hP b o rfl)
   rw [hl1] at hlen hcap ⊢
   obtain ⟨e0, e1, e2, e3, e4, e5, e6⟩ := hE.2 k hk13
   have hg0 := hE.1
   have hmi := many_inner k (by omega) (by omega)
   rw [h0] at hmi
   rw [← hmi] at e1
   clear hmi
   have HW0 := EvlS.hid hw0
   have HE := EvlS.hid hE
   have HBk := EvlS.hid hBk
  ·have hq := (behind_suffix _ _ _ hb1).2
   have hcn : ¬ cap = 1 := by omega
   have hql : q.length ≤ 20 := by omega
   have hqc : q.length ≤ cap - 1 := by omega
   obtain ⟨rr, hrr⟩ : ∃ rr, Hid (ev ls (d + 1) (((k : Int), n, t) :: q) = rr) := ⟨_, rfl⟩
   rw [hrr.out]
   obtain ⟨s, hs⟩ : ∃ s, Hid (ev ls d q = s) := ⟨_, rfl⟩
   have HT : Hid (turnR s = rr) := by
    show _ = _
    rw [← hrr.out, ← hs.out, ev_succ, if_neg (by rw [h0]; decide), if_pos h0]
   have HB1 := EvlS.hid hb1
   obtain ⟨r0, r1⟩ := rr
   obtain ⟨s0, s1⟩ := s
   clear hbd hP hE hBk hf hg hp hb1 hrr hw0
   go_enter Tryz.func97, Tryz.ntmps97
   go_wp2_with fail
   have hBW : Below w.heap.size w ((w.alloc (.cells #[.int .i64 0, .int .i64 0] 86)).alloc (.cells #[.int .i64 (k : Int), .int .i64 n, .string t] 108)) := by go_grown
   have hR := (R2.new w 0 0).alloc (.cells #[.int .i64 (k : Int), .int .i64 n, .string t] 108)
   refine (HI.out q r _ _ B _ (HW0.out.trans (hBW.mono HW0.out.size)) HB1.out hql HP1.out hqc (HE.out.on hBW) (HBk.out.on hBW)).mono ?_
   rintro e w2 ⟨⟨a', cap', rfl, hP3, hc3⟩, hB2⟩
   rw [hs.out]
   have HW2 : Hid (Below w.heap.size w w2) := hBW.trans (hB2.mono hBW.size)
   have HR2 := EvlS.hid (hR.on hB2)
   have HP3 := EvlS.hid hP3
   clear hB2 hR hBW hP3 e0 e1 e2 e3 e4 e5 e6 c0 c1 c2
   have hlt := HR2.out.lt
   go_wp2_with fail
   refine (impl_turned s0 s1 _).mono ?_
   rintro e w3 ⟨rfl, hB3⟩
   rw [HT.out]
   have hb3 : Below w2.heap.size w2 w3 := (EvlS.below_one w2 _).trans (hB3.mono (by simp))
   have HW3 : Hid (Below w.heap.size w w3) := HW2.out.trans (hb3.mono HW2.out.size)
   obtain ⟨x0, x1, xf⟩ := (HR2.out.on hb3).cells
   dsimp only at x0 x1
   clear hB3 hb3
   go_wp2_with fail
   refine bodyPost_ret (v := .tuple #[rv (r0, r1), .slice a' r.length cap']) (by simp [results, Tryz.results97, go_sem, x0, x1]) rfl ⟨⟨_, _, rfl, HP3.out, hc3⟩, ?_⟩
   repeat (refine Below.setCell ?_ (by simp) _)
   exact HW3.out
  ·have hq := (behind_suffix _ _ _ hb1).2
   have hq2 := (behind_suffix _ _ _ hb2).2
   have hcn : ¬ cap = 1 := by omega
   have hql : q.length ≤ 20 := by omega
   have hql2 : r1.length ≤ 20 := by omega
   have hqc : q.length ≤ cap - 1 := by omega
   have hk310 := many_two h0
   obtain ⟨rr, hrr⟩ : ∃ rr, Hid (ev ls (d + 1) (((k : Int), n, t) :: q) = rr) := ⟨_, rfl⟩
   rw [hrr.out]
   obtain ⟨s, hs⟩ : ∃ s, Hid (ev ls d q = s) := ⟨_, rfl⟩
   obtain ⟨s', hs'⟩ : ∃ s', Hid (ev ls d r1 = s') := ⟨_, rfl⟩
   have HTw : Hid (twoR (k : Int) s s' = rr) := by
    show _ = _
    rw [← hrr.out, ← hs.out, ← hs'.out, ev_succ, if_neg (by rw [h0]; decide), if_neg (by rw [h0]; decide)]
    rw [show rest d q = r1 by unfold rest; rw [hb1]; rfl]
   have HB1 := EvlS.hid hb1
   have HB2 := EvlS.hid hb2
   obtain ⟨r0, r1'⟩ := rr
   obtain ⟨k1, n1⟩ := s
   obtain ⟨k2, n2⟩ := s'
   clear hbd hP hE hBk hf hg hp hb1 hb2 hrr hw0 h0
   go_enter Tryz.func97, Tryz.ntmps97
   go_wp2_with fail
   have hBW : Below w.heap.size w ((w.alloc (.cells #[.int .i64 0, .int .i64 0] 86)).alloc (.cells #[.int .i64 (k : Int), .int .i64 n, .string t] 108)) := by go_grown
   have hR := (R2.new w 0 0).alloc (.cells #[.int .i64 (k : Int), .int .i64 n, .string t] 108)
   have hq0 : ((w.alloc (.cells #[.int .i64 0, .int .i64 0] 86)).alloc (.cells #[.int .i64 (k : Int), .int .i64 n, .string t] 108)).heap[w.heap.size + 1]? = some (.cells #[.int .i64 (k : Int), .int .i64 n, .string t] 108 (0, 0)) := by
    have := heap_alloc_new (w.alloc (.cells #[.int .i64 0, .int .i64 0] 86)) (.cells #[.int .i64 (k : Int), .int .i64 n, .string t] 108)
    simpa using this
   refine (HI.out q r1 _ _ B _ (HW0.out.trans (hBW.mono HW0.out.size)) HB1.out hql HP1.out hqc (HE.out.on hBW) (HBk.out.on hBW)).mono ?_
   rintro e w2 ⟨⟨a', cap', rfl, hP3, hc3⟩, hB2⟩
   rw [hs.out]
   have HW2 : Hid (Below w.heap.size w w2) := hBW.trans (hB2.mono hBW.size)
   have HR2 := EvlS.hid (hR.on hB2)
   have HQ2 : Hid (w2.heap[w.heap.size + 1]? = some (.cells #[.int .i64 (k : Int), .int .i64 n, .string t] 108 (0, 0))) := by show _ = _; rw [hB2.block _ (Array.getElem?_eq_some_iff.1 hq0).1]; exact hq0
   have HP3 := EvlS.hid hP3
   clear hB2 hR hBW hP3 e0 e1 e2 e3 e4 e5 e6 c0 c1 c2 hq0
   go_wp2_with fail
   have hb2 : Below w2.heap.size w2 (w2.alloc (.cells #[.int .i64 k1, .int .i64 n1] 86)) := EvlS.below_one w2 _
   refine (HI.out r1 r a' cap' B _ (HW0.out.trans ((HW2.out.trans (hb2.mono HW2.out.size)).mono HW0.out.size)) HB2.out hql2 HP3.out hc3 ((HE.out.on HW2.out).on hb2) ((HBk.out.on HW2.out).on hb2)).mono ?_
   rintro e w3 ⟨⟨a4, cap4, rfl, hP4, hc4⟩, hB3⟩
   rw [hs'.out]
   have hb3 : Below w2.heap.size w2 w3 := hb2.trans (hB3.mono hb2.size)
   have HW3 : Hid (Below w.heap.size w w3) := HW2.out.trans (hb3.mono HW2.out.size)
   have HR3 := EvlS.hid (HR2.out.on hb3)
   have HQ3 : Hid (w3.heap[w.heap.size + 1]? = some (.cells #[.int .i64 (k : Int), .int .i64 n, .string t] 108 (0, 0))) := by show _ = _; rw [hb3.block _ (Array.getElem?_eq_some_iff.1 HQ2.out).1]; exact HQ2.out
   have HA3 : Hid (R2 w3 w2.heap.size (k1, n1)) := (R2.new w2 k1 n1).on hB3
   have HP4 := EvlS.hid hP4
   have hgl := HR2.out.lt
   have hql2' := (Array.getElem?_eq_some_iff.1 HQ2.out).1
   clear hB3 hb3 hb2 hP4 HR2 HQ2 HW2
   generalize hg9 : w2.heap.size = g9 at *
   have HG9 := EvlS.hid hg9
   clear hg9
   go_upto_region 9 with fail
   obtain ⟨W9, hW9⟩ : ∃ W9, Hid (w3.alloc (.cells #[.int .i64 k2, .int .i64 n2] 86) = W9) := ⟨_, rfl⟩
   have hb9 : Below w3.heap.size w3 (w3.alloc (.cells #[.int .i64 k2, .int .i64 n2] 86)) := EvlS.below_one w3 _
   have hC9 := R2.new w3 k2 n2
   rw [hW9.out] at hb9 hC9 ⊢
   have hR9 := HR3.out.on hb9
   have hA9 := HA3.out.on hb9
   have hQ9 : W9.heap[w.heap.size + 1]? = some (.cells #[.int .i64 (k : Int), .int .i64 n, .string t] 108 (0, 0)) := by rw [hb9.block _ (Array.getElem?_eq_some_iff.1 HQ3.out).1]; exact HQ3.out
   have HBW : Hid (Below w.heap.size w W9) := HW3.out.trans (hb9.mono HW3.out.size)
   have hS0 := HdS.refl hR9
   have hg11 : w.heap.size < w3.heap.size := HR3.out.lt
   generalize w3.heap.size = g11 at *
   have hl9 := hA9.lt
   have hl11 := hC9.lt
   have hlq := (Array.getElem?_eq_some_iff.1 hQ9).1
   obtain ⟨a0, a1, _⟩ := hA9.cells
   obtain ⟨b0, b1, _⟩ := hC9.cells
   have HAll : Hid (∀ w', HdS W9 w.heap.size w' → HdS W9 w.heap.size w' ∧ w'.cell? ⟨w.heap.size + 1, 0, none⟩ = some (.int .i64 (k : Int)) ∧ w'.cell? ⟨g9, 0, none⟩ = some (.int .i64 k1) ∧ w'.cell? ⟨g9, 1, none⟩ = some (.int .i64 n1) ∧ w'.cell? ⟨g11, 0, none⟩ = some (.int .i64 k2) ∧ w'.cell? ⟨g11, 1, none⟩ = some (.int .i64 n2)) := fun w' hS => by
    refine ⟨hS, ?_, ?_, ?_, ?_, ?_⟩
    ·rw [hS.cell hlq (by omega)]; simp [World.cell?, hQ9]
    ·rw [hS.cell hl9 (by omega)]; exact a0
    ·rw [hS.cell hl9 (by omega)]; exact a1
    ·rw [hS.cell hl11 (by omega)]; exact b0
    ·rw [hS.cell hl11 (by omega)]; exact b1
   clear hb9 hC9 hR9 hA9 hQ9 hW9 a0 a1 b0 b1 HR3 HA3 HQ3 HW3
   have HTw2 := HTw
   refine wp_region_held_drew (S := (fun w' => HdS W9 w.heap.size w' ∧ w'.cell? ⟨w.heap.size + 1, 0, none⟩ = some (.int .i64 (k : Int)) ∧ w'.cell? ⟨g9, 0, none⟩ = some (.int .i64 k1) ∧ w'.cell? ⟨g9, 1, none⟩ = some (.int .i64 n1) ∧ w'.cell? ⟨g11, 0, none⟩ = some (.int .i64 k2) ∧ w'.cell? ⟨g11, 1, none⟩ = some (.int .i64 n2))) (by kernel_rfl) ?_ (fun hHeld => ?_)
   ·(try dsimp only) <;> (first | exact HAll.out _ hSn | exact HAll.out _ hS0)
   refine tk 0 (some 47) rfl hHeld ?_; (try simp only [Act.put, pA, pB, pC]); refine tk 1 (some 48) rfl hHeld ?_; (try simp only [Act.put, pA, pB, pC]); refine tk 3 (some 50) rfl hHeld ?_; (try simp only [Act.put, pA, pB, pC]); refine tk 4 (some 51) rfl hHeld ?_; (try simp only [Act.put, pA, pB, pC]); refine tk 6 (some 53) rfl hHeld ?_; (try simp only [Act.put, pA, pB, pC])
   refine wpAnyH_ready (rs := [2]) (by kernel_rfl) (by simp) ?_
   refine AllReadyH.cons rfl (fun K hK => ?_) AllReadyH.nil
   go_simp
   go_at_call 124
   have hp := hHeld.1
   refine (ofTwo_in (k : Int) (by omega) (by omega) _).mono ?_
   rintro e w' ⟨⟨fv, rfl, hfv⟩, hB⟩
   obtain ⟨KF, fp, rfl, hent, hcall⟩ := fv_call hfv k1 n1 k2 n2
   have HCall := EvlS.hid hcall
   clear hcall hfv
   have hSn := hp.on hB
   clear hp hB
   (try go_wp2_with fail)
   refine hK.out _ _ ?_ (fun hHeld2 => ?_)
   ·(try dsimp only) <;> (first | exact HAll.out _ hSn | exact HAll.out _ hS0)
   clear hK K hHeld
   have hHeld := hHeld2
   clear hHeld2
   (try simp only [Act.put, pA, pB, pC])
   refine wpAnyH_ready (rs := [5]) (by kernel_rfl) (by simp) ?_
   refine AllReadyH.cons rfl (fun K hK => ?_) AllReadyH.nil
   go_simp
   have hp := hHeld.1
   refine (HCall.out _ (Below.refl _ _)).mono ?_
   rintro e w'' ⟨rfl, hB⟩
   rw [HTw.out]
   have hSn := hp.on hB
   clear hp hB
   (try go_wp2_with fail)
   refine hK.out _ _ ?_ (fun hHeld2 => ?_)
   ·(try dsimp only) <;> (first | exact HAll.out _ hSn | exact HAll.out _ hS0)
   clear hK K hHeld
   have hHeld := hHeld2
   clear hHeld2
   (try simp only [Act.put, pA, pB, pC])
   refine wpAnyH_ready (rs := [7]) (by kernel_rfl) (by simp) ?_
   refine AllReadyH.cons rfl (fun K hK => ?_) AllReadyH.nil
   obtain ⟨⟨v0, y0⟩, f0⟩ := hHeld.1.room 0 (by decide)
   obtain ⟨⟨v1, y1⟩, f1⟩ := hHeld.1.room 1 (by decide)
   go_simp
   have hSn := (hHeld.1.put 0 (.int .i64 r0)).put 1 (.int .i64 r1')
   refine hK.out _ _ ?_ (fun hHeld2 => ?_)
   ·(try dsimp only) <;> (first | exact HAll.out _ hSn | exact HAll.out _ hS0)
   clear hK K hHeld
   have hHeld := hHeld2
   clear hHeld2
   (try simp only [Act.put, pA, pB, pC]); refine tk 8 (some 5) rfl hHeld ?_; (try simp only [Act.put, pA, pB, pC])
   refine wpAnyH_done (by kernel_rfl) ?_ _
   have HBL := EvlS.hid (hHeld.1.below HBW.out (Nat.le_refl _))
   clear hHeld hS0 HAll
   go_wp2_with fail
   refine bodyPost_ret (v := .tuple #[rv (r0, r1'), .slice a4 r.length cap4]) (by simp [results, Tryz.results97, go_sem, y0, y1]) rfl ⟨⟨_, _, rfl, HP4.out, hc4⟩, HBL.out⟩
open Go.RowKit
open EvlM EvlS ValW PrtW PrtM PrtS PrtI TexM
open AnsW (An kd nu cd tx told rightA Ans)
set_option maxRecDepth 10000 in
set_option maxHeartbeats 6400000 in
theorem spec_ev (ls : List An) (hra : rightA ls = true) (a : Option Addr) (cap : Nat) (ps : List Pt) (hlen : ps.length ≤ 20) (la : Option Addr) (lcap : Nat) : ∀ (d : Nat) (k : Nat) (r : List Pt) (w : World), k ≤ ps.length → behind d (ps.drop k) = some r → Parts w a ps → Ans w la ls →
  Calls Tryz.prog 87 #[.slice a ps.length cap, .int .i64 k, .slice la ls.length lcap] w fun e w' => e = .returned (.tuple #[rv (ev ls d (ps.drop k)), .int .i64 ((ps.length - r.length : Nat) : Int)]) ∧ Below w.heap.size w w' := by
 intro d
 induction d with
 | zero => intro k r w hk h; cases h
 | succ d ih =>
  intro k r w hk hbd hP hLs
  have HI := EvlS.hid ih
  have HP := EvlS.hid hP
  have HLs := EvlS.hid hLs
  clear ih hP hLs
  have hlt : k < ps.length := by
   rcases Nat.lt_or_ge k ps.length with h | h
   ·exact h
   ·rw [List.drop_of_length_le h] at hbd; cases hbd
  obtain ⟨b, o, x, n, t, rfl, hb, hg, hf, c0, c1, c2⟩ := parts_at HP.out hlt
  rw [drop_at ps k hlt, hg] at hbd ⊢
  obtain ⟨hp, hcs⟩ := behind_cases hbd
  have hsz := part_size hp
  have hdl : (ps.drop (k + 1)).length = ps.length - (k + 1) := List.length_drop
  obtain ⟨rr, hrr⟩ : ∃ rr, Hid (ev ls (d + 1) ((x, n, t) :: ps.drop (k + 1)) = rr) := ⟨_, rfl⟩
  rw [hrr.out]
  obtain ⟨r0, r1⟩ := rr
  have hin := part_in hp
  have hBW0 : Below w.heap.size w ((w.alloc (.cells #[.int .i64 0, .int .i64 0] 86)).alloc (.cells #[.int .i64 x, .int .i64 n, .string t] 108)) := by go_grown
  have hR0 := (R2.new w 0 0).alloc (.cells #[.int .i64 x, .int .i64 n, .string t] 108)
  have hq0 : ((w.alloc (.cells #[.int .i64 0, .int .i64 0] 86)).alloc (.cells #[.int .i64 x, .int .i64 n, .string t] 108)).heap[w.heap.size + 1]? = some (.cells #[.int .i64 x, .int .i64 n, .string t] 108 (0, 0)) := by
   have := heap_alloc_new (w.alloc (.cells #[.int .i64 0, .int .i64 0] 86)) (.cells #[.int .i64 x, .int .i64 n, .string t] 108)
   simpa using this
  have HBW0 := EvlS.hid hBW0
  have HR0 := EvlS.hid hR0
  have HQ0 := EvlS.hid hq0
  clear hBW0 hR0 hq0 hg hf
  rcases hcs with ⟨h0, rfl⟩ | ⟨h0, hb1⟩ | ⟨h0, rm, hb1, hb2⟩
  ·have hlf : Hid (leafR ls (x, n, t) = (r0, r1)) := by
    show _ = _
    rw [← hrr.out, ev_succ, if_pos h0]
   have hend : Hid (ps.length - (ps.drop (k + 1)).length = k + 1) := by show _ = _; omega
   rw [hend.out]
   have hlo := leaf_op hp h0
   obtain ⟨q, hq⟩ : ∃ q, Hid (told ls t = q) := ⟨_, rfl⟩
   have hl2 : leafV x n (kd q) (nu q) (cd q) = (r0, r1) := by rw [← hq.out, ← leafV_eq]; exact hlf.out
   obtain ⟨qs, vk, vm, zs, vt⟩ := q
   dsimp only [kd, nu, cd, tx] at hl2
   clear hdl hbd hlf hp hrr h0 hend
   rcases hlo with e | e | e | e <;> simp only at e <;> subst e
   ·have hl3 : ((1 : Int), n) = (r0, r1) := hl2
    injection hl3 with z0 z1
    subst z0 z1
    clear hl2 hq HQ0 HR0 HBW0
    go_enter Tryz.func87, Tryz.ntmps87
    go_wp2_with fail
    refine bodyPost_ret (v := .tuple #[rv (1, n), .int .i64 ((k : Int) + 1)]) (by simp [results, Tryz.results87, go_sem]) rfl ⟨by simp, by go_grown⟩
   ·have HL : Hid (fieldR vk vm = (r0, r1)) := hl2
    go_enter Tryz.func87, Tryz.ntmps87
    go_wp2_with fail
    refine (AnsW.spec_l05of la lcap ls t _ (HLs.out.on HBW0.out) hra).mono ?_
    rintro e w1 ⟨⟨va, vc, rfl, _, _⟩, hB1⟩
    rw [hq.out]
    dsimp only [kd, nu, cd, tx]
    have HB1 : Hid (Below w.heap.size w w1) := HBW0.out.trans (hB1.mono HBW0.out.size)
    have HR1 := EvlS.hid (HR0.out.on hB1)
    clear hB1
    go_wp2_with fail
    refine (spec_field vk vm va zs.length vc vt w1).mono ?_
    rintro e w2 ⟨rfl, hB2⟩
    rw [HL.out]
    have HB2 : Hid (Below w.heap.size w w2) := HB1.out.trans (hB2.mono HB1.out.size)
    obtain ⟨x0, x1, xf⟩ := (HR1.out.on hB2).cells
    dsimp only at x0 x1
    clear hB2 c0 c1 c2
    go_wp2_with fail
    refine bodyPost_ret (v := .tuple #[rv (r0, r1), .int .i64 ((k : Int) + 1)]) (by simp [results, Tryz.results87, go_sem, x0, x1]) rfl ⟨by simp, ?_⟩
    repeat (refine Below.setCell ?_ (by simp) _)
    exact HB2.out
   ·have HL : Hid (hasR vk (zs.contains n) = (r0, r1)) := hl2
    go_enter Tryz.func87, Tryz.ntmps87
    go_upto_region 9 with fail
    obtain ⟨W1, hW1⟩ : ∃ W1, Hid ((w.alloc (.cells #[.int .i64 0, .int .i64 0] 86)).alloc (.cells #[.int .i64 12, .int .i64 n, .string t] 108) = W1) := ⟨_, rfl⟩
    rw [hW1.out] at HBW0 HR0 HQ0 ⊢
    have HBW := HBW0
    have hS0 := HdS.refl HR0.out
    have hpl : w.heap.size + 1 < W1.heap.size := (Array.getElem?_eq_some_iff.1 HQ0.out).1
    have HAll : Hid (∀ w', HdS W1 w.heap.size w' → HdS W1 w.heap.size w' ∧ w'.cell? ⟨w.heap.size + 1, 1, none⟩ = some (.int .i64 n) ∧ w'.cell? ⟨w.heap.size + 1, 2, none⟩ = some (.string t)) := fun w' hS => by
     refine ⟨hS, ?_, ?_⟩
     ·rw [hS.cell hpl (by omega)]; simp [World.cell?, HQ0.out]
     ·rw [hS.cell hpl (by omega)]; simp [World.cell?, HQ0.out]
    clear hW1 HBW0 HR0 HQ0 c0 c1 c2
    refine wp_region_held_drew (S := (fun w' => HdS W1 w.heap.size w' ∧ w'.cell? ⟨w.heap.size + 1, 1, none⟩ = some (.int .i64 n) ∧ w'.cell? ⟨w.heap.size + 1, 2, none⟩ = some (.string t))) (by kernel_rfl) ?_ (fun hHeld => ?_)
    ·(try dsimp only) <;> (first | exact HAll.out _ hSn | exact HAll.out _ hS0)
    refine tk 0 (some 39) rfl hHeld ?_; (try simp only [Act.put, pA, pB, pC]); refine tk 1 (some 40) rfl hHeld ?_; (try simp only [Act.put, pA, pB, pC]); refine tk 2 (some 41) rfl hHeld ?_; (try simp only [Act.put, pA, pB, pC]); refine tk 4 (some 43) rfl hHeld ?_; (try simp only [Act.put, pA, pB, pC]); refine tk 5 (some 44) rfl hHeld ?_; (try simp only [Act.put, pA, pB, pC]); refine tk 7 (some 46) rfl hHeld ?_; (try simp only [Act.put, pA, pB, pC])
    refine wpAnyH_ready (rs := [3]) (by kernel_rfl) (by simp) ?_
    refine AllReadyH.cons rfl (fun K hK => ?_) AllReadyH.nil
    go_simp
    go_at_call 54
    have hp := hHeld.1
    refine (AnsW.spec_l05of la lcap ls t _ (HLs.out.on (hp.below HBW.out (Nat.le_refl _))) hra).mono ?_
    rintro e w' ⟨⟨va, vc, rfl, hcv, _⟩, hB⟩
    rw [hq.out] at hcv
    rw [hq.out]
    dsimp only [kd, nu, cd, tx] at hcv ⊢
    have HCv := EvlS.hid hcv
    have hSn := hp.on hB
    clear hp hB hcv
    (try go_wp2_with fail)
    refine hK.out _ _ ?_ (fun hHeld2 => ?_)
    ·(try dsimp only) <;> (first | exact HAll.out _ hSn | exact HAll.out _ hS0)
    clear hK K hHeld
    have hHeld := hHeld2
    clear hHeld2
    (try simp only [Act.put, pA, pB, pC])
    refine wpAnyH_ready (rs := [6]) (by kernel_rfl) (by simp) ?_
    refine AllReadyH.cons rfl (fun K hK => ?_) AllReadyH.nil
    go_simp
    go_at_call 114
    have hp := hHeld.1
    refine (EvlS.spec_has vk vm va vc zs vt n _ HCv.out).mono ?_
    rintro e w' ⟨rfl, hB⟩
    rw [HL.out]
    have hSn := hp.on hB
    clear hp hB
    (try go_wp2_with fail)
    refine hK.out _ _ ?_ (fun hHeld2 => ?_)
    ·(try dsimp only) <;> (first | exact HAll.out _ hSn | exact HAll.out _ hS0)
    clear hK K hHeld
    have hHeld := hHeld2
    clear hHeld2
    (try simp only [Act.put, pA, pB, pC])
    refine wpAnyH_ready (rs := [8]) (by kernel_rfl) (by simp) ?_
    refine AllReadyH.cons rfl (fun K hK => ?_) AllReadyH.nil
    obtain ⟨⟨v0, y0⟩, f0⟩ := hHeld.1.room 0 (by decide)
    obtain ⟨⟨v1, y1⟩, f1⟩ := hHeld.1.room 1 (by decide)
    go_simp
    have hSn := (hHeld.1.put 0 (.int .i64 r0)).put 1 (.int .i64 r1)
    refine hK.out _ _ ?_ (fun hHeld2 => ?_)
    ·(try dsimp only) <;> (first | exact HAll.out _ hSn | exact HAll.out _ hS0)
    clear hK K hHeld
    have hHeld := hHeld2
    clear hHeld2
    (try simp only [Act.put, pA, pB, pC]); refine tk 9 (some 7) rfl hHeld ?_; (try simp only [Act.put, pA, pB, pC])
    refine wpAnyH_done (by kernel_rfl) ?_ _
    have HBL := EvlS.hid (hHeld.1.below HBW.out (Nat.le_refl _))
    clear hHeld hS0 HAll
    go_wp2_with fail
    refine bodyPost_ret (v := .tuple #[rv (r0, r1), .int .i64 ((k : Int) + 1)]) (by simp [results, Tryz.results87, go_sem, y0, y1]) rfl ⟨by simp, HBL.out⟩
   ·have HL : Hid (truthR (decide (1 ≤ vk ∧ vk ≤ 4)) = (r0, r1)) := hl2
    go_enter Tryz.func87, Tryz.ntmps87
    go_wp2_with fail
    refine (AnsW.spec_l05of la lcap ls t _ (HLs.out.on HBW0.out) hra).mono ?_
    rintro e w1 ⟨⟨va, vc, rfl, _, _⟩, hB1⟩
    rw [hq.out]
    dsimp only [kd, nu, cd, tx]
    have HB1 : Hid (Below w.heap.size w w1) := HBW0.out.trans (hB1.mono HBW0.out.size)
    have HR1 := EvlS.hid (HR0.out.on hB1)
    clear hB1
    obtain ⟨dd, hdd⟩ : ∃ dd, Hid (decide (1 ≤ vk ∧ vk ≤ 4) = dd) := ⟨_, rfl⟩
    rw [hdd.out] at HL
    go_wp2_with fail
    refine (ValK.spec_kn vk vm va zs.length vc vt w1).mono ?_
    rintro e w2 ⟨rfl, hB2⟩
    rw [hdd.out]
    have HB2 : Hid (Below w.heap.size w w2) := HB1.out.trans (hB2.mono HB1.out.size)
    have HR2 := EvlS.hid (HR1.out.on hB2)
    clear hB2
    go_wp2_with fail
    refine (EvlS.spec_truth dd w2).mono ?_
    rintro e w3 ⟨rfl, hB3⟩
    rw [HL.out]
    have HB3 : Hid (Below w.heap.size w w3) := HB2.out.trans (hB3.mono HB2.out.size)
    obtain ⟨x0, x1, xf⟩ := (HR2.out.on hB3).cells
    dsimp only at x0 x1
    clear hB3 c0 c1 c2
    go_wp2_with fail
    refine bodyPost_ret (v := .tuple #[rv (r0, r1), .int .i64 ((k : Int) + 1)]) (by simp [results, Tryz.results87, go_sem, x0, x1]) rfl ⟨by simp, ?_⟩
    repeat (refine Below.setCell ?_ (by simp) _)
    exact HB3.out
  ·have hx11 : x = 11 := many_one h0
   subst hx11
   have hend : Hid (k + 1 ≤ ps.length) := by show _ ≤ _; omega
   obtain ⟨s, hs⟩ : ∃ s, Hid (ev ls d (ps.drop (k + 1)) = s) := ⟨_, rfl⟩
   have HT : Hid (turnR s = (r0, r1)) := by
    show _ = _
    rw [← hrr.out, ← hs.out, ev_succ, if_neg (by rw [h0]; decide), if_pos h0]
   have HWf : Hid (Wf s) := by show Wf s; rw [← hs.out]; exact ev_wf ls d _
   have HB1 := EvlS.hid hb1
   obtain ⟨s0, s1⟩ := s
   have hkc : Hid (((k : Int) + 1) = ((k + 1 : Nat) : Int)) := by show _ = _; omega
   clear hbd hp hb1 hrr h0
   go_enter Tryz.func87, Tryz.ntmps87
   go_wp2_with fail
   rw [hkc.out]
   refine (HI.out (k + 1) r _ hend.out HB1.out (HP.out.on HBW0.out) (HLs.out.on HBW0.out)).mono ?_
   rintro e w2 ⟨rfl, hB2⟩
   rw [hs.out]
   have HW2 : Hid (Below w.heap.size w w2) := HBW0.out.trans (hB2.mono HBW0.out.size)
   have HR2 := EvlS.hid (HR0.out.on hB2)
   clear hB2 c0 c1 c2 HQ0 HR0
   obtain ⟨x0, x1, xf⟩ := HR2.out.cells
   have hrl := HR2.out.lt
   dsimp only at x0 x1
   by_cases hk2 : s0 = 2
   ·subst hk2
    have hw := HWf.out rfl
    have htm := turn_minus HWf.out rfl
    rw [HT.out] at htm
    injection htm with z0 z1
    dsimp only at z1 hw
    have hwr : IntKind.i64.wrap (1 - s1) = r1 := by rw [IntKind.wrap_i64, z1]; rcases hw with h | h <;> (rw [h]; decide)
    have hwr2 : (1 : Int) - s1 = r1 := z1.symm
    have hwr3 : Hid (wrap64 r1 = r1) := by show _ = _; rw [z1]; rcases hw with h | h <;> (rw [h]; first | rfl | (unfold wrap64; rfl) | (unfold wrap64; omega) | (simp [wrap64]; done))
    subst z0
    clear HT z1 hw HWf
    go_wp2_with fail
    refine bodyPost_ret (v := .tuple #[rv (2, r1), .int .i64 ((ps.length - r.length : Nat) : Int)]) (by simp [results, Tryz.results87, go_sem, x0, x1, hrl]; exact hwr3.out) rfl ⟨rfl, ?_⟩
    repeat (first | refine Below.setCell ?_ (by simp) _ | refine Below.setCell ?_ (by have := HW2.out.size; simp; omega) _ | refine Below.alloc ?_ (by have := HW2.out.size; simp; omega) _)
    exact HW2.out
   ·have e2 : (s0 == 2) = false := by simp [hk2]
    have hts := HT.out
    unfold turnR at hts
    rw [if_neg hk2] at hts
    injection hts with z0 z1
    subst z0 z1
    clear HT HWf
    go_wp2_with fail
    refine bodyPost_ret (v := .tuple #[rv (s0, s1), .int .i64 ((ps.length - r.length : Nat) : Int)]) (by simp [results, Tryz.results87, go_sem, x0, x1, hrl]) rfl ⟨rfl, ?_⟩
    repeat (first | refine Below.setCell ?_ (by simp) _ | refine Below.alloc ?_ (by have := HW2.out.size; simp; omega) _)
    exact HW2.out
  ·have hx310 := many_two h0
   have hsf := behind_suffix _ _ _ hb1
   have hrm : ps.drop (ps.length - rm.length) = rm := by
    have h1 := hsf.1.trans (List.drop_suffix (k + 1) ps)
    exact suffix_drop h1
   have hend : Hid (k + 1 ≤ ps.length) := by show _ ≤ _; omega
   have hrl1 : rm.length ≤ ps.length := by have := hsf.2; rw [hdl] at this; omega
   obtain ⟨s, hs⟩ : ∃ s, Hid (ev ls d (ps.drop (k + 1)) = s) := ⟨_, rfl⟩
   obtain ⟨s', hs'⟩ : ∃ s', Hid (ev ls d rm = s') := ⟨_, rfl⟩
   have HTw : Hid (twoR x s s' = (r0, r1)) := by
    show _ = _
    rw [← hrr.out, ← hs.out, ← hs'.out, ev_succ, if_neg (by rw [h0]; decide), if_neg (by rw [h0]; decide)]
    rw [show rest d (ps.drop (k + 1)) = rm by unfold rest; rw [hb1]; rfl]
   have HB1 := EvlS.hid hb1
   have HB2 : Hid (behind d (ps.drop (ps.length - rm.length)) = some r) := by show _ = _; rw [hrm]; exact hb2
   have HRm := EvlS.hid hrm
   obtain ⟨k1, n1⟩ := s
   obtain ⟨k2, n2⟩ := s'
   have hkc : Hid (((k : Int) + 1) = ((k + 1 : Nat) : Int)) := by show _ = _; omega
   have ex1 : (x == 1) = false := by simp; omega
   have ex2 : (x == 2) = false := by simp; omega
   have ex3 : (x == 12) = false := by simp; omega
   have ex4 : (x == 13) = false := by simp; omega
   have ex5 : (x == 11) = false := by simp; omega
   clear hbd hp hb1 hb2 hrr h0 hrm hsf hdl
   go_enter Tryz.func87, Tryz.ntmps87
   go_wp2_with fail
   rw [hkc.out]
   refine (HI.out (k + 1) rm _ hend.out HB1.out (HP.out.on HBW0.out) (HLs.out.on HBW0.out)).mono ?_
   rintro e w2 ⟨rfl, hB2⟩
   rw [hs.out]
   have HW2 : Hid (Below w.heap.size w w2) := HBW0.out.trans (hB2.mono HBW0.out.size)
   have HR2 := EvlS.hid (HR0.out.on hB2)
   have HQ2 : Hid (w2.heap[w.heap.size + 1]? = some (.cells #[.int .i64 x, .int .i64 n, .string t] 108 (0, 0))) := by show _ = _; rw [hB2.block _ (Array.getElem?_eq_some_iff.1 HQ0.out).1]; exact HQ0.out
   clear hB2 c0 c1 c2 HQ0 HR0 HBW0
   go_wp2_with fail
   have hb2 : Below w2.heap.size w2 (w2.alloc (.cells #[.int .i64 k1, .int .i64 n1] 86)) := EvlS.below_one w2 _
   refine (HI.out (ps.length - rm.length) r _ (by omega) HB2.out ((HP.out.on HW2.out).on hb2) ((HLs.out.on HW2.out).on hb2)).mono ?_
   rintro e w3 ⟨rfl, hB3⟩
   rw [HRm.out, hs'.out]
   have hb3 : Below w2.heap.size w2 w3 := hb2.trans (hB3.mono hb2.size)
   have HW3 : Hid (Below w.heap.size w w3) := HW2.out.trans (hb3.mono HW2.out.size)
   have HR3 := EvlS.hid (HR2.out.on hb3)
   have HQ3 : Hid (w3.heap[w.heap.size + 1]? = some (.cells #[.int .i64 x, .int .i64 n, .string t] 108 (0, 0))) := by show _ = _; rw [hb3.block _ (Array.getElem?_eq_some_iff.1 HQ2.out).1]; exact HQ2.out
   have HA3 : Hid (R2 w3 w2.heap.size (k1, n1)) := (R2.new w2 k1 n1).on hB3
   have hg2 := (Array.getElem?_eq_some_iff.1 HQ2.out).1
   clear hB3 hb3 hb2 HR2 HQ2 HW2
   generalize hg9 : w2.heap.size = g9 at *
   have HG9 := EvlS.hid hg9
   clear hg9
   have q0 : w3.cell? ⟨w.heap.size + 1, 0, none⟩ = some (.int .i64 x) := by simp [World.cell?, HQ3.out]
   have hql := (Array.getElem?_eq_some_iff.1 HQ3.out).1
   obtain ⟨a0, a1, af⟩ := HA3.out.cells
   have hal := HA3.out.lt
   have hrl := HR3.out.lt
   dsimp only at a0 a1
   go_wp2_with fail
   refine (spec_two x k1 n1 k2 n2 _).mono ?_
   rintro e w4 ⟨rfl, hB4⟩
   rw [HTw.out]
   have hb4 : Below w3.heap.size w3 w4 := (EvlS.below_one w3 _).trans (hB4.mono (by simp))
   have HW4 : Hid (Below w.heap.size w w4) := HW3.out.trans (hb4.mono HW3.out.size)
   obtain ⟨x0, x1, xf⟩ := (HR3.out.on hb4).cells
   dsimp only at x0 x1
   clear hB4 hb4 q0 a0 a1 af
   go_wp2_with fail
   refine bodyPost_ret (v := .tuple #[rv (r0, r1), .int .i64 ((ps.length - r.length : Nat) : Int)]) (by simp [results, Tryz.results87, go_sem, x0, x1]) rfl ⟨rfl, ?_⟩
   repeat (refine Below.setCell ?_ (by simp) _)
   exact HW4.out
open Go.RowKit
open EvlM EvlS ValW PrtW PrtM PrtS PrtI TexM BookW
open AnsW (An kd nu cd tx told rightA Ans rightA_long)
set_option maxRecDepth 10000 in
set_option maxHeartbeats 1600000 in
theorem spec_all (a : Option Addr) (cap : Nat) (ps : List Pt) (la : Option Addr) (lcap : Nat) (ls : List An) (w : World) (hP : Parts w a ps) (hL : Ans w la ls) (hr : rightB ps = true) (hra : rightA ls = true) :
  Calls Tryz.prog 57 #[.slice a ps.length cap, .slice la ls.length lcap] w fun e w' => e = .returned (rv (ev ls 6 ps)) ∧ Below w.heap.size w w' := by
 have HP := EvlS.hid hP
 have HL := EvlS.hid hL
 obtain ⟨h20, hbh⟩ := right_behind hr
 have HB := EvlS.hid hbh
 clear hP hL hbh
 obtain ⟨r, hrr⟩ : ∃ r, Hid (ev ls 6 ps = r) := ⟨_, rfl⟩
 rw [hrr.out]
 obtain ⟨r0, r1⟩ := r
 go_enter Tryz.func57, Tryz.ntmps57
 go_wp2_with fail
 have hb0 : Below w.heap.size w (w.alloc (.cells #[.int .i64 0, .int .i64 0] 86)) := EvlS.below_one w _
 refine (spec_ev ls hra a cap ps h20 la lcap 6 0 [] _ (Nat.zero_le _) (by rw [List.drop_zero]; exact HB.out) (HP.out.on hb0) (HL.out.on hb0)).mono ?_
 rintro e w1 ⟨rfl, hB1⟩
 rw [List.drop_zero, hrr.out]
 have HB1 : Hid (Below w.heap.size w w1) := hb0.trans (hB1.mono hb0.size)
 have HR1 := EvlS.hid ((R2.new w 0 0).on hB1)
 clear hB1 hb0
 obtain ⟨x0, x1, xf⟩ := HR1.out.cells
 have hrl := HR1.out.lt
 dsimp only at x0 x1
 go_wp2_with fail
 refine bodyPost_ret (v := rv (r0, r1)) (by simp [results, Tryz.results57, go_sem, x0, x1, hrl]) rfl ⟨rfl, ?_⟩
 repeat (first | refine Below.setCell ?_ (by simp) _ | refine Below.alloc ?_ (by have := HB1.out.size; simp; omega) _)
 exact HB1.out
end Go.Proofs.YtmbhmknfipdadaaGreatDoor.EvlI
namespace Go.Proofs.YtmbhmknfipdadaaGreatDoor.RteI
open Go.RowKit Go.Maps
open ValW BookW PrtW
open AnsW (An kd nu cd tx nm told rightA found_or told_found told_lacks data_ne zeroV)
def SubD (D Dg : DataW Value) : Prop := ∀ (s : List UInt8) (v : Value) (b : Nat), (∀ z, D.atKey (.string s) z = .held v) → BookW.Blk v b → ∀ z, Dg.atKey (.string s) z = .held v
theorem SubD.zero (Dg : DataW Value) : SubD (.map []) Dg := fun _ _ _ h _ => by have := h (.map []); cases this
theorem SubD.put {D Dg : DataW Value} {s : List UInt8} {v : Value} (h : SubD D Dg) (hM : IsMap D) (hv : ∀ b, BookW.Blk v b → ∀ z, Dg.atKey (.string s) z = .held v) : SubD (D.put (.string s) (.held v)) Dg := fun s' v' b hs hb => by
 by_cases e : s' = s
 ·subst e
  have hu : v' = v := held_inj hs (fun z => atKey_put_same hM (show WideAt.IsKeyLit (.string _) from trivial) _ _)
  subst hu
  exact hv b hb
 ·exact h s' v' b (fun z => by rw [← hs z, atKey_put_other (fun e2 => e (Lit.string.inj e2))]) hb
theorem SubD.apart {w : World} {F : Nat} {D Dg : DataW Value} {K : List An} {s : ByteArray} {v : Value} (h : SubD D Dg) (hA : Apt Dg) (hH : Holds w F D K K.length) (hno : ∀ i, i < K.length → nm (K.getD i AnsW.an0) ≠ s) (hv : ∀ b, BookW.Blk v b → ∀ z, Dg.atKey (.string s.data.toList) z = .held v) :
  ∀ s' v' b, (∀ z, D.atKey (.string s') z = .held v') → BookW.Blk v b → BookW.Blk v' b → False := fun s' v' b hs hb hb' => by
 by_cases e : s.data.toList = s'
 ·subst e
  have h1 := hH.2 s.data.toList (fun i hi e2 => hno i hi (data_ne.1 e2))
  have h2 := hs (.map [])
  rw [h1] at h2
  cases h2
 ·exact hA _ _ v v' b e (hv b hb) (h s' v' b hs hb') hb hb'
set_option maxRecDepth 10000 in
theorem book_look3 {w : World} {F B : Nat} {ls : List An} {D : DataW Value} {s : ByteArray} (hM : Mp w B ls.length D) (hH : Holds w F D ls ls.length) (hr : rightA ls = true) (hs : s.size ≤ maxLen) :
  B < w.heap.size ∧ ∃ v, (∀ W : World, W.heap[B]? = w.heap[B]? → (Instr.lookup 93 (.map (some B)) (.string s) false).run Tryz.prog W = .ok v W) ∧ Cpy w F (told ls s) v ∧ (∀ b, BookW.Blk v b → ∀ z, D.atKey (.string s.data.toList) z = .held v) := by
 have hlt := hM.lt
 have key : ∀ W : World, W.heap[B]? = w.heap[B]? → ∃ v, (Instr.lookup 93 (.map (some B)) (.string s) false).run Tryz.prog W = .ok v W ∧ (DataW.held v : DataW Value) = D.atKey (.string s.data.toList) (.held (av 0 0 none 0 0 ByteArray.empty)) := fun W hW => by
  have hM2 : Mp W B ls.length D := by
   obtain ⟨es, clock, hb, F', hsz, hD⟩ := hM
   exact ⟨es, clock, by rw [hW]; exact hb, F', hsz, hD⟩
  obtain ⟨v, ps, hrun, hv⟩ := World.ownsMap.lookup hM2 key_law Tryz.underlying93 (zeroV W) (rfl : heldR (av 0 0 none 0 0 ByteArray.empty) = some (.held (av 0 0 none 0 0 ByteArray.empty), [])) (Go.WideMaps.keyOf_string_mk Tryz.underlying9 hs)
  have hv1 := Option.some.inj hv
  injection hv1 with hv2 _
  exact ⟨v, hrun, hv2⟩
 obtain ⟨v, hrun, hv2⟩ := key w rfl
 have hall : ∀ W : World, W.heap[B]? = w.heap[B]? → (Instr.lookup 93 (.map (some B)) (.string s) false).run Tryz.prog W = .ok v W := fun W hW => by
  obtain ⟨v', hrun', hv'⟩ := key W hW
  rw [← hv2] at hv'
  injection hv' with e
  rw [e] at hrun'
  exact hrun'
 rcases found_or ls s with ⟨i, hi⟩ | hl
 ·obtain ⟨u, hu, hat⟩ := hH.1 i hi.1
  rw [hi.2] at hat
  have hat2 := hat (.held (av 0 0 none 0 0 ByteArray.empty))
  rw [hat2] at hv2
  injection hv2 with hv3
  subst hv3
  exact ⟨hlt, v, hall, by rw [told_found hr hi]; exact hu, fun _ _ => hat⟩
 ·rw [hH.2 s.data.toList (fun i hi e => hl i hi (data_ne.1 e))] at hv2
  injection hv2 with hv3
  refine ⟨hlt, v, hall, ?_, fun b hb => ?_⟩
  ·rw [told_lacks hl, hv3]
   exact ⟨none, 0, rfl, Codes.nil _ _, RdI.free_nil _ _, RdS.fresh_none _, fun _ => rfl⟩
  ·exfalso
   rw [hv3] at hb
   obtain ⟨k', n', o, l', c, t', hv, hl⟩ := hb
   simp only [av, Value.agg.injEq, Array.mk.injEq, List.cons.injEq, Value.slice.injEq] at hv
   omega
open Go.RowKit
open PrtW PrtM ItmW ItmM FrmM EvlM EvlS ValW NameW RteM RteS BookW PrtI
open AnsW (An an0 nm kd nu cd tx told putA rightA good)
def WkB (W : World) (O Bg Bk : Nat) (vP vB : Value) (cur : ByteArray) : Prop := W.heap[O]? = some (.cells #[.map (some Bg), .map (some Bk), vP, .slice none 0 0, vB, .string cur, .bool false] 96 (0, 0))
section
variable {W W' : World} {O Bg Bk : Nat} {vP vB : Value} {cur : ByteArray}
theorem WkB.on (h : WkB W O Bg Bk vP vB cur) (hB : Below W.heap.size W W') : WkB W' O Bg Bk vP vB cur := by
 unfold WkB at h ⊢
 rw [hB.block O (ItmW.blk_lt h)]; exact h
theorem WkB.cells (h : WkB W O Bg Bk vP vB cur) : (W.cell? ⟨O, 0, none⟩ = some (.map (some Bg)) ∧ W.cell? ⟨O, 1, none⟩ = some (.map (some Bk)) ∧ W.cell? ⟨O, 2, none⟩ = some vP ∧ W.cell? ⟨O, 3, none⟩ = some (.slice none 0 0) ∧ W.cell? ⟨O, 4, none⟩ = some vB ∧ W.cell? ⟨O, 5, none⟩ = some (.string cur) ∧ W.cell? ⟨O, 6, none⟩ = some (.bool false)) ∧ (∀ j, W.frozen? ⟨O, j, none⟩ = false) ∧ O < W.heap.size := by
 unfold WkB at h
 exact ⟨⟨by simp [World.cell?, h], by simp [World.cell?, h], by simp [World.cell?, h], by simp [World.cell?, h], by simp [World.cell?, h], by simp [World.cell?, h], by simp [World.cell?, h]⟩, fun j => by simp [World.frozen?, h], ItmW.blk_lt h⟩
theorem WkB.setP (h : WkB W O Bg Bk vP vB cur) (v : Value) : WkB (W.setCell ⟨O, 2, none⟩ v) O Bg Bk v vB cur := by
 unfold WkB at h ⊢
 rw [PrtW.blk_set _ _ _ _ _ _ h]; simp only [List.setIfInBounds_toArray, List.set_cons_zero, List.set_cons_succ]
theorem WkB.setB (h : WkB W O Bg Bk vP vB cur) (v : Value) : WkB (W.setCell ⟨O, 4, none⟩ v) O Bg Bk vP v cur := by
 unfold WkB at h ⊢
 rw [PrtW.blk_set _ _ _ _ _ _ h]; simp only [List.setIfInBounds_toArray, List.set_cons_zero, List.set_cons_succ]
theorem WkB.setC (h : WkB W O Bg Bk vP vB cur) (s : ByteArray) : WkB (W.setCell ⟨O, 5, none⟩ (.string s)) O Bg Bk vP vB s := by
 unfold WkB at h ⊢
 rw [PrtW.blk_set _ _ _ _ _ _ h]; simp only [List.setIfInBounds_toArray, List.set_cons_zero, List.set_cons_succ]
theorem WkB.other (h : WkB W O Bg Bk vP vB cur) {b : Nat} (hb : b ≠ O) (j : Nat) (u : Value) : WkB (W.setCell ⟨b, j, none⟩ u) O Bg Bk vP vB cur := by
 unfold WkB at h ⊢
 rw [Below.heap_setCell _ _ _ _ (fun e => hb e.symm)]; exact h
theorem WkB.grown {row : Option Nat} (h : WkB W O Bg Bk vP vB cur) (hg : W.grownBy W' row) (hne : row ≠ some O) : WkB W' O Bg Bk vP vB cur := by
 unfold WkB at h ⊢
 rw [hg.block O (ItmW.blk_lt h) (fun e => hne e.symm)]; exact h
end
theorem rt_ret {Q : Ending → World → Prop} {tmps : Array Value} {W : World} {g : Nat} {r1 r2 : Int} (ht : tmps[4]?.getD undef = .pointer (some ⟨g, 0, none⟩)) (hB : W.heap[g]? = some (.cells #[.int .i64 r1, .int .i64 r2] 86 (0, 0))) (hq : Q (.returned (rv (r1, r2))) W) :
  bodyPost Tryz.prog Tryz.f67 Q Exit.ret { tmps := tmps, defers := [] } W := by
 have h0 : W.cell? ⟨g, 0, none⟩ = some (.int .i64 r1) := by simp [World.cell?, hB]
 have h1 : W.cell? ⟨g, 1, none⟩ = some (.int .i64 r2) := by simp [World.cell?, hB]
 exact bodyPost_ret (v := rv (r1, r2)) (by simp [results, Tryz.results67, go_sem, ht, h0, h1]) rfl hq
set_option maxRecDepth 10000 in
set_option maxHeartbeats 1600000 in
theorem impl_ended (O Bg Bk : Nat) (vP vB : Value) (cur : ByteArray) (w : World) (h : WkB w O Bg Bk vP vB cur) :
  Calls Tryz.prog 69 #[.pointer (some ⟨O, 0, none⟩)] w fun e w' => e = .returned (.bool (!cur.toList.isEmpty)) ∧ w' = w := by
 obtain ⟨⟨y0, y1, y2, y3, y4, y5, y6⟩, yf, yl⟩ := h.cells
 clear h
 go_enter Tryz.func69, Tryz.ntmps69
 go_wp2
 go_ret
 exact ⟨rfl, rfl⟩
set_option maxRecDepth 10000 in
set_option maxHeartbeats 1600000 in
theorem impl_tells {F : Nat} (O Bg Bk : Nat) (vP vB : Value) (cur : ByteArray) (K : List An) (a : Option Addr) (cap : Nat) (ps : List Pt) (w : World) (h : WkB w O Bg Bk vP vB cur) (hP : Parts w a ps) (hcap : ps.length ≤ cap) (hr : rightB ps = true) (hE : EnvS w) (hBk : BookF w F Bk K) (hK : rightA K = true) :
  Calls Tryz.prog 67 #[.pointer (some ⟨O, 0, none⟩), .slice a ps.length cap] w fun e w' => e = .returned (rv (ev K 6 ps)) ∧ Below w.heap.size w w' := by
 have HW := RteS.hid h
 have HP := RteS.hid hP
 have HE := RteS.hid hE
 have HBk := RteS.hid hBk
 have hl20 : ps.length ≤ 20 := (TexM.right_behind hr).1
 have HRb := RteS.hid (TexM.right_behind hr).2
 clear h hP hE hBk hr
 have hb := EvlS.below_one w (.cells #[.int .i64 0, .int .i64 0] 86)
 have HB0 := RteS.hid hb
 have h0 := heap_alloc_new w (.cells #[.int .i64 0, .int .i64 0] 86)
 have H0 := RteS.hid h0
 have HW1 := RteS.hid (HW.out.on hb)
 clear hb h0
 obtain ⟨⟨r1, r2⟩, hrr⟩ : ∃ r, Hid (ev K 6 ps = r) := ⟨_, rfl⟩
 rw [hrr.out]
 go_enter Tryz.func67, Tryz.ntmps67
 go_upto_region 1 with fail
 generalize w.alloc (.cells #[.int .i64 0, .int .i64 0] 86) = W1 at *
 obtain ⟨⟨y0, y1, y2, y3, y4, y5, y6⟩, yf, yl⟩ := HW1.out.cells
 go_wp2_with fail
 refine (EvlI.impl_ev K hK W1 6 ps [] a cap Bk W1 (Below.refl _ _) HRb.out hl20 (HP.out.on HB0.out) hcap (HE.out.on HB0.out) (HBk.out.on HB0.out)).mono ?_
 rw [hrr.out]
 rintro e w2 ⟨⟨a2, c2, rfl, _, _⟩, hB2⟩
 have HB2 : Hid (Below w.heap.size w w2) := HB0.out.trans (hB2.mono HB0.out.size)
 have hg : w2.heap[w.heap.size]? = some (.cells #[.int .i64 0, .int .i64 0] 86 (0, 0)) := by rw [hB2.block _ (ItmW.blk_lt H0.out)]; exact H0.out
 have z0 : w2.cell? ⟨w.heap.size, 0, none⟩ = some (.int .i64 0) := by simp [World.cell?, hg]
 have z1 : w2.cell? ⟨w.heap.size, 1, none⟩ = some (.int .i64 0) := by simp [World.cell?, hg]
 have zf : ∀ j, w2.frozen? ⟨w.heap.size, j, none⟩ = false := fun j => by simp [World.frozen?, hg]
 have zl : w.heap.size < w2.heap.size := ItmW.blk_lt hg
 have hgA : Hid ((((w2.setCell ⟨w.heap.size, 0, none⟩ (.int .i64 r1)).setCell ⟨w.heap.size, 1, none⟩ (.int .i64 r2)).alloc (.cells #[.int .i64 r1, .int .i64 r2] 86)).heap[w.heap.size]? = some (.cells #[.int .i64 r1, .int .i64 r2] 86 (0, 0))) := by
  show _ = _
  rw [Below.heap_alloc _ _ _ (by simpa using zl), PrtW.blk_set _ _ _ _ _ _ (PrtW.blk_set _ _ _ _ _ _ hg)]
  simp only [List.setIfInBounds_toArray, List.set_cons_zero, List.set_cons_succ]
 clear hB2 hg y0 y1 y2 y3 y4 y5 y6 yf yl HW HW1 HP HE HBk
 go_wp2_with fail
 refine rt_ret (g := w.heap.size) rfl hgA.out ⟨rfl, ?_⟩
 exact ((HB2.out.setCell (p := ⟨w.heap.size, 0, none⟩) (Nat.le_refl _) _).setCell (p := ⟨w.heap.size, 1, none⟩) (Nat.le_refl _) _).alloc (by simpa using Nat.le_of_lt zl) _
end Go.Proofs.YtmbhmknfipdadaaGreatDoor.RteI
