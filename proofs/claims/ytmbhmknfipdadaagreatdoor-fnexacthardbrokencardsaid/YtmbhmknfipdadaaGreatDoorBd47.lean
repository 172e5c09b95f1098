/- Texts of ours, laid together. -/
import Derived.Test.YtmbhmknfipdadaaGreatDoorBd45
import Derived.Test.YtmbhmknfipdadaaGreatDoorBd26
import Derived.Test.YtmbhmknfipdadaaGreatDoorBd43
namespace Go.Proofs.YtmbhmknfipdadaaGreatDoor.RteO
open Go.RowKit
open RteM RteS FldX FldK
open StrW hiding hid
open AnsW (An an0 nm cd Ans tot eqAnsL)
open AnsL (MoX MbX WithinS posX mark_listX held_listX)
open ValW (Codes)
open RdI (Free)
def txtL (P : List ByteArray) : List (List UInt8) := P.map fun b => b.data.toList
theorem txt_len (P : List ByteArray) : (txtL P).length = P.length := by simp [txtL]
theorem txt_strs (P : List ByteArray) : strs (txtL P) = strB P := by
 unfold strs txtL strB encS
 rw [List.map_map]
 exact List.map_congr_left fun b _ => rfl
theorem own_txt {W : World} {base : Nat} {v : Value} {P : List ByteArray} (h : OwnT W base v P) : W.ownsRow base 9 1 v (txtL P).length (strs (txtL P)) := by
 rw [txt_strs, txt_len]; exact h
theorem ro_box (w : World) (vP vK vB : Value) (c : ByteArray) (d : Bool) : Below w.heap.size w (w.alloc (.cells #[vP, vK, vB, .string c, .bool d] 29)) := (Below.refl _ _).alloc (Nat.le_refl _) _
theorem ro_laid (w : World) (vP vK vB : Value) (c : ByteArray) (d : Bool) : RoB (w.alloc (.cells #[vP, vK, vB, .string c, .bool d] 29)) w.heap.size vP vK vB c d := heap_alloc_new w _
set_option maxRecDepth 10000 in
set_option maxHeartbeats 1600000 in
theorem eq_route (aP aP' aK aK' aB aB' : Option Addr) (cP cP' cK cK' cB cB' : Nat) (SP SB : List (List UInt8)) (K : List An) (c : ByteArray) (d : Bool) (w : World) (h1 : Strs w aP SP) (h1' : Strs w aP' SP) (h2 : Ans w aK K) (h2' : Ans w aK' K) (h3 : Strs w aB SB) (h3' : Strs w aB' SB) :
  Calls Tryz.prog 13 #[.agg #[.slice aP SP.length cP, .slice aK K.length cK, .slice aB SB.length cB, .string c, .bool d], .agg #[.slice aP' SP.length cP', .slice aK' K.length cK', .slice aB' SB.length cB', .string c, .bool d]] w fun e w' => e = .returned (.bool true) ∧ Below w.heap.size w w' := by
 obtain ⟨W1, hW1⟩ : ∃ W, w.alloc (.cells #[.slice aP SP.length cP, .slice aK K.length cK, .slice aB SB.length cB, .string c, .bool d] 29) = W := ⟨_, rfl⟩
 have hb1 := ro_box w (.slice aP SP.length cP) (.slice aK K.length cK) (.slice aB SB.length cB) c d
 have hr1 := ro_laid w (.slice aP SP.length cP) (.slice aK K.length cK) (.slice aB SB.length cB) c d
 have hb2 := ro_box W1 (.slice aP' SP.length cP') (.slice aK' K.length cK') (.slice aB' SB.length cB') c d
 have hr2 := ro_laid W1 (.slice aP' SP.length cP') (.slice aK' K.length cK') (.slice aB' SB.length cB') c d
 have hs1 : W1.heap.size = w.heap.size + 1 := by rw [← hW1]; simp
 rw [hW1] at hb1 hr1
 have HB := hid (hb1.trans (hb2.mono hb1.size))
 have H1 := hid (hr1.on hb2)
 have H2 := hid hr2
 have hB := HB.out
 have G1 := hid (h1.on hB)
 have G1' := hid (h1'.on hB)
 have G2 := hid (h2.on hB)
 have G2' := hid (h2'.on hB)
 have G3 := hid (h3.on hB)
 have G3' := hid (h3'.on hB)
 clear h1 h1' h2 h2' h3 h3' hb1 hr1 hb2 hr2 hB
 rw [← hW1] at HB H1 H2 G1 G1' G2 G2' G3 G3'
 rw [World.size_alloc] at H2
 clear hW1 hs1 W1
 go_enter Tryz.func13, Tryz.ntmps13
 go_wp2_with fail
 refine (eqStrs aP aP' cP cP' SP _ G1.out G1'.out).mono ?_
 rintro e w1 ⟨rfl, hB1⟩
 have HB1 : Hid (Below w.heap.size w w1) := HB.out.trans (hB1.mono HB.out.size)
 have K1 := hid (H1.out.on hB1)
 have K2 := hid (H2.out.on hB1)
 have G2 := hid (G2.out.on hB1)
 have G2' := hid (G2'.out.on hB1)
 have G3 := hid (G3.out.on hB1)
 have G3' := hid (G3'.out.on hB1)
 obtain ⟨⟨x0, x1, x2, x3, x4⟩, xf, xl⟩ := K1.out.cells
 obtain ⟨⟨y0, y1, y2, y3, y4⟩, yf, yl⟩ := K2.out.cells
 clear hB1 HB H1 H2 G1 G1'
 go_wp2_with fail
 refine (eqAnsL aK aK' cK cK' K w1 G2.out G2'.out).mono ?_
 rintro e w2 ⟨rfl, hB2⟩
 have HB2 : Hid (Below w.heap.size w w2) := HB1.out.trans (hB2.mono HB1.out.size)
 have J1 := hid (K1.out.on hB2)
 have J2 := hid (K2.out.on hB2)
 have G3 := hid (G3.out.on hB2)
 have G3' := hid (G3'.out.on hB2)
 clear x0 x1 x2 x3 x4 xf xl y0 y1 y2 y3 y4 yf yl hB2 HB1 K1 K2 G2 G2'
 obtain ⟨⟨x0, x1, x2, x3, x4⟩, xf, xl⟩ := J1.out.cells
 obtain ⟨⟨y0, y1, y2, y3, y4⟩, yf, yl⟩ := J2.out.cells
 go_wp2_with fail
 refine (eqStrs aB aB' cB cB' SB w2 G3.out G3'.out).mono ?_
 rintro e w3 ⟨rfl, hB3⟩
 have HB3 : Hid (Below w.heap.size w w3) := HB2.out.trans (hB3.mono HB2.out.size)
 have L1 := hid (J1.out.on hB3)
 have L2 := hid (J2.out.on hB3)
 clear x0 x1 x2 x3 x4 xf xl y0 y1 y2 y3 y4 yf yl hB3 HB2 J1 J2 G3 G3'
 obtain ⟨⟨x0, x1, x2, x3, x4⟩, xf, xl⟩ := L1.out.cells
 obtain ⟨⟨y0, y1, y2, y3, y4⟩, yf, yl⟩ := L2.out.cells
 go_wp2_with fail
 go_ret
 exact ⟨rfl, HB3.out⟩
theorem codes_keep {w w' : World} {a : Option Addr} {zs : List Int} (h : Codes w a zs) (hs : w.heap.size ≤ w'.heap.size) (hb : ∀ b o, a = some ⟨b, o, none⟩ → 0 < zs.length → w'.heap[b]? = w.heap[b]?) : Codes w' a zs := by
 refine ⟨h.1, fun hp => ?_⟩
 obtain ⟨b, o, ha, hl, hc⟩ := h.2 hp
 exact ⟨b, o, ha, Nat.lt_of_lt_of_le hl hs, fun i hi => by rw [World.cell?_of_block (w := w) (hb b o ha hp)]; exact hc i hi⟩
theorem free_keep {w w' : World} {a : Option Addr} {zs : List Int} (h : Free w a zs) (hs : w.heap.size ≤ w'.heap.size) (hb : ∀ b o, a = some ⟨b, o, none⟩ → 0 < zs.length → w'.heap[b]? = w.heap[b]?) : Free w' a zs := fun b o ha i hi => by
 obtain ⟨h1, h2⟩ := h b o ha i hi
 exact ⟨Nat.lt_of_lt_of_le h1 hs, by rw [World.frozen?_of_block (w := w) (hb b o ha (by omega))]; exact h2⟩
theorem mo_keep {k0 : Nat} {w w' : World} {S : Nat → Prop} {g n k : Nat} {len : Nat → Nat} {ads : Nat → Option Addr × Nat} (h : MoX k0 w S g n k len ads) (hk : k ≤ n) (hs : w.heap.size ≤ w'.heap.size) (hb : ∀ j, j < w.heap.size → S j → w'.heap[j]? = w.heap[j]?) : MoX k0 w' S g n k len ads := by
 obtain ⟨⟨a1, a2⟩, ⟨cs, hg, b2, b3, b4⟩, c, d, e, f⟩ := h
 refine ⟨⟨a1, fun j hj => Nat.lt_of_lt_of_le (a2 j hj) hs⟩, ⟨cs, by rw [hb g (a2 g a1) a1]; exact hg, b2, b3, b4⟩, fun i hi => codes_keep (c i hi) hs (fun b o ha hl => ?_), fun i h1 h2 => ?_, e, f⟩
 ·rw [RdL.marks_len] at hl
  exact hb b (a2 b (e i (by omega) b o ha hl).1) (e i (by omega) b o ha hl).1
 ·obtain ⟨zs, z1, z2, z3⟩ := d i h1 h2
  exact ⟨zs, z1, codes_keep z2 hs (fun b o ha hl => hb b (a2 b (e i h2 b o ha (by omega)).1) (e i h2 b o ha (by omega)).1), free_keep z3 hs (fun b o ha hl => hb b (a2 b (e i h2 b o ha (by omega)).1) (e i h2 b o ha (by omega)).1)⟩
theorem mb_keep {k0 : Nat} {w w' : World} {S : Nat → Prop} {a : Option Addr} {n k : Nat} {len : Nat → Nat} (h : MbX k0 w S a n k len) (hk : k ≤ n) (hs : w.heap.size ≤ w'.heap.size) (hb : ∀ j, j < w.heap.size → S j → w'.heap[j]? = w.heap[j]?) : MbX k0 w' S a n k len := fun hp => by
 obtain ⟨g, ads, ha, hM⟩ := h hp
 exact ⟨g, ads, ha, mo_keep hM hk hs hb⟩
theorem row_keep {w w' : World} {base k n : Nat} {e : TypeId} {v : Value} {xs : List Value} (h : w.ownsRow base e k v n xs) (hb : ∀ j, v.ownBlock = some j → w'.heap[j]? = w.heap[j]?) : w'.ownsRow base e k v n xs := by
 obtain ⟨h1, h2⟩ := h
 refine ⟨h1, ?_⟩
 rcases h2 with h2 | ⟨g, cap, cur, hv, hbg, hg, r⟩
 ·exact .inl h2
 ·exact .inr ⟨g, cap, cur, hv, hbg, by rw [hb g (by rw [hv]; rfl)]; exact hg, r⟩
def RoS (vP vB : Value) (S : Nat → Prop) (j : Nat) : Prop := vP.ownBlock = some j ∨ vB.ownBlock = some j ∨ S j
structure RoM (w : World) (b0 : Nat) (vP vB : Value) (aK : Option Addr) (nK cK : Nat) (S : Nat → Prop) (len : Nat → Nat) (SP SB : List (List UInt8)) (k0 k : Nat) : Prop where
 p : w.ownsRow b0 9 1 vP SP.length (strs SP)
 b : w.ownsRow b0 9 1 vB SB.length (strs SB)
 pb : ∀ j, vP.ownBlock = some j → vB.ownBlock ≠ some j
 ps : ∀ j, vP.ownBlock = some j → ¬ S j
 bs : ∀ j, vB.ownBlock = some j → ¬ S j
 sl : ∀ j, S j → j < w.heap.size
 m : MbX k0 w S aK nK k len
theorem RoM.on {w w' : World} {b0 : Nat} {vP vB : Value} {aK : Option Addr} {nK cK : Nat} {S : Nat → Prop} {len : Nat → Nat} {SP SB : List (List UInt8)} {k0 k : Nat} (h : RoM w b0 vP vB aK nK cK S len SP SB k0 k) (hB : Below w.heap.size w w') : RoM w' b0 vP vB aK nK cK S len SP SB k0 k :=
 ⟨own_below h.p hB, own_below h.b hB, h.pb, h.ps, h.bs, fun j hj => Nat.lt_of_lt_of_le (h.sl j hj) hB.size, h.m.on hB⟩
theorem within_row {w w' : World} {T : Nat → Prop} {r : Option Nat} (h : w.grownBy w' r) (hT : ∀ j, r = some j → T j) : WithinS w w' T := ⟨h.os, h.tape, h.output, h.size, fun j hj hn => h.block j hj (fun e => hn (hT j e.symm))⟩
theorem within_below {w w' : World} {T : Nat → Prop} (h : Below w.heap.size w w') : WithinS w w' T := ⟨h.os, h.tape, h.output, h.size, fun j hj _ => h.block j hj⟩
theorem within_sub {w w' : World} {S T : Nat → Prop} (h : WithinS w w' S) (hT : ∀ j, S j → T j) : WithinS w w' T := ⟨h.1, h.2.1, h.2.2.1, h.2.2.2.1, fun j hj hn => h.2.2.2.2 j hj (fun e => hn (hT j e))⟩
set_option maxRecDepth 10000 in
set_option maxHeartbeats 1600000 in
theorem mark_route (b0 : Nat) (vP vB : Value) (aK : Option Addr) (nK cK : Nat) (S : Nat → Prop) (len : Nat → Nat) (SP SB : List (List UInt8)) (c : ByteArray) (d : Bool) (w : World) (hlP : SP.length ≤ 1000) (hlB : SB.length ≤ 1000) (hn : nK ≤ 1000) (ht : tot len nK ≤ 1048576)
  (h : RoM w b0 vP vB aK nK cK S len SP SB (1 + SP.length) 0) :
  Calls Tryz.prog 18 #[.agg #[vP, .slice aK nK cK, vB, .string c, .bool d], .int .i64 1] w fun e w' => e = .returned (.int .i64 ((posX (1 + SP.length) len nK : Nat) + (SB.length : Int) : Int)) ∧ RoM w' b0 vP vB aK nK cK S len (marks 1 SP.length) (marks (posX (1 + SP.length) len nK) SB.length) (1 + SP.length) nK ∧ WithinS w w' (RoS vP vB S) := by
 have hb1 := ro_box w vP (.slice aK nK cK) vB c d
 have hr1 := ro_laid w vP (.slice aK nK cK) vB c d
 have HB := hid hb1
 have H1 := hid hr1
 have HH := hid h
 have hSz := hid (fun j (hj : vP.ownBlock = some j) => (h.p.lt j hj).2)
 have hSb := hid (fun j (hj : vB.ownBlock = some j) => (h.b.lt j hj).2)
 clear h hb1 hr1
 obtain ⟨W1, hW1⟩ : ∃ W, Hid (w.alloc (.cells #[vP, .slice aK nK cK, vB, .string c, .bool d] 29) = W) := ⟨_, rfl⟩
 obtain ⟨k1, hk1⟩ : ∃ k, 1 + SP.length = k := ⟨_, rfl⟩
 have hk1i : (1 : Int) + (SP.length : Int) = (k1 : Int) := by omega
 have h1k : 1 ≤ k1 := by omega
 have hk1b : k1 ≤ 80000000 := by omega
 obtain ⟨k2, hk2⟩ : ∃ k, posX k1 len nK = k := ⟨_, rfl⟩
 have h1k2 : 1 ≤ k2 := by rw [← hk2]; unfold posX; omega
 have hk2b : k2 ≤ 100000000 := by rw [← hk2]; unfold posX; omega
 rw [hk1, hk2]
 rw [hk1] at HH
 go_enter Tryz.func18, Tryz.ntmps18
 go_wp2_with fail
 refine (mark_strsX 1 (Nat.le_refl _) (by omega) b0 vP SP _ (own_below HH.out.p HB.out) (by omega)).mono ?_
 rw [hW1.out] at HB H1 ⊢
 rintro e w1 ⟨rfl, hP1, hg1⟩
 have hs01 : W1.heap.size = w.heap.size + 1 := by rw [← hW1.out]; simp
 have HP1 := hid hP1
 have HQ1 := hid (row_keep (own_below HH.out.b HB.out) (w' := w1) (fun j hj => hg1.block j (by have := hSb.out j hj; omega) (fun e => HH.out.pb j e.symm hj)))
 have HM1 := hid (mb_keep (HH.out.m.on HB.out) (Nat.zero_le _) hg1.size (fun j hj hS => hg1.block j hj (fun e => HH.out.ps j e.symm hS)))
 have HR1 : Hid (RoB w1 w.heap.size vP (.slice aK nK cK) vB c d) := by
  have h := hg1.block w.heap.size (by omega) (fun e => by have := hSz.out _ e.symm; omega)
  exact (show w1.heap[w.heap.size]? = _ from h.trans H1.out)
 have HW01 : Hid (WithinS w w1 (RoS vP vB S)) := (within_below HB.out).trans (within_row hg1 (fun j e => .inl e))
 have hs11 : w.heap.size + 1 ≤ w1.heap.size := by have := hg1.size; omega
 clear hP1 hg1 H1
 rw [show ((1 : Nat) : Int) + (SP.length : Int) = (k1 : Int) by omega]
 obtain ⟨⟨x0, x1, x2, x3, x4⟩, xf, xl⟩ := HR1.out.cells
 go_wp2_with fail
 refine (mark_listX k1 h1k hk1b S nK cK aK len w1 HM1.out (by omega) ht).mono ?_
 rintro e w2 ⟨rfl, hM2, hW2⟩
 rw [hk2]
 have HM2 := hid hM2
 have HP2 := hid (row_keep HP1.out (w' := w2) (fun j hj => hW2.2.2.2.2 j (HP1.out.lt j hj).2 (HH.out.ps j hj)))
 have HQ2 := hid (row_keep HQ1.out (w' := w2) (fun j hj => hW2.2.2.2.2 j (HQ1.out.lt j hj).2 (HH.out.bs j hj)))
 have HR2 : Hid (RoB w2 w.heap.size vP (.slice aK nK cK) vB c d) := by
  have h := hW2.2.2.2.2 w.heap.size (by omega) (fun e => by have := HH.out.sl _ e; omega)
  exact (show w2.heap[w.heap.size]? = _ from h.trans HR1.out)
 have HW02 : Hid (WithinS w w2 (RoS vP vB S)) := HW01.out.trans (within_sub hW2 (fun j e => .inr (.inr e)))
 clear hM2 hW2 HP1 HQ1 HM1 HR1 HW01 x0 x1 x2 x3 x4 xf xl
 obtain ⟨⟨x0, x1, x2, x3, x4⟩, xf, xl⟩ := HR2.out.cells
 go_wp2_with fail
 refine (mark_strsX k2 h1k2 hk2b b0 vB SB w2 HQ2.out (by omega)).mono ?_
 rintro e w3 ⟨rfl, hQ3, hg3⟩
 have HQ3 := hid hQ3
 have HP3 := hid (row_keep HP2.out (w' := w3) (fun j hj => hg3.block j (HP2.out.lt j hj).2 (fun e => HH.out.pb j hj e.symm)))
 have HM3 := hid (mb_keep HM2.out (Nat.le_refl _) hg3.size (fun j hj hS => hg3.block j hj (fun e => HH.out.bs j e.symm hS)))
 have HW03 : Hid (WithinS w w3 (RoS vP vB S)) := HW02.out.trans (within_row hg3 (fun j e => .inr (.inl e)))
 clear hQ3 hg3 HP2 HQ2 HM2 HR2 HW02 x0 x1 x2 x3 x4 xf xl
 go_wp2_with fail
 go_ret
 have hsz := HW03.out.2.2.2.1
 exact ⟨rfl, ⟨by rw [marks_len]; exact HP3.out, by rw [marks_len]; exact HQ3.out, HH.out.pb, HH.out.ps, HH.out.bs, fun j hj => Nat.lt_of_lt_of_le (HH.out.sl j hj) hsz, HM3.out⟩, HW03.out⟩
set_option maxRecDepth 10000 in
set_option maxHeartbeats 1600000 in
theorem held_route (b0 : Nat) (vP vB : Value) (aK : Option Addr) (nK cK np nb : Nat) (S : Nat → Prop) (len : Nat → Nat) (c : ByteArray) (d : Bool) (w : World) (hlP : np ≤ 1000) (hlB : nb ≤ 1000) (hn : nK ≤ 1000) (ht : tot len nK ≤ 1048576)
  (h : RoM w b0 vP vB aK nK cK S len (marks 1 np) (marks (posX (1 + np) len nK) nb) (1 + np) nK) :
  Calls Tryz.prog 19 #[.agg #[vP, .slice aK nK cK, vB, .string c, .bool d], .int .i64 1] w fun e w' => e = .returned (.int .i64 ((posX (1 + np) len nK : Nat) + (nb : Int) : Int)) ∧ Below w.heap.size w w' := by
 obtain ⟨k1, hk1⟩ : ∃ k, 1 + np = k := ⟨_, rfl⟩
 have hk1i : (1 : Int) + (np : Int) = (k1 : Int) := by omega
 have h1k : 1 ≤ k1 := by omega
 have hk1b : k1 ≤ 80000000 := by omega
 obtain ⟨k2, hk2⟩ : ∃ k, posX k1 len nK = k := ⟨_, rfl⟩
 have h1k2 : 1 ≤ k2 := by rw [← hk2]; unfold posX; omega
 have hk2b : k2 ≤ 100000000 := by rw [← hk2]; unfold posX; omega
 rw [hk1, hk2]
 rw [hk1, hk2] at h
 obtain ⟨aP, cP, hvP, hSP, -, -⟩ := strs_own (ss := marks 1 np) h.p (by rw [marks_len]; omega)
 obtain ⟨aB, cB, hvB, hSB, -, -⟩ := strs_own (ss := marks k2 nb) h.b (by rw [marks_len]; omega)
 rw [marks_len] at hvP hvB
 subst hvP hvB
 have HB := hid (ro_box w (.slice aP np cP) (.slice aK nK cK) (.slice aB nb cB) c d)
 have H1 := hid (ro_laid w (.slice aP np cP) (.slice aK nK cK) (.slice aB nb cB) c d)
 have HSP := hid (hSP.on HB.out)
 have HSB := hid (hSB.on HB.out)
 have HM := hid (h.m.on HB.out)
 clear h hSP hSB
 go_enter Tryz.func19, Tryz.ntmps19
 go_wp2_with fail
 refine (held_strsX 1 (Nat.le_refl _) (by omega) aP cP np _ HSP.out (by omega)).mono ?_
 rintro e w1 ⟨rfl, hB1⟩
 have HB1 : Hid (Below w.heap.size w w1) := HB.out.trans (hB1.mono HB.out.size)
 have H2 := hid (H1.out.on hB1)
 have HSB1 := hid (HSB.out.on hB1)
 have HM1 := hid (HM.out.on hB1)
 have hk1z : ¬ (k1 : Int) < 0 := by omega
 have hk2z : ¬ (k2 : Int) < 0 := by omega
 have hk3z : ¬ (k2 : Int) + (nb : Int) < 0 := by omega
 clear hB1 HB H1 HSB HM HSP
 rw [show ((1 : Nat) : Int) + (np : Int) = (k1 : Int) by omega]
 obtain ⟨⟨x0, x1, x2, x3, x4⟩, xf, xl⟩ := H2.out.cells
 go_wp2_with fail
 refine (held_listX k1 h1k hk1b S nK cK aK len w1 HM1.out (by omega) ht).mono ?_
 rintro e w2 ⟨rfl, hB2⟩
 rw [hk2]
 have HB2 : Hid (Below w.heap.size w w2) := HB1.out.trans (hB2.mono HB1.out.size)
 have H3 := hid (H2.out.on hB2)
 have HSB2 := hid (HSB1.out.on hB2)
 clear hB2 HB1 H2 HSB1 HM1 x0 x1 x2 x3 x4 xf xl
 obtain ⟨⟨x0, x1, x2, x3, x4⟩, xf, xl⟩ := H3.out.cells
 go_wp2_with fail
 refine (held_strsX k2 h1k2 hk2b aB cB nb w2 HSB2.out (by omega)).mono ?_
 rintro e w3 ⟨rfl, hB3⟩
 have HB3 : Hid (Below w.heap.size w w3) := HB2.out.trans (hB3.mono HB2.out.size)
 clear hB3 HB2 H3 HSB2 x0 x1 x2 x3 x4 xf xl
 go_wp2_with fail
 go_ret
 exact ⟨rfl, HB3.out⟩
end Go.Proofs.YtmbhmknfipdadaaGreatDoor.RteO
