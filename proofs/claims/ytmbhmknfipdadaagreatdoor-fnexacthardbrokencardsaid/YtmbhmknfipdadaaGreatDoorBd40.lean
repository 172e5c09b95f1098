/- Texts of ours, laid together. -/
import Derived.Test.YtmbhmknfipdadaaGreatDoorBd38
namespace Go.Proofs.YtmbhmknfipdadaaGreatDoor.AnsO
open Go.RowKit
open ValW RdS AnsW
open BookW (BkS)
open DrawV (TyI)
theorem bks_below {w W0 W : World} {B c : Nat} (hB : Below c w W0) (h : BkS W0 B W) (hl : c ≤ B) (hW : B ≤ W0.heap.size) : Below c w W :=
 ⟨h.1.os.trans hB.os, h.1.tape.trans hB.tape, h.1.output.trans hB.output, Nat.le_trans hB.size h.1.size, fun k hk => (h.1.block k (by omega) (fun e => by have := Option.some.inj e; omega)).trans (hB.block k hk)⟩
theorem bks_five {W0 W : World} {B g o : Nat} {p : An} {a : Option Addr} {c : Nat} (h : BkS W0 B W) (hF : Five W0 g o p a c) (hne : g ≠ B) (hl : g < W0.heap.size) : BkS W0 B W ∧ W.cell? ⟨g, o, none⟩ = some (.string (nm p)) ∧ W.cell? ⟨g, o + 1, none⟩ = some (.int .i64 (kd p)) ∧ W.cell? ⟨g, o + 2, none⟩ = some (.int .i64 (nu p)) ∧ W.cell? ⟨g, o + 3, none⟩ = some (.slice a (cd p).length c) ∧ W.cell? ⟨g, o + 4, none⟩ = some (.string (tx p)) := by
 have hb := h.1.block g hl (fun e => hne (Option.some.inj e))
 have hc : ∀ j, W.cell? ⟨g, j, none⟩ = W0.cell? ⟨g, j, none⟩ := fun j => World.cell?_of_block (w := W0) hb
 obtain ⟨h0, h1, h2, h3, h4⟩ := hF
 exact ⟨h, by rw [hc]; exact h0, by rw [hc]; exact h1, by rw [hc]; exact h2, by rw [hc]; exact h3, by rw [hc]; exact h4⟩
theorem news_one (W : World) (s : ByteArray) (x n : Int) (a : Option Addr) (zs : List Int) (cap : Nat) (t : ByteArray) : ∀ j u, (cellsA [((s, x, n, zs, t), (a, cap))])[j]? = some u → (W.alloc (.cells #[.string s, .int .i64 x, .int .i64 n, .slice a zs.length cap, .string t] 61)).cell? ((⟨W.heap.size, 0, none⟩ : Addr).add j) = some u := by
 intro j u hj
 match j, hj with
 | 0, hj => simp [cellsA, cells5] at hj; subst hj; simp [Addr.add, nm] <;> rfl
 | 1, hj => simp [cellsA, cells5] at hj; subst hj; simp [Addr.add, kd] <;> rfl
 | 2, hj => simp [cellsA, cells5] at hj; subst hj; simp [Addr.add, nu] <;> rfl
 | 3, hj => simp [cellsA, cells5] at hj; subst hj; simp [Addr.add, cd] <;> rfl
 | 4, hj => simp [cellsA, cells5] at hj; subst hj; simp [Addr.add, tx] <;> rfl
theorem take_next {ls : List An} {k : Nat} (h : k < ls.length) : ls.take (k + 1) = ls.take k ++ [ls.getD k an0] := by
 rw [List.take_add_one, List.getElem?_eq_getElem h, getD_at h]; rfl
set_option maxRecDepth 10000 in
set_option maxHeartbeats 6400000 in
theorem spec_copy (a : Option Addr) (cap : Nat) (ls : List An) (w : World) (hc : Ans w a ls) :
  Calls Tryz.prog 85 #[.slice a ls.length cap] w fun e w' => (∃ v qs, e = .returned v ∧ OwnR w' w.heap.size v qs ∧ qs.map Prod.fst = ls) ∧ Below w.heap.size w w' := by
 have HC : Hid (Ans w a ls) := hc
 have hl := hc.1
 clear hc
 obtain ⟨j0, hj0, hy0, hy1, hy2⟩ := info_parts Tryz.infoA
 go_enter Tryz.func85, Tryz.ntmps85
 go_wp2_with fail
 go_loopw [3, 4] (fun v i wr => ∃ (k g c : Nat) (qs : List Ax), k ≤ ls.length ∧ i = .int .i64 k ∧ v = .slice (some ⟨g, 0, none⟩) k c ∧ Hid (OwnR wr w.heap.size v qs) ∧ Hid (qs.map Prod.fst = ls.take k) ∧ qs.length = k ∧ Below w.heap.size w wr) (fun _ i _ => ls.length - (intOf i).toNat)
 case atStart => exact ⟨0, w.heap.size, 0, [], Nat.zero_le _, rfl, rfl, own_made w, rfl, rfl, (Below.refl _ _).alloc (Nat.le_refl _) _⟩
 case round =>
  obtain ⟨k, g, c, qs, hk, rfl, rfl, HO, HQ, hq, hbel⟩ := hrel
  by_cases hlt : k < ls.length
  ·obtain ⟨_, b, o, ai, ci, rfl, hb, hF0, hcd, hN⟩ := HC.out.atN (Below.refl _ _) hlt
   have hF := hF0.on hb hbel
   have hgl : b < wr.heap.size := Nat.lt_of_lt_of_le hb hbel.size
   obtain ⟨hwg, hgw⟩ := HO.out.1.lt g rfl
   have hgB : b ≠ g := by omega
   have HTk := hid (take_next hlt)
   generalize ls.getD k an0 = p at hF hcd HTk
   obtain ⟨s, x, n, zs, t⟩ := p
   dsimp only [nm, kd, nu, cd, tx] at hcd
   have HB : Hid (Below w.heap.size w wr) := hbel
   have HF := hid hF
   have HCd := hid hcd
   have HN := hid hN
   obtain ⟨c0, c1, c2, c3, c4⟩ := hF
   dsimp only [nm, kd, nu, cd, tx] at c0 c1 c2 c3 c4
   clear hF0 hcd hN
   go_upto_region 5 with fail
   have hS0 : BkS wr g wr.drew := ⟨⟨rfl, rfl, rfl, Nat.le_refl _, fun _ _ _ => rfl⟩, by show _ ≤ wr.heap.size; omega⟩
   have HO2 := hid (HO.out.on (Below.refl _ _).drew)
   clear HO c0 c1 c2 c3 c4
   have HO := HO2
   clear HO2
   refine wp_region_held_drew (S := (fun w' => BkS wr g w' ∧ w'.cell? ⟨b, o + k * 5, none⟩ = some (.string s) ∧ w'.cell? ⟨b, o + k * 5 + 1, none⟩ = some (.int .i64 x) ∧ w'.cell? ⟨b, o + k * 5 + 2, none⟩ = some (.int .i64 n) ∧ w'.cell? ⟨b, o + k * 5 + 3, none⟩ = some (.slice ai zs.length ci) ∧ w'.cell? ⟨b, o + k * 5 + 4, none⟩ = some (.string t))) (by kernel_rfl) ?_ (fun hHeld => ?_)
   ·(try dsimp only) <;> (first | exact bks_five hSn HF.out hgB hgl | exact bks_five hS0 HF.out hgB hgl)
   refine wpAnyH_take (i := 0) (oi := { dst := some 12, op := Go.Op.move (Go.Operand.tmp 3), type := 27, pos := "l05_eval.go:43", after := #[], guard := none }) (v := ?_) rfl (by kernel_rfl) (by kernel_rfl) (by kernel_rfl) (fun _ _ _ h => h) (Or.inl ⟨by rfl, ?yld1⟩) hHeld ?nxt1
   case yld1 => (intro w hSw; (try dsimp only at hSw); go_simp) <;> with_reducible rfl
   (try simp only [Act.put, List.setIfInBounds_toArray, List.set_cons_zero, List.set_cons_succ])
   refine wpAnyH_take (i := 1) (oi := { dst := some 13, op := Go.Op.move (Go.Operand.tmp 0), type := 27, pos := "l05_eval.go:43", after := #[], guard := none }) (v := ?_) rfl (by kernel_rfl) (by kernel_rfl) (by kernel_rfl) (fun _ _ _ h => h) (Or.inl ⟨by rfl, ?yld2⟩) hHeld ?nxt2
   case yld2 => (intro w hSw; (try dsimp only at hSw); go_simp) <;> with_reducible rfl
   (try simp only [Act.put, List.setIfInBounds_toArray, List.set_cons_zero, List.set_cons_succ])
   refine wpAnyH_take (i := 2) (oi := { dst := some 14, op := Go.Op.move (Go.Operand.tmp 4), type := 3, pos := "l05_eval.go:43", after := #[], guard := none }) (v := ?_) rfl (by kernel_rfl) (by kernel_rfl) (by kernel_rfl) (fun _ _ _ h => h) (Or.inl ⟨by rfl, ?yld3⟩) hHeld ?nxt3
   case yld3 => (intro w hSw; (try dsimp only at hSw); go_simp) <;> with_reducible rfl
   (try simp only [Act.put, List.setIfInBounds_toArray, List.set_cons_zero, List.set_cons_succ])
   refine wpAnyH_take (i := 3) (oi := { dst := some 15, op := Go.Op.indexAddr 27 (Go.Operand.tmp 13) (Go.Operand.tmp 14), type := 0, pos := "l05_eval.go:43", after := #[{ on := 1, ground := Go.Ground.data }, { on := 2, ground := Go.Ground.data }], guard := none }) (v := ?_) rfl (by kernel_rfl) (by kernel_rfl) (by kernel_rfl) (fun _ _ _ h => h) (Or.inl ⟨by rfl, ?yld4⟩) hHeld ?nxt4
   case yld4 => (intro w hSw; (try dsimp only at hSw); go_simp) <;> with_reducible rfl
   (try simp only [Act.put, List.setIfInBounds_toArray, List.set_cons_zero, List.set_cons_succ])
   refine wpAnyH_take (i := 4) (oi := { dst := some 16, op := Go.Op.fieldAddr 61 (Go.Operand.tmp 15) 0, type := 0, pos := "l05_eval.go:43", after := #[{ on := 3, ground := Go.Ground.data }], guard := none }) (v := ?_) rfl (by kernel_rfl) (by kernel_rfl) (by kernel_rfl) (fun _ _ _ h => h) (Or.inl ⟨by rfl, ?yld5⟩) hHeld ?nxt5
   case yld5 => (intro w hSw; (try dsimp only at hSw); go_simp) <;> with_reducible rfl
   (try simp only [Act.put, List.setIfInBounds_toArray, List.set_cons_zero, List.set_cons_succ])
   refine wpAnyH_take (i := 5) (oi := { dst := some 17, op := Go.Op.load 9 (Go.Operand.tmp 16), type := 9, pos := "l05_eval.go:43", after := #[{ on := 4, ground := Go.Ground.data }], guard := none }) (v := ?_) rfl (by kernel_rfl) (by kernel_rfl) (by kernel_rfl) (fun _ _ _ h => h) (Or.inl ⟨by rfl, ?yld6⟩) hHeld ?nxt6
   case yld6 => (intro w hSw; (try dsimp only at hSw); go_simp) <;> with_reducible rfl
   (try simp only [Act.put, List.setIfInBounds_toArray, List.set_cons_zero, List.set_cons_succ])
   refine wpAnyH_take (i := 6) (oi := { dst := some 18, op := Go.Op.move (Go.Operand.tmp 0), type := 27, pos := "l05_eval.go:43", after := #[], guard := none }) (v := ?_) rfl (by kernel_rfl) (by kernel_rfl) (by kernel_rfl) (fun _ _ _ h => h) (Or.inl ⟨by rfl, ?yld7⟩) hHeld ?nxt7
   case yld7 => (intro w hSw; (try dsimp only at hSw); go_simp) <;> with_reducible rfl
   (try simp only [Act.put, List.setIfInBounds_toArray, List.set_cons_zero, List.set_cons_succ])
   refine wpAnyH_take (i := 7) (oi := { dst := some 19, op := Go.Op.move (Go.Operand.tmp 4), type := 3, pos := "l05_eval.go:43", after := #[], guard := none }) (v := ?_) rfl (by kernel_rfl) (by kernel_rfl) (by kernel_rfl) (fun _ _ _ h => h) (Or.inl ⟨by rfl, ?yld8⟩) hHeld ?nxt8
   case yld8 => (intro w hSw; (try dsimp only at hSw); go_simp) <;> with_reducible rfl
   (try simp only [Act.put, List.setIfInBounds_toArray, List.set_cons_zero, List.set_cons_succ])
   refine wpAnyH_take (i := 8) (oi := { dst := some 20, op := Go.Op.indexAddr 27 (Go.Operand.tmp 18) (Go.Operand.tmp 19), type := 0, pos := "l05_eval.go:43", after := #[{ on := 6, ground := Go.Ground.data }, { on := 7, ground := Go.Ground.data }], guard := none }) (v := ?_) rfl (by kernel_rfl) (by kernel_rfl) (by kernel_rfl) (fun _ _ _ h => h) (Or.inl ⟨by rfl, ?yld9⟩) hHeld ?nxt9
   case yld9 => (intro w hSw; (try dsimp only at hSw); go_simp) <;> with_reducible rfl
   (try simp only [Act.put, List.setIfInBounds_toArray, List.set_cons_zero, List.set_cons_succ])
   refine wpAnyH_take (i := 9) (oi := { dst := some 21, op := Go.Op.fieldAddr 61 (Go.Operand.tmp 20) 1, type := 0, pos := "l05_eval.go:43", after := #[{ on := 8, ground := Go.Ground.data }], guard := none }) (v := ?_) rfl (by kernel_rfl) (by kernel_rfl) (by kernel_rfl) (fun _ _ _ h => h) (Or.inl ⟨by rfl, ?yld10⟩) hHeld ?nxt10
   case yld10 => (intro w hSw; (try dsimp only at hSw); go_simp) <;> with_reducible rfl
   (try simp only [Act.put, List.setIfInBounds_toArray, List.set_cons_zero, List.set_cons_succ])
   refine wpAnyH_take (i := 10) (oi := { dst := some 22, op := Go.Op.load 59 (Go.Operand.tmp 21), type := 59, pos := "l05_eval.go:43", after := #[{ on := 9, ground := Go.Ground.data }], guard := none }) (v := ?_) rfl (by kernel_rfl) (by kernel_rfl) (by kernel_rfl) (fun _ _ _ h => h) (Or.inl ⟨by rfl, ?yld11⟩) hHeld ?nxt11
   case yld11 => (intro w hSw; (try dsimp only at hSw); go_simp) <;> with_reducible rfl
   (try simp only [Act.put, List.setIfInBounds_toArray, List.set_cons_zero, List.set_cons_succ])
   refine wpAnyH_ready (rs := [11]) (by kernel_rfl) (by simp) ?_
   refine AllReadyH.cons (o := { dst := some 23, op := Go.Op.call { callee := Go.Callee.value (Go.Operand.func 86), args := #[Go.Operand.tmp 22], argTypes := #[59] }, type := 59, pos := "l05_eval.go:43", after := #[{ on := 10, ground := Go.Ground.data }], guard := none }) rfl (fun K hK => ?_) AllReadyH.nil
   go_simp
   go_at_call 86
   have hp := hHeld.1
   refine (DrawV.copy_typed x n ai ci zs t _ (HCd.out.on (bks_below HB.out hp hwg (Nat.le_of_lt hgw))) HN.out).mono ?_
   rintro e w' ⟨a', cap', rfl, hcd, _, hnc, hty, hB⟩
   have HV : Hid (CdT w' ((s, x, n, zs, t), (a', cap'))) := ⟨hcd, hty, hnc⟩
   have HO2 := hid (HO.out.on hB)
   clear HO
   have HO := HO2
   have hSn := hp.on hB
   clear hp hB hcd hty hnc HO2
   (try go_wp2_with fail)
   refine hK.out _ _ ?_ (fun hHeld2 => ?_)
   ·(try dsimp only) <;> (first | exact bks_five hSn HF.out hgB hgl | exact bks_five hS0 HF.out hgB hgl)
   clear hK K hHeld
   have hHeld := hHeld2
   clear hHeld2
   (try simp only [Act.put, List.setIfInBounds_toArray, List.set_cons_zero, List.set_cons_succ])
   refine wpAnyH_take (i := 12) (oi := { dst := some 24, op := Go.Op.build 61 #[(0, Go.Operand.tmp 17), (1, Go.Operand.tmp 23)], type := 61, pos := "l05_eval.go:43", after := #[{ on := 5, ground := Go.Ground.data }, { on := 11, ground := Go.Ground.data }], guard := none }) (v := ?_) rfl (by kernel_rfl) (by kernel_rfl) (by kernel_rfl) (fun _ _ _ h => h) (Or.inl ⟨by rfl, ?yld12⟩) hHeld ?nxt12
   case yld12 => (intro w hSw; (try dsimp only at hSw); go_simp) <;> with_reducible rfl
   (try simp only [Act.put, List.setIfInBounds_toArray, List.set_cons_zero, List.set_cons_succ])
   refine wpAnyH_ready (rs := [13]) (by kernel_rfl) (by simp) ?_
   refine AllReadyH.cons (o := { dst := some 25, op := Go.Op.buildSlice 27 1 #[(0, Go.Operand.tmp 24)], type := 27, pos := "l05_eval.go:43", after := #[{ on := 12, ground := Go.Ground.data }], guard := none }) rfl (fun K hK => ?_) AllReadyH.nil
   go_simp
   have hSn := hHeld.1.on ((Below.refl _ _).alloc (Nat.le_refl _) (.cells #[.string s, .int .i64 x, .int .i64 n, .slice a' zs.length cap', .string t] 61))
   have HO2 := hid (HO.out.on ((Below.refl _ _).alloc (Nat.le_refl _) (.cells #[.string s, .int .i64 x, .int .i64 n, .slice a' zs.length cap', .string t] 61)))
   have HV2 := hid (HV.out.on ((Below.refl _ _).alloc (Nat.le_refl _) (.cells #[.string s, .int .i64 x, .int .i64 n, .slice a' zs.length cap', .string t] 61)))
   clear HO HV
   have HO := HO2
   have HV := HV2
   clear HO2 HV2
   refine hK.out _ _ ?_ (fun hHeld2 => ?_)
   ·(try dsimp only) <;> (first | exact bks_five hSn HF.out hgB hgl | exact bks_five hS0 HF.out hgB hgl)
   clear hK K hHeld
   have hHeld := hHeld2
   clear hHeld2
   (try simp only [Act.put, List.setIfInBounds_toArray, List.set_cons_zero, List.set_cons_succ])
   refine wpAnyH_ready (rs := [14]) (by kernel_rfl) (by simp) ?_
   refine AllReadyH.cons (o := { dst := some 26, op := Go.Op.call { callee := Go.Callee.builtin Go.Builtin.append, args := #[Go.Operand.tmp 12, Go.Operand.tmp 25], argTypes := #[27, 27] }, type := 27, pos := "l05_eval.go:43", after := #[{ on := 0, ground := Go.Ground.data }, { on := 13, ground := Go.Ground.data }, { on := 11, ground := Go.Ground.chain }], guard := none }) rfl (fun K hK => ?_) AllReadyH.nil
   have hnw := news_one w' s x n a' zs cap' t
   have hbs := HO.out.1.lt g rfl
   refine wp_append_own _ _ _ 27 rfl w.heap.size 61 j0 (.agg #[.string ByteArray.empty, .int .i64 0, .int .i64 0, .slice none 0 0, .string ByteArray.empty]) 5 72 Tryz.underlying27 hj0 hy0 hy1 hy2 rfl (by decide) _ qs.length (cellsA qs) rfl HO.out.1 ⟨_, 0, none⟩ 1 1 (cellsA [((s, x, n, zs, t), (a', cap'))]) rfl rfl hnw (cellsA_one _) (by unfold maxLen; omega) (by omega) (by omega) ?_
   intro v2 w2 hown2 hg2 hnil2
   have HON := hid (HO.out.push (rs := [((s, x, n, zs, t), (a', cap'))]) (by simpa using HV.out) rfl hown2 hg2 (fun h => by have := (hnil2.1 h).1; cases this))
   have hSn := hHeld.1.grown hg2
   clear hown2 hg2 hnil2 hnw hbs
   refine hK.out _ _ ?_ (fun hHeld2 => ?_)
   ·(try dsimp only) <;> (first | exact bks_five hSn HF.out hgB hgl | exact bks_five hS0 HF.out hgB hgl)
   clear hK K hHeld
   have hHeld := hHeld2
   clear hHeld2
   (try simp only [Act.put, List.setIfInBounds_toArray, List.set_cons_zero, List.set_cons_succ])
   refine wpAnyH_take (i := 15) (oi := { dst := some 3, op := Go.Op.assign (Go.Operand.tmp 26), type := 27, pos := "l05_eval.go:43", after := #[{ on := 14, ground := Go.Ground.data }, { on := 14, ground := Go.Ground.chain }, { on := 0, ground := Go.Ground.phase }, { on := 1, ground := Go.Ground.phase }, { on := 2, ground := Go.Ground.phase }, { on := 3, ground := Go.Ground.phase }, { on := 4, ground := Go.Ground.phase }, { on := 5, ground := Go.Ground.phase }, { on := 6, ground := Go.Ground.phase }, { on := 7, ground := Go.Ground.phase }, { on := 8, ground := Go.Ground.phase }, { on := 9, ground := Go.Ground.phase }, { on := 10, ground := Go.Ground.phase }, { on := 11, ground := Go.Ground.phase }, { on := 12, ground := Go.Ground.phase }, { on := 13, ground := Go.Ground.phase }, { on := 14, ground := Go.Ground.phase }], guard := none }) (v := ?_) rfl (by kernel_rfl) (by kernel_rfl) (by kernel_rfl) (fun _ _ _ h => h) (Or.inl ⟨by rfl, ?yld13⟩) hHeld ?nxt13
   case yld13 => (intro w hSw; (try dsimp only at hSw); go_simp) <;> with_reducible rfl
   (try simp only [Act.put, List.setIfInBounds_toArray, List.set_cons_zero, List.set_cons_succ])
   refine wpAnyH_done (by kernel_rfl) ?_ _
   have HBL := hid (bks_below HB.out hHeld.1 hwg (Nat.le_of_lt hgw))
   obtain ⟨g2, c2, rfl⟩ := HON.out.2.2
   clear hHeld hS0 HF HO
   go_wp2_with fail
   refine ⟨⟨k + 1, g2, c2, _, by omega, by go_num, by simp [hq], HON, ?_, by simp [hq], HBL.out⟩, by simp [intOf]; omega⟩
   show _ = _
   rw [List.map_append, HQ.out, HTk.out]
   rfl
  ·obtain rfl : k = ls.length := by omega
   go_wp2_with fail
   go_ret
   exact ⟨⟨_, qs, rfl, HO.out, by rw [HQ.out, List.take_length]⟩, hbel⟩
open Go.RowKit
open ValW RdS AnsW
set_option maxRecDepth 10000 in
set_option maxHeartbeats 12800000 in
theorem spec_put (a : Option Addr) (cap : Nat) (ls : List An) (s : ByteArray) (x n : Int) (ai : Option Addr) (ci : Nat) (zs : List Int) (t : ByteArray) (w : World) (hc : Ans w a ls) (hcd : Codes w ai zs) (hN : ai = none → ci = 0) :
  Calls Tryz.prog 56 #[.slice a ls.length cap, .string s, av x n ai zs.length ci t] w fun e w' => (∃ v qs, e = .returned v ∧ OwnR w' w.heap.size v qs ∧ qs.map Prod.fst = putA ls (s, x, n, zs, t)) ∧ Below w.heap.size w w' := by
 have HC : Hid (Ans w a ls) := hc
 have hl := hc.1
 have HCd := hid hcd
 have HN := hid hN
 clear hc hcd hN
 obtain ⟨j0, hj0, hy0, hy1, hy2⟩ := info_parts Tryz.infoA
 go_enter Tryz.func56, Tryz.ntmps56
 go_wp2_with fail
 refine (spec_copy a cap ls _ (HC.out.alloc _)).mono ?_
 rintro e w1 ⟨⟨v1, qs, rfl, hO, hqs⟩, hB1⟩
 obtain ⟨g, c, rfl⟩ := hO.2.2
 have hlq : qs.length = ls.length := by rw [← hqs]; simp
 obtain ⟨_, hqc, hgb, hgl⟩ := hO.room
 have HB1 : Hid (Below w.heap.size w w1) := ((Below.refl _ _).alloc (Nat.le_refl _) _).trans (hB1.mono (by simp))
 have HX : Hid (w1.heap[w.heap.size]? = some (.cells #[.int .i64 x, .int .i64 n, .slice ai zs.length ci, .string t] 59 (0, 0))) := by
  show _ = _; rw [hB1.block _ (by simp)]; exact heap_alloc_new w _
 have hO' := hO.base (b := w.heap.size) (by simp)
 rw [hlq] at hO'
 have HO : Hid (OwnR w1 w.heap.size (.slice (some ⟨g, 0, none⟩) ls.length c) qs) := hO'
 have HQS := hid hqs
 have hgw : w.heap.size < g := by simp at hgb; omega
 have hws := HB1.out.size
 rw [hlq]
 clear hO hO' hB1 hqs hgb HC
 go_wp2_with fail
 go_loop [8] (fun i => ∃ k : Nat, k ≤ ls.length ∧ i = .int .i64 k ∧ Hid (∀ j, j < k → lessB (nm (ls.getD j an0)) s = true)) (fun i => ls.length - (intOf i).toNat)
 case atStart => exact ⟨0, Nat.zero_le _, rfl, fun _ h => absurd h (Nat.not_lt_zero _)⟩
 case round =>
  obtain ⟨k, hk, rfl, hall⟩ := hrel
  by_cases hlt : k < ls.length
  ·have c0 := (HO.out.five (i := k) (by omega)).1
   rw [fst_at HQS.out (by omega)] at c0
   cases hb : lessB (nm (ls.getD k an0)) s with
   | true =>
    have HNX : Hid (∀ j, j < k + 1 → lessB (nm (ls.getD j an0)) s = true) := fun j hj => by
     by_cases e : j = k
     ·rw [e]; exact hb
     ·exact hall.out j (by omega)
    generalize nm (ls.getD k an0) = u at c0 hb
    have hb1 : Op.bytesLess u.toList s.toList = true := hb
    clear hb hall
    go_wp2_with fail
    refine ⟨⟨k + 1, by omega, by go_num, HNX⟩, by simp [intOf]; omega⟩
   | false =>
    have HE : Hid (ahd ls s = k) := ahd_is hk hall.out (fun _ => hb)
    have hb1 : Op.bytesLess (nm (ls.getD k an0)).toList s.toList = false := hb
    clear hb hall
    by_cases he : nm (ls.getD k an0) = s
    ·have hb2 : ((nm (ls.getD k an0)).toList == s.toList) = true := by rw [he]; exact beq_self_eq_true _
     have HEq := hid he
     clear he
     generalize hu : nm (ls.getD k an0) = u at c0 hb1 hb2
     have HU := hid hu
     clear hu
     have hKl : k ≤ qs.length := by omega
     have HPS : Hid (putA ls (s, x, n, zs, t) = ls.take (k) ++ [(s, x, n, zs, t)] ++ ls.drop (k + 1)) := by
      show _ = _
      rw [putA_split]
      dsimp only [nm]
      rw [HE.out]
      rw [if_pos ⟨by omega, HEq.out⟩]
     clear HE
     have hTl : (qs.take (k)).length = k := by rw [List.length_take]; omega
     go_wp2_with (first | (at_builtin; refine wpList_append_own _ rfl _ _ 27 rfl w1.heap.size 61 j0 (.agg #[.string ByteArray.empty, .int .i64 0, .int .i64 0, .slice none 0 0, .string ByteArray.empty]) 5 72 Tryz.underlying27 hj0 hy0 hy1 hy2 rfl (by decide) _ 0 [] rfl ?xp0 ⟨g, 0, none⟩ (k) _ (cellsA (qs.take (k))) rfl ?xp1 ?xp2 ?xp3 ?xp4 ?xp5 ?xp6 ?_))
     (try case xp0 => exact (own_made w1).1)
     (try case xp1 => rw [cellsA_len, List.length_take]; omega)
     case xp2 => exact fun j v hj => HO.out.cells (take_cell hj)
     (try case xp3 => exact cellsA_one _)
     (try case xp4 => unfold maxLen; omega)
     (try case xp5 => omega)
     (try case xp6 => simp)
     intro v2 w2 hown2 hg2 hn2
     have hal := (Below.refl w1.heap.size w1).alloc (Nat.le_refl _) (.cells #[] 61)
     have hty2 : ∀ b, (some w1.heap.size : Option Nat) = some b → ∃ cs T fz, (w1.alloc (.cells #[] 61)).heap[b]? = some (.cells cs T fz) ∧ T ≠ 2 := fun b hb => by cases hb; exact ⟨_, _, _, heap_alloc_new w1 _, by decide⟩
     have hO2 := (own_made w1).push (rs := qs.take (k)) (fun q hq => (HO.out.2.1 q (List.mem_of_mem_take hq)).on hal) (n := k) hTl.symm (by simpa [show cellsA [] = [] from rfl] using hown2) hg2 hn2
     rw [List.nil_append] at hO2
     have hA2 : OwnR w2 w.heap.size (.slice (some ⟨g, 0, none⟩) ls.length c) qs := (HO.out.on hal).kept hg2 hty2 (fun b hb e => by have hb' : g = b := Option.some.inj hb; have e' : w1.heap.size = b := Option.some.inj e; omega)
     have hx2 : w2.heap[w.heap.size]? = some (.cells #[.int .i64 x, .int .i64 n, .slice ai zs.length ci, .string t] 59 (0, 0)) := by
      rw [hg2.block w.heap.size (by simp; omega) (fun e => by have := Option.some.inj e; simp at this; omega), hal.block _ (by omega)]; exact HX.out
     have HB2 : Hid (Below w.heap.size w w2) := (HB1.out.trans (hal.mono HB1.out.size)).grown hg2 (by have := HB1.out.size; simp; omega) (fun b hb => by cases hb; exact HB1.out.size)
     have hs2 : w1.heap.size ≤ w2.heap.size := by have := hg2.size; simp at this; omega
     obtain ⟨g2, c2, hv2⟩ := hO2.2.2
     rw [hTl] at hv2
     subst hv2
     have x0 : w2.cell? ⟨w.heap.size, 0, none⟩ = some (.int .i64 x) := by simp [World.cell?, hx2]
     have x1 : w2.cell? ⟨w.heap.size, 1, none⟩ = some (.int .i64 n) := by simp [World.cell?, hx2]
     have x2 : w2.cell? ⟨w.heap.size, 2, none⟩ = some (.slice ai zs.length ci) := by simp [World.cell?, hx2]
     have x3 : w2.cell? ⟨w.heap.size, 3, none⟩ = some (.string t) := by simp [World.cell?, hx2]
     have HO2 := hid hO2
     have HA2 := hid hA2
     clear hown2 hg2 hn2 hal hO2 hA2 hx2 hty2
     go_wp2_with fail
     refine (DrawV.copy_typed x n ai ci zs t _ (HCd.out.on HB2.out) HN.out).mono ?_
     rintro e w3 ⟨a', cap', rfl, hcd, _, hnc, hty, hB3⟩
     have HV : Hid (CdT w3 ((s, x, n, zs, t), (a', cap'))) := ⟨hcd, hty, hnc⟩
     have HO3 := hid (HO2.out.on hB3)
     have HA3 := hid (HA2.out.on hB3)
     have HB3 : Hid (Below w.heap.size w w3) := HB2.out.trans (hB3.mono HB2.out.size)
     have hs3 : w1.heap.size ≤ w3.heap.size := Nat.le_trans hs2 hB3.size
     have HW3 : Hid (w3.ownsRow w1.heap.size 61 5 (.slice (some ⟨g2, 0, none⟩) (k) c2) (k) (cellsA (qs.take (k)))) := by have := HO3.out.1; rw [hTl] at this; exact this
     clear hcd hty hnc hB3 HO2 HA2 HB2 x0 x1 x2 x3
     go_wp2_with (first | (at_builtin; refine wpList_append_own _ rfl _ _ 27 rfl w1.heap.size 61 j0 (.agg #[.string ByteArray.empty, .int .i64 0, .int .i64 0, .slice none 0 0, .string ByteArray.empty]) 5 72 Tryz.underlying27 hj0 hy0 hy1 hy2 rfl (by decide) _ (k) (cellsA (qs.take (k))) rfl (HW3.out.alloc _) ⟨w3.heap.size, 0, none⟩ 1 1 (cellsA [((s, x, n, zs, t), (a', cap'))]) rfl rfl ?yp2 ?yp3 ?yp4 ?yp5 ?yp6 ?_))
     (try case yp2 => exact news_one w3 s x n a' zs cap' t)
     (try case yp3 => exact cellsA_one _)
     (try case yp4 => unfold maxLen; omega)
     (try case yp5 => omega)
     (try case yp6 => simp; omega)
     intro v4 w4 hown4 hg4 hn4
     have hal := (Below.refl w3.heap.size w3).alloc (Nat.le_refl _) (.cells #[.string s, .int .i64 x, .int .i64 n, .slice a' zs.length cap', .string t] 61)
     have hO3' := HO3.out.on hal
     have hg2b := hO3'.room
     have hO4 := hO3'.push (rs := [((s, x, n, zs, t), (a', cap'))]) (fun q hq => by rw [List.mem_singleton.1 hq]; exact HV.out.on hal) (n := 1) rfl (by rw [hTl]; exact hown4) hg4 hn4
     have HA4 : Hid (OwnR w4 w.heap.size (.slice (some ⟨g, 0, none⟩) ls.length c) qs) := (HA3.out.on hal).kept hg4 hO3'.block (fun b hb e => by have hb' : g = b := Option.some.inj hb; have e' : g2 = b := Option.some.inj e; omega)
     have HB4 : Hid (Below w.heap.size w w4) := (HB3.out.trans (hal.mono HB3.out.size)).grown hg4 (by have := HB3.out.size; simp; omega) (fun b hb => by have hb' : g2 = b := Option.some.inj hb; have := HB1.out.size; omega)
     have HS4 : Hid (w1.heap.size ≤ w4.heap.size) := by have := hg4.size; simp at this; show _ ≤ _; omega
     have HO4 := hid hO4
     have HL4 : Hid ((qs.take (k) ++ [(((s, x, n, zs, t), (a', cap')) : Ax)]).length = (k) + 1) := by show _ = _; rw [List.length_append, hTl]; rfl
     obtain ⟨g4, c4, hv4⟩ := hO4.2.2
     rw [HL4.out] at hv4
     subst hv4
     have HW4 : Hid (w4.ownsRow w1.heap.size 61 5 (.slice (some ⟨g4, 0, none⟩) ((k) + 1) c4) ((k) + 1) (cellsA (qs.take (k) ++ [((s, x, n, zs, t), (a', cap'))]))) := by have := HO4.out.1; rw [HL4.out] at this; exact this
     have c0 := (HA4.out.five (i := k) (by omega)).1
     rw [fst_at HQS.out (by omega), HU.out] at c0
     clear hown4 hg4 hn4 hal hO3' hO4 hg2b HV HO3 HA3 HB3 HW3 hs2 hs3 hTl
     by_cases hck : c = k + 1
     ·have HCK := hid hck
      go_wp2_with (first | (at_builtin; refine wpList_append_own _ rfl _ _ 27 rfl w1.heap.size 61 j0 (.agg #[.string ByteArray.empty, .int .i64 0, .int .i64 0, .slice none 0 0, .string ByteArray.empty]) 5 72 Tryz.underlying27 hj0 hy0 hy1 hy2 rfl (by decide) _ ((k) + 1) (cellsA (qs.take (k) ++ [((s, x, n, zs, t), (a', cap'))])) rfl HW4.out ⟨g, 0, none⟩ _ _ (cellsA (qs.drop (k + 1))) rfl ?zpe1 ?zpe2 ?zpe3 ?zpe4 ?zpe5 ?zpe6 ?_))
      (try case zpe1 => first | (rw [cellsA_len, List.length_drop, hlq]; done) | (rw [cellsA_len, List.length_drop, hlq]; omega))
      (try case zpe2 => intro j v hj; rw [List.drop_of_length_le (by omega)] at hj; simp [cellsA] at hj)
      (try case zpe3 => exact cellsA_one _)
      (try case zpe4 => unfold maxLen; omega)
      (try case zpe5 => omega)
      (try case zpe6 => exact HS4.out)
      intro v5 w5 hown5 hg5 hn5
      have hO5 := HO4.out.push (rs := qs.drop (k + 1)) (fun q hq => HA4.out.2.1 q (List.mem_of_mem_drop hq)) (n := ls.length - (k + 1)) (by rw [List.length_drop, hlq]; skip) (by rw [HL4.out]; exact hown5) hg5 hn5
      have HB5 : Hid (Below w.heap.size w w5) := HB4.out.grown hg5 HB4.out.size (fun b hb => by have := (HW4.out.lt b hb).1; have := HB1.out.size; omega)
      have HO5 := hid (hO5.base HB1.out.size)
      clear hO5 hown5 hg5 hn5
      obtain ⟨g5, c5, rfl⟩ := HO5.out.2.2
      go_wp2_with fail
      go_ret
      refine ⟨⟨_, _, rfl, HO5.out, ?_⟩, HB5.out⟩
      rw [List.map_append, List.map_append, List.map_take, List.map_drop, HQS.out]
      exact HPS.out.symm
     ·have hck2 : ¬ (c : Int) = ((k + 1 : Nat) : Int) := by omega
      go_wp2_with (first | (at_builtin; refine wpList_append_own _ rfl _ _ 27 rfl w1.heap.size 61 j0 (.agg #[.string ByteArray.empty, .int .i64 0, .int .i64 0, .slice none 0 0, .string ByteArray.empty]) 5 72 Tryz.underlying27 hj0 hy0 hy1 hy2 rfl (by decide) _ ((k) + 1) (cellsA (qs.take (k) ++ [((s, x, n, zs, t), (a', cap'))])) rfl HW4.out ⟨g, (k + 1) * 5, none⟩ _ _ (cellsA (qs.drop (k + 1))) rfl ?zpn1 ?zpn2 ?zpn3 ?zpn4 ?zpn5 ?zpn6 ?_))
      (try case zpn1 => first | (rw [cellsA_len, List.length_drop, hlq]; done) | (rw [cellsA_len, List.length_drop, hlq]; omega))
      (try case zpn2 => exact fun j v hj => by rw [addr_plain]; exact HA4.out.cells (drop_cell hj))
      (try case zpn3 => exact cellsA_one _)
      (try case zpn4 => unfold maxLen; omega)
      (try case zpn5 => omega)
      (try case zpn6 => exact HS4.out)
      intro v5 w5 hown5 hg5 hn5
      have hO5 := HO4.out.push (rs := qs.drop (k + 1)) (fun q hq => HA4.out.2.1 q (List.mem_of_mem_drop hq)) (n := ls.length - (k + 1)) (by rw [List.length_drop, hlq]; skip) (by rw [HL4.out]; exact hown5) hg5 hn5
      have HB5 : Hid (Below w.heap.size w w5) := HB4.out.grown hg5 HB4.out.size (fun b hb => by have := (HW4.out.lt b hb).1; have := HB1.out.size; omega)
      have HO5 := hid (hO5.base HB1.out.size)
      clear hO5 hown5 hg5 hn5
      obtain ⟨g5, c5, rfl⟩ := HO5.out.2.2
      go_wp2_with fail
      go_ret
      refine ⟨⟨_, _, rfl, HO5.out, ?_⟩, HB5.out⟩
      rw [List.map_append, List.map_append, List.map_take, List.map_drop, HQS.out]
      exact HPS.out.symm
    ·have hb2 : ((nm (ls.getD k an0)).toList == s.toList) = false := by
      rw [beq_eq_false_iff_ne]
      intro h
      exact he (bytes_eq h)
     have HEq := hid he
     clear he
     generalize hu : nm (ls.getD k an0) = u at c0 hb1 hb2
     have HU := hid hu
     clear hu
     have hKl : k ≤ qs.length := by omega
     have HPS : Hid (putA ls (s, x, n, zs, t) = ls.take (k) ++ [(s, x, n, zs, t)] ++ ls.drop (k)) := by
      show _ = _
      rw [putA_split]
      dsimp only [nm]
      rw [HE.out]
      rw [if_neg (fun h => HEq.out h.2)]; rfl
     clear HE
     have hTl : (qs.take (k)).length = k := by rw [List.length_take]; omega
     go_wp2_with (first | (at_builtin; refine wpList_append_own _ rfl _ _ 27 rfl w1.heap.size 61 j0 (.agg #[.string ByteArray.empty, .int .i64 0, .int .i64 0, .slice none 0 0, .string ByteArray.empty]) 5 72 Tryz.underlying27 hj0 hy0 hy1 hy2 rfl (by decide) _ 0 [] rfl ?xq0 ⟨g, 0, none⟩ (k) _ (cellsA (qs.take (k))) rfl ?xq1 ?xq2 ?xq3 ?xq4 ?xq5 ?xq6 ?_))
     (try case xq0 => exact (own_made w1).1)
     (try case xq1 => rw [cellsA_len, List.length_take]; omega)
     case xq2 => exact fun j v hj => HO.out.cells (take_cell hj)
     (try case xq3 => exact cellsA_one _)
     (try case xq4 => unfold maxLen; omega)
     (try case xq5 => omega)
     (try case xq6 => simp)
     intro v2 w2 hown2 hg2 hn2
     have hal := (Below.refl w1.heap.size w1).alloc (Nat.le_refl _) (.cells #[] 61)
     have hty2 : ∀ b, (some w1.heap.size : Option Nat) = some b → ∃ cs T fz, (w1.alloc (.cells #[] 61)).heap[b]? = some (.cells cs T fz) ∧ T ≠ 2 := fun b hb => by cases hb; exact ⟨_, _, _, heap_alloc_new w1 _, by decide⟩
     have hO2 := (own_made w1).push (rs := qs.take (k)) (fun q hq => (HO.out.2.1 q (List.mem_of_mem_take hq)).on hal) (n := k) hTl.symm (by simpa [show cellsA [] = [] from rfl] using hown2) hg2 hn2
     rw [List.nil_append] at hO2
     have hA2 : OwnR w2 w.heap.size (.slice (some ⟨g, 0, none⟩) ls.length c) qs := (HO.out.on hal).kept hg2 hty2 (fun b hb e => by have hb' : g = b := Option.some.inj hb; have e' : w1.heap.size = b := Option.some.inj e; omega)
     have hx2 : w2.heap[w.heap.size]? = some (.cells #[.int .i64 x, .int .i64 n, .slice ai zs.length ci, .string t] 59 (0, 0)) := by
      rw [hg2.block w.heap.size (by simp; omega) (fun e => by have := Option.some.inj e; simp at this; omega), hal.block _ (by omega)]; exact HX.out
     have HB2 : Hid (Below w.heap.size w w2) := (HB1.out.trans (hal.mono HB1.out.size)).grown hg2 (by have := HB1.out.size; simp; omega) (fun b hb => by cases hb; exact HB1.out.size)
     have hs2 : w1.heap.size ≤ w2.heap.size := by have := hg2.size; simp at this; omega
     obtain ⟨g2, c2, hv2⟩ := hO2.2.2
     rw [hTl] at hv2
     subst hv2
     have x0 : w2.cell? ⟨w.heap.size, 0, none⟩ = some (.int .i64 x) := by simp [World.cell?, hx2]
     have x1 : w2.cell? ⟨w.heap.size, 1, none⟩ = some (.int .i64 n) := by simp [World.cell?, hx2]
     have x2 : w2.cell? ⟨w.heap.size, 2, none⟩ = some (.slice ai zs.length ci) := by simp [World.cell?, hx2]
     have x3 : w2.cell? ⟨w.heap.size, 3, none⟩ = some (.string t) := by simp [World.cell?, hx2]
     have HO2 := hid hO2
     have HA2 := hid hA2
     clear hown2 hg2 hn2 hal hO2 hA2 hx2 hty2
     go_wp2_with fail
     refine (DrawV.copy_typed x n ai ci zs t _ (HCd.out.on HB2.out) HN.out).mono ?_
     rintro e w3 ⟨a', cap', rfl, hcd, _, hnc, hty, hB3⟩
     have HV : Hid (CdT w3 ((s, x, n, zs, t), (a', cap'))) := ⟨hcd, hty, hnc⟩
     have HO3 := hid (HO2.out.on hB3)
     have HA3 := hid (HA2.out.on hB3)
     have HB3 : Hid (Below w.heap.size w w3) := HB2.out.trans (hB3.mono HB2.out.size)
     have hs3 : w1.heap.size ≤ w3.heap.size := Nat.le_trans hs2 hB3.size
     have HW3 : Hid (w3.ownsRow w1.heap.size 61 5 (.slice (some ⟨g2, 0, none⟩) (k) c2) (k) (cellsA (qs.take (k)))) := by have := HO3.out.1; rw [hTl] at this; exact this
     clear hcd hty hnc hB3 HO2 HA2 HB2 x0 x1 x2 x3
     go_wp2_with (first | (at_builtin; refine wpList_append_own _ rfl _ _ 27 rfl w1.heap.size 61 j0 (.agg #[.string ByteArray.empty, .int .i64 0, .int .i64 0, .slice none 0 0, .string ByteArray.empty]) 5 72 Tryz.underlying27 hj0 hy0 hy1 hy2 rfl (by decide) _ (k) (cellsA (qs.take (k))) rfl (HW3.out.alloc _) ⟨w3.heap.size, 0, none⟩ 1 1 (cellsA [((s, x, n, zs, t), (a', cap'))]) rfl rfl ?yq2 ?yq3 ?yq4 ?yq5 ?yq6 ?_))
     (try case yq2 => exact news_one w3 s x n a' zs cap' t)
     (try case yq3 => exact cellsA_one _)
     (try case yq4 => unfold maxLen; omega)
     (try case yq5 => omega)
     (try case yq6 => simp; omega)
     intro v4 w4 hown4 hg4 hn4
     have hal := (Below.refl w3.heap.size w3).alloc (Nat.le_refl _) (.cells #[.string s, .int .i64 x, .int .i64 n, .slice a' zs.length cap', .string t] 61)
     have hO3' := HO3.out.on hal
     have hg2b := hO3'.room
     have hO4 := hO3'.push (rs := [((s, x, n, zs, t), (a', cap'))]) (fun q hq => by rw [List.mem_singleton.1 hq]; exact HV.out.on hal) (n := 1) rfl (by rw [hTl]; exact hown4) hg4 hn4
     have HA4 : Hid (OwnR w4 w.heap.size (.slice (some ⟨g, 0, none⟩) ls.length c) qs) := (HA3.out.on hal).kept hg4 hO3'.block (fun b hb e => by have hb' : g = b := Option.some.inj hb; have e' : g2 = b := Option.some.inj e; omega)
     have HB4 : Hid (Below w.heap.size w w4) := (HB3.out.trans (hal.mono HB3.out.size)).grown hg4 (by have := HB3.out.size; simp; omega) (fun b hb => by have hb' : g2 = b := Option.some.inj hb; have := HB1.out.size; omega)
     have HS4 : Hid (w1.heap.size ≤ w4.heap.size) := by have := hg4.size; simp at this; show _ ≤ _; omega
     have HO4 := hid hO4
     have HL4 : Hid ((qs.take (k) ++ [(((s, x, n, zs, t), (a', cap')) : Ax)]).length = (k) + 1) := by show _ = _; rw [List.length_append, hTl]; rfl
     obtain ⟨g4, c4, hv4⟩ := hO4.2.2
     rw [HL4.out] at hv4
     subst hv4
     have HW4 : Hid (w4.ownsRow w1.heap.size 61 5 (.slice (some ⟨g4, 0, none⟩) ((k) + 1) c4) ((k) + 1) (cellsA (qs.take (k) ++ [((s, x, n, zs, t), (a', cap'))]))) := by have := HO4.out.1; rw [HL4.out] at this; exact this
     have c0 := (HA4.out.five (i := k) (by omega)).1
     rw [fst_at HQS.out (by omega), HU.out] at c0
     clear hown4 hg4 hn4 hal hO3' hO4 hg2b HV HO3 HA3 HB3 HW3 hs2 hs3 hTl
     by_cases hck : c = k
     ·have HCK := hid hck
      exact absurd hck (by omega)
     ·have hck2 : ¬ (c : Int) = ((k : Nat) : Int) := by omega
      go_wp2_with (first | (at_builtin; refine wpList_append_own _ rfl _ _ 27 rfl w1.heap.size 61 j0 (.agg #[.string ByteArray.empty, .int .i64 0, .int .i64 0, .slice none 0 0, .string ByteArray.empty]) 5 72 Tryz.underlying27 hj0 hy0 hy1 hy2 rfl (by decide) _ ((k) + 1) (cellsA (qs.take (k) ++ [((s, x, n, zs, t), (a', cap'))])) rfl HW4.out ⟨g, (k) * 5, none⟩ _ _ (cellsA (qs.drop (k))) rfl ?zqn1 ?zqn2 ?zqn3 ?zqn4 ?zqn5 ?zqn6 ?_))
      (try case zqn1 => first | (rw [cellsA_len, List.length_drop, hlq]; done) | (rw [cellsA_len, List.length_drop, hlq]; omega))
      (try case zqn2 => exact fun j v hj => by rw [addr_plain]; exact HA4.out.cells (drop_cell hj))
      (try case zqn3 => exact cellsA_one _)
      (try case zqn4 => unfold maxLen; omega)
      (try case zqn5 => omega)
      (try case zqn6 => exact HS4.out)
      intro v5 w5 hown5 hg5 hn5
      have hO5 := HO4.out.push (rs := qs.drop (k)) (fun q hq => HA4.out.2.1 q (List.mem_of_mem_drop hq)) (n := ls.length - (k)) (by rw [List.length_drop, hlq]; skip) (by rw [HL4.out]; exact hown5) hg5 hn5
      have HB5 : Hid (Below w.heap.size w w5) := HB4.out.grown hg5 HB4.out.size (fun b hb => by have := (HW4.out.lt b hb).1; have := HB1.out.size; omega)
      have HO5 := hid (hO5.base HB1.out.size)
      clear hO5 hown5 hg5 hn5
      obtain ⟨g5, c5, rfl⟩ := HO5.out.2.2
      go_wp2_with fail
      go_ret
      refine ⟨⟨_, _, rfl, HO5.out, ?_⟩, HB5.out⟩
      rw [List.map_append, List.map_append, List.map_take, List.map_drop, HQS.out]
      exact HPS.out.symm
  ·obtain rfl : k = ls.length := by omega
   have HE : Hid (ahd ls s = ls.length) := ahd_is hk hall.out (fun h => absurd h (Nat.lt_irrefl _))
   clear hall
   have hKl : ls.length ≤ qs.length := by omega
   have HPS : Hid (putA ls (s, x, n, zs, t) = ls.take (ls.length) ++ [(s, x, n, zs, t)] ++ ls.drop (ls.length)) := by
    show _ = _
    rw [putA_split]
    dsimp only [nm]
    rw [HE.out]
    rw [if_neg (fun h => absurd h.1 (Nat.lt_irrefl _))]; rfl
   clear HE
   have hTl : (qs.take (ls.length)).length = ls.length := by rw [List.length_take]; omega
   go_wp2_with (first | (at_builtin; refine wpList_append_own _ rfl _ _ 27 rfl w1.heap.size 61 j0 (.agg #[.string ByteArray.empty, .int .i64 0, .int .i64 0, .slice none 0 0, .string ByteArray.empty]) 5 72 Tryz.underlying27 hj0 hy0 hy1 hy2 rfl (by decide) _ 0 [] rfl ?xr0 ⟨g, 0, none⟩ (ls.length) _ (cellsA (qs.take (ls.length))) rfl ?xr1 ?xr2 ?xr3 ?xr4 ?xr5 ?xr6 ?_))
   (try case xr0 => exact (own_made w1).1)
   (try case xr1 => rw [cellsA_len, List.length_take]; omega)
   case xr2 => exact fun j v hj => HO.out.cells (take_cell hj)
   (try case xr3 => exact cellsA_one _)
   (try case xr4 => unfold maxLen; omega)
   (try case xr5 => omega)
   (try case xr6 => simp)
   intro v2 w2 hown2 hg2 hn2
   have hal := (Below.refl w1.heap.size w1).alloc (Nat.le_refl _) (.cells #[] 61)
   have hty2 : ∀ b, (some w1.heap.size : Option Nat) = some b → ∃ cs T fz, (w1.alloc (.cells #[] 61)).heap[b]? = some (.cells cs T fz) ∧ T ≠ 2 := fun b hb => by cases hb; exact ⟨_, _, _, heap_alloc_new w1 _, by decide⟩
   have hO2 := (own_made w1).push (rs := qs.take (ls.length)) (fun q hq => (HO.out.2.1 q (List.mem_of_mem_take hq)).on hal) (n := ls.length) hTl.symm (by simpa [show cellsA [] = [] from rfl] using hown2) hg2 hn2
   rw [List.nil_append] at hO2
   have hA2 : OwnR w2 w.heap.size (.slice (some ⟨g, 0, none⟩) ls.length c) qs := (HO.out.on hal).kept hg2 hty2 (fun b hb e => by have hb' : g = b := Option.some.inj hb; have e' : w1.heap.size = b := Option.some.inj e; omega)
   have hx2 : w2.heap[w.heap.size]? = some (.cells #[.int .i64 x, .int .i64 n, .slice ai zs.length ci, .string t] 59 (0, 0)) := by
    rw [hg2.block w.heap.size (by simp; omega) (fun e => by have := Option.some.inj e; simp at this; omega), hal.block _ (by omega)]; exact HX.out
   have HB2 : Hid (Below w.heap.size w w2) := (HB1.out.trans (hal.mono HB1.out.size)).grown hg2 (by have := HB1.out.size; simp; omega) (fun b hb => by cases hb; exact HB1.out.size)
   have hs2 : w1.heap.size ≤ w2.heap.size := by have := hg2.size; simp at this; omega
   obtain ⟨g2, c2, hv2⟩ := hO2.2.2
   rw [hTl] at hv2
   subst hv2
   have x0 : w2.cell? ⟨w.heap.size, 0, none⟩ = some (.int .i64 x) := by simp [World.cell?, hx2]
   have x1 : w2.cell? ⟨w.heap.size, 1, none⟩ = some (.int .i64 n) := by simp [World.cell?, hx2]
   have x2 : w2.cell? ⟨w.heap.size, 2, none⟩ = some (.slice ai zs.length ci) := by simp [World.cell?, hx2]
   have x3 : w2.cell? ⟨w.heap.size, 3, none⟩ = some (.string t) := by simp [World.cell?, hx2]
   have HO2 := hid hO2
   have HA2 := hid hA2
   clear hown2 hg2 hn2 hal hO2 hA2 hx2 hty2
   go_wp2_with fail
   refine (DrawV.copy_typed x n ai ci zs t _ (HCd.out.on HB2.out) HN.out).mono ?_
   rintro e w3 ⟨a', cap', rfl, hcd, _, hnc, hty, hB3⟩
   have HV : Hid (CdT w3 ((s, x, n, zs, t), (a', cap'))) := ⟨hcd, hty, hnc⟩
   have HO3 := hid (HO2.out.on hB3)
   have HA3 := hid (HA2.out.on hB3)
   have HB3 : Hid (Below w.heap.size w w3) := HB2.out.trans (hB3.mono HB2.out.size)
   have hs3 : w1.heap.size ≤ w3.heap.size := Nat.le_trans hs2 hB3.size
   have HW3 : Hid (w3.ownsRow w1.heap.size 61 5 (.slice (some ⟨g2, 0, none⟩) (ls.length) c2) (ls.length) (cellsA (qs.take (ls.length)))) := by have := HO3.out.1; rw [hTl] at this; exact this
   clear hcd hty hnc hB3 HO2 HA2 HB2 x0 x1 x2 x3
   go_wp2_with (first | (at_builtin; refine wpList_append_own _ rfl _ _ 27 rfl w1.heap.size 61 j0 (.agg #[.string ByteArray.empty, .int .i64 0, .int .i64 0, .slice none 0 0, .string ByteArray.empty]) 5 72 Tryz.underlying27 hj0 hy0 hy1 hy2 rfl (by decide) _ (ls.length) (cellsA (qs.take (ls.length))) rfl (HW3.out.alloc _) ⟨w3.heap.size, 0, none⟩ 1 1 (cellsA [((s, x, n, zs, t), (a', cap'))]) rfl rfl ?yr2 ?yr3 ?yr4 ?yr5 ?yr6 ?_))
   (try case yr2 => exact news_one w3 s x n a' zs cap' t)
   (try case yr3 => exact cellsA_one _)
   (try case yr4 => unfold maxLen; omega)
   (try case yr5 => omega)
   (try case yr6 => simp; omega)
   intro v4 w4 hown4 hg4 hn4
   have hal := (Below.refl w3.heap.size w3).alloc (Nat.le_refl _) (.cells #[.string s, .int .i64 x, .int .i64 n, .slice a' zs.length cap', .string t] 61)
   have hO3' := HO3.out.on hal
   have hg2b := hO3'.room
   have hO4 := hO3'.push (rs := [((s, x, n, zs, t), (a', cap'))]) (fun q hq => by rw [List.mem_singleton.1 hq]; exact HV.out.on hal) (n := 1) rfl (by rw [hTl]; exact hown4) hg4 hn4
   have HA4 : Hid (OwnR w4 w.heap.size (.slice (some ⟨g, 0, none⟩) ls.length c) qs) := (HA3.out.on hal).kept hg4 hO3'.block (fun b hb e => by have hb' : g = b := Option.some.inj hb; have e' : g2 = b := Option.some.inj e; omega)
   have HB4 : Hid (Below w.heap.size w w4) := (HB3.out.trans (hal.mono HB3.out.size)).grown hg4 (by have := HB3.out.size; simp; omega) (fun b hb => by have hb' : g2 = b := Option.some.inj hb; have := HB1.out.size; omega)
   have HS4 : Hid (w1.heap.size ≤ w4.heap.size) := by have := hg4.size; simp at this; show _ ≤ _; omega
   have HO4 := hid hO4
   have HL4 : Hid ((qs.take (ls.length) ++ [(((s, x, n, zs, t), (a', cap')) : Ax)]).length = (ls.length) + 1) := by show _ = _; rw [List.length_append, hTl]; rfl
   obtain ⟨g4, c4, hv4⟩ := hO4.2.2
   rw [HL4.out] at hv4
   subst hv4
   have HW4 : Hid (w4.ownsRow w1.heap.size 61 5 (.slice (some ⟨g4, 0, none⟩) ((ls.length) + 1) c4) ((ls.length) + 1) (cellsA (qs.take (ls.length) ++ [((s, x, n, zs, t), (a', cap'))]))) := by have := HO4.out.1; rw [HL4.out] at this; exact this
   skip
   clear hown4 hg4 hn4 hal hO3' hO4 hg2b HV HO3 HA3 HB3 HW3 hs2 hs3 hTl
   by_cases hck : c = ls.length
   ·have HCK := hid hck
    go_wp2_with (first | (at_builtin; refine wpList_append_own _ rfl _ _ 27 rfl w1.heap.size 61 j0 (.agg #[.string ByteArray.empty, .int .i64 0, .int .i64 0, .slice none 0 0, .string ByteArray.empty]) 5 72 Tryz.underlying27 hj0 hy0 hy1 hy2 rfl (by decide) _ ((ls.length) + 1) (cellsA (qs.take (ls.length) ++ [((s, x, n, zs, t), (a', cap'))])) rfl HW4.out ⟨g, 0, none⟩ _ _ (cellsA (qs.drop (ls.length))) rfl ?zre1 ?zre2 ?zre3 ?zre4 ?zre5 ?zre6 ?_))
    (try case zre1 => first | (rw [cellsA_len, List.length_drop, hlq]; done) | (rw [cellsA_len, List.length_drop, hlq]; omega))
    (try case zre2 => intro j v hj; rw [List.drop_of_length_le (by omega)] at hj; simp [cellsA] at hj)
    (try case zre3 => exact cellsA_one _)
    (try case zre4 => unfold maxLen; omega)
    (try case zre5 => omega)
    (try case zre6 => exact HS4.out)
    intro v5 w5 hown5 hg5 hn5
    have hO5 := HO4.out.push (rs := qs.drop (ls.length)) (fun q hq => HA4.out.2.1 q (List.mem_of_mem_drop hq)) (n := 0) (by rw [List.length_drop, hlq]; omega) (by rw [HL4.out]; exact hown5) hg5 hn5
    have HB5 : Hid (Below w.heap.size w w5) := HB4.out.grown hg5 HB4.out.size (fun b hb => by have := (HW4.out.lt b hb).1; have := HB1.out.size; omega)
    have HO5 := hid (hO5.base HB1.out.size)
    clear hO5 hown5 hg5 hn5
    obtain ⟨g5, c5, rfl⟩ := HO5.out.2.2
    go_wp2_with fail
    go_ret
    refine ⟨⟨_, _, rfl, HO5.out, ?_⟩, HB5.out⟩
    rw [List.map_append, List.map_append, List.map_take, List.map_drop, HQS.out]
    exact HPS.out.symm
   ·have hck2 : ¬ (c : Int) = ((ls.length : Nat) : Int) := by omega
    go_wp2_with (first | (at_builtin; refine wpList_append_own _ rfl _ _ 27 rfl w1.heap.size 61 j0 (.agg #[.string ByteArray.empty, .int .i64 0, .int .i64 0, .slice none 0 0, .string ByteArray.empty]) 5 72 Tryz.underlying27 hj0 hy0 hy1 hy2 rfl (by decide) _ ((ls.length) + 1) (cellsA (qs.take (ls.length) ++ [((s, x, n, zs, t), (a', cap'))])) rfl HW4.out ⟨g, (ls.length) * 5, none⟩ _ _ (cellsA (qs.drop (ls.length))) rfl ?zrn1 ?zrn2 ?zrn3 ?zrn4 ?zrn5 ?zrn6 ?_))
    (try case zrn1 => first | (rw [cellsA_len, List.length_drop, hlq]; done) | (rw [cellsA_len, List.length_drop, hlq]; omega))
    (try case zrn2 => exact fun j v hj => by rw [addr_plain]; exact HA4.out.cells (drop_cell hj))
    (try case zrn3 => exact cellsA_one _)
    (try case zrn4 => unfold maxLen; omega)
    (try case zrn5 => omega)
    (try case zrn6 => exact HS4.out)
    intro v5 w5 hown5 hg5 hn5
    have hO5 := HO4.out.push (rs := qs.drop (ls.length)) (fun q hq => HA4.out.2.1 q (List.mem_of_mem_drop hq)) (n := 0) (by rw [List.length_drop, hlq]; omega) (by rw [HL4.out]; exact hown5) hg5 hn5
    have HB5 : Hid (Below w.heap.size w w5) := HB4.out.grown hg5 HB4.out.size (fun b hb => by have := (HW4.out.lt b hb).1; have := HB1.out.size; omega)
    have HO5 := hid (hO5.base HB1.out.size)
    clear hO5 hown5 hg5 hn5
    obtain ⟨g5, c5, rfl⟩ := HO5.out.2.2
    go_wp2_with fail
    go_ret
    refine ⟨⟨_, _, rfl, HO5.out, ?_⟩, HB5.out⟩
    rw [List.map_append, List.map_append, List.map_take, List.map_drop, HQS.out]
    exact HPS.out.symm
end Go.Proofs.YtmbhmknfipdadaaGreatDoor.AnsO
