/- Texts of ours, laid together: BookOf, BookLook, OfImpl, PutBook, AnsRow. -/
import Derived.Test.YtjnnkilmlngjgaaGreatDoorBd25
import Derived.Test.YtjnnkilmlngjgaaGreatDoorBd21
import Derived.Test.YtjnnkilmlngjgaaGreatDoorBd22
/- The answers by their names, as the program books them. -/
namespace Go.Proofs.YtjnnkilmlngjgaaGreatDoor.BookW
open Go.RowKit Go.Maps
open ValW RdS RdI AnsW
open ValI (At4)

theorem blk_fresh {k n : Int} {a : Option Addr} {len cap : Nat} {t : ByteArray} {b F : Nat} (h : Blk (av k n a len cap t) b) (hf : Fresh a F) : F ≤ b := by
  obtain ⟨k', n', o, l', c, t', hv, hl⟩ := h
  simp only [av, Value.agg.injEq, Array.mk.injEq, List.cons.injEq, Value.slice.injEq] at hv
  obtain ⟨_, _, ⟨rfl, _, _⟩, _⟩ := hv
  exact hf b o rfl
/-- all but block B lies as in W0 -/
def BkS (W0 : World) (B : Nat) (w' : World) : Prop := W0.grownBy w' (some B) ∧ B + 1 ≤ w'.heap.size
theorem BkS.on {W0 W W' : World} {B : Nat} (h : BkS W0 B W) (hB : Below W.heap.size W W') : BkS W0 B W' :=
  ⟨⟨hB.os.trans h.1.os, hB.tape.trans h.1.tape, hB.output.trans h.1.output, Nat.le_trans h.1.size hB.size, fun k hk hn => (hB.block k (Nat.lt_of_lt_of_le hk h.1.size)).trans (h.1.block k hk hn)⟩, Nat.le_trans h.2 hB.size⟩
theorem BkS.grown {W0 W W' : World} {B : Nat} (h : BkS W0 B W) (hg : W.grownBy W' (some B)) : BkS W0 B W' :=
  ⟨⟨hg.os.trans h.1.os, hg.tape.trans h.1.tape, hg.output.trans h.1.output, Nat.le_trans h.1.size hg.size, fun k hk hn => (hg.block k (Nat.lt_of_lt_of_le hk h.1.size) hn).trans (h.1.block k hk hn)⟩, Nat.le_trans h.2 hg.size⟩
theorem BkS.one {W0 W : World} {B : Nat} (_h : BkS W0 B W) (t : ByteArray) : One (W.alloc (.cells #[.string t] 9)) W.heap.size t := One.laid W t
theorem BkS.all {W0 W : World} {B g : Nat} {p : An} {a : Option Addr} {c : Nat} (h : BkS W0 B W) (hF : Five W0 g 0 p a c) (hne : g ≠ B) (hl : g < W0.heap.size) : BkS W0 B W ∧ W.cell? ⟨g, 0, none⟩ = some (.string (nm p)) ∧ W.cell? ⟨g, 0 + 1, none⟩ = some (.int .i64 (kd p)) ∧ W.cell? ⟨g, 0 + 2, none⟩ = some (.int .i64 (nu p)) ∧ W.cell? ⟨g, 0 + 3, none⟩ = some (.slice a (cd p).length c) ∧ W.cell? ⟨g, 0 + 4, none⟩ = some (.string (tx p)) := by
  have hb := h.1.block g hl (fun e => hne (Option.some.inj e))
  have hc : ∀ j, W.cell? ⟨g, j, none⟩ = W0.cell? ⟨g, j, none⟩ := fun j => World.cell?_of_block (w := W0) hb
  obtain ⟨h0, h1, h2, h3, h4⟩ := hF
  exact ⟨h, by rw [hc]; exact h0, by rw [hc]; exact h1, by rw [hc]; exact h2, by rw [hc]; exact h3, by rw [hc]; exact h4⟩
theorem below_of_grown {w W : World} {B : Nat} {W0 : World} (hB : Below B w W0) (h : BkS W0 B W) (hl : B ≤ W0.heap.size) : Below B w W :=
  hB.trans ⟨h.1.os, h.1.tape, h.1.output, h.1.size, fun k hk => h.1.block k (by omega) (fun e => by have := Option.some.inj e; omega)⟩
theorem make_map (n : Nat) (w : World) : (Instr.makeMap 65 (some (.int .i64 n))).run Tryz.prog w = .ok (.map (some w.heap.size)) (w.alloc (.map #[] 0)) := by
  simp [Instr.makeMap, run_underlying Tryz.underlying65, asInt, go_sem]

set_option maxRecDepth 10000 in
set_option maxHeartbeats 6400000 in
theorem book_of (a : Option Addr) (cap : Nat) (ls : List An) (w : World) (hc : Ans w a ls) (hr : rightA ls = true) :
    Calls Tryz.prog 48 #[.slice a ls.length cap] w fun e w' => e = .returned (.map (some w.heap.size)) ∧ Book w' w.heap.size ls ∧ Below w.heap.size w w' := by
  have HC : Hid (Ans w a ls) := hc
  have hl := hc.1
  have hmm := fun w' => make_map ls.length w'
  have hlen : ls.length ≤ 30 := (rightA_at hr).1
  have HR := hid (rightA_at hr).2
  clear hc hr
  go_enter Tryz.func48, Tryz.ntmps48
  go_wp2_with fail
  go_loopw [11] (fun i wr => ∃ (k : Nat) (D : DataW Value), k ≤ ls.length ∧ i = .int .i64 k ∧ Hid (Mp wr w.heap.size k D) ∧ Hid (Holds wr (w.heap.size + 1) D ls k) ∧ Hid (Apt D) ∧ Below w.heap.size w wr) (fun i _ => ls.length - (intOf i).toNat)
  case atStart => exact ⟨0, .map [], Nat.zero_le _, rfl, World.ownsMap_made _ _ _ _, holds_zero _ _ _, apt_zero, (Below.refl _ _).alloc (Nat.le_refl _) _⟩
  case round =>
    obtain ⟨k, D, hk, rfl, HM, HH, HA, hbel⟩ := hrel
    by_cases hlt : k < ls.length
    · obtain ⟨h1, _, h3⟩ := okA_parts (HR.out k hlt)
      obtain ⟨hfit, b, o, ai, ci, rfl, hb, hF, hcd⟩ := HC.out.at (Below.refl _ _) hlt
      have hF1 := hF.on hb hbel
      have hput := fun W W' v (h : Holds W (w.heap.size + 1) D ls k) (hg : W.grownBy W' (some w.heap.size)) hv => h.put HM.out.isMap (Nat.lt_succ_self _) hg HR.out hlt (v := v) hv
      have hlt0 := HM.out.lt
      have HI := hid HM.out.isMap
      generalize ls.getD k an0 = p at hF hF1 hcd hfit h1 h3 hput
      obtain ⟨s, x, n, zs, t⟩ := p
      dsimp only [nm, kd, nu, cd, tx] at hcd h1 h3 hput
      have HP := hid hput
      have hs20 : s.size ≤ 20 := (of_decide_eq_true h1).2.1
      have HSz : Hid (s.size ≤ 100000) := by show _ ≤ _; omega
      have HSm : Hid (s.size ≤ maxLen) := by show _ ≤ _; unfold maxLen; omega
      have HKm : Hid (k < maxLen) := by show _ < _; unfold maxLen; omega
      have HTz : Hid (t.size ≤ 100000) := by
        show _ ≤ _
        have hrt : ValM.right x n zs t = true := by unfold ValK.answeredB at h3; simp at h3; exact h3.1
        rcases ValM.kinds hrt with ⟨_, _, _, h⟩ | ⟨_, _, _, _, h⟩ | ⟨_, _, _, _, h⟩ | ⟨_, _, _, h⟩ | ⟨_, _, _, _, h⟩ <;> omega
      have HB : Hid (Below w.heap.size w wr) := hbel
      have HCd := hid hcd
      obtain ⟨c0, c1, c2, c3, c4⟩ := hF1
      dsimp only [nm, kd, nu, cd, tx] at c0 c1 c2 c3 c4
      go_upto_region 5 with fail
      obtain ⟨W0, hW0⟩ : ∃ W0, Hid (wr.alloc (.cells #[.string s, .int .i64 x, .int .i64 n, .slice ai zs.length ci, .string t] 52) = W0) := ⟨_, rfl⟩
      have hF0 : Five (wr.alloc (.cells #[.string s, .int .i64 x, .int .i64 n, .slice ai zs.length ci, .string t] 52)) wr.heap.size 0 (s, x, n, zs, t) ai ci := ⟨by simp, by simp, by simp, by simp, by simp⟩
      have hal := (Below.refl wr.heap.size wr).alloc (Nat.le_refl _) (.cells #[.string s, .int .i64 x, .int .i64 n, .slice ai zs.length ci, .string t] 52)
      have hB1 : Below w.heap.size w (wr.alloc (.cells #[.string s, .int .i64 x, .int .i64 n, .slice ai zs.length ci, .string t] 52)) := HB.out.alloc HB.out.size _
      have hgl : wr.heap.size < (wr.alloc (.cells #[.string s, .int .i64 x, .int .i64 n, .slice ai zs.length ci, .string t] 52)).heap.size := by simp
      have HM2 := hid (Mp.on (Mp.on HM.out hal) (Below.refl _ _).drew)
      have HH2 := hid ((HH.out.on hal).on (Below.refl _ _).drew)
      rw [hW0.out] at hF0 hB1 hgl HM2 HH2 ⊢
      have HF := hid hF0
      have HBW := hid hB1
      have HBl : Hid (w.heap.size ≤ W0.heap.size) := hB1.size
      have hgB : wr.heap.size ≠ w.heap.size := by omega
      have hS0 : BkS W0 w.heap.size W0.drew := ⟨⟨rfl, rfl, rfl, Nat.le_refl _, fun _ _ _ => rfl⟩, by show _ ≤ W0.heap.size; omega⟩
      clear HM HH
      have HM := HM2
      have HH := HH2
      clear HM2 HH2 hal
      generalize wr.heap.size = g at *
      clear hbel hcd hF0 hB1 hfit h1 h3 hF hput c0 c1 c2 c3 c4 hW0
      refine wp_region_held_drew (S := (fun w' => BkS W0 w.heap.size w' ∧ w'.cell? ⟨g, 0, none⟩ = some (.string s) ∧ w'.cell? ⟨g, 0 + 1, none⟩ = some (.int .i64 x) ∧ w'.cell? ⟨g, 0 + 2, none⟩ = some (.int .i64 n) ∧ w'.cell? ⟨g, 0 + 3, none⟩ = some (.slice ai zs.length ci) ∧ w'.cell? ⟨g, 0 + 4, none⟩ = some (.string t))) (by kernel_rfl) ?_ (fun hHeld => ?_)
      · (try dsimp only) <;> (first | exact BkS.all hSn HF.out hgB hgl | exact BkS.all hS0 HF.out hgB hgl)
      refine wpAnyH_take (i := 0) (oi := { dst := some 15, op := Go.Op.move (Go.Operand.tmp 3), type := 65, pos := "l05_eval.go:58", after := #[], guard := none }) (v := ?_) rfl (by kernel_rfl) (by kernel_rfl) (by kernel_rfl) (fun _ _ _ h => h) (Or.inl ⟨by rfl, ?yld1⟩) hHeld ?nxt1
      case yld1 => (intro w hSw; (try dsimp only at hSw); go_simp) <;> with_reducible rfl
      (try simp only [Act.put, List.setIfInBounds_toArray, List.set_cons_zero, List.set_cons_succ])
      refine wpAnyH_take (i := 1) (oi := { dst := some 16, op := Go.Op.fieldAddr 52 (Go.Operand.tmp 5) 0, type := 0, pos := "l05_eval.go:58", after := #[], guard := none }) (v := ?_) rfl (by kernel_rfl) (by kernel_rfl) (by kernel_rfl) (fun _ _ _ h => h) (Or.inl ⟨by rfl, ?yld2⟩) hHeld ?nxt2
      case yld2 => (intro w hSw; (try dsimp only at hSw); go_simp) <;> with_reducible rfl
      (try simp only [Act.put, List.setIfInBounds_toArray, List.set_cons_zero, List.set_cons_succ])
      refine wpAnyH_take (i := 2) (oi := { dst := some 17, op := Go.Op.load 9 (Go.Operand.tmp 16), type := 9, pos := "l05_eval.go:58", after := #[{ on := 1, ground := Go.Ground.data }], guard := none }) (v := ?_) rfl (by kernel_rfl) (by kernel_rfl) (by kernel_rfl) (fun _ _ _ h => h) (Or.inl ⟨by rfl, ?yld3⟩) hHeld ?nxt3
      case yld3 => (intro w hSw; (try dsimp only at hSw); go_simp) <;> with_reducible rfl
      (try simp only [Act.put, List.setIfInBounds_toArray, List.set_cons_zero, List.set_cons_succ])
      refine wpAnyH_take (i := 5) (oi := { dst := some 20, op := Go.Op.fieldAddr 52 (Go.Operand.tmp 5) 1, type := 0, pos := "l05_eval.go:58", after := #[], guard := none }) (v := ?_) rfl (by kernel_rfl) (by kernel_rfl) (by kernel_rfl) (fun _ _ _ h => h) (Or.inl ⟨by rfl, ?yld4⟩) hHeld ?nxt4
      case yld4 => (intro w hSw; (try dsimp only at hSw); go_simp) <;> with_reducible rfl
      (try simp only [Act.put, List.setIfInBounds_toArray, List.set_cons_zero, List.set_cons_succ])
      refine wpAnyH_take (i := 6) (oi := { dst := some 21, op := Go.Op.load 33 (Go.Operand.tmp 20), type := 33, pos := "l05_eval.go:58", after := #[{ on := 5, ground := Go.Ground.data }], guard := none }) (v := ?_) rfl (by kernel_rfl) (by kernel_rfl) (by kernel_rfl) (fun _ _ _ h => h) (Or.inl ⟨by rfl, ?yld5⟩) hHeld ?nxt5
      case yld5 => (intro w hSw; (try dsimp only at hSw); go_simp) <;> with_reducible rfl
      (try simp only [Act.put, List.setIfInBounds_toArray, List.set_cons_zero, List.set_cons_succ])
      refine wpAnyH_ready (rs := [3]) (by kernel_rfl) (by simp) ?_
      refine AllReadyH.cons (o := { dst := some 18, op := Go.Op.buildSlice 80 1 #[(0, Go.Operand.tmp 17)], type := 80, pos := "l05_eval.go:58", after := #[{ on := 2, ground := Go.Ground.data }], guard := none }) rfl (fun K hK => ?_) AllReadyH.nil
      go_simp
      have hSn := hHeld.1.on ((Below.refl _ _).alloc (Nat.le_refl _) (.cells #[.string s] 9))
      have HM2 := hid (Mp.on HM.out ((Below.refl _ _).alloc (Nat.le_refl _) (.cells #[.string s] 9)))
      have HH2 := hid (HH.out.on ((Below.refl _ _).alloc (Nat.le_refl _) (.cells #[.string s] 9)))
      clear HM HH
      have HM := HM2
      have HH := HH2
      clear HM2 HH2
      (try have HV2 := hid (HV.out.on ((Below.refl _ _).alloc (Nat.le_refl _) (.cells #[.string s] 9))))
      (try clear HV)
      (try have HV := HV2)
      (try clear HV2)
      have HSl := hHeld.1.one s
      refine hK.out _ _ ?_ (fun hHeld2 => ?_)
      · (try dsimp only) <;> (first | exact BkS.all hSn HF.out hgB hgl | exact BkS.all hS0 HF.out hgB hgl)
      clear hK K hHeld
      have hHeld := hHeld2
      clear hHeld2
      (try simp only [Act.put, List.setIfInBounds_toArray, List.set_cons_zero, List.set_cons_succ])
      refine wpAnyH_ready (rs := [4]) (by kernel_rfl) (by simp) ?_
      refine AllReadyH.cons (o := { dst := some 19, op := Go.Op.call { callee := Go.Callee.value (Go.Operand.func 39), args := #[Go.Operand.tmp 18], argTypes := #[80] }, type := 9, pos := "l05_eval.go:58", after := #[{ on := 3, ground := Go.Ground.data }], guard := none }) rfl (fun K hK => ?_) AllReadyH.nil
      go_simp
      go_at_call 39
      have hp := hHeld.1
      refine (laid_at s _ _ HSl HSz.out).mono ?_
      rintro e w' ⟨rfl, hB⟩
      have HM2 := hid (Mp.on HM.out hB)
      have HH2 := hid (HH.out.on hB)
      clear HM HH
      have HM := HM2
      have HH := HH2
      clear HM2 HH2
      (try have HV2 := hid (HV.out.on hB))
      (try clear HV)
      (try have HV := HV2)
      (try clear HV2)
      have hSn := hp.on hB
      clear hp hB HSl
      (try go_wp2_with fail)
      refine hK.out _ _ ?_ (fun hHeld2 => ?_)
      · (try dsimp only) <;> (first | exact BkS.all hSn HF.out hgB hgl | exact BkS.all hS0 HF.out hgB hgl)
      clear hK K hHeld
      have hHeld := hHeld2
      clear hHeld2
      (try simp only [Act.put, List.setIfInBounds_toArray, List.set_cons_zero, List.set_cons_succ])
      refine wpAnyH_ready (rs := [7]) (by kernel_rfl) (by simp) ?_
      refine AllReadyH.cons (o := { dst := some 22, op := Go.Op.call { callee := Go.Callee.value (Go.Operand.func 38), args := #[Go.Operand.tmp 21], argTypes := #[33] }, type := 33, pos := "l05_eval.go:58", after := #[{ on := 6, ground := Go.Ground.data }, { on := 4, ground := Go.Ground.chain }], guard := none }) rfl (fun K hK => ?_) AllReadyH.nil
      go_simp
      go_at_call 38
      have hp := hHeld.1
      refine (copied_in x n ai ci zs t _ (HCd.out.on (below_of_grown HBW.out hp HBl.out)) HTz.out).mono ?_
      rintro e w' ⟨a', cap', rfl, hcd, hfr, hfs, hnc, hB⟩
      have HAp : Hid (∀ (s' : List UInt8) (v' : Value) (b : Nat), (∀ z, D.atKey (.string s') z = .held v') → Blk (av x n a' zs.length cap' t) b → Blk v' b → False) := fun s' v' b hs' hb1 hb2 => Nat.lt_irrefl _ (Nat.lt_of_lt_of_le (HH.out.low hs' hb2) (blk_fresh hb1 hfs))
      (try have HSl2 := HSl.on hB)
      (try clear HSl)
      (try have HSl := HSl2)
      (try clear HSl2)
      have HV : Hid (Cpy w' (w.heap.size + 1) (s, x, n, zs, t) (av x n a' zs.length cap' t)) := ⟨a', cap', rfl, hcd, hfr, fun b o hb => Nat.le_trans hp.2 (hfs b o hb), hnc⟩
      have HM2 := hid (Mp.on HM.out hB)
      have HH2 := hid (HH.out.on hB)
      clear HM HH
      have HM := HM2
      have HH := HH2
      clear HM2 HH2
      have hSn := hp.on hB
      clear hp hB hcd hfr hfs hnc
      (try go_wp2_with fail)
      refine hK.out _ _ ?_ (fun hHeld2 => ?_)
      · (try dsimp only) <;> (first | exact BkS.all hSn HF.out hgB hgl | exact BkS.all hS0 HF.out hgB hgl)
      clear hK K hHeld
      have hHeld := hHeld2
      clear hHeld2
      (try simp only [Act.put, List.setIfInBounds_toArray, List.set_cons_zero, List.set_cons_succ])
      refine wpAnyH_ready (rs := [8]) (by kernel_rfl) (by simp) ?_
      refine AllReadyH.cons (o := { dst := none, op := Go.Op.mapUpdate 65 (Go.Operand.tmp 15) (Go.Operand.tmp 19) (Go.Operand.tmp 22), type := 0, pos := "l05_eval.go:58", after := #[{ on := 0, ground := Go.Ground.data }, { on := 4, ground := Go.Ground.data }, { on := 7, ground := Go.Ground.data }, { on := 7, ground := Go.Ground.chain }, { on := 0, ground := Go.Ground.phase }, { on := 1, ground := Go.Ground.phase }, { on := 2, ground := Go.Ground.phase }, { on := 3, ground := Go.Ground.phase }, { on := 4, ground := Go.Ground.phase }, { on := 5, ground := Go.Ground.phase }, { on := 6, ground := Go.Ground.phase }, { on := 7, ground := Go.Ground.phase }], guard := none }) rfl (fun K hK => ?_) AllReadyH.nil
      obtain ⟨wm, hrun, hown, hgr⟩ := HM.out.update key_law Tryz.underlying65 HKm.out (key := .string s) (val := av x n a' zs.length cap' t) (Go.WideMaps.keyOf_string_mk Tryz.underlying9 HSm.out) rfl
      go_simp
      have hSn := hHeld.1.grown hgr
      refine hK.out _ _ ?_ (fun hHeld2 => ?_)
      · (try dsimp only) <;> (first | exact BkS.all hSn HF.out hgB hgl | exact BkS.all hS0 HF.out hgB hgl)
      clear hK K hHeld
      have hHeld := hHeld2
      clear hHeld2
      (try simp only [Act.put, List.setIfInBounds_toArray, List.set_cons_zero, List.set_cons_succ])
      refine wpAnyH_done (by kernel_rfl) ?_ _
      have HBL := hid (below_of_grown HBW.out hHeld.1 HBl.out)
      have HHn := hid (HP.out _ _ _ HH.out hgr HV.out)
      have HMn := hid hown
      have HAn := hid (HA.out.put (s := s.data.toList) HI.out HAp.out)
      clear hHeld hS0 HF HH HM hown hgr hrun
      go_wp2_with fail
      refine ⟨⟨k + 1, _, by omega, by go_num, HMn, HHn, HAn.out, HBL.out⟩, by simp [intOf]; omega⟩
    · obtain rfl : k = ls.length := by omega
      go_wp2
      go_ret
      exact ⟨rfl, ⟨D, HM.out, HH.out, HA.out⟩, hbel⟩
end Go.Proofs.YtjnnkilmlngjgaaGreatDoor.BookW
/- What the book says of a name. -/
namespace Go.Proofs.YtjnnkilmlngjgaaGreatDoor.AnsW
open Go.RowKit
open ValW NameW RdS RdI BookW

theorem zeroV (w : World) : (zeroValue 33).run Tryz.prog w = .ok (av 0 0 none 0 0 ByteArray.empty) w := by kernel_rfl

/-- what the book says of a name -/
theorem book_look {w : World} {B : Nat} {ls : List An} {s : ByteArray} (h : Book w B ls) (hr : rightA ls = true) (hs : s.size ≤ maxLen) :
    ∃ v, (Instr.lookup 65 (.map (some B)) (.string s) false).run Tryz.prog w = .ok v w ∧ Cpy w (B + 1) (told ls s) v := by
  obtain ⟨D, hM, hH, _⟩ := h
  obtain ⟨v, ps, hrun, hv⟩ := World.ownsMap.lookup hM key_law Tryz.underlying65 (zeroV w) (rfl : heldR (av 0 0 none 0 0 ByteArray.empty) = some (.held (av 0 0 none 0 0 ByteArray.empty), [])) (Go.WideMaps.keyOf_string_mk Tryz.underlying9 hs)
  refine ⟨v, hrun, ?_⟩
  have hv1 := Option.some.inj hv
  injection hv1 with hv2 _
  rcases found_or ls s with ⟨i, hi⟩ | hl
  · obtain ⟨u, hu, hat⟩ := hH.1 i hi.1
    rw [hi.2] at hat
    rw [hat] at hv2
    injection hv2 with hv3
    rw [told_found hr hi, hv3]
    exact hu
  · rw [hH.2 s.data.toList (fun i hi e => hl i hi (data_ne.1 e))] at hv2
    injection hv2 with hv3
    rw [told_lacks hl, hv3]
    exact ⟨none, 0, rfl, Codes.nil _ _, free_nil _ _, fresh_none _, fun _ => rfl⟩
end Go.Proofs.YtjnnkilmlngjgaaGreatDoor.AnsW
/- AnswerOf: what the program says. -/
namespace Go.Proofs.YtjnnkilmlngjgaaGreatDoor.AnsW
open Go.RowKit
open ValW NameW RdS RdI BookW

/-- how bookFor ends -/
def BkEnd (ls : List An) (s : ByteArray) (w : World) (e : Ending) (w' : World) : Prop :=
  ((rightA ls = true ∧ nameB s = true) ∧ ∃ B, e = .returned (.tuple #[.map (some B), .nilIface]) ∧ w.heap.size ≤ B ∧ Book w' B ls) ∨
  (¬ (rightA ls = true ∧ nameB s = true) ∧ ∃ c : Int, e = .returned (.tuple #[.map none, .iface 69 (.agg #[.int .i64 c])]))

set_option maxRecDepth 10000 in
set_option maxHeartbeats 1600000 in
theorem book_for (a : Option Addr) (cap : Nat) (ls : List An) (s : ByteArray) (w : World) (hc : Ans w a ls) (hs : s.size ≤ maxLen) :
    Calls Tryz.prog 36 #[.slice a ls.length cap, .string s] w fun e w' => BkEnd ls s w e w' ∧ Below w.heap.size w w' := by
  have HC : Hid (Ans w a ls) := hc
  have HS := hid hs
  have hl := hc.1
  unfold maxLen at hs
  clear hc
  obtain ⟨r, hr⟩ : ∃ r, Hid (rightA ls = r) := ⟨_, rfl⟩
  obtain ⟨m, hm⟩ : ∃ m, Hid (nameB s = m) := ⟨_, rfl⟩
  by_cases hb1 : 400 < ls.length
  · have hno : Hid (¬ (rightA ls = true ∧ nameB s = true)) := fun h => by rw [rightA_long (by omega)] at h; cases h.1
    go_enter Tryz.func36, Tryz.ntmps36
    go_wp2
    refine bodyPost_ret (v := .tuple #[.map none, .iface 69 (.agg #[.int .i64 2])]) (by simp [results, Tryz.results36, go_sem]) rfl ⟨.inr ⟨hno.out, 2, rfl⟩, by go_grown⟩
  by_cases hb2 : 8000 < s.size
  · have hno : Hid (¬ (rightA ls = true ∧ nameB s = true)) := fun h => by rw [name_no s (.inr (by omega))] at h; cases h.2
    go_enter Tryz.func36, Tryz.ntmps36
    go_wp2
    refine bodyPost_ret (v := .tuple #[.map none, .iface 69 (.agg #[.int .i64 2])]) (by simp [results, Tryz.results36, go_sem]) rfl ⟨.inr ⟨hno.out, 2, rfl⟩, by go_grown⟩
  cases r
  · have hno : Hid (¬ (rightA ls = true ∧ nameB s = true)) := fun h => by rw [hr.out] at h; cases h.1
    go_enter Tryz.func36, Tryz.ntmps36
    go_wp2_with fail
    refine (impl_answers a cap ls w HC.out).mono ?_
    rintro e w1 ⟨rfl, hB1⟩
    rw [hr.out]
    have HB1 := hid hB1
    clear hB1
    go_wp2_with fail
    refine bodyPost_ret (v := .tuple #[.map none, .iface 69 (.agg #[.int .i64 1])]) (by simp [results, Tryz.results36, go_sem]) rfl ⟨.inr ⟨hno.out, 1, rfl⟩, HB1.out⟩
  cases m
  · have hno : Hid (¬ (rightA ls = true ∧ nameB s = true)) := fun h => by rw [hm.out] at h; cases h.2
    go_enter Tryz.func36, Tryz.ntmps36
    go_wp2_with fail
    refine (impl_answers a cap ls w HC.out).mono ?_
    rintro e w1 ⟨rfl, hB1⟩
    rw [hr.out]
    have HB1 := hid hB1
    clear hB1
    go_wp2_with fail
    refine (impl_name s w1 HS.out).mono ?_
    rintro e w2 ⟨rfl, rfl⟩
    rw [hm.out]
    go_wp2_with fail
    refine bodyPost_ret (v := .tuple #[.map none, .iface 69 (.agg #[.int .i64 1])]) (by simp [results, Tryz.results36, go_sem]) rfl ⟨.inr ⟨hno.out, 1, rfl⟩, HB1.out⟩
  · go_enter Tryz.func36, Tryz.ntmps36
    go_wp2_with fail
    refine (impl_answers a cap ls w HC.out).mono ?_
    rintro e w1 ⟨rfl, hB1⟩
    rw [hr.out]
    have HB1 := hid hB1
    clear hB1
    go_wp2_with fail
    refine (impl_name s w1 HS.out).mono ?_
    rintro e w2 ⟨rfl, rfl⟩
    rw [hm.out]
    go_wp2_with fail
    refine (book_of a cap ls _ (HC.out.on HB1.out) hr.out).mono ?_
    rintro e w3 ⟨rfl, hbk, hB3⟩
    have HB3 := hid (HB1.out.trans (hB3.mono HB1.out.size))
    have HBK := hid hbk
    have hsz := HB1.out.size
    clear hB3 hbk
    go_wp2_with fail
    refine bodyPost_ret (v := .tuple #[.map (some _), .nilIface]) (by simp [results, Tryz.results36, go_sem]) rfl ⟨.inl ⟨⟨hr.out, hm.out⟩, _, rfl, hsz, HBK.out⟩, HB3.out⟩

end Go.Proofs.YtjnnkilmlngjgaaGreatDoor.AnsW
/- A book with one answer more, or with another one under its name; how many there are. -/
namespace Go.Proofs.YtjnnkilmlngjgaaGreatDoor.BookW
open Go.RowKit Go.Maps
open ValW RdS RdI AnsW

/-- the names of the answers -/
def namesA (ls : List An) : List (List UInt8) := ls.map fun p => (nm p).data.toList
theorem holds_mem {w : World} {F : Nat} {D : DataW Value} {ls : List An} (h : Holds w F D ls ls.length) : (∀ p ∈ ls, ∃ v, Cpy w F p v ∧ ∀ z, D.atKey (.string (nm p).data.toList) z = .held v) ∧ ∀ s, s ∉ namesA ls → ∀ z, D.atKey (.string s) z = z := by
  refine ⟨fun p hp => ?_, fun s hs => h.2 s fun i hi e => hs (List.mem_map.2 ⟨_, getD_mem hi, e⟩)⟩
  obtain ⟨i, hi, rfl⟩ := List.mem_iff_getElem.1 hp
  have := h.1 i hi
  rw [getD_at hi] at this
  exact this
theorem holds_of {w : World} {F : Nat} {D : DataW Value} {ls : List An} (h1 : ∀ p ∈ ls, ∃ v, Cpy w F p v ∧ ∀ z, D.atKey (.string (nm p).data.toList) z = .held v) (h2 : ∀ s, s ∉ namesA ls → ∀ z, D.atKey (.string s) z = z) : Holds w F D ls ls.length :=
  ⟨fun i hi => h1 _ (getD_mem hi), fun s hs => h2 s fun hm => by
    obtain ⟨p, hp, e⟩ := List.mem_map.1 hm
    obtain ⟨i, hi, rfl⟩ := List.mem_iff_getElem.1 hp
    exact hs i hi (by rw [getD_at hi]; exact e)⟩
theorem names_nodup {ls : List An} (h : Ris ls) : (namesA ls).Nodup := by
  refine List.pairwise_map.2 (h.imp fun {p q} hl e => ?_)
  rw [show nm p = nm q from data_ne.1 e, lessB_irrefl] at hl
  cases hl
theorem collected {w : World} {F : Nat} {D : DataW Value} {ls : List An} (h : Holds w F D ls ls.length) (hr : Ris ls) : Collected D (fun _ => false) (namesA ls) := by
  refine ⟨names_nodup hr, fun x => ?_⟩
  obtain ⟨h1, h2⟩ := holds_mem h
  constructor
  · intro hx
    obtain ⟨p, hp, rfl⟩ := List.mem_map.1 hx
    obtain ⟨v, _, hv⟩ := h1 p hp
    exact ⟨has_true_of_atKey hv, rfl⟩
  · rintro ⟨hx, _⟩
    by_cases hm : x ∈ namesA ls
    · exact hm
    · rw [has_false_of_atKey (h2 x hm)] at hx; cases hx
theorem keys_perm {w : World} {B n F : Nat} {D : DataW Value} {ls : List An} (hM : Mp w B n D) (h : Holds w F D ls ls.length) (hr : Ris ls) : (namesA ls).Perm (strKeys D) := (collected h hr).perm hM key_law Tryz.underlying9 (fun _ => rfl)
theorem book_size {w : World} {B n F : Nat} {D : DataW Value} {ls : List An} (hM : Mp w B n D) (h : Holds w F D ls ls.length) (hr : Ris ls) : Maps.size D = ls.length := by
  have hp := (keys_perm hM h hr).length_eq
  obtain ⟨es, rfl⟩ := hM.isMap
  rw [size_eq]
  simpa [strKeys, namesA] using hp.symm
theorem mp_size {w : World} {B n : Nat} {D : DataW Value} (h : Mp w B n D) : Mp w B (Maps.size D) D := by
  obtain ⟨es, clock, hb, F, hs, hD⟩ := h
  refine ⟨es, clock, hb, F, ?_, hD⟩
  rw [hD, size_eq, length_read]
  exact Nat.le_refl _
theorem has_name {w : World} {F : Nat} {D : DataW Value} {ls : List An} (h : Holds w F D ls ls.length) (s : ByteArray) : Maps.has D (.string s.data.toList) = hasA ls s := by
  obtain ⟨h1, h2⟩ := holds_mem h
  cases hs : hasA ls s
  · rw [hasA_no] at hs
    refine has_false_of_atKey (h2 _ fun hm => ?_)
    obtain ⟨p, hp, e⟩ := List.mem_map.1 hm
    obtain ⟨i, hi, rfl⟩ := List.mem_iff_getElem.1 hp
    exact hs i hi (by rw [getD_at hi]; exact data_ne.1 e)
  · rw [hasA_iff] at hs
    obtain ⟨i, hi, e⟩ := hs
    obtain ⟨v, _, hv⟩ := h1 _ (getD_mem hi)
    rw [e] at hv
    exact has_true_of_atKey hv
theorem Book.put {w w' : World} {B n : Nat} {ls : List An} {D : DataW Value} {p : An} {v : Value} (hM : IsMap D) (hH : Holds w (B + 1) D ls ls.length) (hA : Apt D) (hr : rightA ls = true) (hr' : rightA (putA ls p) = true) (hg : w.grownBy w' (some B))
    (hM' : Mp w' B n (D.put (.string (nm p).data.toList) (.held v))) (hv : Cpy w (B + 1) p v) (hn : ∀ s' v' b, (∀ z, D.atKey (.string s') z = .held v') → Blk v b → Blk v' b → False) : Book w' B (putA ls p) := by
  have hR := (right_ris hr).2.1
  have hH' : Holds w' (B + 1) (D.put (.string (nm p).data.toList) (.held v)) (putA ls p) (putA ls p).length := by
    obtain ⟨h1, h2⟩ := holds_mem hH
    refine holds_of (fun q hq => ?_) (fun s hs z => ?_)
    · rcases (putA_mem hR q).1 hq with rfl | ⟨hm, hne⟩
      · exact ⟨v, hv.grown (Nat.lt_succ_self _) hg, fun z => atKey_put_same hM (show WideAt.IsKeyLit (.string _) from trivial) _ _⟩
      · obtain ⟨u, hu, hat⟩ := h1 q hm
        exact ⟨u, hu.grown (Nat.lt_succ_self _) hg, fun z => by rw [atKey_put_other (fun e => hne (data_ne.1 (Lit.string.inj e)))]; exact hat z⟩
    · have hsp : s ≠ (nm p).data.toList := fun e => hs (List.mem_map.2 ⟨p, (putA_mem hR p).2 (.inl rfl), e.symm⟩)
      rw [atKey_put_other (fun e => hsp (Lit.string.inj e))]
      refine h2 s (fun hm => hs ?_) z
      obtain ⟨q, hq, rfl⟩ := List.mem_map.1 hm
      exact List.mem_map.2 ⟨q, (putA_mem hR q).2 (.inr ⟨hq, fun e => hsp (by rw [e])⟩), rfl⟩
  have e := book_size hM' hH' (right_ris hr').2.1
  exact ⟨_, e ▸ mp_size hM', hH', hA.put hM hn⟩

/-- codes that may be written over, and where they lie -/
def CdO (w : World) (F : Nat) (x : Option Addr × Nat) (zs : List Int) : Prop := Codes w x.1 zs ∧ Free w x.1 zs ∧ Fresh x.1 F ∧ (x.1 = none → x.2 = 0)
theorem CdO.on {w w' : World} {F : Nat} {x : Option Addr × Nat} {zs : List Int} (h : CdO w F x zs) (hB : Below w.heap.size w w') : CdO w' F x zs := ⟨h.1.on hB, h.2.1.on hB, h.2.2.1, h.2.2.2⟩
/-- where the book has each answer's codes -/
def Kept (w : World) (F : Nat) (D : DataW Value) (ls : List An) (ads : Nat → Option Addr × Nat) : Prop :=
  ∀ i, i < ls.length → (∀ z, D.atKey (.string (nm (ls.getD i an0)).data.toList) z = .held (av (kd (ls.getD i an0)) (nu (ls.getD i an0)) (ads i).1 (cd (ls.getD i an0)).length (ads i).2 (tx (ls.getD i an0)))) ∧ CdO w F (ads i) (cd (ls.getD i an0))
theorem book_kept {w : World} {F : Nat} {D : DataW Value} {ls : List An} (h : Holds w F D ls ls.length) : ∃ ads, Kept w F D ls ads := by
  have hx : ∀ i, ∃ x : Option Addr × Nat, i < ls.length → (∀ z, D.atKey (.string (nm (ls.getD i an0)).data.toList) z = .held (av (kd (ls.getD i an0)) (nu (ls.getD i an0)) x.1 (cd (ls.getD i an0)).length x.2 (tx (ls.getD i an0)))) ∧ CdO w F x (cd (ls.getD i an0)) := fun i => by
    by_cases hi : i < ls.length
    · obtain ⟨v, ⟨a, cap, rfl, h1, h2, h3, h4⟩, hv⟩ := h.1 i hi
      exact ⟨(a, cap), fun _ => ⟨hv, h1, h2, h3, h4⟩⟩
    · exact ⟨(none, 0), fun h => absurd h hi⟩
  exact ⟨fun i => Classical.choose (hx i), fun i hi => Classical.choose_spec (hx i) hi⟩
/-- no two answers have their codes in one block -/
def Apart (ls : List An) (ads : Nat → Option Addr × Nat) : Prop := ∀ i j b o o', i < ls.length → j < ls.length → i ≠ j → (ads i).1 = some ⟨b, o, none⟩ → 0 < (cd (ls.getD i an0)).length → (ads j).1 = some ⟨b, o', none⟩ → 0 < (cd (ls.getD j an0)).length → False
theorem Kept.apart {w : World} {F : Nat} {D : DataW Value} {ls : List An} {ads : Nat → Option Addr × Nat} (h : Kept w F D ls ads) (hA : Apt D) (hr : Ris ls) : Apart ls ads := by
  intro i j b o o' hi hj hne h1 h2 h3 h4
  obtain ⟨k1, _⟩ := h i hi
  obtain ⟨k2, _⟩ := h j hj
  refine hA _ _ _ _ b (fun e => ?_) k1 k2 ⟨_, _, o, _, _, _, by rw [h1], h2⟩ ⟨_, _, o', _, _, _, by rw [h3], h4⟩
  have he : nm (ls.getD i an0) = nm (ls.getD j an0) := data_ne.1 e
  rcases Nat.lt_or_gt_of_ne hne with hl | hl
  · have := List.pairwise_iff_getElem.1 hr i j hi hj hl
    rw [← getD_at, ← getD_at, he, lessB_irrefl] at this
    cases this
  · have := List.pairwise_iff_getElem.1 hr j i hj hi hl
    rw [← getD_at, ← getD_at, he, lessB_irrefl] at this
    cases this
/-- names that rise are sorted -/
theorem less_lt : ∀ x y : List UInt8, Op.bytesLess x y = true → x < y
  | [], [], h => by simp [Op.bytesLess] at h
  | [], b :: y, _ => List.nil_lt_cons _ _
  | a :: x, [], h => by simp [Op.bytesLess] at h
  | a :: x, b :: y, h => by
    simp only [Op.bytesLess, Bool.or_eq_true, Bool.and_eq_true, decide_eq_true_eq, beq_iff_eq] at h
    rw [List.cons_lt_cons_iff]
    rcases h with h | ⟨rfl, h⟩
    · exact .inl h
    · exact .inr ⟨rfl, less_lt x y h⟩
theorem names_sorted {ls : List An} (h : Ris ls) : (namesA ls).mergeSort leB = namesA ls := by
  refine List.mergeSort_of_pairwise (List.pairwise_map.2 (h.imp fun {p q} hl => ?_))
  unfold lessB at hl
  rw [ByteArray.toList_eq, ByteArray.toList_eq] at hl
  show decide _ = true
  rw [decide_eq_true_eq]
  exact List.le_of_lt (less_lt _ _ hl)
end Go.Proofs.YtjnnkilmlngjgaaGreatDoor.BookW
/- Answers that a call has made itself: their row, and where their codes lie. -/
namespace Go.Proofs.YtjnnkilmlngjgaaGreatDoor.BookW
open Go.RowKit Go.Maps
open ValW RdS RdI AnsW

/-- block g has room for n answers; the first k of ls lie in it, their codes where ads says -/
def RowO (w : World) (g n k : Nat) (ls : List An) (ads : Nat → Option Addr × Nat) : Prop :=
  ∃ cs : Array Value, w.heap[g]? = some (.cells cs 52 (0, 0)) ∧ cs.size = n * 5 ∧ ∀ i, i < k →
    cs[i * 5]? = some (.string (nm (ls.getD i an0))) ∧ cs[i * 5 + 1]? = some (.int .i64 (kd (ls.getD i an0))) ∧ cs[i * 5 + 2]? = some (.int .i64 (nu (ls.getD i an0))) ∧ cs[i * 5 + 3]? = some (.slice (ads i).1 (cd (ls.getD i an0)).length (ads i).2) ∧ cs[i * 5 + 4]? = some (.string (tx (ls.getD i an0)))
theorem RowO.lt {w : World} {g n k : Nat} {ls : List An} {ads : Nat → Option Addr × Nat} (h : RowO w g n k ls ads) : g < w.heap.size := by
  obtain ⟨cs, hg, _⟩ := h
  exact blk_lt hg
theorem RowO.room {w : World} {g n k : Nat} {ls : List An} {ads : Nat → Option Addr × Nat} (h : RowO w g n k ls ads) {j : Nat} (hj : j < n * 5) : (∃ v, w.cell? ⟨g, j, none⟩ = some v) ∧ w.frozen? ⟨g, j, none⟩ = false := by
  obtain ⟨cs, hg, hs, _⟩ := h
  refine ⟨⟨cs[j]'(by omega), ?_⟩, by simp [World.frozen?, hg]⟩
  simp [World.cell?, hg, show j < cs.size by omega]
theorem RowO.on {w w' : World} {g n k : Nat} {ls : List An} {ads : Nat → Option Addr × Nat} (h : RowO w g n k ls ads) (hB : Below w.heap.size w w') : RowO w' g n k ls ads := by
  have hl := h.lt
  obtain ⟨cs, hg, hs, hc⟩ := h
  exact ⟨cs, by rw [hB.block g hl]; exact hg, hs, hc⟩
theorem RowO.put {w : World} {g n k : Nat} {ls : List An} {ads : Nat → Option Addr × Nat} (h : RowO w g n k ls ads) (hk : k < n) :
    RowO (put5 w g (k * 5) (.string (nm (ls.getD k an0))) (.int .i64 (kd (ls.getD k an0))) (.int .i64 (nu (ls.getD k an0))) (.slice (ads k).1 (cd (ls.getD k an0)).length (ads k).2) (.string (tx (ls.getD k an0)))) g n (k + 1) ls ads := by
  obtain ⟨cs, hg, hs, hc⟩ := h
  unfold put5
  refine ⟨_, blk_set _ _ _ _ _ _ (blk_set _ _ _ _ _ _ (blk_set _ _ _ _ _ _ (blk_set _ _ _ _ _ _ (blk_set _ _ _ _ _ _ hg)))), by simpa using hs, fun i hi => ?_⟩
  simp only [Array.getElem?_setIfInBounds, Array.size_setIfInBounds]
  by_cases he : i = k
  · subst he
    refine ⟨?_, ?_, ?_, ?_, ?_⟩
    · rw [if_neg (by omega), if_neg (by omega), if_neg (by omega), if_neg (by omega), if_pos rfl, if_pos (by omega)]
    · rw [if_neg (by omega), if_neg (by omega), if_neg (by omega), if_pos rfl, if_pos (by omega)]
    · rw [if_neg (by omega), if_neg (by omega), if_pos rfl, if_pos (by omega)]
    · rw [if_neg (by omega), if_pos rfl, if_pos (by omega)]
    · rw [if_pos rfl, if_pos (by omega)]
  · obtain ⟨c0, c1, c2, c3, c4⟩ := hc i (by omega)
    refine ⟨?_, ?_, ?_, ?_, ?_⟩
    all_goals
      rw [if_neg (by omega), if_neg (by omega), if_neg (by omega), if_neg (by omega), if_neg (by omega)]
      assumption
theorem RowO.five {w : World} {g n k : Nat} {ls : List An} {ads : Nat → Option Addr × Nat} (h : RowO w g n k ls ads) {i : Nat} (hi : i < k) : Five w g (i * 5) (ls.getD i an0) (ads i).1 (ads i).2 := by
  obtain ⟨cs, hg, hs, hc⟩ := h
  obtain ⟨c0, c1, c2, c3, c4⟩ := hc i hi
  unfold Five
  simp only [World.cell?, hg]
  simp [c0, c1, c2, c3, c4]
/-- a list of answers of one's own: a row of them, each one's codes in a block of their own that may be written over -/
def OwnA (w : World) (F g : Nat) (ls : List An) (ads : Nat → Option Addr × Nat) : Prop :=
  RowO w g ls.length ls.length ls ads ∧ (∀ i, i < ls.length → CdO w F (ads i) (cd (ls.getD i an0)) ∧ ∀ b o, (ads i).1 = some ⟨b, o, none⟩ → 0 < (cd (ls.getD i an0)).length → b ≠ g) ∧ Apart ls ads
theorem OwnA.on {w w' : World} {F g : Nat} {ls : List An} {ads : Nat → Option Addr × Nat} (h : OwnA w F g ls ads) (hB : Below w.heap.size w w') : OwnA w' F g ls ads := ⟨h.1.on hB, fun i hi => ⟨(h.2.1 i hi).1.on hB, (h.2.1 i hi).2⟩, h.2.2⟩
theorem good_fit {p : An} (h : good p = true) : Fit p := by
  unfold good at h
  rw [Bool.and_eq_true] at h
  obtain ⟨h1, h3⟩ := h
  have hs20 : (nm p).size ≤ 20 := (of_decide_eq_true h1).2.1
  have hrt : ValM.right (kd p) (nu p) (cd p) (tx p) = true := by unfold ValK.answeredB at h3; simp at h3; exact h3.1
  refine ⟨by omega, ?_⟩
  rcases ValM.kinds hrt with ⟨_, _, _, h⟩ | ⟨_, _, _, _, h⟩ | ⟨_, _, _, _, h⟩ | ⟨_, _, _, h⟩ | ⟨_, _, _, _, h⟩ <;> omega
theorem OwnA.ans {w : World} {F g : Nat} {ls : List An} {ads : Nat → Option Addr × Nat} (h : OwnA w F g ls ads) (hr : rightA ls = true) : Ans w (some ⟨g, 0, none⟩) ls := by
  obtain ⟨h1, _, h3⟩ := right_ris hr
  refine ⟨by omega, fun i hi => good_fit (h3 _ (getD_mem hi)), fun _ => ⟨g, 0, rfl, h.1.lt, fun i hi => ?_⟩⟩
  obtain ⟨⟨k1, _, _, k4⟩, _⟩ := h.2.1 i hi
  refine ⟨(ads i).1, (ads i).2, ?_, k1, k4⟩
  rw [Nat.zero_add]
  exact h.1.five hi
set_option maxRecDepth 10000 in
/-- what the book has under an answer's name, in every world in which its block lies as it lay -/
theorem kept_look {w W : World} {B n F : Nat} {D : DataW Value} {ls : List An} {ads : Nat → Option Addr × Nat} (hM : Mp w B n D) (hK : Kept w F D ls ads) (hW : W.heap[B]? = w.heap[B]?) {i : Nat} (hi : i < ls.length) (hs : (nm (ls.getD i an0)).size ≤ maxLen) :
    (Instr.lookup 65 (.map (some B)) (.string (nm (ls.getD i an0))) false).run Tryz.prog W = .ok (av (kd (ls.getD i an0)) (nu (ls.getD i an0)) (ads i).1 (cd (ls.getD i an0)).length (ads i).2 (tx (ls.getD i an0))) W := by
  have hM2 : Mp W B n D := by
    obtain ⟨es, clock, hb, F, hsz, hD⟩ := hM
    exact ⟨es, clock, by rw [hW]; exact hb, F, hsz, hD⟩
  obtain ⟨v, ps, hrun, hv⟩ := World.ownsMap.lookup hM2 key_law Tryz.underlying65 (zeroV W) (rfl : heldR (av 0 0 none 0 0 ByteArray.empty) = some (.held (av 0 0 none 0 0 ByteArray.empty), [])) (Go.WideMaps.keyOf_string_mk Tryz.underlying9 hs)
  have hv1 := Option.some.inj hv
  injection hv1 with hv2 _
  rw [(hK i hi).1] at hv2
  injection hv2 with hv3
  rw [hrun, hv3]
theorem Tryz.infoStr : (Tryz.prog.info? 9).map (fun i => (i.zero, i.size, i.bytes)) = some (some (.string ⟨#[]⟩), 1, 16) := by kernel_rfl
end Go.Proofs.YtjnnkilmlngjgaaGreatDoor.BookW
