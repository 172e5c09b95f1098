/- Texts of ours, laid together: BookOf, BookLook. -/
import Derived.Test.YtflofhbooedpjaaGreatDoorBd27
import Derived.Test.YtflofhbooedpjaaGreatDoorBd24
/- The answers by their names, as the program books them. -/
namespace Go.Proofs.YtflofhbooedpjaaGreatDoor.BookW
open Go.RowKit Go.Maps
open ValW RdS RdI AnsW
open ValI (At4)

/-- all but block B lies as in W0 -/
def BkS (W0 : World) (B : Nat) (w' : World) : Prop := W0.grownBy w' (some B) ∧ B + 1 ≤ w'.heap.size
theorem BkS.on {W0 W W' : World} {B : Nat} (h : BkS W0 B W) (hB : Below W.heap.size W W') : BkS W0 B W' :=
  ⟨⟨hB.os.trans h.1.os, hB.tape.trans h.1.tape, hB.output.trans h.1.output, Nat.le_trans h.1.size hB.size, fun k hk hn => (hB.block k (Nat.lt_of_lt_of_le hk h.1.size)).trans (h.1.block k hk hn)⟩, Nat.le_trans h.2 hB.size⟩
theorem BkS.grown {W0 W W' : World} {B : Nat} (h : BkS W0 B W) (hg : W.grownBy W' (some B)) : BkS W0 B W' :=
  ⟨⟨hg.os.trans h.1.os, hg.tape.trans h.1.tape, hg.output.trans h.1.output, Nat.le_trans h.1.size hg.size, fun k hk hn => (hg.block k (Nat.lt_of_lt_of_le hk h.1.size) hn).trans (h.1.block k hk hn)⟩, Nat.le_trans h.2 hg.size⟩
theorem BkS.one {W0 W : World} {B : Nat} (_h : BkS W0 B W) (t : ByteArray) : One (W.alloc (.cells #[.string t] 9)) W.heap.size t := One.laid W t
theorem BkS.all {W0 W : World} {B g : Nat} {p : An} {a : Option Addr} {c : Nat} (h : BkS W0 B W) (hF : Five W0 g 0 p a c) (hne : g ≠ B) (hl : g < W0.heap.size) : BkS W0 B W ∧ W.cell? ⟨g, 0, none⟩ = some (.string (nm p)) ∧ W.cell? ⟨g, 0 + 1, none⟩ = some (.int .i64 (kd p)) ∧ W.cell? ⟨g, 0 + 2, none⟩ = some (.int .i64 (nu p)) ∧ W.cell? ⟨g, 0 + 3, none⟩ = some (.slice a (cd p).length c) ∧ W.cell? ⟨g, 0 + 4, none⟩ = some (.string (tx p)) := by
  have hb := h.1.block g hl (fun e => hne (Option.some.inj e))
  have hc : ∀ j, W.cell? ⟨g, j, none⟩ = W0.cell? ⟨g, j, none⟩ := fun j => World.cell?_of_block (w := W0) hb
  obtain ⟨h0, h1, h2, h3, h4⟩ := hF
  exact ⟨h, by rw [hc]; exact h0, by rw [hc]; exact h1, by rw [hc]; exact h2, by rw [hc]; exact h3, by rw [hc]; exact h4⟩
theorem below_of_grown {w W : World} {B : Nat} {W0 : World} (hB : Below B w W0) (h : BkS W0 B W) (hl : B ≤ W0.heap.size) : Below B w W :=
  hB.trans ⟨h.1.os, h.1.tape, h.1.output, h.1.size, fun k hk => h.1.block k (by omega) (fun e => by have := Option.some.inj e; omega)⟩
theorem make_map (n : Nat) (w : World) : (Instr.makeMap 57 (some (.int .i64 n))).run Tryz.prog w = .ok (.map (some w.heap.size)) (w.alloc (.map #[] 0)) := by
  simp [Instr.makeMap, run_underlying Tryz.underlying57, asInt, go_sem]

set_option maxRecDepth 10000 in
set_option maxHeartbeats 6400000 in
theorem book_of (a : Option Addr) (cap : Nat) (ls : List An) (w : World) (hc : Ans w a ls) (hr : rightA ls = true) :
    Calls Tryz.prog 26 #[.slice a ls.length cap] w fun e w' => e = .returned (.map (some w.heap.size)) ∧ Book w' w.heap.size ls ∧ Below w.heap.size w w' := by
  have HC : Hid (Ans w a ls) := hc
  have hl := hc.1
  have hmm := fun w' => make_map ls.length w'
  have hlen : ls.length ≤ 30 := (rightA_at hr).1
  have HR := hid (rightA_at hr).2
  clear hc hr
  go_enter Tryz.func26, Tryz.ntmps26
  go_wp2_with fail
  go_loopw [11] (fun i wr => ∃ (k : Nat) (D : DataW Value), k ≤ ls.length ∧ i = .int .i64 k ∧ Hid (Mp wr w.heap.size k D) ∧ Hid (Holds wr (w.heap.size + 1) D ls k) ∧ Below w.heap.size w wr) (fun i _ => ls.length - (intOf i).toNat)
  case atStart => exact ⟨0, .map [], Nat.zero_le _, rfl, World.ownsMap_made _ _ _ _, holds_zero _ _ _, (Below.refl _ _).alloc (Nat.le_refl _) _⟩
  case round =>
    obtain ⟨k, D, hk, rfl, HM, HH, hbel⟩ := hrel
    by_cases hlt : k < ls.length
    · obtain ⟨h1, _, h3⟩ := okA_parts (HR.out k hlt)
      obtain ⟨hfit, b, o, ai, ci, rfl, hb, hF, hcd⟩ := HC.out.at (Below.refl _ _) hlt
      have hF1 := hF.on hb hbel
      have hput := fun W W' v (h : Holds W (w.heap.size + 1) D ls k) (hg : W.grownBy W' (some w.heap.size)) hv => h.put HM.out.isMap (Nat.lt_succ_self _) hg HR.out hlt (v := v) hv
      have hlt0 := HM.out.lt
      generalize ls.getD k an0 = p at hF hF1 hcd hfit h1 h3 hput
      obtain ⟨s, x, n, zs, t⟩ := p
      dsimp only [nm, kd, nu, cd, tx] at hcd h1 h3 hput
      have HP := hid hput
      have hs20 : s.size ≤ 20 := (of_decide_eq_true h1).2.1
      have HSz : Hid (s.size ≤ 100000) := by show _ ≤ _; omega
      have HSm : Hid (s.size ≤ maxLen) := by show _ ≤ _; unfold maxLen; omega
      have HKm : Hid (k < maxLen) := by show _ < _; unfold maxLen; omega
      have HTz : Hid (t.size ≤ 100000) := by
        show _ ≤ _
        have hrt : ValM.right x n zs t = true := by unfold ValK.answeredB at h3; simp at h3; exact h3.1
        rcases ValM.kinds hrt with ⟨_, _, _, h⟩ | ⟨_, _, _, _, h⟩ | ⟨_, _, _, _, h⟩ | ⟨_, _, _, h⟩ | ⟨_, _, _, _, h⟩ <;> omega
      have HB : Hid (Below w.heap.size w wr) := hbel
      have HCd := hid hcd
      obtain ⟨c0, c1, c2, c3, c4⟩ := hF1
      dsimp only [nm, kd, nu, cd, tx] at c0 c1 c2 c3 c4
      go_upto_region 5 with fail
      obtain ⟨W0, hW0⟩ : ∃ W0, Hid (wr.alloc (.cells #[.string s, .int .i64 x, .int .i64 n, .slice ai zs.length ci, .string t] 53) = W0) := ⟨_, rfl⟩
      have hF0 : Five (wr.alloc (.cells #[.string s, .int .i64 x, .int .i64 n, .slice ai zs.length ci, .string t] 53)) wr.heap.size 0 (s, x, n, zs, t) ai ci := ⟨by simp, by simp, by simp, by simp, by simp⟩
      have hal := (Below.refl wr.heap.size wr).alloc (Nat.le_refl _) (.cells #[.string s, .int .i64 x, .int .i64 n, .slice ai zs.length ci, .string t] 53)
      have hB1 : Below w.heap.size w (wr.alloc (.cells #[.string s, .int .i64 x, .int .i64 n, .slice ai zs.length ci, .string t] 53)) := HB.out.alloc HB.out.size _
      have hgl : wr.heap.size < (wr.alloc (.cells #[.string s, .int .i64 x, .int .i64 n, .slice ai zs.length ci, .string t] 53)).heap.size := by simp
      have HM2 := hid (Mp.on (Mp.on HM.out hal) (Below.refl _ _).drew)
      have HH2 := hid ((HH.out.on hal).on (Below.refl _ _).drew)
      rw [hW0.out] at hF0 hB1 hgl HM2 HH2 ⊢
      have HF := hid hF0
      have HBW := hid hB1
      have HBl : Hid (w.heap.size ≤ W0.heap.size) := hB1.size
      have hgB : wr.heap.size ≠ w.heap.size := by omega
      have hS0 : BkS W0 w.heap.size W0.drew := ⟨⟨rfl, rfl, rfl, Nat.le_refl _, fun _ _ _ => rfl⟩, by show _ ≤ W0.heap.size; omega⟩
      clear HM HH
      have HM := HM2
      have HH := HH2
      clear HM2 HH2 hal
      generalize wr.heap.size = g at *
      clear hbel hcd hF0 hB1 hfit h1 h3 hF hput c0 c1 c2 c3 c4 hW0
      refine wp_region_held_drew (S := (fun w' => BkS W0 w.heap.size w' ∧ w'.cell? ⟨g, 0, none⟩ = some (.string s) ∧ w'.cell? ⟨g, 0 + 1, none⟩ = some (.int .i64 x) ∧ w'.cell? ⟨g, 0 + 2, none⟩ = some (.int .i64 n) ∧ w'.cell? ⟨g, 0 + 3, none⟩ = some (.slice ai zs.length ci) ∧ w'.cell? ⟨g, 0 + 4, none⟩ = some (.string t))) (by kernel_rfl) ?_ (fun hHeld => ?_)
      · (try dsimp only) <;> (first | exact BkS.all hSn HF.out hgB hgl | exact BkS.all hS0 HF.out hgB hgl)
      refine wpAnyH_take (i := 0) (oi := { dst := some 15, op := Go.Op.move (Go.Operand.tmp 3), type := 57, pos := "l05_eval.go:58", after := #[], guard := none }) (v := ?_) rfl (by kernel_rfl) (by kernel_rfl) (by kernel_rfl) (fun _ _ _ h => h) (Or.inl ⟨by rfl, ?yld141⟩) hHeld ?nxt141
      case yld141 => (intro w hSw; (try dsimp only at hSw); go_simp) <;> with_reducible rfl
      (try simp only [Act.put, List.setIfInBounds_toArray, List.set_cons_zero, List.set_cons_succ])
      refine wpAnyH_take (i := 1) (oi := { dst := some 16, op := Go.Op.fieldAddr 53 (Go.Operand.tmp 5) 0, type := 0, pos := "l05_eval.go:58", after := #[], guard := none }) (v := ?_) rfl (by kernel_rfl) (by kernel_rfl) (by kernel_rfl) (fun _ _ _ h => h) (Or.inl ⟨by rfl, ?yld142⟩) hHeld ?nxt142
      case yld142 => (intro w hSw; (try dsimp only at hSw); go_simp) <;> with_reducible rfl
      (try simp only [Act.put, List.setIfInBounds_toArray, List.set_cons_zero, List.set_cons_succ])
      refine wpAnyH_take (i := 2) (oi := { dst := some 17, op := Go.Op.load 9 (Go.Operand.tmp 16), type := 9, pos := "l05_eval.go:58", after := #[{ on := 1, ground := Go.Ground.data }], guard := none }) (v := ?_) rfl (by kernel_rfl) (by kernel_rfl) (by kernel_rfl) (fun _ _ _ h => h) (Or.inl ⟨by rfl, ?yld143⟩) hHeld ?nxt143
      case yld143 => (intro w hSw; (try dsimp only at hSw); go_simp) <;> with_reducible rfl
      (try simp only [Act.put, List.setIfInBounds_toArray, List.set_cons_zero, List.set_cons_succ])
      refine wpAnyH_take (i := 5) (oi := { dst := some 20, op := Go.Op.fieldAddr 53 (Go.Operand.tmp 5) 1, type := 0, pos := "l05_eval.go:58", after := #[], guard := none }) (v := ?_) rfl (by kernel_rfl) (by kernel_rfl) (by kernel_rfl) (fun _ _ _ h => h) (Or.inl ⟨by rfl, ?yld144⟩) hHeld ?nxt144
      case yld144 => (intro w hSw; (try dsimp only at hSw); go_simp) <;> with_reducible rfl
      (try simp only [Act.put, List.setIfInBounds_toArray, List.set_cons_zero, List.set_cons_succ])
      refine wpAnyH_take (i := 6) (oi := { dst := some 21, op := Go.Op.load 51 (Go.Operand.tmp 20), type := 51, pos := "l05_eval.go:58", after := #[{ on := 5, ground := Go.Ground.data }], guard := none }) (v := ?_) rfl (by kernel_rfl) (by kernel_rfl) (by kernel_rfl) (fun _ _ _ h => h) (Or.inl ⟨by rfl, ?yld145⟩) hHeld ?nxt145
      case yld145 => (intro w hSw; (try dsimp only at hSw); go_simp) <;> with_reducible rfl
      (try simp only [Act.put, List.setIfInBounds_toArray, List.set_cons_zero, List.set_cons_succ])
      refine wpAnyH_ready (rs := [3]) (by kernel_rfl) (by simp) ?_
      refine AllReadyH.cons (o := { dst := some 18, op := Go.Op.buildSlice 96 1 #[(0, Go.Operand.tmp 17)], type := 96, pos := "l05_eval.go:58", after := #[{ on := 2, ground := Go.Ground.data }], guard := none }) rfl (fun K hK => ?_) AllReadyH.nil
      go_simp
      have hSn := hHeld.1.on ((Below.refl _ _).alloc (Nat.le_refl _) (.cells #[.string s] 9))
      have HM2 := hid (Mp.on HM.out ((Below.refl _ _).alloc (Nat.le_refl _) (.cells #[.string s] 9)))
      have HH2 := hid (HH.out.on ((Below.refl _ _).alloc (Nat.le_refl _) (.cells #[.string s] 9)))
      clear HM HH
      have HM := HM2
      have HH := HH2
      clear HM2 HH2
      (try have HV2 := hid (HV.out.on ((Below.refl _ _).alloc (Nat.le_refl _) (.cells #[.string s] 9))))
      (try clear HV)
      (try have HV := HV2)
      (try clear HV2)
      have HSl := hHeld.1.one s
      refine hK.out _ _ ?_ (fun hHeld2 => ?_)
      · (try dsimp only) <;> (first | exact BkS.all hSn HF.out hgB hgl | exact BkS.all hS0 HF.out hgB hgl)
      clear hK K hHeld
      have hHeld := hHeld2
      clear hHeld2
      (try simp only [Act.put, List.setIfInBounds_toArray, List.set_cons_zero, List.set_cons_succ])
      refine wpAnyH_ready (rs := [4]) (by kernel_rfl) (by simp) ?_
      refine AllReadyH.cons (o := { dst := some 19, op := Go.Op.call { callee := Go.Callee.value (Go.Operand.func 44), args := #[Go.Operand.tmp 18], argTypes := #[96] }, type := 9, pos := "l05_eval.go:58", after := #[{ on := 3, ground := Go.Ground.data }], guard := none }) rfl (fun K hK => ?_) AllReadyH.nil
      go_simp
      go_at_call 44
      have hp := hHeld.1
      refine (laid_at s _ _ HSl HSz.out).mono ?_
      rintro e w' ⟨rfl, hB⟩
      have HM2 := hid (Mp.on HM.out hB)
      have HH2 := hid (HH.out.on hB)
      clear HM HH
      have HM := HM2
      have HH := HH2
      clear HM2 HH2
      (try have HV2 := hid (HV.out.on hB))
      (try clear HV)
      (try have HV := HV2)
      (try clear HV2)
      have hSn := hp.on hB
      clear hp hB HSl
      (try go_wp2_with fail)
      refine hK.out _ _ ?_ (fun hHeld2 => ?_)
      · (try dsimp only) <;> (first | exact BkS.all hSn HF.out hgB hgl | exact BkS.all hS0 HF.out hgB hgl)
      clear hK K hHeld
      have hHeld := hHeld2
      clear hHeld2
      (try simp only [Act.put, List.setIfInBounds_toArray, List.set_cons_zero, List.set_cons_succ])
      refine wpAnyH_ready (rs := [7]) (by kernel_rfl) (by simp) ?_
      refine AllReadyH.cons (o := { dst := some 22, op := Go.Op.call { callee := Go.Callee.value (Go.Operand.func 43), args := #[Go.Operand.tmp 21], argTypes := #[51] }, type := 51, pos := "l05_eval.go:58", after := #[{ on := 6, ground := Go.Ground.data }, { on := 4, ground := Go.Ground.chain }], guard := none }) rfl (fun K hK => ?_) AllReadyH.nil
      go_simp
      go_at_call 43
      have hp := hHeld.1
      refine (copied_in x n ai ci zs t _ (HCd.out.on (below_of_grown HBW.out hp HBl.out)) HTz.out).mono ?_
      rintro e w' ⟨a', cap', rfl, hcd, hfr, hfs, hB⟩
      (try have HSl2 := HSl.on hB)
      (try clear HSl)
      (try have HSl := HSl2)
      (try clear HSl2)
      have HV : Hid (Cpy w' (w.heap.size + 1) (s, x, n, zs, t) (av x n a' zs.length cap' t)) := ⟨a', cap', rfl, hcd, hfr, fun b o hb => Nat.le_trans hp.2 (hfs b o hb)⟩
      have HM2 := hid (Mp.on HM.out hB)
      have HH2 := hid (HH.out.on hB)
      clear HM HH
      have HM := HM2
      have HH := HH2
      clear HM2 HH2
      have hSn := hp.on hB
      clear hp hB hcd hfr hfs
      (try go_wp2_with fail)
      refine hK.out _ _ ?_ (fun hHeld2 => ?_)
      · (try dsimp only) <;> (first | exact BkS.all hSn HF.out hgB hgl | exact BkS.all hS0 HF.out hgB hgl)
      clear hK K hHeld
      have hHeld := hHeld2
      clear hHeld2
      (try simp only [Act.put, List.setIfInBounds_toArray, List.set_cons_zero, List.set_cons_succ])
      refine wpAnyH_ready (rs := [8]) (by kernel_rfl) (by simp) ?_
      refine AllReadyH.cons (o := { dst := none, op := Go.Op.mapUpdate 57 (Go.Operand.tmp 15) (Go.Operand.tmp 19) (Go.Operand.tmp 22), type := 0, pos := "l05_eval.go:58", after := #[{ on := 0, ground := Go.Ground.data }, { on := 4, ground := Go.Ground.data }, { on := 7, ground := Go.Ground.data }, { on := 7, ground := Go.Ground.chain }, { on := 0, ground := Go.Ground.phase }, { on := 1, ground := Go.Ground.phase }, { on := 2, ground := Go.Ground.phase }, { on := 3, ground := Go.Ground.phase }, { on := 4, ground := Go.Ground.phase }, { on := 5, ground := Go.Ground.phase }, { on := 6, ground := Go.Ground.phase }, { on := 7, ground := Go.Ground.phase }], guard := none }) rfl (fun K hK => ?_) AllReadyH.nil
      obtain ⟨wm, hrun, hown, hgr⟩ := HM.out.update key_law Tryz.underlying57 HKm.out (key := .string s) (val := av x n a' zs.length cap' t) (Go.WideMaps.keyOf_string_mk Tryz.underlying9 HSm.out) rfl
      go_simp
      have hSn := hHeld.1.grown hgr
      refine hK.out _ _ ?_ (fun hHeld2 => ?_)
      · (try dsimp only) <;> (first | exact BkS.all hSn HF.out hgB hgl | exact BkS.all hS0 HF.out hgB hgl)
      clear hK K hHeld
      have hHeld := hHeld2
      clear hHeld2
      (try simp only [Act.put, List.setIfInBounds_toArray, List.set_cons_zero, List.set_cons_succ])
      refine wpAnyH_done (by kernel_rfl) ?_ _
      have HBL := hid (below_of_grown HBW.out hHeld.1 HBl.out)
      have HHn := hid (HP.out _ _ _ HH.out hgr HV.out)
      have HMn := hid hown
      clear hHeld hS0 HF HH HM hown hgr hrun
      go_wp2_with fail
      refine ⟨⟨k + 1, _, by omega, by go_num, HMn, HHn, HBL.out⟩, by simp [intOf]; omega⟩
    · obtain rfl : k = ls.length := by omega
      go_wp2
      go_ret
      exact ⟨rfl, ⟨D, HM.out, HH.out⟩, hbel⟩
end Go.Proofs.YtflofhbooedpjaaGreatDoor.BookW
/- What the book says of a name. -/
namespace Go.Proofs.YtflofhbooedpjaaGreatDoor.AnsW
open Go.RowKit
open ValW NameW RdS RdI BookW

theorem zeroV (w : World) : (zeroValue 51).run Tryz.prog w = .ok (av 0 0 none 0 0 ByteArray.empty) w := by kernel_rfl

/-- what the book says of a name -/
theorem book_look {w : World} {B : Nat} {ls : List An} {s : ByteArray} (h : Book w B ls) (hr : rightA ls = true) (hs : s.size ≤ maxLen) :
    ∃ v, (Instr.lookup 57 (.map (some B)) (.string s) false).run Tryz.prog w = .ok v w ∧ Cpy w (B + 1) (told ls s) v := by
  obtain ⟨D, hM, hH⟩ := h
  obtain ⟨v, ps, hrun, hv⟩ := World.ownsMap.lookup hM key_law Tryz.underlying57 (zeroV w) (rfl : heldR (av 0 0 none 0 0 ByteArray.empty) = some (.held (av 0 0 none 0 0 ByteArray.empty), [])) (Go.WideMaps.keyOf_string_mk Tryz.underlying9 hs)
  refine ⟨v, hrun, ?_⟩
  have hv1 := Option.some.inj hv
  injection hv1 with hv2 _
  rcases found_or ls s with ⟨i, hi⟩ | hl
  · obtain ⟨u, hu, hat⟩ := hH.1 i hi.1
    rw [hi.2] at hat
    rw [hat] at hv2
    injection hv2 with hv3
    rw [told_found hr hi, hv3]
    exact hu
  · rw [hH.2 s.data.toList (fun i hi e => hl i hi (data_ne.1 e))] at hv2
    injection hv2 with hv3
    rw [told_lacks hl, hv3]
    exact ⟨none, 0, rfl, Codes.nil _ _, free_nil _ _, fresh_none _⟩
end Go.Proofs.YtflofhbooedpjaaGreatDoor.AnsW
