/- AnswersBytes: what the model says. -/
import Derived.Test.YtjbefbknacnfgaaDoorBytMath
import Derived.Test.YtjbefbknacnfgaaDoorAnsSpec
import Derived.Test.YtjbefbknacnfgaaDoorTxtSpec
namespace Go.Proofs.YtjbefbknacnfgaaDoor.AnsW
open Go.RowKit
open ValW ValK NameW

set_option maxRecDepth 10000 in
set_option maxHeartbeats 3200000 in
theorem spec_bytes (a : Option Addr) (cap : Nat) (ls : List An) (w : World) (hc : Ans w a ls) :
    Calls Tryd.prog 5 #[.slice a ls.length cap] w fun e w' => e = .returned (.string (bytesB ls)) ∧ Below w.heap.size w w' := by
  have HC : Hid (Ans w a ls) := hc
  have hl := hc.1
  clear hc
  by_cases hbig : 400 < ls.length
  · have hno : Hid (bytesB ls = ByteArray.empty) := bytesB_no (rightA_long (by omega))
    rw [hno.out]
    go_enter Tryd.func5, Tryd.ntmps5
    go_wp2
    go_ret
    exact ⟨rfl, by go_grown⟩
  obtain ⟨r, hr⟩ : ∃ r, Hid (rightA ls = r) := ⟨_, rfl⟩
  obtain ⟨T, hT⟩ : ∃ T, Hid (bytesB ls = T) := ⟨_, rfl⟩
  rw [hT.out]
  cases r
  · have hno : Hid (T = ByteArray.empty) := by show _ = _; rw [← hT.out]; exact bytesB_no hr.out
    go_enter Tryd.func5, Tryd.ntmps5
    go_wp2_with fail
    refine (spec_answers a cap ls w HC.out).mono ?_
    rintro e w1 ⟨rfl, hB1⟩
    rw [hr.out]
    have HB1 := hid hB1
    clear hB1
    go_wp2
    go_ret
    exact ⟨by rw [hno.out]; rfl, HB1.out⟩
  have hlen : ls.length ≤ 30 := (rightA_at hr.out).1
  have HR := hid (rightA_at hr.out).2
  have HTL := hid (bytesTo_len hr.out)
  go_enter Tryd.func5, Tryd.ntmps5
  go_wp2_with fail
  refine (spec_answers a cap ls w HC.out).mono ?_
  rintro e w1 ⟨rfl, hB1⟩
  rw [hr.out]
  have HB1 := hid hB1
  clear hB1
  go_wp2_with fail
  refine (NumW.spec_put ls.length w1 (by omega) (by omega)).mono ?_
  rintro e w2 ⟨rfl, hB2⟩
  have HB2 : Hid (Below w.heap.size w w2) := HB1.out.trans (hB2.mono HB1.out.size)
  clear hB2 HB1
  obtain ⟨t0, ht0⟩ : ∃ t0 : ByteArray, Hid ((⟨(NumM.putL ls.length).toArray⟩ : ByteArray) = t0) := ⟨_, rfl⟩
  rw [ht0.out]
  go_wp2_with fail
  go_loopw [3, 4] (fun v i wr => ∃ (k : Nat) (u : ByteArray), k ≤ ls.length ∧ i = .int .i64 k ∧ v = .string u ∧ Hid (u.data.toList = bytesTo ls k) ∧ Below w.heap.size w wr) (fun _ i _ => ls.length - (intOf i).toNat)
  case atStart => exact ⟨0, t0, Nat.zero_le _, rfl, rfl, by show _ = _; rw [← ht0.out, bytesTo_zero], HB2.out⟩
  case round =>
    obtain ⟨k, u, hk, rfl, rfl, hu, hbel⟩ := hrel
    by_cases hlt : k < ls.length
    · obtain ⟨h1, _, h3⟩ := okA_parts (HR.out k hlt)
      have hsz := HTL.out k hk
      have hsucc := bytesTo_succ ls k hlt
      obtain ⟨hfit, b, o, ai, ci, rfl, hb, hF, hcd⟩ := HC.out.at hbel hlt
      have hbr : b < wr.heap.size := Nat.lt_of_lt_of_le hb hbel.size
      have hB0 : Below wr.heap.size wr wr.drew := (Below.refl _ _).drew
      generalize ls.getD k an0 = p at hF hcd hfit h1 h3 hsucc
      obtain ⟨s, x, n, zs, t⟩ := p
      dsimp only [nm, kd, nu, cd, tx] at hcd h1 h3
      have hs20 := name_size h1
      have hrt := answered_right h3
      have ht100 := RdM.text_len hrt
      have HS : Hid (s.size ≤ 8000) := by show _ ≤ _; omega
      have HRt := hid hrt
      have HB : Hid (Below w.heap.size w wr) := hbel
      have HF := hid hF
      have HCd := hid hcd
      obtain ⟨c0, c1, c2, c3, c4⟩ := hF
      dsimp only [nm, kd, nu, cd, tx] at c0 c1 c2 c3 c4
      obtain ⟨V, hV⟩ : ∃ V : ByteArray, Hid ((⟨(TxtM.textL x n zs t).toArray⟩ : ByteArray) = V) := ⟨_, rfl⟩
      have hVs : V.size ≤ 100 := by rw [← hV.out]; exact ht100
      have HVs : Hid (V.size ≤ 8000) := by show _ ≤ _; omega
      obtain ⟨X, hA⟩ : ∃ X : ByteArray, Hid ((⟨(TextW.textL s).toArray⟩ : ByteArray) = X) := ⟨_, rfl⟩
      obtain ⟨Y, hBt⟩ : ∃ Y : ByteArray, Hid ((⟨(TextW.textL V).toArray⟩ : ByteArray) = Y) := ⟨_, rfl⟩
      have hus : u.size ≤ 10 + 140 * k := by have e : u.data.toList.length = u.size := Array.length_toList; rw [← e, hu.out]; exact hsz
      have hXs : X.size ≤ 30 := by rw [← hA.out]; have := textL_len s; show (TextW.textL s).length ≤ 30; omega
      have hYs : Y.size ≤ 110 := by rw [← hBt.out]; have := textL_len V; show (TextW.textL V).length ≤ 110; omega
      have HNX : Hid (bytesTo ls (k + 1) = ((u ++ X) ++ Y).data.toList) := by
        show _ = _
        rw [hsucc, TxtM.data_add, TxtM.data_add, hu.out, ← hA.out, ← hBt.out, ← hV.out, List.append_assoc]
        rfl
      have hsum1 : ¬ 9223372036854775807 < u.size + X.size := by omega
      have hsum4 : ¬ 9223372036854775807 < (u ++ X).size + Y.size := by rw [ByteArray.size_append]; omega
      have hsum5 : ¬ 9223372036854775807 < u.size + X.size + Y.size := by omega
      have hsum2 : ¬ (9223372036854775807 : Int) < ((u ++ X).size : Int) + (Y.size : Int) := by rw [ByteArray.size_append]; omega
      have hsum3 : ¬ (9223372036854775807 : Int) < (u.size : Int) + (X.size : Int) + (Y.size : Int) := by omega
      clear hbel hcd hfit h1 h3 hrt HC hsucc
      go_upto_region 7 with fail
      refine wp_region_held_drew (S := (fun w' => Below wr.heap.size wr w' ∧ w'.cell? ⟨b, o + k * 5, none⟩ = some (.string s) ∧ w'.cell? ⟨b, o + k * 5 + 1, none⟩ = some (.int .i64 x) ∧ w'.cell? ⟨b, o + k * 5 + 2, none⟩ = some (.int .i64 n) ∧ w'.cell? ⟨b, o + k * 5 + 3, none⟩ = some (.slice ai zs.length ci) ∧ w'.cell? ⟨b, o + k * 5 + 4, none⟩ = some (.string t))) (by kernel_rfl) ?_ (fun hHeld => ?_)
      · (try dsimp only) <;> (first | exact keep5 hbr HF.out hBn | exact keep5 hbr HF.out hB0)
      refine wpAnyH_take (i := 0) (oi := { dst := some 22, op := Go.Op.move (Go.Operand.tmp 3), type := 9, pos := "l05_eval.go:229", after := #[], guard := none }) (v := ?_) rfl (by kernel_rfl) (by kernel_rfl) (by kernel_rfl) (fun _ _ _ h => h) (Or.inl ⟨by rfl, ?yld99⟩) hHeld ?nxt99
      case yld99 => (intro w hSw; (try dsimp only at hSw); go_simp) <;> with_reducible rfl
      (try simp only [Act.put, List.setIfInBounds_toArray, List.set_cons_zero, List.set_cons_succ])
      refine wpAnyH_take (i := 1) (oi := { dst := some 23, op := Go.Op.move (Go.Operand.tmp 0), type := 25, pos := "l05_eval.go:229", after := #[], guard := none }) (v := ?_) rfl (by kernel_rfl) (by kernel_rfl) (by kernel_rfl) (fun _ _ _ h => h) (Or.inl ⟨by rfl, ?yld100⟩) hHeld ?nxt100
      case yld100 => (intro w hSw; (try dsimp only at hSw); go_simp) <;> with_reducible rfl
      (try simp only [Act.put, List.setIfInBounds_toArray, List.set_cons_zero, List.set_cons_succ])
      refine wpAnyH_take (i := 2) (oi := { dst := some 24, op := Go.Op.move (Go.Operand.tmp 4), type := 3, pos := "l05_eval.go:229", after := #[], guard := none }) (v := ?_) rfl (by kernel_rfl) (by kernel_rfl) (by kernel_rfl) (fun _ _ _ h => h) (Or.inl ⟨by rfl, ?yld101⟩) hHeld ?nxt101
      case yld101 => (intro w hSw; (try dsimp only at hSw); go_simp) <;> with_reducible rfl
      (try simp only [Act.put, List.setIfInBounds_toArray, List.set_cons_zero, List.set_cons_succ])
      refine wpAnyH_take (i := 3) (oi := { dst := some 25, op := Go.Op.indexAddr 25 (Go.Operand.tmp 23) (Go.Operand.tmp 24), type := 0, pos := "l05_eval.go:229", after := #[{ on := 1, ground := Go.Ground.data }, { on := 2, ground := Go.Ground.data }], guard := none }) (v := ?_) rfl (by kernel_rfl) (by kernel_rfl) (by kernel_rfl) (fun _ _ _ h => h) (Or.inl ⟨by rfl, ?yld102⟩) hHeld ?nxt102
      case yld102 => (intro w hSw; (try dsimp only at hSw); go_simp) <;> with_reducible rfl
      (try simp only [Act.put, List.setIfInBounds_toArray, List.set_cons_zero, List.set_cons_succ])
      refine wpAnyH_take (i := 4) (oi := { dst := some 26, op := Go.Op.fieldAddr 40 (Go.Operand.tmp 25) 0, type := 0, pos := "l05_eval.go:229", after := #[{ on := 3, ground := Go.Ground.data }], guard := none }) (v := ?_) rfl (by kernel_rfl) (by kernel_rfl) (by kernel_rfl) (fun _ _ _ h => h) (Or.inl ⟨by rfl, ?yld103⟩) hHeld ?nxt103
      case yld103 => (intro w hSw; (try dsimp only at hSw); go_simp) <;> with_reducible rfl
      (try simp only [Act.put, List.setIfInBounds_toArray, List.set_cons_zero, List.set_cons_succ])
      refine wpAnyH_take (i := 5) (oi := { dst := some 27, op := Go.Op.load 9 (Go.Operand.tmp 26), type := 9, pos := "l05_eval.go:229", after := #[{ on := 4, ground := Go.Ground.data }], guard := none }) (v := ?_) rfl (by kernel_rfl) (by kernel_rfl) (by kernel_rfl) (fun _ _ _ h => h) (Or.inl ⟨by rfl, ?yld104⟩) hHeld ?nxt104
      case yld104 => (intro w hSw; (try dsimp only at hSw); go_simp) <;> with_reducible rfl
      (try simp only [Act.put, List.setIfInBounds_toArray, List.set_cons_zero, List.set_cons_succ])
      refine wpAnyH_take (i := 8) (oi := { dst := some 30, op := Go.Op.move (Go.Operand.tmp 0), type := 25, pos := "l05_eval.go:229", after := #[], guard := none }) (v := ?_) rfl (by kernel_rfl) (by kernel_rfl) (by kernel_rfl) (fun _ _ _ h => h) (Or.inl ⟨by rfl, ?yld105⟩) hHeld ?nxt105
      case yld105 => (intro w hSw; (try dsimp only at hSw); go_simp) <;> with_reducible rfl
      (try simp only [Act.put, List.setIfInBounds_toArray, List.set_cons_zero, List.set_cons_succ])
      refine wpAnyH_take (i := 9) (oi := { dst := some 31, op := Go.Op.move (Go.Operand.tmp 4), type := 3, pos := "l05_eval.go:229", after := #[], guard := none }) (v := ?_) rfl (by kernel_rfl) (by kernel_rfl) (by kernel_rfl) (fun _ _ _ h => h) (Or.inl ⟨by rfl, ?yld106⟩) hHeld ?nxt106
      case yld106 => (intro w hSw; (try dsimp only at hSw); go_simp) <;> with_reducible rfl
      (try simp only [Act.put, List.setIfInBounds_toArray, List.set_cons_zero, List.set_cons_succ])
      refine wpAnyH_take (i := 10) (oi := { dst := some 32, op := Go.Op.indexAddr 25 (Go.Operand.tmp 30) (Go.Operand.tmp 31), type := 0, pos := "l05_eval.go:229", after := #[{ on := 8, ground := Go.Ground.data }, { on := 9, ground := Go.Ground.data }], guard := none }) (v := ?_) rfl (by kernel_rfl) (by kernel_rfl) (by kernel_rfl) (fun _ _ _ h => h) (Or.inl ⟨by rfl, ?yld107⟩) hHeld ?nxt107
      case yld107 => (intro w hSw; (try dsimp only at hSw); go_simp) <;> with_reducible rfl
      (try simp only [Act.put, List.setIfInBounds_toArray, List.set_cons_zero, List.set_cons_succ])
      refine wpAnyH_take (i := 11) (oi := { dst := some 33, op := Go.Op.fieldAddr 40 (Go.Operand.tmp 32) 1, type := 0, pos := "l05_eval.go:229", after := #[{ on := 10, ground := Go.Ground.data }], guard := none }) (v := ?_) rfl (by kernel_rfl) (by kernel_rfl) (by kernel_rfl) (fun _ _ _ h => h) (Or.inl ⟨by rfl, ?yld108⟩) hHeld ?nxt108
      case yld108 => (intro w hSw; (try dsimp only at hSw); go_simp) <;> with_reducible rfl
      (try simp only [Act.put, List.setIfInBounds_toArray, List.set_cons_zero, List.set_cons_succ])
      refine wpAnyH_take (i := 12) (oi := { dst := some 34, op := Go.Op.load 38 (Go.Operand.tmp 33), type := 38, pos := "l05_eval.go:229", after := #[{ on := 11, ground := Go.Ground.data }], guard := none }) (v := ?_) rfl (by kernel_rfl) (by kernel_rfl) (by kernel_rfl) (fun _ _ _ h => h) (Or.inl ⟨by rfl, ?yld109⟩) hHeld ?nxt109
      case yld109 => (intro w hSw; (try dsimp only at hSw); go_simp) <;> with_reducible rfl
      (try simp only [Act.put, List.setIfInBounds_toArray, List.set_cons_zero, List.set_cons_succ])
      refine wpAnyH_ready (rs := [6]) (by kernel_rfl) (by simp) ?_
      refine AllReadyH.cons (o := { dst := some 28, op := Go.Op.call { callee := Go.Callee.value (Go.Operand.func 12), args := #[Go.Operand.tmp 27], argTypes := #[9] }, type := 9, pos := "l05_eval.go:229", after := #[{ on := 5, ground := Go.Ground.data }], guard := none }) rfl (fun K hK => ?_) AllReadyH.nil
      go_simp
      go_at_call 12
      have hp := hHeld.1
      refine (TextW.spec_yes s _ HS.out).mono ?_
      rintro e w' ⟨rfl, hB⟩
      rw [hA.out]
      have hBn := hp.trans (hB.mono hp.size)
      clear hp hB
      (try go_wp2_with fail)
      refine hK.out _ _ ?_ (fun hHeld2 => ?_)
      · (try dsimp only) <;> (first | exact keep5 hbr HF.out hBn | exact keep5 hbr HF.out hB0)
      clear hK K hHeld
      have hHeld := hHeld2
      clear hHeld2
      (try simp only [Act.put, List.setIfInBounds_toArray, List.set_cons_zero, List.set_cons_succ])
      refine wpAnyH_take (i := 7) (oi := { dst := some 29, op := Go.Op.binOp Go.BinOp.add 9 (Go.Operand.tmp 22) (Go.Operand.tmp 28) 9, type := 9, pos := "l05_eval.go:229", after := #[{ on := 0, ground := Go.Ground.data }, { on := 6, ground := Go.Ground.data }], guard := none }) (v := ?_) rfl (by kernel_rfl) (by kernel_rfl) (by kernel_rfl) (fun _ _ _ h => h) (Or.inl ⟨by rfl, ?yld110⟩) hHeld ?nxt110
      case yld110 => (intro w hSw; (try dsimp only at hSw); go_simp) <;> with_reducible rfl
      (try simp only [Act.put, List.setIfInBounds_toArray, List.set_cons_zero, List.set_cons_succ])
      refine wpAnyH_ready (rs := [13]) (by kernel_rfl) (by simp) ?_
      refine AllReadyH.cons (o := { dst := some 35, op := Go.Op.call { callee := Go.Callee.value (Go.Operand.func 13), args := #[Go.Operand.tmp 34], argTypes := #[38] }, type := 9, pos := "l05_eval.go:229", after := #[{ on := 12, ground := Go.Ground.data }, { on := 6, ground := Go.Ground.chain }], guard := none }) rfl (fun K hK => ?_) AllReadyH.nil
      go_simp
      go_at_call 13
      have hp := hHeld.1
      refine (TxtS.l03_text x n ai ci zs t _ (HCd.out.on hp) HRt.out).mono ?_
      rintro e w' ⟨rfl, hB⟩
      rw [hV.out]
      have hBn := hp.trans (hB.mono hp.size)
      clear hp hB
      (try go_wp2_with fail)
      refine hK.out _ _ ?_ (fun hHeld2 => ?_)
      · (try dsimp only) <;> (first | exact keep5 hbr HF.out hBn | exact keep5 hbr HF.out hB0)
      clear hK K hHeld
      have hHeld := hHeld2
      clear hHeld2
      (try simp only [Act.put, List.setIfInBounds_toArray, List.set_cons_zero, List.set_cons_succ])
      refine wpAnyH_ready (rs := [14]) (by kernel_rfl) (by simp) ?_
      refine AllReadyH.cons (o := { dst := some 36, op := Go.Op.call { callee := Go.Callee.value (Go.Operand.func 12), args := #[Go.Operand.tmp 35], argTypes := #[9] }, type := 9, pos := "l05_eval.go:229", after := #[{ on := 13, ground := Go.Ground.data }, { on := 13, ground := Go.Ground.chain }], guard := none }) rfl (fun K hK => ?_) AllReadyH.nil
      go_simp
      go_at_call 12
      have hp := hHeld.1
      refine (TextW.spec_yes V _ HVs.out).mono ?_
      rintro e w' ⟨rfl, hB⟩
      rw [hBt.out]
      have hBn := hp.trans (hB.mono hp.size)
      clear hp hB
      (try go_wp2_with fail)
      refine hK.out _ _ ?_ (fun hHeld2 => ?_)
      · (try dsimp only) <;> (first | exact keep5 hbr HF.out hBn | exact keep5 hbr HF.out hB0)
      clear hK K hHeld
      have hHeld := hHeld2
      clear hHeld2
      (try simp only [Act.put, List.setIfInBounds_toArray, List.set_cons_zero, List.set_cons_succ])
      refine wpAnyH_take (i := 15) (oi := { dst := some 37, op := Go.Op.binOp Go.BinOp.add 9 (Go.Operand.tmp 29) (Go.Operand.tmp 36) 9, type := 9, pos := "l05_eval.go:229", after := #[{ on := 7, ground := Go.Ground.data }, { on := 14, ground := Go.Ground.data }], guard := none }) (v := ?_) rfl (by kernel_rfl) (by kernel_rfl) (by kernel_rfl) (fun _ _ _ h => h) (Or.inl ⟨by rfl, ?yld111⟩) hHeld ?nxt111
      case yld111 => (intro w hSw; (try dsimp only at hSw); go_simp) <;> with_reducible rfl
      (try simp only [Act.put, List.setIfInBounds_toArray, List.set_cons_zero, List.set_cons_succ])
      refine wpAnyH_take (i := 16) (oi := { dst := some 3, op := Go.Op.assign (Go.Operand.tmp 37), type := 9, pos := "l05_eval.go:229", after := #[{ on := 15, ground := Go.Ground.data }, { on := 14, ground := Go.Ground.chain }, { on := 0, ground := Go.Ground.phase }, { on := 1, ground := Go.Ground.phase }, { on := 2, ground := Go.Ground.phase }, { on := 3, ground := Go.Ground.phase }, { on := 4, ground := Go.Ground.phase }, { on := 5, ground := Go.Ground.phase }, { on := 6, ground := Go.Ground.phase }, { on := 7, ground := Go.Ground.phase }, { on := 8, ground := Go.Ground.phase }, { on := 9, ground := Go.Ground.phase }, { on := 10, ground := Go.Ground.phase }, { on := 11, ground := Go.Ground.phase }, { on := 12, ground := Go.Ground.phase }, { on := 13, ground := Go.Ground.phase }, { on := 14, ground := Go.Ground.phase }, { on := 15, ground := Go.Ground.phase }], guard := none }) (v := ?_) rfl (by kernel_rfl) (by kernel_rfl) (by kernel_rfl) (fun _ _ _ h => h) (Or.inl ⟨by rfl, ?yld112⟩) hHeld ?nxt112
      case yld112 => (intro w hSw; (try dsimp only at hSw); go_simp) <;> with_reducible rfl
      (try simp only [Act.put, List.setIfInBounds_toArray, List.set_cons_zero, List.set_cons_succ])
      refine wpAnyH_done (by kernel_rfl) ?_ _
      have HBL := hid hHeld.1
      clear hHeld hB0 c0 c1 c2 c3 c4 HF
      go_wp2_with fail
      refine ⟨⟨k + 1, _, by omega, by go_num, rfl, HNX.out.symm, HB.out.trans (HBL.out.mono HB.out.size)⟩, by simp [intOf]; omega⟩
    · obtain rfl : k = ls.length := by omega
      have hd : Hid (u = T) := by
        show _ = _
        rw [← hT.out, bytesB_yes hr.out]
        exact TxtM.eq_mk hu.out
      go_wp2
      go_ret
      exact ⟨by rw [hd.out]; rfl, hbel⟩
end Go.Proofs.YtjbefbknacnfgaaDoor.AnsW
