/- AnswersBytes: what the program says. -/
import Derived.Test.YtjbefbknacnfgaaDoorBytMath
import Derived.Test.YtjbefbknacnfgaaDoorAnsImpl
import Derived.Test.YtjbefbknacnfgaaDoorTxtCont
import Derived.Deep.Cut
import Derived.Deep.CutRange
namespace Go.Proofs.YtjbefbknacnfgaaDoor.AnsW
open Go.RowKit
open ValW ValK NameW

theorem laid_three (a b c : ByteArray) (w : World) (htot : a.size + b.size + c.size ≤ 100000) :
    Calls Tryd.prog 17 #[.slice (some ⟨w.heap.size, 0, none⟩) 3 3] (w.alloc (.cells #[.string a, .string b, .string c] 9)) fun e w' =>
      e = .returned (.string ((a ++ b) ++ c)) ∧ Below (w.alloc (.cells #[.string a, .string b, .string c] 9)).heap.size (w.alloc (.cells #[.string a, .string b, .string c] 9)) w' := by
  have hcat : LaidW.catB [a, b, c] = ((a ++ b) ++ c).data.toList := by simp [LaidW.catB, ByteArray.data_append]
  refine (LaidW.laid_any [a, b, c] w.heap.size (w.alloc (.cells #[.string a, .string b, .string c] 9)) (by simp) (by simp) ?_ ?_).mono ?_
  · intro i hi
    match i, hi with
    | 0, _ => simp
    | 1, _ => simp
    | 2, _ => simp
  · rw [hcat]; simp [ByteArray.data_append]; simpa using (by omega : a.size + (b.size + c.size) ≤ 100000)
  · rintro e w' ⟨rfl, hB⟩
    exact ⟨by rw [hcat, TxtM.mk_data], hB⟩

set_option maxRecDepth 10000 in
set_option maxHeartbeats 3200000 in
theorem impl_bytes (a : Option Addr) (cap : Nat) (ls : List An) (w : World) (hc : Ans w a ls) (hE : TxtI.Env w) :
    Calls Tryd.prog 7 #[.slice a ls.length cap] w fun e w' => e = .returned (.string (bytesB ls)) ∧ Below w.heap.size w w' := by
  have HC : Hid (Ans w a ls) := hc
  have HE := hid hE
  have hl := hc.1
  clear hc hE
  obtain ⟨r, hr⟩ : ∃ r, Hid (rightA ls = r) := ⟨_, rfl⟩
  obtain ⟨T, hT⟩ : ∃ T, Hid (bytesB ls = T) := ⟨_, rfl⟩
  rw [hT.out]
  cases r
  · have hno : Hid (T = ByteArray.empty) := by show _ = _; rw [← hT.out]; exact bytesB_no hr.out
    go_enter Tryd.func7, Tryd.ntmps7
    go_wp2_with fail
    refine (impl_answers a cap ls w HC.out).mono ?_
    rintro e w1 ⟨rfl, hB1⟩
    rw [hr.out]
    have HB1 := hid hB1
    clear hB1
    go_wp2
    go_ret
    exact ⟨by rw [hno.out]; rfl, HB1.out⟩
  have hlen : ls.length ≤ 30 := (rightA_at hr.out).1
  have HR := hid (rightA_at hr.out).2
  have HTL := hid (bytesTo_len hr.out)
  go_enter Tryd.func7, Tryd.ntmps7
  go_wp2_with fail
  refine (impl_answers a cap ls w HC.out).mono ?_
  rintro e w1 ⟨rfl, hB1⟩
  rw [hr.out]
  have HB1 := hid hB1
  clear hB1
  go_wp2_with fail
  refine (NumW.impl_put ls.length w1 (by omega) (by omega)).mono ?_
  rintro e w2 ⟨rfl, hB2⟩
  have HB2 : Hid (Below w.heap.size w w2) := HB1.out.trans (hB2.mono HB1.out.size)
  clear hB2 HB1
  obtain ⟨t0, ht0⟩ : ∃ t0 : ByteArray, Hid ((⟨(NumM.putL ls.length).toArray⟩ : ByteArray) = t0) := ⟨_, rfl⟩
  rw [ht0.out]
  go_wp2_with fail
  go_loopw [3, 14] (fun v i wr => ∃ (k : Nat) (u : ByteArray), k ≤ ls.length ∧ i = .int .i64 k ∧ v = .string u ∧ Hid (u.data.toList = bytesTo ls k) ∧ Below w.heap.size w wr) (fun _ i _ => ls.length - (intOf i).toNat)
  case atStart => exact ⟨0, t0, Nat.zero_le _, rfl, rfl, by show _ = _; rw [← ht0.out, bytesTo_zero], HB2.out⟩
  case round =>
    obtain ⟨k, u, hk, rfl, rfl, hu, hbel⟩ := hrel
    by_cases hlt : k < ls.length
    · obtain ⟨h1, _, h3⟩ := okA_parts (HR.out k hlt)
      have hsz := HTL.out k hk
      have hsucc := bytesTo_succ ls k hlt
      obtain ⟨hfit, b, o, ai, ci, rfl, hb, hF, hcd⟩ := HC.out.at hbel hlt
      generalize ls.getD k an0 = p at hF hcd hfit h1 h3 hsucc
      obtain ⟨s, x, n, zs, t⟩ := p
      dsimp only [nm, kd, nu, cd, tx] at hcd h1 h3
      have hs20 := name_size h1
      have hrt := answered_right h3
      have ht100 := RdM.text_len hrt
      have HS : Hid (s.size ≤ 8000) := by show _ ≤ _; omega
      have HTt : Hid (t.size ≤ maxLen) := Nat.le_trans hfit.2 (by decide)
      have HB : Hid (Below w.heap.size w wr) := hbel
      obtain ⟨c0, c1, c2, c3, c4⟩ := hF
      dsimp only [nm, kd, nu, cd, tx] at c0 c1 c2 c3 c4
      obtain ⟨V, hV⟩ : ∃ V : ByteArray, Hid (TxtM.textB x n zs t = V) := ⟨_, rfl⟩
      have hVe : V = ⟨(TxtM.textL x n zs t).toArray⟩ := by rw [← hV.out]; unfold TxtM.textB; rw [if_pos hrt]
      have hVs : V.size ≤ 100 := by rw [hVe]; exact ht100
      have HVs : Hid (V.size ≤ 8000) := by show _ ≤ _; omega
      obtain ⟨X, hA⟩ : ∃ X : ByteArray, Hid ((⟨(TextW.textL s).toArray⟩ : ByteArray) = X) := ⟨_, rfl⟩
      obtain ⟨Y, hBt⟩ : ∃ Y : ByteArray, Hid ((⟨(TextW.textL V).toArray⟩ : ByteArray) = Y) := ⟨_, rfl⟩
      have hus : u.size ≤ 10 + 140 * k := by have e : u.data.toList.length = u.size := Array.length_toList; rw [← e, hu.out]; exact hsz
      have hXs : X.size ≤ 30 := by rw [← hA.out]; have := textL_len s; show (TextW.textL s).length ≤ 30; omega
      have hYs : Y.size ≤ 110 := by rw [← hBt.out]; have := textL_len V; show (TextW.textL V).length ≤ 110; omega
      obtain ⟨Z, HNX⟩ : ∃ Z : ByteArray, Hid ((u ++ X) ++ Y = Z) := ⟨_, rfl⟩
      have HZ : Hid (Z.data.toList = bytesTo ls (k + 1)) := by
        show _ = _
        rw [← HNX.out, hsucc, TxtM.data_add, TxtM.data_add, hu.out, ← hA.out, ← hBt.out, hVe, List.append_assoc]
        rfl
      go_upto_region 7 with fail
      obtain ⟨W0, hW0⟩ : ∃ W0, Hid (wr.alloc (.cells #[.string s, .int .i64 x, .int .i64 n, .slice ai zs.length ci, .string t] 40) = W0) := ⟨_, rfl⟩
      have hF0 : Five (wr.alloc (.cells #[.string s, .int .i64 x, .int .i64 n, .slice ai zs.length ci, .string t] 40)) wr.heap.size 0 (s, x, n, zs, t) ai ci := ⟨by simp, by simp, by simp, by simp, by simp⟩
      have hB1 : Below w.heap.size w (wr.alloc (.cells #[.string s, .int .i64 x, .int .i64 n, .slice ai zs.length ci, .string t] 40)) := HB.out.alloc HB.out.size _
      have hcd1 := hcd.alloc (.cells #[.string s, .int .i64 x, .int .i64 n, .slice ai zs.length ci, .string t] 40)
      have hbr : wr.heap.size < (wr.alloc (.cells #[.string s, .int .i64 x, .int .i64 n, .slice ai zs.length ci, .string t] 40)).heap.size := by simp
      rw [hW0.out] at hF0 hB1 hcd1 hbr ⊢
      have HF := hid hF0
      have HB0 := hid hB1
      have HCd := hid hcd1
      have hB0 : Below W0.heap.size W0 W0.drew := (Below.refl _ _).drew
      generalize wr.heap.size = g at *
      clear hbel hcd hcd1 hF0 hB1 hfit h1 h3 hrt HC hsucc hVe c0 c1 c2 c3 c4 hW0
      refine wp_region_held_drew (S := (fun w' => Below W0.heap.size W0 w' ∧ w'.cell? ⟨g, 0, none⟩ = some (.string s) ∧ w'.cell? ⟨g, 0 + 1, none⟩ = some (.int .i64 x) ∧ w'.cell? ⟨g, 0 + 2, none⟩ = some (.int .i64 n) ∧ w'.cell? ⟨g, 0 + 3, none⟩ = some (.slice ai zs.length ci) ∧ w'.cell? ⟨g, 0 + 4, none⟩ = some (.string t))) (by kernel_rfl) ?_ (fun hHeld => ?_)
      · (try dsimp only) <;> (first | exact keep5 hbr HF.out hBn | exact keep5 hbr HF.out hB0)
      refine wpAnyH_take (i := 0) (oi := { dst := some 18, op := Go.Op.move (Go.Operand.tmp 3), type := 9, pos := "l05_eval.go:288", after := #[], guard := none }) (v := ?_) rfl (by kernel_rfl) (by kernel_rfl) (by kernel_rfl) (fun _ _ _ h => h) (Or.inl ⟨by rfl, ?yld113⟩) hHeld ?nxt113
      case yld113 => (intro w hSw; (try dsimp only at hSw); go_simp) <;> with_reducible rfl
      (try simp only [Act.put, List.setIfInBounds_toArray, List.set_cons_zero, List.set_cons_succ])
      refine wpAnyH_take (i := 1) (oi := { dst := some 19, op := Go.Op.fieldAddr 40 (Go.Operand.tmp 5) 0, type := 0, pos := "l05_eval.go:288", after := #[], guard := none }) (v := ?_) rfl (by kernel_rfl) (by kernel_rfl) (by kernel_rfl) (fun _ _ _ h => h) (Or.inl ⟨by rfl, ?yld114⟩) hHeld ?nxt114
      case yld114 => (intro w hSw; (try dsimp only at hSw); go_simp) <;> with_reducible rfl
      (try simp only [Act.put, List.setIfInBounds_toArray, List.set_cons_zero, List.set_cons_succ])
      refine wpAnyH_take (i := 2) (oi := { dst := some 20, op := Go.Op.load 9 (Go.Operand.tmp 19), type := 9, pos := "l05_eval.go:288", after := #[{ on := 1, ground := Go.Ground.data }], guard := none }) (v := ?_) rfl (by kernel_rfl) (by kernel_rfl) (by kernel_rfl) (fun _ _ _ h => h) (Or.inl ⟨by rfl, ?yld115⟩) hHeld ?nxt115
      case yld115 => (intro w hSw; (try dsimp only at hSw); go_simp) <;> with_reducible rfl
      (try simp only [Act.put, List.setIfInBounds_toArray, List.set_cons_zero, List.set_cons_succ])
      refine wpAnyH_take (i := 4) (oi := { dst := some 22, op := Go.Op.fieldAddr 40 (Go.Operand.tmp 5) 1, type := 0, pos := "l05_eval.go:288", after := #[], guard := none }) (v := ?_) rfl (by kernel_rfl) (by kernel_rfl) (by kernel_rfl) (fun _ _ _ h => h) (Or.inl ⟨by rfl, ?yld116⟩) hHeld ?nxt116
      case yld116 => (intro w hSw; (try dsimp only at hSw); go_simp) <;> with_reducible rfl
      (try simp only [Act.put, List.setIfInBounds_toArray, List.set_cons_zero, List.set_cons_succ])
      refine wpAnyH_take (i := 5) (oi := { dst := some 23, op := Go.Op.load 38 (Go.Operand.tmp 22), type := 38, pos := "l05_eval.go:288", after := #[{ on := 4, ground := Go.Ground.data }], guard := none }) (v := ?_) rfl (by kernel_rfl) (by kernel_rfl) (by kernel_rfl) (fun _ _ _ h => h) (Or.inl ⟨by rfl, ?yld117⟩) hHeld ?nxt117
      case yld117 => (intro w hSw; (try dsimp only at hSw); go_simp) <;> with_reducible rfl
      (try simp only [Act.put, List.setIfInBounds_toArray, List.set_cons_zero, List.set_cons_succ])
      refine wpAnyH_ready (rs := [3]) (by kernel_rfl) (by simp) ?_
      refine AllReadyH.cons (o := { dst := some 21, op := Go.Op.call { callee := Go.Callee.value (Go.Operand.func 18), args := #[Go.Operand.tmp 20], argTypes := #[9] }, type := 9, pos := "l05_eval.go:288", after := #[{ on := 2, ground := Go.Ground.data }], guard := none }) rfl (fun K hK => ?_) AllReadyH.nil
      go_simp
      go_at_call 18
      have hp := hHeld.1
      refine (TextW.impl_yes s _ HS.out).mono ?_
      rintro e w' ⟨rfl, hB⟩
      rw [hA.out]
      have hBn := hp.trans (hB.mono hp.size)
      clear hp hB
      (try go_wp2_with fail)
      refine hK.out _ _ ?_ (fun hHeld2 => ?_)
      · (try dsimp only) <;> (first | exact keep5 hbr HF.out hBn | exact keep5 hbr HF.out hB0)
      clear hK K hHeld
      have hHeld := hHeld2
      clear hHeld2
      (try simp only [Act.put, List.setIfInBounds_toArray, List.set_cons_zero, List.set_cons_succ])
      refine wpAnyH_ready (rs := [6]) (by kernel_rfl) (by simp) ?_
      refine AllReadyH.cons (o := { dst := some 24, op := Go.Op.call { callee := Go.Callee.value (Go.Operand.func 19), args := #[Go.Operand.tmp 23], argTypes := #[38] }, type := 9, pos := "l05_eval.go:288", after := #[{ on := 5, ground := Go.Ground.data }, { on := 3, ground := Go.Ground.chain }], guard := none }) rfl (fun K hK => ?_) AllReadyH.nil
      go_simp
      go_at_call 19
      have hp := hHeld.1
      refine (TxtI.impl_text x n ai ci zs t _ (HCd.out.on hp) HTt.out ((HE.out.on HB0.out).on hp)).mono ?_
      rintro e w' ⟨rfl, hB⟩
      rw [hV.out]
      have hBn := hp.trans (hB.mono hp.size)
      clear hp hB
      (try go_wp2_with fail)
      refine hK.out _ _ ?_ (fun hHeld2 => ?_)
      · (try dsimp only) <;> (first | exact keep5 hbr HF.out hBn | exact keep5 hbr HF.out hB0)
      clear hK K hHeld
      have hHeld := hHeld2
      clear hHeld2
      (try simp only [Act.put, List.setIfInBounds_toArray, List.set_cons_zero, List.set_cons_succ])
      refine wpAnyH_ready (rs := [7]) (by kernel_rfl) (by simp) ?_
      refine AllReadyH.cons (o := { dst := some 25, op := Go.Op.call { callee := Go.Callee.value (Go.Operand.func 18), args := #[Go.Operand.tmp 24], argTypes := #[9] }, type := 9, pos := "l05_eval.go:288", after := #[{ on := 6, ground := Go.Ground.data }, { on := 6, ground := Go.Ground.chain }], guard := none }) rfl (fun K hK => ?_) AllReadyH.nil
      go_simp
      go_at_call 18
      have hp := hHeld.1
      refine (TextW.impl_yes V _ HVs.out).mono ?_
      rintro e w' ⟨rfl, hB⟩
      rw [hBt.out]
      have hBn := hp.trans (hB.mono hp.size)
      clear hp hB
      (try go_wp2_with fail)
      refine hK.out _ _ ?_ (fun hHeld2 => ?_)
      · (try dsimp only) <;> (first | exact keep5 hbr HF.out hBn | exact keep5 hbr HF.out hB0)
      clear hK K hHeld
      have hHeld := hHeld2
      clear hHeld2
      (try simp only [Act.put, List.setIfInBounds_toArray, List.set_cons_zero, List.set_cons_succ])
      refine wpAnyH_ready (rs := [8]) (by kernel_rfl) (by simp) ?_
      refine AllReadyH.cons (o := { dst := some 26, op := Go.Op.buildSlice 53 3 #[(0, Go.Operand.tmp 18), (1, Go.Operand.tmp 21), (2, Go.Operand.tmp 25)], type := 53, pos := "l05_eval.go:288", after := #[{ on := 0, ground := Go.Ground.data }, { on := 3, ground := Go.Ground.data }, { on := 7, ground := Go.Ground.data }], guard := none }) rfl (fun K hK => ?_) AllReadyH.nil
      go_simp
      have hBn := hHeld.1.alloc hHeld.1.size (.cells #[.string u, .string X, .string Y] 9)
      refine hK.out _ _ ?_ (fun hHeld2 => ?_)
      · (try dsimp only) <;> (first | exact keep5 hbr HF.out hBn | exact keep5 hbr HF.out hB0)
      clear hK K hHeld
      have hHeld := hHeld2
      clear hHeld2
      (try simp only [Act.put, List.setIfInBounds_toArray, List.set_cons_zero, List.set_cons_succ])
      refine wpAnyH_ready (rs := [9]) (by kernel_rfl) (by simp) ?_
      refine AllReadyH.cons (o := { dst := some 27, op := Go.Op.call { callee := Go.Callee.value (Go.Operand.func 17), args := #[Go.Operand.tmp 26], argTypes := #[53] }, type := 9, pos := "l05_eval.go:288", after := #[{ on := 8, ground := Go.Ground.data }, { on := 7, ground := Go.Ground.chain }], guard := none }) rfl (fun K hK => ?_) AllReadyH.nil
      go_simp
      go_at_call 17
      have hp := hHeld.1
      refine (laid_three u X Y _ (by omega)).mono ?_
      rintro e w' ⟨rfl, hB⟩
      rw [HNX.out]
      have hBn := hp.trans (hB.mono hp.size)
      clear hp hB
      (try go_wp2_with fail)
      refine hK.out _ _ ?_ (fun hHeld2 => ?_)
      · (try dsimp only) <;> (first | exact keep5 hbr HF.out hBn | exact keep5 hbr HF.out hB0)
      clear hK K hHeld
      have hHeld := hHeld2
      clear hHeld2
      (try simp only [Act.put, List.setIfInBounds_toArray, List.set_cons_zero, List.set_cons_succ])
      refine wpAnyH_take (i := 10) (oi := { dst := some 3, op := Go.Op.assign (Go.Operand.tmp 27), type := 9, pos := "l05_eval.go:288", after := #[{ on := 9, ground := Go.Ground.data }, { on := 9, ground := Go.Ground.chain }, { on := 0, ground := Go.Ground.phase }, { on := 1, ground := Go.Ground.phase }, { on := 2, ground := Go.Ground.phase }, { on := 3, ground := Go.Ground.phase }, { on := 4, ground := Go.Ground.phase }, { on := 5, ground := Go.Ground.phase }, { on := 6, ground := Go.Ground.phase }, { on := 7, ground := Go.Ground.phase }, { on := 8, ground := Go.Ground.phase }, { on := 9, ground := Go.Ground.phase }], guard := none }) (v := ?_) rfl (by kernel_rfl) (by kernel_rfl) (by kernel_rfl) (fun _ _ _ h => h) (Or.inl ⟨by rfl, ?yld118⟩) hHeld ?nxt118
      case yld118 => (intro w hSw; (try dsimp only at hSw); go_simp) <;> with_reducible rfl
      (try simp only [Act.put, List.setIfInBounds_toArray, List.set_cons_zero, List.set_cons_succ])
      refine wpAnyH_done (by kernel_rfl) ?_ _
      have HBL := hid hHeld.1
      clear hHeld hB0 HF
      go_wp2_with fail
      refine ⟨⟨k + 1, Z, by omega, by go_num, rfl, HZ.out, HB0.out.trans (HBL.out.mono HB0.out.size)⟩, by simp [intOf]; omega⟩
    · obtain rfl : k = ls.length := by omega
      have hd : Hid (u = T) := by
        show _ = _
        rw [← hT.out, bytesB_yes hr.out]
        exact TxtM.eq_mk hu.out
      go_wp2
      go_ret
      exact ⟨by rw [hd.out]; rfl, hbel⟩
end Go.Proofs.YtjbefbknacnfgaaDoor.AnsW
