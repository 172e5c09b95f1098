/- Texts of ours, laid together: PutIm. -/
import Derived.Test.YtjnnkilmlngjgaaGreatDoorBd28
import Derived.Test.YtjnnkilmlngjgaaGreatDoorBd30
import Derived.Test.YtjnnkilmlngjgaaGreatDoorBd25
import Derived.Test.YtjnnkilmlngjgaaGreatDoorBd5
/- AnswerPut: what the program says. -/
namespace Go.Proofs.YtjnnkilmlngjgaaGreatDoor.BookW
open Go.RowKit Go.Maps
open ValW ValK NameW RdS RdI AnsW
open ValI (At4)

/-- the one variable that errors.As reads -/
def EnvA (w : World) : Prop := w.cell? ⟨0, 0, none⟩ = some (.iface 108 (.agg #[.pointer (some ⟨1, 56, none⟩)]))
theorem EnvA.on {w w' : World} (h : EnvA w) (hB : Below w.heap.size w w') : EnvA w' := by
  have hl : 0 < w.heap.size := World.block_lt_of_cell? w _ h
  unfold EnvA
  rw [hB.cell (p := ⟨_, 0, none⟩) hl]; exact h

/-- the code of what is wrong of answers and a name -/
def bkCode (ls : List An) (s : ByteArray) : Int := if 400 < ls.length ∨ 8000 < s.size then 2 else 1
theorem bk_two {ls : List An} {s : ByteArray} (h : 400 < ls.length ∨ 8000 < s.size) : bkCode ls s = 2 := if_pos h
theorem bk_one {ls : List An} {s : ByteArray} (h1 : ¬ 400 < ls.length) (h2 : ¬ 8000 < s.size) : bkCode ls s = 1 := if_neg (fun h => h.elim h1 h2)
/-- how bookFor ends, with its code -/
def BkEnd2 (ls : List An) (s : ByteArray) (w : World) (e : Ending) (w' : World) : Prop :=
  ((rightA ls = true ∧ nameB s = true) ∧ ∃ B, e = .returned (.tuple #[.map (some B), .nilIface]) ∧ w.heap.size ≤ B ∧ Book w' B ls) ∨
  (¬ (rightA ls = true ∧ nameB s = true) ∧ e = .returned (.tuple #[.map none, .iface 69 (.agg #[.int .i64 (bkCode ls s)])]))

set_option maxRecDepth 10000 in
set_option maxHeartbeats 1600000 in
theorem book_for2 (a : Option Addr) (cap : Nat) (ls : List An) (s : ByteArray) (w : World) (hc : Ans w a ls) (hs : s.size ≤ maxLen) :
    Calls Tryz.prog 36 #[.slice a ls.length cap, .string s] w fun e w' => BkEnd2 ls s w e w' ∧ Below w.heap.size w w' := by
  have HC : Hid (Ans w a ls) := hc
  have HS := hid hs
  have hl := hc.1
  unfold maxLen at hs
  clear hc
  obtain ⟨r, hr⟩ : ∃ r, Hid (rightA ls = r) := ⟨_, rfl⟩
  obtain ⟨m, hm⟩ : ∃ m, Hid (nameB s = m) := ⟨_, rfl⟩
  by_cases hb1 : 400 < ls.length
  · have hno : Hid (¬ (rightA ls = true ∧ nameB s = true)) := fun h => by rw [rightA_long (by omega)] at h; cases h.1
    have HK : Hid (bkCode ls s = 2) := bk_two (.inl hb1)
    go_enter Tryz.func36, Tryz.ntmps36
    go_wp2
    refine bodyPost_ret (v := .tuple #[.map none, .iface 69 (.agg #[.int .i64 2])]) (by simp [results, Tryz.results36, go_sem]) rfl ⟨.inr ⟨hno.out, by rw [HK.out]⟩, by go_grown⟩
  by_cases hb2 : 8000 < s.size
  · have hno : Hid (¬ (rightA ls = true ∧ nameB s = true)) := fun h => by rw [name_no s (.inr (by omega))] at h; cases h.2
    have HK : Hid (bkCode ls s = 2) := bk_two (.inr hb2)
    go_enter Tryz.func36, Tryz.ntmps36
    go_wp2
    refine bodyPost_ret (v := .tuple #[.map none, .iface 69 (.agg #[.int .i64 2])]) (by simp [results, Tryz.results36, go_sem]) rfl ⟨.inr ⟨hno.out, by rw [HK.out]⟩, by go_grown⟩
  have HK : Hid (bkCode ls s = 1) := bk_one hb1 hb2
  cases r
  · have hno : Hid (¬ (rightA ls = true ∧ nameB s = true)) := fun h => by rw [hr.out] at h; cases h.1
    go_enter Tryz.func36, Tryz.ntmps36
    go_wp2_with fail
    refine (impl_answers a cap ls w HC.out).mono ?_
    rintro e w1 ⟨rfl, hB1⟩
    rw [hr.out]
    have HB1 := hid hB1
    clear hB1
    go_wp2_with fail
    refine bodyPost_ret (v := .tuple #[.map none, .iface 69 (.agg #[.int .i64 1])]) (by simp [results, Tryz.results36, go_sem]) rfl ⟨.inr ⟨hno.out, by rw [HK.out]⟩, HB1.out⟩
  cases m
  · have hno : Hid (¬ (rightA ls = true ∧ nameB s = true)) := fun h => by rw [hm.out] at h; cases h.2
    go_enter Tryz.func36, Tryz.ntmps36
    go_wp2_with fail
    refine (impl_answers a cap ls w HC.out).mono ?_
    rintro e w1 ⟨rfl, hB1⟩
    rw [hr.out]
    have HB1 := hid hB1
    clear hB1
    go_wp2_with fail
    refine (impl_name s w1 HS.out).mono ?_
    rintro e w2 ⟨rfl, rfl⟩
    rw [hm.out]
    go_wp2_with fail
    refine bodyPost_ret (v := .tuple #[.map none, .iface 69 (.agg #[.int .i64 1])]) (by simp [results, Tryz.results36, go_sem]) rfl ⟨.inr ⟨hno.out, by rw [HK.out]⟩, HB1.out⟩
  · go_enter Tryz.func36, Tryz.ntmps36
    go_wp2_with fail
    refine (impl_answers a cap ls w HC.out).mono ?_
    rintro e w1 ⟨rfl, hB1⟩
    rw [hr.out]
    have HB1 := hid hB1
    clear hB1
    go_wp2_with fail
    refine (impl_name s w1 HS.out).mono ?_
    rintro e w2 ⟨rfl, rfl⟩
    rw [hm.out]
    go_wp2_with fail
    refine (book_of a cap ls _ (HC.out.on HB1.out) hr.out).mono ?_
    rintro e w3 ⟨rfl, hbk, hB3⟩
    have HB3 := hid (HB1.out.trans (hB3.mono HB1.out.size))
    have HBK := hid hbk
    have hsz := HB1.out.size
    clear hB3 hbk
    go_wp2_with fail
    refine bodyPost_ret (v := .tuple #[.map (some _), .nilIface]) (by simp [results, Tryz.results36, go_sem]) rfl ⟨.inl ⟨⟨hr.out, hm.out⟩, _, rfl, hsz, HBK.out⟩, HB3.out⟩

/-- whether the book has a name -/
theorem book_ok {w : World} {B n : Nat} {D : DataW Value} {ls : List An} {s : ByteArray} (hM : Mp w B n D) (hH : Holds w (B + 1) D ls ls.length) (hs : s.size ≤ maxLen) :
    ∃ (k n : Int) (a : Option Addr) (l c : Nat) (t : ByteArray), (Instr.lookup 65 (.map (some B)) (.string s) true).run Tryz.prog w = .ok (.tuple #[av k n a l c t, .bool (hasA ls s)]) w := by
  obtain ⟨v, ps, hrun, hv⟩ := World.ownsMap.look_ok hM key_law Tryz.underlying65 (zeroV w) (rfl : heldR (av 0 0 none 0 0 ByteArray.empty) = some (.held (av 0 0 none 0 0 ByteArray.empty), [])) (Go.WideMaps.keyOf_string_mk Tryz.underlying9 hs)
  rw [has_name hH s] at hrun
  have hv1 := Option.some.inj hv
  injection hv1 with hv2 _
  rcases found_or ls s with ⟨i, hi⟩ | hl
  · obtain ⟨u, ⟨a, c, hu, _⟩, hat⟩ := hH.1 i hi.1
    rw [hi.2] at hat
    rw [hat] at hv2
    injection hv2 with hv3
    rw [hv3, hu] at hrun
    exact ⟨_, _, _, _, _, _, hrun⟩
  · rw [hH.2 s.data.toList (fun i hi e => hl i hi (data_ne.1 e))] at hv2
    injection hv2 with hv3
    rw [hv3] at hrun
    exact ⟨_, _, _, _, _, _, hrun⟩
theorem below_put {w W W0 : World} {B : Nat} (hB : Below w.heap.size w W0) (h : BkS W0 B W) (hl : w.heap.size ≤ B) : Below w.heap.size w W :=
  hB.trans ⟨h.1.os, h.1.tape, h.1.output, h.1.size, fun k hk => h.1.block k (Nat.lt_of_lt_of_le hk hB.size) (fun e => by have := Option.some.inj e; omega)⟩
theorem bks_four {W0 W : World} {B g : Nat} {v0 v1 v2 v3 : Value} (h : BkS W0 B W) (hA : At4 W0 g v0 v1 v2 v3) (hne : g ≠ B) : BkS W0 B W ∧ W.cell? ⟨g, 0, none⟩ = some v0 ∧ W.cell? ⟨g, 1, none⟩ = some v1 ∧ W.cell? ⟨g, 2, none⟩ = some v2 ∧ W.cell? ⟨g, 3, none⟩ = some v3 := by
  obtain ⟨h0, h1, h2, h3, hl⟩ := hA
  have hb := h.1.block g hl (fun e => hne (Option.some.inj e))
  have hc : ∀ j, W.cell? ⟨g, j, none⟩ = W0.cell? ⟨g, j, none⟩ := fun j => World.cell?_of_block (w := W0) hb
  exact ⟨h, by rw [hc]; exact h0, by rw [hc]; exact h1, by rw [hc]; exact h2, by rw [hc]; exact h3⟩
theorem box_below (w : World) (x n : Int) (ai : Option Addr) (len ci : Nat) (t : ByteArray) : Below w.heap.size w (w.alloc (.cells #[.int .i64 x, .int .i64 n, .slice ai len ci, .string t] 33)) := (Below.refl _ _).alloc (Nat.le_refl _) _
theorem put_bk {ls : List An} {p : An} (h : ¬ (rightA ls = true ∧ nameB (nm p) = true)) : putCode ls p = bkCode ls (nm p) := by
  by_cases hb : 400 < ls.length ∨ 8000 < (nm p).size
  · rw [code_size hb, bk_two hb]
  · rw [code_form hb (fun k => h ⟨k.1, (good_name k.2).1⟩), bk_one (fun k => hb (.inl k)) (fun k => hb (.inr k))]
theorem bk_ne {ls : List An} {s : ByteArray} : bkCode ls s ≠ 0 := by unfold bkCode; split <;> decide

/-- how putAnswer ends -/
def PutE (ls : List An) (p : An) (w : World) (e : Ending) (w' : World) : Prop :=
  (putCode ls p = 0 ∧ ∃ g ads F, e = .returned (.tuple #[.slice (some ⟨g, 0, none⟩) (putA ls p).length (putA ls p).length, .nilIface]) ∧ w.heap.size ≤ g ∧ w.heap.size ≤ F ∧ OwnA w' F g (putA ls p) ads) ∨
  (putCode ls p ≠ 0 ∧ e = .returned (.tuple #[.slice none 0 0, .iface 69 (.agg #[.int .i64 (putCode ls p)])]))
theorem PutE.bad {ls : List An} {p : An} {w w' : World} {c : Int} (h : putCode ls p = c) (hc : c ≠ 0) : PutE ls p w (.returned (.tuple #[.slice none 0 0, .iface 69 (.agg #[.int .i64 c])])) w' := .inr ⟨by rw [h]; exact hc, by rw [h]⟩

set_option maxRecDepth 10000 in
set_option maxHeartbeats 3200000 in
theorem put_answer (a : Option Addr) (cap : Nat) (ls : List An) (s : ByteArray) (x n : Int) (ai : Option Addr) (ci : Nat) (zs : List Int) (t : ByteArray) (w : World) (hc : Ans w a ls) (hcd : Codes w ai zs) (hs : s.size ≤ maxLen) (ht : t.size ≤ maxLen) :
    Calls Tryz.prog 26 #[.slice a ls.length cap, .string s, av x n ai zs.length ci t] w fun e w' => PutE ls (s, x, n, zs, t) w e w' ∧ Below w.heap.size w w' := by
  have HC : Hid (Ans w a ls) := hc
  have hl := hc.1
  have HCd := hid hcd
  have HS := hid hs
  have HT := hid ht
  clear hc hcd hs ht
  have HA0 := hid (At4.laid w 33 (.int .i64 x) (.int .i64 n) (.slice ai zs.length ci) (.string t))
  have HB0 := hid (box_below w x n ai zs.length ci t)
  obtain ⟨q, hq⟩ : ∃ q, Hid (answeredB x n zs t = q) := ⟨_, rfl⟩
  go_enter Tryz.func26, Tryz.ntmps26
  go_wp2_with fail
  refine (book_for2 a cap ls s _ (HC.out.on HB0.out) HS.out).mono ?_
  rintro e w1 ⟨hcase, hB1⟩
  have HB1 : Hid (Below w.heap.size w w1) := HB0.out.trans (hB1.mono HB0.out.size)
  have HA1 := hid (HA0.out.on hB1)
  have hw1 : w.heap.size < w1.heap.size := HA1.out.2.2.2.2
  clear hB1 HA0 HB0
  rcases hcase with ⟨hyes, B, rfl, hBl, hbk⟩ | ⟨hno, rfl⟩
  · skip
    have HBl0 : Hid (w.heap.size < B) := by show _ < _; simp at hBl; omega
    have HBl : Hid (w.heap.size ≤ B) := Nat.le_of_lt HBl0.out
    have HBK := hid hbk
    have HY := hid hyes
    obtain ⟨x0, x1, x2, x3, xl⟩ := HA1.out
    clear hBl hbk hyes
    go_wp2_with fail
    refine (impl_answered x n ai ci zs t w1 (HCd.out.on HB1.out) HT.out).mono ?_
    rintro e w2 ⟨rfl, hB2⟩
    rw [hq.out]
    have HB2 : Hid (Below w.heap.size w w2) := HB1.out.trans (hB2.mono HB1.out.size)
    have HA2 := hid (HA1.out.on hB2)
    obtain ⟨D, hM, hH, hA⟩ := HBK.out
    have HM2 := hid (Mp.on hM hB2)
    have HH2 := hid (hH.on hB2)
    have HA := hid hA
    clear hM hH hA hB2 HB1 HA1 HBK x0 x1 x2 x3 xl
    cases q
    · have HP : Hid (putCode ls (s, x, n, zs, t) = 1) := code_form (fun h => by
        have h1 := (right_ris HY.out.1).1
        have h2 : s.size ≤ 20 := (of_decide_eq_true HY.out.2).2.1
        rcases h with h | h
        · omega
        · dsimp only [nm] at h; omega) (fun h => by have := (good_name h.2).2; rw [show answeredB (kd (s, x, n, zs, t)) (nu (s, x, n, zs, t)) (cd (s, x, n, zs, t)) (tx (s, x, n, zs, t)) = false from hq.out] at this; cases this)
      go_wp2_with fail
      refine bodyPost_ret (v := .tuple #[.slice none 0 0, .iface 69 (.agg #[.int .i64 1])]) (by simp [results, Tryz.results26, go_sem]) rfl ⟨PutE.bad HP.out (by decide), HB2.out⟩
    · have HG : Hid (good (s, x, n, zs, t) = true) := by show good _ = true; unfold good; dsimp only [nm, kd, nu, cd, tx]; rw [HY.out.2, hq.out]; rfl
      obtain ⟨k1, n1, a1, l1, c1, t1, hlk⟩ := book_ok HM2.out HH2.out HS.out
      have hsz := book_size HM2.out HH2.out (right_ris HY.out.1).2.1
      have hl30 := (right_ris HY.out.1).1
      obtain ⟨f, hf⟩ : ∃ f, Hid (hasA ls s = f) := ⟨_, rfl⟩
      rw [hf.out] at hlk
      have hB3 : Below w2.heap.size w2 (w2.alloc (.cells #[.int .i64 k1, .int .i64 n1, .slice a1 l1 c1, .string t1] 33)) := box_below w2 k1 n1 a1 l1 c1 t1
      have HBW : Hid (Below w.heap.size w (w2.alloc (.cells #[.int .i64 k1, .int .i64 n1, .slice a1 l1 c1, .string t1] 33))) := HB2.out.trans (hB3.mono HB2.out.size)
      have HA4 := hid (HA2.out.on hB3)
      have HM3 := hid (Mp.on HM2.out hB3)
      have HH3 := hid (HH2.out.on hB3)
      have HI := hid HM2.out.isMap
      have HSz : Hid (s.size ≤ 100000) := by show _ ≤ _; have : s.size ≤ 20 := (of_decide_eq_true HY.out.2).2.1; omega
      have HKm : Hid (ls.length < maxLen) := by show _ < _; unfold maxLen; omega
      have HTz : Hid (t.size ≤ 100000) := by
        show _ ≤ _
        have h3 : answeredB x n zs t = true := hq.out
        have hrt : ValM.right x n zs t = true := by unfold ValK.answeredB at h3; simp at h3; exact h3.1
        rcases ValM.kinds hrt with ⟨_, _, _, h⟩ | ⟨_, _, _, _, h⟩ | ⟨_, _, _, _, h⟩ | ⟨_, _, _, h⟩ | ⟨_, _, _, _, h⟩ <;> omega
      have HSm : Hid (s.size ≤ maxLen) := HS
      have HSZ := hid hsz
      clear hsz
      go_upto_region 7 with fail
      generalize w2.alloc (.cells #[.int .i64 k1, .int .i64 n1, .slice a1 l1 c1, .string t1] 33) = W3 at *
      clear hlk hB3 HM2 HH2 HA2 HB2
      have hlen := fun ty => World.ownsMap.len (P := Tryz.prog) HM3.out Tryz.underlying65 ty
      cases f
      · by_cases h30 : ls.length = 30
        · have HP : Hid (putCode ls (s, x, n, zs, t) = 9) := code_full HY.out.1 HG.out (fun h => h.elim (fun h => by omega) (fun h => by rw [show hasA ls (nm (s, x, n, zs, t)) = false from hf.out] at h; cases h))
          have hszI : ((Maps.size D : Nat) : Int) = 30 := by rw [HSZ.out, h30]; rfl
          clear h30
          go_wp2_with fail
          refine bodyPost_ret (v := .tuple #[.slice none 0 0, .iface 69 (.agg #[.int .i64 9])]) (by simp [results, Tryz.results26, go_sem]) rfl ⟨PutE.bad HP.out (by decide), HBW.out⟩
        · have HP : Hid (putCode ls (s, x, n, zs, t) = 0) := code_ok HY.out.1 HG.out (.inl (by omega))
          have HRp : Hid (rightA (putA ls (s, x, n, zs, t)) = true) := putA_right HY.out.1 HG.out (.inl (by omega))
          have hszI : ¬ ((Maps.size D : Nat) : Int) = 30 := by rw [HSZ.out]; omega
          clear h30
          go_upto_region 9 with fail
          have HM := hid (Mp.on HM3.out (Below.refl _ _).drew)
          have HH := hid (HH3.out.on (Below.refl _ _).drew)
          have hS0 : BkS W3 B W3.drew := ⟨⟨rfl, rfl, rfl, Nat.le_refl _, fun _ _ _ => rfl⟩, by have := HM3.out.lt; show _ ≤ W3.heap.size; omega⟩
          have hgB : w.heap.size ≠ B := by have := HBl0.out; omega
          clear HM3 HH3
          refine wp_region_held_drew (S := (fun w' => BkS W3 B w' ∧ w'.cell? ⟨w.heap.size, 0, none⟩ = some (.int .i64 x) ∧ w'.cell? ⟨w.heap.size, 1, none⟩ = some (.int .i64 n) ∧ w'.cell? ⟨w.heap.size, 2, none⟩ = some (.slice ai zs.length ci) ∧ w'.cell? ⟨w.heap.size, 3, none⟩ = some (.string t))) (by kernel_rfl) ?_ (fun hHeld => ?_)
          · (try dsimp only) <;> (first | exact bks_four hSn HA4.out hgB | exact bks_four hS0 HA4.out hgB)
          refine wpAnyH_take (i := 0) (oi := { dst := some 41, op := Go.Op.move (Go.Operand.tmp 8), type := 65, pos := "l05_eval.go:108", after := #[], guard := none }) (v := ?_) rfl (by kernel_rfl) (by kernel_rfl) (by kernel_rfl) (fun _ _ _ h => h) (Or.inl ⟨by rfl, ?yld1⟩) hHeld ?nxt1
          case yld1 => (intro w hSw; (try dsimp only at hSw); go_simp) <;> with_reducible rfl
          (try simp only [Act.put, List.setIfInBounds_toArray, List.set_cons_zero, List.set_cons_succ])
          refine wpAnyH_take (i := 1) (oi := { dst := some 42, op := Go.Op.move (Go.Operand.tmp 1), type := 9, pos := "l05_eval.go:108", after := #[], guard := none }) (v := ?_) rfl (by kernel_rfl) (by kernel_rfl) (by kernel_rfl) (fun _ _ _ h => h) (Or.inl ⟨by rfl, ?yld2⟩) hHeld ?nxt2
          case yld2 => (intro w hSw; (try dsimp only at hSw); go_simp) <;> with_reducible rfl
          (try simp only [Act.put, List.setIfInBounds_toArray, List.set_cons_zero, List.set_cons_succ])
          refine wpAnyH_take (i := 4) (oi := { dst := some 45, op := Go.Op.load 33 (Go.Operand.tmp 5), type := 33, pos := "l05_eval.go:108", after := #[], guard := none }) (v := ?_) rfl (by kernel_rfl) (by kernel_rfl) (by kernel_rfl) (fun _ _ _ h => h) (Or.inl ⟨by rfl, ?yld3⟩) hHeld ?nxt3
          case yld3 => (intro w hSw; (try dsimp only at hSw); go_simp) <;> with_reducible rfl
          (try simp only [Act.put, List.setIfInBounds_toArray, List.set_cons_zero, List.set_cons_succ])
          refine wpAnyH_ready (rs := [2]) (by kernel_rfl) (by simp) ?_
          refine AllReadyH.cons (o := { dst := some 43, op := Go.Op.buildSlice 80 1 #[(0, Go.Operand.tmp 42)], type := 80, pos := "l05_eval.go:108", after := #[{ on := 1, ground := Go.Ground.data }], guard := none }) rfl (fun K hK => ?_) AllReadyH.nil
          go_simp
          have hSn := hHeld.1.on ((Below.refl _ _).alloc (Nat.le_refl _) (.cells #[.string s] 9))
          have HM2 := hid (Mp.on HM.out ((Below.refl _ _).alloc (Nat.le_refl _) (.cells #[.string s] 9)))
          have HH2 := hid (HH.out.on ((Below.refl _ _).alloc (Nat.le_refl _) (.cells #[.string s] 9)))
          clear HM HH
          have HM := HM2
          have HH := HH2
          clear HM2 HH2
          have HSl := hHeld.1.one s
          refine hK.out _ _ ?_ (fun hHeld2 => ?_)
          · (try dsimp only) <;> (first | exact bks_four hSn HA4.out hgB | exact bks_four hS0 HA4.out hgB)
          clear hK K hHeld
          have hHeld := hHeld2
          clear hHeld2
          (try simp only [Act.put, List.setIfInBounds_toArray, List.set_cons_zero, List.set_cons_succ])
          refine wpAnyH_ready (rs := [3]) (by kernel_rfl) (by simp) ?_
          refine AllReadyH.cons (o := { dst := some 44, op := Go.Op.call { callee := Go.Callee.value (Go.Operand.func 39), args := #[Go.Operand.tmp 43], argTypes := #[80] }, type := 9, pos := "l05_eval.go:108", after := #[{ on := 2, ground := Go.Ground.data }], guard := none }) rfl (fun K hK => ?_) AllReadyH.nil
          go_simp
          go_at_call 39
          have hp := hHeld.1
          refine (laid_at s _ _ HSl HSz.out).mono ?_
          rintro e w' ⟨rfl, hB⟩
          have HM2 := hid (Mp.on HM.out hB)
          have HH2 := hid (HH.out.on hB)
          clear HM HH
          have HM := HM2
          have HH := HH2
          clear HM2 HH2
          have hSn := hp.on hB
          clear hp hB HSl
          (try go_wp2_with fail)
          refine hK.out _ _ ?_ (fun hHeld2 => ?_)
          · (try dsimp only) <;> (first | exact bks_four hSn HA4.out hgB | exact bks_four hS0 HA4.out hgB)
          clear hK K hHeld
          have hHeld := hHeld2
          clear hHeld2
          (try simp only [Act.put, List.setIfInBounds_toArray, List.set_cons_zero, List.set_cons_succ])
          refine wpAnyH_ready (rs := [5]) (by kernel_rfl) (by simp) ?_
          refine AllReadyH.cons (o := { dst := some 46, op := Go.Op.call { callee := Go.Callee.value (Go.Operand.func 38), args := #[Go.Operand.tmp 45], argTypes := #[33] }, type := 33, pos := "l05_eval.go:108", after := #[{ on := 4, ground := Go.Ground.data }, { on := 3, ground := Go.Ground.chain }], guard := none }) rfl (fun K hK => ?_) AllReadyH.nil
          go_simp
          go_at_call 38
          have hp := hHeld.1
          refine (copied_in x n ai ci zs t _ (HCd.out.on (below_put HBW.out hp HBl.out)) HTz.out).mono ?_
          rintro e w' ⟨a', cap', rfl, hcd, hfr, hfs, hnc, hB⟩
          have HAp : Hid (∀ (s' : List UInt8) (v' : Value) (b : Nat), (∀ z, D.atKey (.string s') z = .held v') → Blk (av x n a' zs.length cap' t) b → Blk v' b → False) := fun s' v' b hs' hb1 hb2 => Nat.lt_irrefl _ (Nat.lt_of_lt_of_le (HH.out.low hs' hb2) (blk_fresh hb1 hfs))
          have HV : Hid (Cpy w' (B + 1) (s, x, n, zs, t) (av x n a' zs.length cap' t)) := ⟨a', cap', rfl, hcd, hfr, fun b o hb => Nat.le_trans hp.2 (hfs b o hb), hnc⟩
          have HM2 := hid (Mp.on HM.out hB)
          have HH2 := hid (HH.out.on hB)
          clear HM HH
          have HM := HM2
          have HH := HH2
          clear HM2 HH2
          have hSn := hp.on hB
          clear hp hB hcd hfr hfs hnc
          (try go_wp2_with fail)
          refine hK.out _ _ ?_ (fun hHeld2 => ?_)
          · (try dsimp only) <;> (first | exact bks_four hSn HA4.out hgB | exact bks_four hS0 HA4.out hgB)
          clear hK K hHeld
          have hHeld := hHeld2
          clear hHeld2
          (try simp only [Act.put, List.setIfInBounds_toArray, List.set_cons_zero, List.set_cons_succ])
          refine wpAnyH_ready (rs := [6]) (by kernel_rfl) (by simp) ?_
          refine AllReadyH.cons (o := { dst := none, op := Go.Op.mapUpdate 65 (Go.Operand.tmp 41) (Go.Operand.tmp 44) (Go.Operand.tmp 46), type := 0, pos := "l05_eval.go:108", after := #[{ on := 0, ground := Go.Ground.data }, { on := 3, ground := Go.Ground.data }, { on := 5, ground := Go.Ground.data }, { on := 5, ground := Go.Ground.chain }, { on := 0, ground := Go.Ground.phase }, { on := 1, ground := Go.Ground.phase }, { on := 2, ground := Go.Ground.phase }, { on := 3, ground := Go.Ground.phase }, { on := 4, ground := Go.Ground.phase }, { on := 5, ground := Go.Ground.phase }], guard := none }) rfl (fun K hK => ?_) AllReadyH.nil
          obtain ⟨wm, hrun, hown, hgr⟩ := HM.out.update key_law Tryz.underlying65 HKm.out (key := .string s) (val := av x n a' zs.length cap' t) (Go.WideMaps.keyOf_string_mk Tryz.underlying9 HSm.out) rfl
          go_simp
          have hSn := hHeld.1.grown hgr
          refine hK.out _ _ ?_ (fun hHeld2 => ?_)
          · (try dsimp only) <;> (first | exact bks_four hSn HA4.out hgB | exact bks_four hS0 HA4.out hgB)
          clear hK K hHeld
          have hHeld := hHeld2
          clear hHeld2
          (try simp only [Act.put, List.setIfInBounds_toArray, List.set_cons_zero, List.set_cons_succ])
          refine wpAnyH_done (by kernel_rfl) ?_ _
          have HBL := hid (below_put HBW.out hHeld.1 HBl.out)
          have HBk := hid (Book.put HI.out HH.out HA.out HY.out.1 HRp.out hgr hown HV.out HAp.out)
          clear hHeld hS0 HA4 HH HM hown hgr hrun HV HAp
          go_wp2_with fail
          refine (answers_in B (putA ls (s, x, n, zs, t)) _ HBk.out HRp.out).mono ?_
          rintro e w5 ⟨⟨g5, ads, rfl, hg5, hO5⟩, hB5⟩
          have HB5 : Hid (Below w.heap.size w w5) := HBL.out.trans (hB5.mono HBL.out.size)
          have HO5 := hid hO5
          have HG5 : Hid (w.heap.size ≤ g5) := Nat.le_trans HBL.out.size hg5
          clear hB5 hO5 hg5 HBk HBL
          go_wp2_with fail
          refine bodyPost_ret (v := .tuple #[.slice (some ⟨g5, 0, none⟩) (putA ls (s, x, n, zs, t)).length (putA ls (s, x, n, zs, t)).length, .nilIface]) (by simp [results, Tryz.results26, go_sem]) rfl ⟨.inl ⟨HP.out, g5, ads, B + 1, rfl, HG5.out, by have := HBl.out; omega, HO5.out⟩, HB5.out⟩
      · have HP : Hid (putCode ls (s, x, n, zs, t) = 0) := code_ok HY.out.1 HG.out (.inr hf.out)
        have HRp : Hid (rightA (putA ls (s, x, n, zs, t)) = true) := putA_right HY.out.1 HG.out (.inr hf.out)
        go_upto_region 9 with fail
        have HM := hid (Mp.on HM3.out (Below.refl _ _).drew)
        have HH := hid (HH3.out.on (Below.refl _ _).drew)
        have hS0 : BkS W3 B W3.drew := ⟨⟨rfl, rfl, rfl, Nat.le_refl _, fun _ _ _ => rfl⟩, by have := HM3.out.lt; show _ ≤ W3.heap.size; omega⟩
        have hgB : w.heap.size ≠ B := by have := HBl0.out; omega
        clear HM3 HH3
        refine wp_region_held_drew (S := (fun w' => BkS W3 B w' ∧ w'.cell? ⟨w.heap.size, 0, none⟩ = some (.int .i64 x) ∧ w'.cell? ⟨w.heap.size, 1, none⟩ = some (.int .i64 n) ∧ w'.cell? ⟨w.heap.size, 2, none⟩ = some (.slice ai zs.length ci) ∧ w'.cell? ⟨w.heap.size, 3, none⟩ = some (.string t))) (by kernel_rfl) ?_ (fun hHeld => ?_)
        · (try dsimp only) <;> (first | exact bks_four hSn HA4.out hgB | exact bks_four hS0 HA4.out hgB)
        refine wpAnyH_take (i := 0) (oi := { dst := some 41, op := Go.Op.move (Go.Operand.tmp 8), type := 65, pos := "l05_eval.go:108", after := #[], guard := none }) (v := ?_) rfl (by kernel_rfl) (by kernel_rfl) (by kernel_rfl) (fun _ _ _ h => h) (Or.inl ⟨by rfl, ?yld4⟩) hHeld ?nxt4
        case yld4 => (intro w hSw; (try dsimp only at hSw); go_simp) <;> with_reducible rfl
        (try simp only [Act.put, List.setIfInBounds_toArray, List.set_cons_zero, List.set_cons_succ])
        refine wpAnyH_take (i := 1) (oi := { dst := some 42, op := Go.Op.move (Go.Operand.tmp 1), type := 9, pos := "l05_eval.go:108", after := #[], guard := none }) (v := ?_) rfl (by kernel_rfl) (by kernel_rfl) (by kernel_rfl) (fun _ _ _ h => h) (Or.inl ⟨by rfl, ?yld5⟩) hHeld ?nxt5
        case yld5 => (intro w hSw; (try dsimp only at hSw); go_simp) <;> with_reducible rfl
        (try simp only [Act.put, List.setIfInBounds_toArray, List.set_cons_zero, List.set_cons_succ])
        refine wpAnyH_take (i := 4) (oi := { dst := some 45, op := Go.Op.load 33 (Go.Operand.tmp 5), type := 33, pos := "l05_eval.go:108", after := #[], guard := none }) (v := ?_) rfl (by kernel_rfl) (by kernel_rfl) (by kernel_rfl) (fun _ _ _ h => h) (Or.inl ⟨by rfl, ?yld6⟩) hHeld ?nxt6
        case yld6 => (intro w hSw; (try dsimp only at hSw); go_simp) <;> with_reducible rfl
        (try simp only [Act.put, List.setIfInBounds_toArray, List.set_cons_zero, List.set_cons_succ])
        refine wpAnyH_ready (rs := [2]) (by kernel_rfl) (by simp) ?_
        refine AllReadyH.cons (o := { dst := some 43, op := Go.Op.buildSlice 80 1 #[(0, Go.Operand.tmp 42)], type := 80, pos := "l05_eval.go:108", after := #[{ on := 1, ground := Go.Ground.data }], guard := none }) rfl (fun K hK => ?_) AllReadyH.nil
        go_simp
        have hSn := hHeld.1.on ((Below.refl _ _).alloc (Nat.le_refl _) (.cells #[.string s] 9))
        have HM2 := hid (Mp.on HM.out ((Below.refl _ _).alloc (Nat.le_refl _) (.cells #[.string s] 9)))
        have HH2 := hid (HH.out.on ((Below.refl _ _).alloc (Nat.le_refl _) (.cells #[.string s] 9)))
        clear HM HH
        have HM := HM2
        have HH := HH2
        clear HM2 HH2
        have HSl := hHeld.1.one s
        refine hK.out _ _ ?_ (fun hHeld2 => ?_)
        · (try dsimp only) <;> (first | exact bks_four hSn HA4.out hgB | exact bks_four hS0 HA4.out hgB)
        clear hK K hHeld
        have hHeld := hHeld2
        clear hHeld2
        (try simp only [Act.put, List.setIfInBounds_toArray, List.set_cons_zero, List.set_cons_succ])
        refine wpAnyH_ready (rs := [3]) (by kernel_rfl) (by simp) ?_
        refine AllReadyH.cons (o := { dst := some 44, op := Go.Op.call { callee := Go.Callee.value (Go.Operand.func 39), args := #[Go.Operand.tmp 43], argTypes := #[80] }, type := 9, pos := "l05_eval.go:108", after := #[{ on := 2, ground := Go.Ground.data }], guard := none }) rfl (fun K hK => ?_) AllReadyH.nil
        go_simp
        go_at_call 39
        have hp := hHeld.1
        refine (laid_at s _ _ HSl HSz.out).mono ?_
        rintro e w' ⟨rfl, hB⟩
        have HM2 := hid (Mp.on HM.out hB)
        have HH2 := hid (HH.out.on hB)
        clear HM HH
        have HM := HM2
        have HH := HH2
        clear HM2 HH2
        have hSn := hp.on hB
        clear hp hB HSl
        (try go_wp2_with fail)
        refine hK.out _ _ ?_ (fun hHeld2 => ?_)
        · (try dsimp only) <;> (first | exact bks_four hSn HA4.out hgB | exact bks_four hS0 HA4.out hgB)
        clear hK K hHeld
        have hHeld := hHeld2
        clear hHeld2
        (try simp only [Act.put, List.setIfInBounds_toArray, List.set_cons_zero, List.set_cons_succ])
        refine wpAnyH_ready (rs := [5]) (by kernel_rfl) (by simp) ?_
        refine AllReadyH.cons (o := { dst := some 46, op := Go.Op.call { callee := Go.Callee.value (Go.Operand.func 38), args := #[Go.Operand.tmp 45], argTypes := #[33] }, type := 33, pos := "l05_eval.go:108", after := #[{ on := 4, ground := Go.Ground.data }, { on := 3, ground := Go.Ground.chain }], guard := none }) rfl (fun K hK => ?_) AllReadyH.nil
        go_simp
        go_at_call 38
        have hp := hHeld.1
        refine (copied_in x n ai ci zs t _ (HCd.out.on (below_put HBW.out hp HBl.out)) HTz.out).mono ?_
        rintro e w' ⟨a', cap', rfl, hcd, hfr, hfs, hnc, hB⟩
        have HAp : Hid (∀ (s' : List UInt8) (v' : Value) (b : Nat), (∀ z, D.atKey (.string s') z = .held v') → Blk (av x n a' zs.length cap' t) b → Blk v' b → False) := fun s' v' b hs' hb1 hb2 => Nat.lt_irrefl _ (Nat.lt_of_lt_of_le (HH.out.low hs' hb2) (blk_fresh hb1 hfs))
        have HV : Hid (Cpy w' (B + 1) (s, x, n, zs, t) (av x n a' zs.length cap' t)) := ⟨a', cap', rfl, hcd, hfr, fun b o hb => Nat.le_trans hp.2 (hfs b o hb), hnc⟩
        have HM2 := hid (Mp.on HM.out hB)
        have HH2 := hid (HH.out.on hB)
        clear HM HH
        have HM := HM2
        have HH := HH2
        clear HM2 HH2
        have hSn := hp.on hB
        clear hp hB hcd hfr hfs hnc
        (try go_wp2_with fail)
        refine hK.out _ _ ?_ (fun hHeld2 => ?_)
        · (try dsimp only) <;> (first | exact bks_four hSn HA4.out hgB | exact bks_four hS0 HA4.out hgB)
        clear hK K hHeld
        have hHeld := hHeld2
        clear hHeld2
        (try simp only [Act.put, List.setIfInBounds_toArray, List.set_cons_zero, List.set_cons_succ])
        refine wpAnyH_ready (rs := [6]) (by kernel_rfl) (by simp) ?_
        refine AllReadyH.cons (o := { dst := none, op := Go.Op.mapUpdate 65 (Go.Operand.tmp 41) (Go.Operand.tmp 44) (Go.Operand.tmp 46), type := 0, pos := "l05_eval.go:108", after := #[{ on := 0, ground := Go.Ground.data }, { on := 3, ground := Go.Ground.data }, { on := 5, ground := Go.Ground.data }, { on := 5, ground := Go.Ground.chain }, { on := 0, ground := Go.Ground.phase }, { on := 1, ground := Go.Ground.phase }, { on := 2, ground := Go.Ground.phase }, { on := 3, ground := Go.Ground.phase }, { on := 4, ground := Go.Ground.phase }, { on := 5, ground := Go.Ground.phase }], guard := none }) rfl (fun K hK => ?_) AllReadyH.nil
        obtain ⟨wm, hrun, hown, hgr⟩ := HM.out.update key_law Tryz.underlying65 HKm.out (key := .string s) (val := av x n a' zs.length cap' t) (Go.WideMaps.keyOf_string_mk Tryz.underlying9 HSm.out) rfl
        go_simp
        have hSn := hHeld.1.grown hgr
        refine hK.out _ _ ?_ (fun hHeld2 => ?_)
        · (try dsimp only) <;> (first | exact bks_four hSn HA4.out hgB | exact bks_four hS0 HA4.out hgB)
        clear hK K hHeld
        have hHeld := hHeld2
        clear hHeld2
        (try simp only [Act.put, List.setIfInBounds_toArray, List.set_cons_zero, List.set_cons_succ])
        refine wpAnyH_done (by kernel_rfl) ?_ _
        have HBL := hid (below_put HBW.out hHeld.1 HBl.out)
        have HBk := hid (Book.put HI.out HH.out HA.out HY.out.1 HRp.out hgr hown HV.out HAp.out)
        clear hHeld hS0 HA4 HH HM hown hgr hrun HV HAp
        go_wp2_with fail
        refine (answers_in B (putA ls (s, x, n, zs, t)) _ HBk.out HRp.out).mono ?_
        rintro e w5 ⟨⟨g5, ads, rfl, hg5, hO5⟩, hB5⟩
        have HB5 : Hid (Below w.heap.size w w5) := HBL.out.trans (hB5.mono HBL.out.size)
        have HO5 := hid hO5
        have HG5 : Hid (w.heap.size ≤ g5) := Nat.le_trans HBL.out.size hg5
        clear hB5 hO5 hg5 HBk HBL
        go_wp2_with fail
        refine bodyPost_ret (v := .tuple #[.slice (some ⟨g5, 0, none⟩) (putA ls (s, x, n, zs, t)).length (putA ls (s, x, n, zs, t)).length, .nilIface]) (by simp [results, Tryz.results26, go_sem]) rfl ⟨.inl ⟨HP.out, g5, ads, B + 1, rfl, HG5.out, by have := HBl.out; omega, HO5.out⟩, HB5.out⟩
  · have HP : Hid (putCode ls (s, x, n, zs, t) = bkCode ls s) := put_bk hno
    generalize hc : bkCode ls s = c at *
    have hc0 : c ≠ 0 := by rw [← hc]; exact bk_ne
    clear hc hno
    go_wp2_with fail
    refine bodyPost_ret (v := .tuple #[.slice none 0 0, .iface 69 (.agg #[.int .i64 c])]) (by simp [results, Tryz.results26, go_sem]) rfl ⟨PutE.bad HP.out hc0, HB1.out⟩
end Go.Proofs.YtjnnkilmlngjgaaGreatDoor.BookW
