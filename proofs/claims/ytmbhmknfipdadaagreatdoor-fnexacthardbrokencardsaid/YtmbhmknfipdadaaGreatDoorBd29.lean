/- Texts of ours, laid together. -/
import Derived.Test.YtmbhmknfipdadaaGreatDoorBd24
import Derived.WalkMore
namespace Go.Proofs.YtmbhmknfipdadaaGreatDoor.FrmI
open Go.RowKit
open PrtW PrtM NameW ItmW ValM ItmM FrmM
def Blk (w : World) (b : Nat) (q : It) (a : Option Addr) (c : Nat) : Prop := w.heap[b]? = some (.cells #[.int .i64 (ik q), .string (inm q), .int .i64 (ity q), .int .i64 (ilo q), .int .i64 (ihi q), .string (itx q), .slice a (iex q).length c, .bool (ihd q)] 57 (0, 0))
theorem Blk.on {w w' : World} {b : Nat} {q : It} {a : Option Addr} {c : Nat} (h : Blk w b q a c) (hB : Below w.heap.size w w') : Blk w' b q a c := by
 unfold Blk at h ⊢
 rw [hB.block b (blk_lt h)]; exact h
theorem Blk.laid (w : World) (q : It) (a : Option Addr) (c : Nat) : Blk (w.alloc (.cells #[.int .i64 (ik q), .string (inm q), .int .i64 (ity q), .int .i64 (ilo q), .int .i64 (ihi q), .string (itx q), .slice a (iex q).length c, .bool (ihd q)] 57)) w.heap.size q a c := heap_alloc_new w _
theorem Blk.all {w : World} {b : Nat} {q : It} {a : Option Addr} {c : Nat} (h : Blk w b q a c) :
  (w.cell? ⟨b, 0, none⟩ = some (.int .i64 (ik q)) ∧ w.cell? ⟨b, 1, none⟩ = some (.string (inm q)) ∧ w.cell? ⟨b, 2, none⟩ = some (.int .i64 (ity q)) ∧ w.cell? ⟨b, 3, none⟩ = some (.int .i64 (ilo q)) ∧ w.cell? ⟨b, 4, none⟩ = some (.int .i64 (ihi q)) ∧ w.cell? ⟨b, 5, none⟩ = some (.string (itx q)) ∧ w.cell? ⟨b, 6, none⟩ = some (.slice a (iex q).length c) ∧ w.cell? ⟨b, 7, none⟩ = some (.bool (ihd q))) ∧
  (∀ j, w.frozen? ⟨b, j, none⟩ = false) ∧ b < w.heap.size := by
 refine ⟨?_, fun j => ?_, blk_lt h⟩
 ·unfold Blk at h
  simp [World.cell?, h]
 ·unfold Blk at h
  simp [World.frozen?, h]
def fieldQ (ls : List It) (n : Nat) (s : ByteArray) : It := match fieldN ls n s with | none => it0 | some i => ls.getD i it0
theorem fieldQ_at {ls : List It} {n i : Nat} {s : ByteArray} (h : fieldN ls n s = some i) : fieldQ ls n s = ls.getD i it0 := by unfold fieldQ; rw [h]
theorem fieldQ_no {ls : List It} {n : Nat} {s : ByteArray} (h : fieldN ls n s = none) : fieldQ ls n s = it0 := by unfold fieldQ; rw [h]
theorem blk_put {w : World} {b : Nat} {q : It} {a : Option Addr} {c : Nat} (h : Blk w b q a c) (p : It) (a' : Option Addr) (c' : Nat) : Blk ((((((((w.setCell ⟨b, 0, none⟩ (.int .i64 (ik p))).setCell ⟨b, 1, none⟩ (.string (inm p))).setCell ⟨b, 2, none⟩ (.int .i64 (ity p))).setCell ⟨b, 3, none⟩ (.int .i64 (ilo p))).setCell ⟨b, 4, none⟩ (.int .i64 (ihi p))).setCell ⟨b, 5, none⟩ (.string (itx p))).setCell ⟨b, 6, none⟩ (.slice a' (iex p).length c')).setCell ⟨b, 7, none⟩ (.bool (ihd p))) b p a' c' := by
 unfold Blk at h ⊢
 rw [blk_set _ _ _ _ _ _ (blk_set _ _ _ _ _ _ (blk_set _ _ _ _ _ _ (blk_set _ _ _ _ _ _ (blk_set _ _ _ _ _ _ (blk_set _ _ _ _ _ _ (blk_set _ _ _ _ _ _ (blk_set _ _ _ _ _ _ h)))))))]
 simp only [List.setIfInBounds_toArray, List.set_cons_zero, List.set_cons_succ]
theorem Blk.set {w : World} {b : Nat} {q : It} {a : Option Addr} {c : Nat} (h : Blk w b q a c) {x : Addr} (hx : x.block ≠ b) (u : Value) : Blk (w.setCell x u) b q a c := by
 unfold Blk at h ⊢
 rw [Below.heap_setCell _ _ _ _ (fun e => hx e.symm)]; exact h
theorem field_ret {Q : Ending → World → Prop} {tmps : Array Value} {W : World} {g : Nat} {q : It} {a : Option Addr} {c : Nat} (ht : tmps[4]?.getD undef = .pointer (some ⟨g, 0, none⟩)) (hB : Blk W g q a c) (hq : Q (.returned (itv q a c)) W) :
  bodyPost Tryz.prog Tryz.f142 Q Exit.ret { tmps := tmps, defers := [] } W := by
 obtain ⟨⟨y0, y1, y2, y3, y4, y5, y6, y7⟩, _⟩ := hB.all
 exact bodyPost_ret (v := itv q a c) (by simp [results, Tryz.results142, go_sem, ht, y0, y1, y2, y3, y4, y5, y6, y7]) rfl hq
set_option maxRecDepth 10000 in
set_option maxHeartbeats 3200000 in
theorem impl_field (a : Option Addr) (cap : Nat) (ls : List It) (s : ByteArray) (w : World) (hc : Its w a ls) :
  Calls Tryz.prog 142 #[.slice a ls.length cap, .string s] w fun e w' => (∃ ai ci, e = .returned (itv (fieldQ ls ls.length s) ai ci) ∧ Parts w' ai (iex (fieldQ ls ls.length s)) ∧ (iex (fieldQ ls ls.length s)).length ≤ ci) ∧ Below w.heap.size w w' := by
 have HC := hid hc
 have hl := hc.1
 clear hc
 obtain ⟨z, hz⟩ : ∃ z, Hid (fieldQ ls ls.length s = z) := ⟨_, rfl⟩
 rw [hz.out]
 have HL1 := hid (Blk.laid w it0 none 0)
 have HL2 := hid (Blk.laid (w.alloc (.cells #[.int .i64 0, .string ByteArray.empty, .int .i64 0, .int .i64 0, .int .i64 0, .string ByteArray.empty, .slice none 0 0, .bool false] 57)) it0 none 0)
 go_enter Tryz.func142, Tryz.ntmps142
 go_wp2_with fail
 go_step3
 go_wp2_with fail
 go_step3
 go_wp2_with fail
 go_loopw [10] (fun i wr => ∃ k : Nat, k ≤ ls.length ∧ i = .int .i64 k ∧ Hid (∀ j, j < k → isF s (ls.getD j it0) = false) ∧ Hid (Blk wr w.heap.size it0 none 0) ∧ Hid (Blk wr (w.heap.size + 1) it0 none 0) ∧ Hid (Below w.heap.size w wr)) (fun i _ => ls.length - (intOf i).toNat)
 case atStart => exact ⟨0, Nat.zero_le _, rfl, fun j hj => absurd hj (Nat.not_lt_zero _), HL1.out.on ((Below.refl _ _).alloc (Nat.le_refl _) _), by have := HL2.out; rw [World.size_alloc] at this; exact this, ((Below.refl _ _).alloc (Nat.le_refl _) _).alloc (by simp) _⟩
 case round =>
  obtain ⟨k, hk, rfl, hall, HR, HFd, HB⟩ := hrel
  by_cases hlt : k < ls.length
  ·obtain ⟨_, b, o, ai, ci, rfl, hb, hF, hcd, hcap, _⟩ := HC.out.at (Below.refl _ _) hlt
   have HSome : Hid (isF s (ls.getD k it0) = true → z = ls.getD k it0) := fun h => by rw [← hz.out]; exact fieldQ_at (field_at.2 ⟨h, hlt, hall.out⟩)
   have HNext : Hid (isF s (ls.getD k it0) = false → ∀ j, j < k + 1 → isF s (ls.getD j it0) = false) := fun h j hj => by
    rcases Nat.lt_succ_iff_lt_or_eq.1 hj with hj' | rfl
    ·exact hall.out j hj'
    ·exact h
   have HIsd : Hid (isF s (ls.getD k it0) = (((inm (ls.getD k it0)).toList == s.toList) && ((ik (ls.getD k it0) == 1) || (ik (ls.getD k it0) == 6)))) := rfl
   generalize isF s (ls.getD k it0) = bb at HSome HNext HIsd
   generalize ls.getD k it0 = p at hF hcd hcap HIsd HSome
   obtain ⟨kk, s1, ty, lo, hi, t, ps, hd⟩ := p
   dsimp only [iex] at hcd hcap
   dsimp only [ik, inm] at HIsd
   obtain ⟨c0, c1, c2, c3, c4, c5, c6, c7⟩ := hF.on hb HB.out
   dsimp only [ik, inm, ity, ilo, ihi, itx, iex, ihd] at c0 c1 c2 c3 c4 c5 c6 c7
   have HCd := hid hcd
   have hBn : Hid (Below wr.heap.size wr (wr.alloc (.cells #[.int .i64 kk, .string s1, .int .i64 ty, .int .i64 lo, .int .i64 hi, .string t, .slice ai ps.length ci, .bool hd] 57))) := (Below.refl _ _).alloc (Nat.le_refl _) _
   clear hF hcd hall HC
   have hNoCase : ∀ e0 : (kk == 1) = false, ∀ e1 : (kk == 6) = false, bb = false := fun e0 e1 => by rw [HIsd.out, e0, e1]; cases (s1.toList == s.toList) <;> rfl
   have HNC := hid hNoCase
   obtain ⟨⟨x0, x1, x2, x3, x4, x5, x6, x7⟩, xf, xl⟩ := HFd.out.all
   obtain ⟨⟨y0, y1, y2, y3, y4, y5, y6, y7⟩, yf, yl⟩ := HR.out.all
   dsimp only [it0, ik, inm, ity, ilo, ihi, itx, iex, ihd] at x0 x1 x2 x3 x4 x5 x6 x7 y0 y1 y2 y3 y4 y5 y6 y7
   clear hNoCase
   cases k1 : (kk == 1)
   ·cases k6 : (kk == 6)
    ·have HX := hid (HNext.out (HNC.out k1 k6))
     go_wp2_with fail
     exact ⟨⟨k + 1, by omega, by go_num, HX.out, HR.out.on hBn.out, HFd.out.on hBn.out, HB.out.trans (hBn.out.mono HB.out.size)⟩, by simp [intOf]; omega⟩
    ·cases hn : (s1.toList == s.toList)
     ·have hb0 : bb = false := by rw [HIsd.out, hn]; rfl
      have HX := hid (HNext.out hb0)
      go_wp2_with fail
      exact ⟨⟨k + 1, by omega, by go_num, HX.out, HR.out.on hBn.out, HFd.out.on hBn.out, HB.out.trans (hBn.out.mono HB.out.size)⟩, by simp [intOf]; omega⟩
     ·have hb1 : bb = true := by rw [HIsd.out, hn, k6, Bool.or_true]; rfl
      have HZ := hid (HSome.out hb1)
      have HBW : ∀ Wf, Below w.heap.size w Wf → Parts Wf ai ps := fun Wf h => HCd.out.on h
      go_wp2_with fail
      (try rw [Exit.noGoto_ret])
      refine field_ret (q := (kk, s1, ty, lo, hi, t, ps, hd)) (a := ai) (c := ci) rfl ?blk ?_
      case blk =>
       refine Blk.on ?_ ((Below.refl _ _).alloc (Nat.le_refl _) _)
       refine blk_put ?_ (kk, s1, ty, lo, hi, t, ps, hd) ai ci (q := it0) (a := none) (c := 0)
       repeat (refine Blk.set ?_ (by simp) _)
       exact HR.out
      refine (fun hBf => ⟨⟨ai, ci, by rw [HZ.out], by rw [HZ.out]; exact HBW _ hBf, by rw [HZ.out]; exact hcap⟩, hBf⟩) ?_
      refine Below.alloc ?_ (by have := HB.out.size; simp <;> omega) _
      repeat (refine Below.setCell ?_ (by simp) _)
      exact HB.out
   ·cases hn : (s1.toList == s.toList)
    ·have hb0 : bb = false := by rw [HIsd.out, hn]; rfl
     have HX := hid (HNext.out hb0)
     go_wp2_with fail
     exact ⟨⟨k + 1, by omega, by go_num, HX.out, HR.out.on hBn.out, HFd.out.on hBn.out, HB.out.trans (hBn.out.mono HB.out.size)⟩, by simp [intOf]; omega⟩
    ·have hb1 : bb = true := by rw [HIsd.out, hn, k1]; rfl
     have HZ := hid (HSome.out hb1)
     have HBW : ∀ Wf, Below w.heap.size w Wf → Parts Wf ai ps := fun Wf h => HCd.out.on h
     go_wp2_with fail
     (try rw [Exit.noGoto_ret])
     refine field_ret (q := (kk, s1, ty, lo, hi, t, ps, hd)) (a := ai) (c := ci) rfl ?blk ?_
     case blk =>
      refine Blk.on ?_ ((Below.refl _ _).alloc (Nat.le_refl _) _)
      refine blk_put ?_ (kk, s1, ty, lo, hi, t, ps, hd) ai ci (q := it0) (a := none) (c := 0)
      repeat (refine Blk.set ?_ (by simp) _)
      exact HR.out
     refine (fun hBf => ⟨⟨ai, ci, by rw [HZ.out], by rw [HZ.out]; exact HBW _ hBf, by rw [HZ.out]; exact hcap⟩, hBf⟩) ?_
     refine Below.alloc ?_ (by have := HB.out.size; simp <;> omega) _
     repeat (refine Below.setCell ?_ (by simp) _)
     exact HB.out
  ·obtain rfl : k = ls.length := by omega
   have HZ : Hid (z = it0) := by rw [← hz.out]; exact fieldQ_no (field_no.2 hall.out)
   obtain ⟨⟨x0, x1, x2, x3, x4, x5, x6, x7⟩, xf, xl⟩ := HFd.out.all
   obtain ⟨⟨y0, y1, y2, y3, y4, y5, y6, y7⟩, yf, yl⟩ := HR.out.all
   dsimp only [it0, ik, inm, ity, ilo, ihi, itx, iex, ihd] at x0 x1 x2 x3 x4 x5 x6 x7 y0 y1 y2 y3 y4 y5 y6 y7
   go_wp2_with fail
   (try rw [Exit.noGoto_ret])
   refine field_ret (q := it0) (a := none) (c := 0) rfl (blk_put HR.out it0 none 0) ?_
   refine ⟨⟨none, 0, by rw [HZ.out], by rw [HZ.out]; exact Parts.nil _ _, by rw [HZ.out]; exact Nat.le_refl _⟩, ?_⟩
   repeat (refine Below.setCell ?_ (by simp) _)
   exact HB.out
open Go.RowKit
open PrtW PrtM NameW ItmW ValM ItmM FrmM
def servesI (op : Int) (q : It) : Bool := if op = 2 then ((ik q == 6) || ((ity q == 1) || (ity q == 2))) else if op = 12 then (ity q == 3) else (ik q != 0)
set_option maxRecDepth 10000 in
set_option maxHeartbeats 1600000 in
theorem impl_serves (k : Int) (s : ByteArray) (ty lo hi : Int) (t : ByteArray) (a : Option Addr) (len cap : Nat) (hd : Bool) (ps : List Pt) (x n : Int) (m : ByteArray) (w : World) :
  Calls Tryz.prog 141 #[.agg #[.int .i64 k, .string s, .int .i64 ty, .int .i64 lo, .int .i64 hi, .string t, .slice a len cap, .bool hd], .agg #[.int .i64 x, .int .i64 n, .string m]] w fun e w' => e = .returned (.bool (servesI x (k, s, ty, lo, hi, t, ps, hd))) ∧ Below w.heap.size w w' := by
 by_cases h2 : x = 2
 ·subst h2
  have e : servesI 2 (k, s, ty, lo, hi, t, ps, hd) = ((k == 6) || ((ty == 1) || (ty == 2))) := rfl
  rw [e]
  clear e
  cases e6 : (k == 6)
  all_goals cases e1 : (ty == 1)
  all_goals
   go_enter Tryz.func141, Tryz.ntmps141
   go_wp2
   go_ret
   exact ⟨rfl, by go_grown⟩
 have e2 : (x == 2) = false := by simp [h2]
 by_cases h3 : x = 12
 ·subst h3
  have e : servesI 12 (k, s, ty, lo, hi, t, ps, hd) = (ty == 3) := rfl
  rw [e]
  go_enter Tryz.func141, Tryz.ntmps141
  go_wp2
  go_ret
  exact ⟨rfl, by go_grown⟩
 have e3 : (x == 12) = false := by simp [h3]
 have e : servesI x (k, s, ty, lo, hi, t, ps, hd) = (k != 0) := by unfold servesI; rw [if_neg h2, if_neg h3]
 rw [e]
 clear e h2 h3
 go_enter Tryz.func141, Tryz.ntmps141
 go_wp2
 go_ret
 exact ⟨rfl, by go_grown⟩
theorem item_type {q : It} (h : itemB q = true) (hk : ik q = 1 ∨ ik q = 6) : (ik q = 1 ∧ (ity q = 1 ∨ ity q = 2 ∨ ity q = 3 ∨ ity q = 4)) ∨ (ik q = 6 ∧ ity q = 0) := by
 obtain ⟨k, s, ty, lo, hi, t, ps, hd⟩ := q
 dsimp only [ik, ity] at hk ⊢
 rcases hk with rfl | rfl
 ·refine .inl ⟨rfl, ?_⟩
  have h1 : (nameB s && (rangeB ty lo hi && (labelB t && (noParts ps && !hd)))) = true := h
  simp only [Bool.and_eq_true] at h1
  have h2 := h1.2.1
  unfold rangeB at h2
  by_cases a1 : ty = 1
  ·exact .inl a1
  ·rw [if_neg a1] at h2
   by_cases a2 : ty = 2 ∨ ty = 3
   ·omega
   ·rw [if_neg a2] at h2
    by_cases a4 : ty = 4
    ·omega
    ·rw [if_neg a4] at h2; cases h2
 ·refine .inr ⟨rfl, ?_⟩
  have h1 : (nameB s && (bareB ty lo hi && (noText t && (rightB ps && (!truthB ps && !hd))))) = true := h
  simp only [Bool.and_eq_true] at h1
  have h2 := h1.2.1
  unfold bareB at h2
  simp at h2
  exact h2.1
theorem serves_same {op : Int} {q : It} (h : itemB q = true) (hk : ik q = 1 ∨ ik q = 6) : servesI op q = servesB op q := by
 unfold servesI servesB
 rcases item_type h hk with ⟨h1, h2 | h2 | h2 | h2⟩ | ⟨h1, h2⟩
 all_goals
  rw [h1, h2]
  by_cases a : op = 2
  ·subst a; rfl
  ·rw [if_neg a]
   by_cases b : op = 12
   ·subst b; rfl
   ·rw [if_neg b, show (op == 2) = false by simp [a], show (op == 12) = false by simp [b]]; rfl
theorem serves_zero {op : Int} : servesI op it0 = false := by
 unfold servesI
 split
 ·rfl
 ·split <;> rfl
theorem isF_kind {s : ByteArray} {q : It} (h : isF s q = true) : ik q = 1 ∨ ik q = 6 := by
 unfold isF at h
 simp at h
 exact h.2
theorem part_named {p : Pt} (h : partB p = true) : ∃ k : Nat, p.1 = (k : Int) ∧ 1 ≤ k ∧ k ≤ 13 ∧ p.2.2.toList.isEmpty = !PrtI.namedF k := by
 obtain ⟨x, n, t⟩ := p
 have hx := PrtI.part_in h
 obtain ⟨k, rfl⟩ : ∃ k : Nat, x = k := ⟨x.toNat, by omega⟩
 refine ⟨k, rfl, by omega, by omega, ?_⟩
 rw [PrtI.tab_part k n t (by omega) (by omega)] at h
 unfold PrtI.tabB at h
 rw [Bool.and_eq_true] at h
 cases hn : PrtI.namedF k
 ·rw [hn, if_neg (by decide)] at h
  exact h.1
 ·rw [hn, if_pos rfl] at h
  have h1 := (of_decide_eq_true h.1).1
  show t.toList.isEmpty = false
  cases he : t.toList.isEmpty
  ·rfl
  ·rw [List.isEmpty_iff, ByteArray.toList_eq] at he
   have h2 := congrArg List.length he
   rw [Array.length_toList] at h2
   have h3 : t.size = 0 := h2
   omega
theorem use_impl {ls : List It} {n : Nat} {p : Pt} (hn : p.2.2.toList.isEmpty = false) (hr : ∀ i, i < n → itemB (ls.getD i it0) = true) : useB ls n p = servesI p.1 (fieldQ ls n p.2.2) := by
 cases hf : fieldN ls n p.2.2 with
 | none => rw [use_none hn hf, fieldQ_no hf, serves_zero]
 | some i =>
  obtain ⟨h1, h2, _⟩ := field_at.1 hf
  rw [use_some hn hf, fieldQ_at hf, serves_same (hr i h2) (isF_kind h1)]
theorem iter_parts (f : List Pt → Option (List Pt)) (hf : ∀ l r, f l = some r → ∃ q, l = q ++ r ∧ ∀ p ∈ q, partB p = true) : ∀ n s r, iter f n s = some r → ∃ l, s = some l ∧ ∃ q, l = q ++ r ∧ ∀ p ∈ q, partB p = true := by
 intro n
 induction n with
 | zero => intro s r h1; exact ⟨r, h1, [], rfl, fun _ h => (nomatch h)⟩
 | succ n ih =>
  intro s r h1
  cases s with
  | none => cases h1
  | some l =>
   obtain ⟨l', e, q, rfl, hq⟩ := ih _ _ h1
   obtain ⟨q1, rfl, hq1⟩ := hf _ _ e
   refine ⟨_, rfl, q1 ++ q, by simp, fun p hp => ?_⟩
   rcases List.mem_append.1 hp with h | h
   ·exact hq1 p h
   ·exact hq p h
theorem all_parts : ∀ d (l r : List Pt), behind d l = some r → ∃ q, l = q ++ r ∧ ∀ p ∈ q, partB p = true := by
 intro d
 induction d with
 | zero => intro l r h; cases h
 | succ d ih =>
  intro l r h
  cases l with
  | nil => cases h
  | cons p q =>
   rw [behind_succ] at h
   by_cases hp : partB p = true
   ·rw [if_pos hp] at h
    obtain ⟨l', e, q1, hq1, hq2⟩ := iter_parts (child d p.1) (fun l r h1 => by
     unfold child at h1
     by_cases hw : numB (l.headD pt0).1 = wantsB p.1
     ·rw [if_pos hw] at h1; exact ih _ _ h1
     ·rw [if_neg hw] at h1; cases h1) _ _ _ h
    cases e
    refine ⟨p :: q1, by rw [hq1]; rfl, fun x hx => ?_⟩
    rcases List.mem_cons.1 hx with rfl | h
    ·exact hp
    ·exact hq2 x h
   ·rw [if_neg hp] at h; cases h
theorem right_all {ps : List Pt} (h : rightB ps = true) : ∀ k, k < ps.length → partB (ps.getD k pt0) = true := by
 intro k hk
 unfold rightB at h
 rw [Bool.and_eq_true, decide_eq_true_iff, decide_eq_true_iff] at h
 obtain ⟨q, e, hq⟩ := all_parts _ _ _ h.2
 rw [List.append_nil] at e
 subst e
 apply hq
 rw [List.getD_eq_getElem?_getD, List.getElem?_eq_getElem hk]
 exact List.getElem_mem hk
theorem item_parts {q : It} (h : itemB q = true) : ∀ k, k < (iex q).length → partB ((iex q).getD k pt0) = true := by
 obtain ⟨k, s, ty, lo, hi, t, ps, hd⟩ := q
 have none_in : noParts ps = true → ∀ k, k < ps.length → partB (ps.getD k pt0) = true := fun h k hk => by
  unfold noParts at h
  simp at h
  subst h
  simp at hk
 have truth_in : truthB ps = true → ∀ k, k < ps.length → partB (ps.getD k pt0) = true := fun h => by
  unfold truthB at h
  rw [Bool.and_eq_true] at h
  exact right_all h.1
 by_cases hk : 1 ≤ k ∧ k ≤ 6
 ·rcases (by omega : k = 1 ∨ k = 2 ∨ k = 3 ∨ k = 4 ∨ k = 5 ∨ k = 6) with rfl | rfl | rfl | rfl | rfl | rfl
  ·have h1 : (nameB s && (rangeB ty lo hi && (labelB t && (noParts ps && !hd)))) = true := h
   simp only [Bool.and_eq_true] at h1
   exact none_in h1.2.2.2.1
  ·have h1 : (noText s && (bareB ty lo hi && (noText t && (truthB ps && !hd)))) = true := h
   simp only [Bool.and_eq_true] at h1
   exact truth_in h1.2.2.2.1
  ·have h1 : (noText s && (bareB ty lo hi && (noText t && (noParts ps && !hd)))) = true := h
   simp only [Bool.and_eq_true] at h1
   exact none_in h1.2.2.2.1
  ·have h1 : (noText s && (bareB ty lo hi && (noText t && (noParts ps && !hd)))) = true := h
   simp only [Bool.and_eq_true] at h1
   exact none_in h1.2.2.2.1
  ·have h1 : (nameB s && (bareB ty lo hi && (labelB t && truthB ps))) = true := h
   simp only [Bool.and_eq_true] at h1
   exact truth_in h1.2.2.2
  ·have h1 : (nameB s && (bareB ty lo hi && (noText t && (rightB ps && (!truthB ps && !hd))))) = true := h
   simp only [Bool.and_eq_true] at h1
   exact right_all h1.2.2.2.1
 ·rw [ItmI.item_out hk] at h; cases h
theorem its_take {w : World} {a : Option Addr} {ls : List It} (h : Its w a ls) (n : Nat) : Its w a (ls.take n) := by
 have hg : ∀ i, i < (ls.take n).length → (ls.take n).getD i it0 = ls.getD i it0 := fun i hi => by
  rw [List.length_take] at hi
  rw [List.getD_eq_getElem?_getD, List.getD_eq_getElem?_getD, List.getElem?_take, if_pos (by omega)]
 have hl : (ls.take n).length ≤ ls.length := by rw [List.length_take]; omega
 refine ⟨by have := h.1; omega, fun i hi => by rw [hg i hi]; exact h.2.1 i (by omega), fun hp => ?_⟩
 obtain ⟨b, o, ha, hb, hc⟩ := h.2.2 (by omega)
 exact ⟨b, o, ha, hb, fun i hi => by rw [hg i hi]; exact hc i (by omega)⟩
theorem take_getD {ls : List It} {n i : Nat} (hi : i < n) : (ls.take n).getD i it0 = ls.getD i it0 := by
 rw [List.getD_eq_getElem?_getD, List.getD_eq_getElem?_getD, List.getElem?_take, if_pos hi]
theorem field_take {ls : List It} {n : Nat} {s : ByteArray} : fieldN (ls.take n) n s = fieldN ls n s := by
 unfold fieldN
 cases h : List.find? (fun i => isF s (ls.getD i it0)) (List.range n) with
 | none =>
  rw [List.find?_range_eq_none] at h ⊢
  intro i hi
  rw [take_getD hi]
  exact h i hi
 | some j =>
  rw [List.find?_range_eq_some] at h ⊢
  obtain ⟨h1, h2, h3⟩ := h
  have hj := List.mem_range.1 h2
  exact ⟨by rw [take_getD hj]; exact h1, h2, fun i hi => by rw [take_getD (by omega)]; exact h3 i hi⟩
open Go.RowKit
open PrtW PrtM NameW ItmW ValM ItmM FrmM
open ItmI (EnvI)
def Errs (w : World) (g : Nat) : Prop := g < w.heap.size ∧ ∃ tp p, w.cell? ⟨g, 0, none⟩ = some (.iface tp p)
theorem Errs.on {w w' : World} {g : Nat} (h : Errs w g) (hB : Below w.heap.size w w') : Errs w' g := by
 obtain ⟨hl, tp, p, hc⟩ := h
 exact ⟨Nat.lt_of_lt_of_le hl hB.size, tp, p, by rw [hB.cell (p := ⟨g, 0, none⟩) hl]; exact hc⟩
def EnvF (w : World) : Prop := EnvI w ∧ Errs w 0 ∧ Errs w 1 ∧ Errs w 4 ∧ Errs w 5 ∧ Errs w 6
theorem EnvF.on {w w' : World} (h : EnvF w) (hB : Below w.heap.size w w') : EnvF w' := ⟨h.1.on hB, h.2.1.on hB, h.2.2.1.on hB, h.2.2.2.1.on hB, h.2.2.2.2.1.on hB, h.2.2.2.2.2.on hB⟩
def ErrIs (ok : Bool) (v : Value) : Prop := (ok = true ∧ v = .nilIface) ∨ (ok = false ∧ ∃ tp p, v = .iface tp p)
def At3 (w : World) (b : Nat) (v0 v1 v2 : Value) : Prop := (w.cell? ⟨b, 0, none⟩ = some v0 ∧ w.cell? ⟨b, 1, none⟩ = some v1 ∧ w.cell? ⟨b, 2, none⟩ = some v2) ∧ b < w.heap.size
theorem keepP {W0 w' : World} {b g o : Nat} {v0 v1 v2 u : Value} (h : At3 W0 b v0 v1 v2) (hs : g < W0.heap.size ∧ W0.cell? ⟨g, o, none⟩ = some u) (hB : Below W0.heap.size W0 w') :
  Below W0.heap.size W0 w' ∧ (w'.cell? ⟨b, 0, none⟩ = some v0 ∧ w'.cell? ⟨b, 1, none⟩ = some v1 ∧ w'.cell? ⟨b, 2, none⟩ = some v2) ∧ w'.cell? ⟨g, o, none⟩ = some u := by
 obtain ⟨⟨h0, h1, h2⟩, hl⟩ := h
 exact ⟨hB, ⟨by rw [hB.cell (p := ⟨b, _, none⟩) hl]; exact h0, by rw [hB.cell (p := ⟨b, _, none⟩) hl]; exact h1, by rw [hB.cell (p := ⟨b, _, none⟩) hl]; exact h2⟩, by rw [hB.cell (p := ⟨g, _, none⟩) hs.1]; exact hs.2⟩
theorem At3.laid (w : World) (T : TypeId) (v0 v1 v2 : Value) : At3 (w.alloc (.cells #[v0, v1, v2] T)) w.heap.size v0 v1 v2 := ⟨⟨by simp, by simp, by simp⟩, by simp⟩
def nameNew (la : List It) (s : ByteArray) : Bool := s.toList.isEmpty || decide (∀ j, j < la.length → sameN (inm (la.getD j it0)) s = false)
theorem nn_empty {la : List It} {s : ByteArray} (h : s.toList.isEmpty = true) : nameNew la s = true := by unfold nameNew; rw [h]; rfl
theorem nn_yes {la : List It} {s : ByteArray} (h : ∀ j, j < la.length → sameN (inm (la.getD j it0)) s = false) : nameNew la s = true := by unfold nameNew; rw [decide_eq_true h, Bool.or_true]
theorem nn_no {la : List It} {s : ByteArray} {j : Nat} (h : s.toList.isEmpty = false) (hj : j < la.length) (hs : sameN (inm (la.getD j it0)) s = true) : nameNew la s = false := by
 unfold nameNew
 rw [h, Bool.false_or]
 exact decide_eq_false fun a => by rw [a j hj] at hs; cases hs
set_option maxRecDepth 10000 in
set_option maxHeartbeats 12800000 in
theorem not_behind (a : Option Addr) (cap : Nat) (la : List It) (kk : Int) (s : ByteArray) (ty lo hi : Int) (t : ByteArray) (ai : Option Addr) (ci : Nat) (ps : List Pt) (hd : Bool) (w : World) (hA : Its w a la) (hr : ∀ i, i < la.length → itemB (la.getD i it0) = true)
  (hP : Parts w ai ps) (hpr : ∀ k, k < ps.length → partB (ps.getD k pt0) = true) (hE : EnvF w) :
  Calls Tryz.prog 118 #[.slice a la.length cap, .agg #[.int .i64 kk, .string s, .int .i64 ty, .int .i64 lo, .int .i64 hi, .string t, .slice ai ps.length ci, .bool hd]] w fun e w' => (∃ v, e = .returned v ∧ ErrIs (nameNew la s && usesB la la.length ps) v) ∧ Below w.heap.size w w' := by
 have HA := hid hA
 have HP := hid hP
 have HE := hid hE
 have HR := hid hr
 have HPR := hid hpr
 have hl := hA.1
 have hpl := hP.1
 clear hA hP hE hr hpr
 obtain ⟨n1, hn1⟩ : ∃ v, Hid (nameNew la s = v) := ⟨_, rfl⟩
 obtain ⟨n2, hn2⟩ : ∃ v, Hid (usesB la la.length ps = v) := ⟨_, rfl⟩
 rw [hn1.out, hn2.out]
 have HB0 := hid (Blk.laid w (kk, s, ty, lo, hi, t, ps, hd) ai ci)
 go_enter Tryz.func118, Tryz.ntmps118
 go_wp2_with fail
 go_loopw [11] (fun i wr => ∃ j : Nat, j ≤ la.length ∧ i = .int .i64 j ∧ Hid (noText s = false → ∀ m, m < j → sameN (inm (la.getD m it0)) s = false) ∧ Hid (Blk wr w.heap.size (kk, s, ty, lo, hi, t, ps, hd) ai ci) ∧ Hid (Below w.heap.size w wr)) (fun i _ => la.length - (intOf i).toNat)
 case atStart => exact ⟨0, Nat.zero_le _, rfl, fun _ j hj => absurd hj (Nat.not_lt_zero _), HB0.out, (Below.refl _ _).alloc (Nat.le_refl _) _⟩
 case round =>
  obtain ⟨j, hj, rfl, HS, HBk, HB⟩ := hrel
  obtain ⟨⟨y0, y1, y2, y3, y4, y5, y6, y7⟩, yf, yl⟩ := HBk.out.all
  dsimp only [ik, inm, ity, ilo, ihi, itx, iex, ihd] at y0 y1 y2 y3 y4 y5 y6 y7
  by_cases hlt : j < la.length
  ·obtain ⟨_, b, o, aj, cj, rfl, hb, hF, _⟩ := HA.out.at (Below.refl _ _) hlt
   have HNo : Hid (s.toList.isEmpty = false → sameN (inm (la.getD j it0)) s = true → n1 = false) := fun h1 h2 => by rw [← hn1.out]; exact nn_no h1 hlt h2
   have HNext : Hid ((noText s = false → sameN (inm (la.getD j it0)) s = false) → noText s = false → ∀ m, m < j + 1 → sameN (inm (la.getD m it0)) s = false) := fun h h0 m hm => by
    rcases Nat.lt_succ_iff_lt_or_eq.1 hm with hm' | rfl
    ·exact HS.out h0 m hm'
    ·exact h h0
   have HSd : Hid (sameN (inm (la.getD j it0)) s = ((inm (la.getD j it0)).toList == s.toList)) := rfl
   obtain ⟨c0, c1, c2, c3, c4, c5, c6, c7⟩ := hF.on hb HB.out
   generalize sameN (inm (la.getD j it0)) s = sm at HNo HNext HSd
   generalize la.getD j it0 = p at c0 c1 c2 c3 c4 c5 c6 c7 HSd
   obtain ⟨k1, s1, p1, p2, p3, p4, p5, p6⟩ := p
   dsimp only [ik, inm, ity, ilo, ihi, itx, iex, ihd] at c0 c1 c2 c3 c4 c5 c6 c7 HSd
   have hBn : Hid (Below wr.heap.size wr (wr.alloc (.cells #[.int .i64 k1, .string s1, .int .i64 p1, .int .i64 p2, .int .i64 p3, .string p4, .slice aj p5.length cj, .bool p6] 57))) := (Below.refl _ _).alloc (Nat.le_refl _) _
   obtain ⟨-, tp, pe, r3⟩ := HE.out.2.2.2.1.on HB.out
   have hg3 := HE.out.2.2.2.1.1
   have hg3' : 4 < wr.heap.size := Nat.lt_of_lt_of_le hg3 HB.out.size
   clear hF HS
   cases hse : s.toList.isEmpty
   ·cases hsm : (s1.toList == s.toList)
    ·have hs0 : sm = false := by rw [HSd.out, hsm]
     have HX := hid (HNext.out (fun _ => hs0))
     go_wp2_with fail
     exact ⟨⟨j + 1, by omega, by go_num, HX.out, HBk.out.on hBn.out, HB.out.trans (hBn.out.mono HB.out.size)⟩, by simp [intOf]; omega⟩
    ·have hs0 : sm = true := by rw [HSd.out, hsm]
     have HZ := hid (HNo.out hse hs0)
     go_wp2_with fail
     go_ret
     exact ⟨⟨_, rfl, .inr ⟨by rw [HZ.out]; rfl, tp, pe, rfl⟩⟩, HB.out.trans (hBn.out.mono HB.out.size)⟩
   ·have HX : Hid (noText s = false → ∀ m, m < j + 1 → sameN (inm (la.getD m it0)) s = false) := fun h => by unfold noText at h; rw [hse] at h; cases h
    clear HNo HNext
    go_wp2_with fail
    exact ⟨⟨j + 1, by omega, by go_num, HX.out, HBk.out.on hBn.out, HB.out.trans (hBn.out.mono HB.out.size)⟩, by simp [intOf]; omega⟩
  ·obtain rfl : j = la.length := by omega
   have HN1 : Hid (n1 = true) := by
    show _ = _
    rw [← hn1.out]
    cases hse : s.toList.isEmpty
    ·exact nn_yes (HS.out hse)
    ·exact nn_empty hse
   have HB1 := hid HB.out
   have HBk1 := hid HBk.out
   clear HS
   go_wp2_with fail
   go_loopw [30] (fun i wr => ∃ j : Nat, j ≤ ps.length ∧ i = .int .i64 j ∧ Hid (∀ m, m < j → useB la la.length (ps.getD m pt0) = true) ∧ Hid (Blk wr w.heap.size (kk, s, ty, lo, hi, t, ps, hd) ai ci) ∧ Hid (Below w.heap.size w wr)) (fun i _ => ps.length - (intOf i).toNat)
   case atStart => exact ⟨0, Nat.zero_le _, rfl, fun j hj => absurd hj (Nat.not_lt_zero _), HBk1.out, HB1.out⟩
   case round =>
    clear y0 y1 y2 y3 y4 y5 y6 y7 yf yl HBk HB HBk1 HB1
    obtain ⟨j, hj, rfl, HU, HBk, HB⟩ := hrel
    obtain ⟨⟨y0, y1, y2, y3, y4, y5, y6, y7⟩, yf, yl⟩ := HBk.out.all
    dsimp only [ik, inm, ity, ilo, ihi, itx, iex, ihd] at y0 y1 y2 y3 y4 y5 y6 y7
    by_cases hlt : j < ps.length
    ·obtain ⟨b2, o2, rfl, hb2, hcs⟩ := HP.out.2.2 (by omega)
     obtain ⟨d0, d1, d2⟩ := hcs j hlt
     rw [← HB.out.cell (p := ⟨b2, _, none⟩) hb2] at d0 d1 d2
     obtain ⟨kx, hkx, hk1, hk13, hnm⟩ := part_named (HPR.out j hlt)
     have HNo : Hid (useB la la.length (ps.getD j pt0) = false → n2 = false) := fun h => by rw [← hn2.out]; exact uses_no hlt h
     have HNext : Hid (useB la la.length (ps.getD j pt0) = true → ∀ m, m < j + 1 → useB la la.length (ps.getD m pt0) = true) := fun h m hm => by
      rcases Nat.lt_succ_iff_lt_or_eq.1 hm with hm' | rfl
      ·exact HU.out m hm'
      ·exact h
     have HE1 : Hid ((ps.getD j pt0).2.2.toList.isEmpty = true → useB la la.length (ps.getD j pt0) = true) := fun h => use_empty h
     have HE2 : Hid ((ps.getD j pt0).2.2.toList.isEmpty = false → useB la la.length (ps.getD j pt0) = servesI (ps.getD j pt0).1 (fieldQ la la.length (ps.getD j pt0).2.2)) := fun h => use_impl h HR.out
     generalize useB la la.length (ps.getD j pt0) = u at HNo HNext HE1 HE2
     generalize ps.getD j pt0 = p at d0 d1 d2 hkx hnm HE1 HE2
     obtain ⟨x, n, m⟩ := p
     dsimp only at d0 d1 d2 hkx hnm HE1 HE2
     subst hkx
     have HNm := hid hnm
     clear hnm hcs HU
     have hBn : Hid (Below wr.heap.size wr (wr.alloc (.cells #[.int .i64 (kx : Int), .int .i64 n, .string m] 108))) := (Below.refl _ _).alloc (Nat.le_refl _) _
     have HES := hid ((HE.out.1.1.on HB.out).on hBn.out)
     have hsh := HES.out.1
     obtain ⟨-, -, -, e3, -⟩ := HES.out.2 kx (by omega)
     have HSh0 := hid (And.intro hsh e3)
     have HP3a := hid (At3.laid wr 108 (.int .i64 (kx : Int)) (.int .i64 n) (.string m))
     have hk14 : kx < 14 := by omega
     have hkI : (kx : Int) < 14 := by omega
     have HR5 : Hid (Errs (wr.alloc (.cells #[.int .i64 (kx : Int), .int .i64 n, .string m] 108)) 5) := (HE.out.2.2.2.2.1.on HB.out).on hBn.out
     go_wp2_with fail
     obtain ⟨W0, hW0⟩ : ∃ W0, Hid (wr.alloc (.cells #[.int .i64 (kx : Int), .int .i64 n, .string m] 108) = W0) := ⟨_, rfl⟩
     rw [hW0.out] at HSh0 HP3a HR5 hBn e3 ⊢
     have HSh : Hid (2 < W0.heap.size ∧ W0.cell? ⟨2, kx * 7 + 3, none⟩ = some (.bool (PrtI.namedF kx))) := HSh0.out
     have HP3 : Hid (At3 W0 wr.heap.size (.int .i64 (kx : Int)) (.int .i64 n) (.string m)) := HP3a.out
     have HBs : Hid (w.heap.size ≤ W0.heap.size) := Nat.le_trans HB.out.size hBn.out.size
     have HBW : Hid (Below w.heap.size w W0) := HB.out.trans (hBn.out.mono HB.out.size)
     have HBk0 := hid (HBk.out.on hBn.out)
     have h0 : Below W0.heap.size W0 W0.drew := (Below.refl _ _).drew
     clear HSh0 HP3a hW0 e3 y0 y1 y2 y3 y4 y5 y6 y7 yf yl d0 d1 d2 HBk hsh HES
     clear HB
     have HB := HBW
     cases hnf : PrtI.namedF kx
     ·rw [hnf] at HSh HNm
      have hu : u = true := HE1.out (by rw [HNm.out]; rfl)
      have HX := hid (HNext.out hu)
      clear HNo HNext HE1 HE2
      refine wp_region_held_drew (S := (fun w' => Below W0.heap.size W0 w' ∧ (w'.cell? ⟨wr.heap.size, 0, none⟩ = some (.int .i64 (kx : Int)) ∧ w'.cell? ⟨wr.heap.size, 1, none⟩ = some (.int .i64 n) ∧ w'.cell? ⟨wr.heap.size, 2, none⟩ = some (.string m)) ∧ w'.cell? ⟨2, kx * 7 + 3, none⟩ = some (.bool false))) (by kernel_rfl) ?_ (fun hHeld => ?_)
      ·(try dsimp only) <;> (first | exact keepP HP3.out HSh.out hN | exact keepP HP3.out HSh.out h0)
      refine tk 0 (some 34) rfl hHeld ?_; (try simp only [Act.put, pA, pB, pC]); refine tk 1 (some 35) rfl hHeld ?_; (try simp only [Act.put, pA, pB, pC]); refine tk 2 (some 36) rfl hHeld ?_; (try simp only [Act.put, pA, pB, pC]); refine tk 3 (some 37) rfl hHeld ?_; (try simp only [Act.put, pA, pB, pC]); refine tk 4 (some 38) rfl hHeld ?_; (try simp only [Act.put, pA, pB, pC]); refine tk 5 (some 39) rfl hHeld ?_; (try simp only [Act.put, pA, pB, pC]); refine tp 6 (some 40) rfl hHeld ?_; (try simp only [Act.put, pA, pB, pC]); refine tp 7 (some 41) rfl hHeld ?_; (try simp only [Act.put, pA, pB, pC]); refine tp 8 (some 42) rfl hHeld ?_; (try simp only [Act.put, pA, pB, pC]); refine tp 9 (some 43) rfl hHeld ?_; (try simp only [Act.put, pA, pB, pC]); refine tp 10 (some 44) rfl hHeld ?_; (try simp only [Act.put, pA, pB, pC]); refine tp 11 (some 45) rfl hHeld ?_; (try simp only [Act.put, pA, pB, pC])
      refine tp 12 (some 46) rfl hHeld ?_; (try simp only [Act.put, pA, pB, pC]); refine tk 13 (some 47) rfl hHeld ?_; (try simp only [Act.put, pA, pB, pC])
      refine wpAnyH_done (by kernel_rfl) ?_ _
      have HZ := hid hHeld.1
      clear hHeld h0
      go_wp2_with fail
      exact ⟨⟨j + 1, by omega, by go_num, HX.out, HBk0.out.on HZ.out, HBW.out.trans (HZ.out.mono HBs.out)⟩, by simp [intOf]; omega⟩
     ·rw [hnf] at HSh HNm
      have HU2 : Hid (u = servesI (kx : Int) (fieldQ la la.length m)) := HE2.out (by rw [HNm.out]; rfl)
      obtain ⟨fq, hfq⟩ : ∃ fq, Hid (fieldQ la la.length m = fq) := ⟨_, rfl⟩
      rw [hfq.out] at HU2
      obtain ⟨k2, s2, ty2, lo2, hi2, t2, ps2, hd2⟩ := fq
      obtain ⟨sv, hsv⟩ : ∃ v, Hid (servesI (kx : Int) (k2, s2, ty2, lo2, hi2, t2, ps2, hd2) = v) := ⟨_, rfl⟩
      rw [hsv.out] at HU2
      clear HE1 HE2
      cases sv
      ·have HZz := hid (HNo.out HU2.out)
       clear HNo HNext
       refine wp_region_held_drew (S := (fun w' => Below W0.heap.size W0 w' ∧ (w'.cell? ⟨wr.heap.size, 0, none⟩ = some (.int .i64 (kx : Int)) ∧ w'.cell? ⟨wr.heap.size, 1, none⟩ = some (.int .i64 n) ∧ w'.cell? ⟨wr.heap.size, 2, none⟩ = some (.string m)) ∧ w'.cell? ⟨2, kx * 7 + 3, none⟩ = some (.bool true))) (by kernel_rfl) ?_ (fun hHeld => ?_)
       ·(try dsimp only) <;> (first | exact keepP HP3.out HSh.out hN | exact keepP HP3.out HSh.out h0)
       refine tk 0 (some 34) rfl hHeld ?_; (try simp only [Act.put, pA, pB, pC]); refine tk 1 (some 35) rfl hHeld ?_; (try simp only [Act.put, pA, pB, pC]); refine tk 2 (some 36) rfl hHeld ?_; (try simp only [Act.put, pA, pB, pC]); refine tk 3 (some 37) rfl hHeld ?_; (try simp only [Act.put, pA, pB, pC]); refine tk 4 (some 38) rfl hHeld ?_; (try simp only [Act.put, pA, pB, pC]); refine tk 5 (some 39) rfl hHeld ?_; (try simp only [Act.put, pA, pB, pC]); refine tk 6 (some 40) rfl hHeld ?_; (try simp only [Act.put, pA, pB, pC]); refine tk 7 (some 41) rfl hHeld ?_; (try simp only [Act.put, pA, pB, pC]); refine tk 8 (some 42) rfl hHeld ?_; (try simp only [Act.put, pA, pB, pC]); refine tk 10 (some 44) rfl hHeld ?_; (try simp only [Act.put, pA, pB, pC])
       refine wpAnyH_ready (rs := [9]) (by kernel_rfl) (by simp) ?_
       refine AllReadyH.cons rfl (fun K hK => ?_) AllReadyH.nil
       go_simp
       go_at_call 142
       have hp := hHeld.1
       refine (impl_field a cap la m _ (HA.out.on (HB.out.trans (hp.mono HBs.out)))).mono ?_
       rintro e w' ⟨⟨ai2, ci2, rfl, -, -⟩, hB⟩
       rw [hfq.out]
       dsimp only [itv, ik, inm, ity, ilo, ihi, itx, iex, ihd]
       have hN := hp.trans (hB.mono hp.size)
       clear hp hB
       (try go_wp2_with fail)
       refine hK.out _ _ ?_ (fun hHeld2 => ?_)
       ·(try dsimp only) <;> (first | exact keepP HP3.out HSh.out hN | exact keepP HP3.out HSh.out h0)
       clear hK K hHeld
       have hHeld := hHeld2
       clear hHeld2
       (try simp only [Act.put, pA, pB, pC])
       refine wpAnyH_ready (rs := [11]) (by kernel_rfl) (by simp) ?_
       refine AllReadyH.cons rfl (fun K hK => ?_) AllReadyH.nil
       go_simp
       go_at_call 141
       have hp := hHeld.1
       refine (impl_serves k2 s2 ty2 lo2 hi2 t2 ai2 ps2.length ci2 hd2 ps2 (kx : Int) n m _).mono ?_
       rintro e w' ⟨rfl, hB⟩
       rw [hsv.out]
       have hN := hp.trans (hB.mono hp.size)
       clear hp hB
       (try go_wp2_with fail)
       refine hK.out _ _ ?_ (fun hHeld2 => ?_)
       ·(try dsimp only) <;> (first | exact keepP HP3.out HSh.out hN | exact keepP HP3.out HSh.out h0)
       clear hK K hHeld
       have hHeld := hHeld2
       clear hHeld2
       (try simp only [Act.put, pA, pB, pC]); refine tk 12 (some 46) rfl hHeld ?_; (try simp only [Act.put, pA, pB, pC]); refine tk 13 (some 47) rfl hHeld ?_; (try simp only [Act.put, pA, pB, pC])
       refine wpAnyH_done (by kernel_rfl) ?_ _
       have HZ := hid hHeld.1
       obtain ⟨-, tp, pe, r5⟩ := HR5.out.on HZ.out
       have hg5 := (HR5.out.on HZ.out).1
       clear hHeld h0
       go_wp2_with fail
       go_ret
       exact ⟨⟨_, rfl, .inr ⟨by rw [HZz.out, Bool.and_false], tp, pe, rfl⟩⟩, HBW.out.trans (HZ.out.mono HBs.out)⟩
      ·have HX := hid (HNext.out HU2.out)
       clear HNo HNext
       refine wp_region_held_drew (S := (fun w' => Below W0.heap.size W0 w' ∧ (w'.cell? ⟨wr.heap.size, 0, none⟩ = some (.int .i64 (kx : Int)) ∧ w'.cell? ⟨wr.heap.size, 1, none⟩ = some (.int .i64 n) ∧ w'.cell? ⟨wr.heap.size, 2, none⟩ = some (.string m)) ∧ w'.cell? ⟨2, kx * 7 + 3, none⟩ = some (.bool true))) (by kernel_rfl) ?_ (fun hHeld => ?_)
       ·(try dsimp only) <;> (first | exact keepP HP3.out HSh.out hN | exact keepP HP3.out HSh.out h0)
       refine tk 0 (some 34) rfl hHeld ?_; (try simp only [Act.put, pA, pB, pC]); refine tk 1 (some 35) rfl hHeld ?_; (try simp only [Act.put, pA, pB, pC]); refine tk 2 (some 36) rfl hHeld ?_; (try simp only [Act.put, pA, pB, pC]); refine tk 3 (some 37) rfl hHeld ?_; (try simp only [Act.put, pA, pB, pC]); refine tk 4 (some 38) rfl hHeld ?_; (try simp only [Act.put, pA, pB, pC]); refine tk 5 (some 39) rfl hHeld ?_; (try simp only [Act.put, pA, pB, pC]); refine tk 6 (some 40) rfl hHeld ?_; (try simp only [Act.put, pA, pB, pC]); refine tk 7 (some 41) rfl hHeld ?_; (try simp only [Act.put, pA, pB, pC]); refine tk 8 (some 42) rfl hHeld ?_; (try simp only [Act.put, pA, pB, pC]); refine tk 10 (some 44) rfl hHeld ?_; (try simp only [Act.put, pA, pB, pC])
       refine wpAnyH_ready (rs := [9]) (by kernel_rfl) (by simp) ?_
       refine AllReadyH.cons rfl (fun K hK => ?_) AllReadyH.nil
       go_simp
       go_at_call 142
       have hp := hHeld.1
       refine (impl_field a cap la m _ (HA.out.on (HB.out.trans (hp.mono HBs.out)))).mono ?_
       rintro e w' ⟨⟨ai2, ci2, rfl, -, -⟩, hB⟩
       rw [hfq.out]
       dsimp only [itv, ik, inm, ity, ilo, ihi, itx, iex, ihd]
       have hN := hp.trans (hB.mono hp.size)
       clear hp hB
       (try go_wp2_with fail)
       refine hK.out _ _ ?_ (fun hHeld2 => ?_)
       ·(try dsimp only) <;> (first | exact keepP HP3.out HSh.out hN | exact keepP HP3.out HSh.out h0)
       clear hK K hHeld
       have hHeld := hHeld2
       clear hHeld2
       (try simp only [Act.put, pA, pB, pC])
       refine wpAnyH_ready (rs := [11]) (by kernel_rfl) (by simp) ?_
       refine AllReadyH.cons rfl (fun K hK => ?_) AllReadyH.nil
       go_simp
       go_at_call 141
       have hp := hHeld.1
       refine (impl_serves k2 s2 ty2 lo2 hi2 t2 ai2 ps2.length ci2 hd2 ps2 (kx : Int) n m _).mono ?_
       rintro e w' ⟨rfl, hB⟩
       rw [hsv.out]
       have hN := hp.trans (hB.mono hp.size)
       clear hp hB
       (try go_wp2_with fail)
       refine hK.out _ _ ?_ (fun hHeld2 => ?_)
       ·(try dsimp only) <;> (first | exact keepP HP3.out HSh.out hN | exact keepP HP3.out HSh.out h0)
       clear hK K hHeld
       have hHeld := hHeld2
       clear hHeld2
       (try simp only [Act.put, pA, pB, pC]); refine tk 12 (some 46) rfl hHeld ?_; (try simp only [Act.put, pA, pB, pC]); refine tk 13 (some 47) rfl hHeld ?_; (try simp only [Act.put, pA, pB, pC])
       refine wpAnyH_done (by kernel_rfl) ?_ _
       have HZ := hid hHeld.1
       clear hHeld h0
       go_wp2_with fail
       exact ⟨⟨j + 1, by omega, by go_num, HX.out, HBk0.out.on HZ.out, HBW.out.trans (HZ.out.mono HBs.out)⟩, by simp [intOf]; omega⟩
    ·obtain rfl : j = ps.length := by omega
     have HN2 : Hid (n2 = true) := by
      show _ = _
      rw [← hn2.out]
      exact uses_yes HU.out
     go_wp2_with fail
     go_ret
     exact ⟨⟨_, rfl, .inl ⟨by rw [HN1.out, HN2.out]; rfl, rfl⟩⟩, HB.out⟩
end Go.Proofs.YtmbhmknfipdadaaGreatDoor.FrmI
