/- Fields by their names, and which of them serve, by the program. -/
import Derived.Test.YtbhblnpehhaiiaaDoorItmIm
import Derived.Test.YtbhblnpehhaiiaaDoorFrmMath
import Derived.OwnWalk
import Derived.WalkMore
namespace Go.Proofs.YtbhblnpehhaiiaaDoor.FrmI
open Go.RowKit
open PrtW PrtM NameW ItmW ValM ItmM FrmM

/-- an item lies alone in block b -/
def Blk (w : World) (b : Nat) (q : It) (a : Option Addr) (c : Nat) : Prop := w.heap[b]? = some (.cells #[.int .i64 (ik q), .string (inm q), .int .i64 (ity q), .int .i64 (ilo q), .int .i64 (ihi q), .string (itx q), .slice a (iex q).length c, .bool (ihd q)] 31 (0, 0))
theorem Blk.on {w w' : World} {b : Nat} {q : It} {a : Option Addr} {c : Nat} (h : Blk w b q a c) (hB : Below w.heap.size w w') : Blk w' b q a c := by
  unfold Blk at h ⊢
  rw [hB.block b (blk_lt h)]; exact h
theorem Blk.laid (w : World) (q : It) (a : Option Addr) (c : Nat) : Blk (w.alloc (.cells #[.int .i64 (ik q), .string (inm q), .int .i64 (ity q), .int .i64 (ilo q), .int .i64 (ihi q), .string (itx q), .slice a (iex q).length c, .bool (ihd q)] 31)) w.heap.size q a c := heap_alloc_new w _
theorem Blk.all {w : World} {b : Nat} {q : It} {a : Option Addr} {c : Nat} (h : Blk w b q a c) :
    (w.cell? ⟨b, 0, none⟩ = some (.int .i64 (ik q)) ∧ w.cell? ⟨b, 1, none⟩ = some (.string (inm q)) ∧ w.cell? ⟨b, 2, none⟩ = some (.int .i64 (ity q)) ∧ w.cell? ⟨b, 3, none⟩ = some (.int .i64 (ilo q)) ∧ w.cell? ⟨b, 4, none⟩ = some (.int .i64 (ihi q)) ∧ w.cell? ⟨b, 5, none⟩ = some (.string (itx q)) ∧ w.cell? ⟨b, 6, none⟩ = some (.slice a (iex q).length c) ∧ w.cell? ⟨b, 7, none⟩ = some (.bool (ihd q))) ∧
    (∀ j, w.frozen? ⟨b, j, none⟩ = false) ∧ b < w.heap.size := by
  refine ⟨?_, fun j => ?_, blk_lt h⟩
  · unfold Blk at h
    simp [World.cell?, h]
  · unfold Blk at h
    simp [World.frozen?, h]
/-- the field of that name, the zero item where there is none -/
def fieldQ (ls : List It) (n : Nat) (s : ByteArray) : It := match fieldN ls n s with | none => it0 | some i => ls.getD i it0
theorem fieldQ_at {ls : List It} {n i : Nat} {s : ByteArray} (h : fieldN ls n s = some i) : fieldQ ls n s = ls.getD i it0 := by unfold fieldQ; rw [h]
theorem fieldQ_no {ls : List It} {n : Nat} {s : ByteArray} (h : fieldN ls n s = none) : fieldQ ls n s = it0 := by unfold fieldQ; rw [h]

theorem blk_put {w : World} {b : Nat} {q : It} {a : Option Addr} {c : Nat} (h : Blk w b q a c) (p : It) (a' : Option Addr) (c' : Nat) : Blk ((((((((w.setCell ⟨b, 0, none⟩ (.int .i64 (ik p))).setCell ⟨b, 1, none⟩ (.string (inm p))).setCell ⟨b, 2, none⟩ (.int .i64 (ity p))).setCell ⟨b, 3, none⟩ (.int .i64 (ilo p))).setCell ⟨b, 4, none⟩ (.int .i64 (ihi p))).setCell ⟨b, 5, none⟩ (.string (itx p))).setCell ⟨b, 6, none⟩ (.slice a' (iex p).length c')).setCell ⟨b, 7, none⟩ (.bool (ihd p))) b p a' c' := by
  unfold Blk at h ⊢
  rw [blk_set _ _ _ _ _ _ (blk_set _ _ _ _ _ _ (blk_set _ _ _ _ _ _ (blk_set _ _ _ _ _ _ (blk_set _ _ _ _ _ _ (blk_set _ _ _ _ _ _ (blk_set _ _ _ _ _ _ (blk_set _ _ _ _ _ _ h)))))))]
  simp only [List.setIfInBounds_toArray, List.set_cons_zero, List.set_cons_succ]
theorem Blk.set {w : World} {b : Nat} {q : It} {a : Option Addr} {c : Nat} (h : Blk w b q a c) {x : Addr} (hx : x.block ≠ b) (u : Value) : Blk (w.setCell x u) b q a c := by
  unfold Blk at h ⊢
  rw [Below.heap_setCell _ _ _ _ (fun e => hx e.symm)]; exact h
theorem field_ret {Q : Ending → World → Prop} {tmps : Array Value} {W : World} {g : Nat} {q : It} {a : Option Addr} {c : Nat} (ht : tmps[4]?.getD undef = .pointer (some ⟨g, 0, none⟩)) (hB : Blk W g q a c) (hq : Q (.returned (itv q a c)) W) :
    bodyPost Tryd.prog Tryd.f37 Q Exit.ret { tmps := tmps, defers := [] } W := by
  obtain ⟨⟨y0, y1, y2, y3, y4, y5, y6, y7⟩, _⟩ := hB.all
  exact bodyPost_ret (v := itv q a c) (by simp [results, Tryd.results37, go_sem, ht, y0, y1, y2, y3, y4, y5, y6, y7]) rfl hq

set_option maxRecDepth 10000 in
set_option maxHeartbeats 3200000 in
theorem impl_field (a : Option Addr) (cap : Nat) (ls : List It) (s : ByteArray) (w : World) (hc : Its w a ls) :
    Calls Tryd.prog 37 #[.slice a ls.length cap, .string s] w fun e w' => (∃ ai ci, e = .returned (itv (fieldQ ls ls.length s) ai ci) ∧ Parts w' ai (iex (fieldQ ls ls.length s)) ∧ (iex (fieldQ ls ls.length s)).length ≤ ci) ∧ Below w.heap.size w w' := by
  have HC := hid hc
  have hl := hc.1
  clear hc
  obtain ⟨z, hz⟩ : ∃ z, Hid (fieldQ ls ls.length s = z) := ⟨_, rfl⟩
  rw [hz.out]
  have HL1 := hid (Blk.laid w it0 none 0)
  have HL2 := hid (Blk.laid (w.alloc (.cells #[.int .i64 0, .string ByteArray.empty, .int .i64 0, .int .i64 0, .int .i64 0, .string ByteArray.empty, .slice none 0 0, .bool false] 31)) it0 none 0)
  go_enter Tryd.func37, Tryd.ntmps37
  go_wp2_with fail
  go_step3
  go_wp2_with fail
  go_step3
  go_wp2_with fail
  go_loopw [10] (fun i wr => ∃ k : Nat, k ≤ ls.length ∧ i = .int .i64 k ∧ Hid (∀ j, j < k → isF s (ls.getD j it0) = false) ∧ Hid (Blk wr w.heap.size it0 none 0) ∧ Hid (Blk wr (w.heap.size + 1) it0 none 0) ∧ Hid (Below w.heap.size w wr)) (fun i _ => ls.length - (intOf i).toNat)
  case atStart => exact ⟨0, Nat.zero_le _, rfl, fun j hj => absurd hj (Nat.not_lt_zero _), HL1.out.on ((Below.refl _ _).alloc (Nat.le_refl _) _), by have := HL2.out; rw [World.size_alloc] at this; exact this, ((Below.refl _ _).alloc (Nat.le_refl _) _).alloc (by simp) _⟩
  case round =>
    obtain ⟨k, hk, rfl, hall, HR, HFd, HB⟩ := hrel
    by_cases hlt : k < ls.length
    · obtain ⟨_, b, o, ai, ci, rfl, hb, hF, hcd, hcap, _⟩ := HC.out.at (Below.refl _ _) hlt
      have HSome : Hid (isF s (ls.getD k it0) = true → z = ls.getD k it0) := fun h => by rw [← hz.out]; exact fieldQ_at (field_at.2 ⟨h, hlt, hall.out⟩)
      have HNext : Hid (isF s (ls.getD k it0) = false → ∀ j, j < k + 1 → isF s (ls.getD j it0) = false) := fun h j hj => by
        rcases Nat.lt_succ_iff_lt_or_eq.1 hj with hj' | rfl
        · exact hall.out j hj'
        · exact h
      have HIsd : Hid (isF s (ls.getD k it0) = (((inm (ls.getD k it0)).toList == s.toList) && ((ik (ls.getD k it0) == 1) || (ik (ls.getD k it0) == 6)))) := rfl
      generalize isF s (ls.getD k it0) = bb at HSome HNext HIsd
      generalize ls.getD k it0 = p at hF hcd hcap HIsd HSome
      obtain ⟨kk, s1, ty, lo, hi, t, ps, hd⟩ := p
      dsimp only [iex] at hcd hcap
      dsimp only [ik, inm] at HIsd
      obtain ⟨c0, c1, c2, c3, c4, c5, c6, c7⟩ := hF.on hb HB.out
      dsimp only [ik, inm, ity, ilo, ihi, itx, iex, ihd] at c0 c1 c2 c3 c4 c5 c6 c7
      have HCd := hid hcd
      have hBn : Hid (Below wr.heap.size wr (wr.alloc (.cells #[.int .i64 kk, .string s1, .int .i64 ty, .int .i64 lo, .int .i64 hi, .string t, .slice ai ps.length ci, .bool hd] 31))) := (Below.refl _ _).alloc (Nat.le_refl _) _
      clear hF hcd hall HC
      have hNoCase : ∀ e0 : (kk == 1) = false, ∀ e1 : (kk == 6) = false, bb = false := fun e0 e1 => by rw [HIsd.out, e0, e1]; cases (s1.toList == s.toList) <;> rfl
      have HNC := hid hNoCase
      obtain ⟨⟨x0, x1, x2, x3, x4, x5, x6, x7⟩, xf, xl⟩ := HFd.out.all
      obtain ⟨⟨y0, y1, y2, y3, y4, y5, y6, y7⟩, yf, yl⟩ := HR.out.all
      dsimp only [it0, ik, inm, ity, ilo, ihi, itx, iex, ihd] at x0 x1 x2 x3 x4 x5 x6 x7 y0 y1 y2 y3 y4 y5 y6 y7
      clear hNoCase
      cases k1 : (kk == 1)
      · cases k6 : (kk == 6)
        · have HX := hid (HNext.out (HNC.out k1 k6))
          go_wp2_with fail
          exact ⟨⟨k + 1, by omega, by go_num, HX.out, HR.out.on hBn.out, HFd.out.on hBn.out, HB.out.trans (hBn.out.mono HB.out.size)⟩, by simp [intOf]; omega⟩
        · cases hn : (s1.toList == s.toList)
          · have hb0 : bb = false := by rw [HIsd.out, hn]; rfl
            have HX := hid (HNext.out hb0)
            go_wp2_with fail
            exact ⟨⟨k + 1, by omega, by go_num, HX.out, HR.out.on hBn.out, HFd.out.on hBn.out, HB.out.trans (hBn.out.mono HB.out.size)⟩, by simp [intOf]; omega⟩
          · have hb1 : bb = true := by rw [HIsd.out, hn, k6, Bool.or_true]; rfl
            have HZ := hid (HSome.out hb1)
            have HBW : ∀ Wf, Below w.heap.size w Wf → Parts Wf ai ps := fun Wf h => HCd.out.on h
            go_wp2_with fail
            (try rw [Exit.noGoto_ret])
            refine field_ret (q := (kk, s1, ty, lo, hi, t, ps, hd)) (a := ai) (c := ci) rfl ?blk ?_
            case blk =>
              refine Blk.on ?_ ((Below.refl _ _).alloc (Nat.le_refl _) _)
              refine blk_put ?_ (kk, s1, ty, lo, hi, t, ps, hd) ai ci (q := it0) (a := none) (c := 0)
              repeat (refine Blk.set ?_ (by simp) _)
              exact HR.out
            refine (fun hBf => ⟨⟨ai, ci, by rw [HZ.out], by rw [HZ.out]; exact HBW _ hBf, by rw [HZ.out]; exact hcap⟩, hBf⟩) ?_
            refine Below.alloc ?_ (by have := HB.out.size; simp <;> omega) _
            repeat (refine Below.setCell ?_ (by simp) _)
            exact HB.out
      · cases hn : (s1.toList == s.toList)
        · have hb0 : bb = false := by rw [HIsd.out, hn]; rfl
          have HX := hid (HNext.out hb0)
          go_wp2_with fail
          exact ⟨⟨k + 1, by omega, by go_num, HX.out, HR.out.on hBn.out, HFd.out.on hBn.out, HB.out.trans (hBn.out.mono HB.out.size)⟩, by simp [intOf]; omega⟩
        · have hb1 : bb = true := by rw [HIsd.out, hn, k1]; rfl
          have HZ := hid (HSome.out hb1)
          have HBW : ∀ Wf, Below w.heap.size w Wf → Parts Wf ai ps := fun Wf h => HCd.out.on h
          go_wp2_with fail
          (try rw [Exit.noGoto_ret])
          refine field_ret (q := (kk, s1, ty, lo, hi, t, ps, hd)) (a := ai) (c := ci) rfl ?blk ?_
          case blk =>
            refine Blk.on ?_ ((Below.refl _ _).alloc (Nat.le_refl _) _)
            refine blk_put ?_ (kk, s1, ty, lo, hi, t, ps, hd) ai ci (q := it0) (a := none) (c := 0)
            repeat (refine Blk.set ?_ (by simp) _)
            exact HR.out
          refine (fun hBf => ⟨⟨ai, ci, by rw [HZ.out], by rw [HZ.out]; exact HBW _ hBf, by rw [HZ.out]; exact hcap⟩, hBf⟩) ?_
          refine Below.alloc ?_ (by have := HB.out.size; simp <;> omega) _
          repeat (refine Below.setCell ?_ (by simp) _)
          exact HB.out
    · obtain rfl : k = ls.length := by omega
      have HZ : Hid (z = it0) := by rw [← hz.out]; exact fieldQ_no (field_no.2 hall.out)
      obtain ⟨⟨x0, x1, x2, x3, x4, x5, x6, x7⟩, xf, xl⟩ := HFd.out.all
      obtain ⟨⟨y0, y1, y2, y3, y4, y5, y6, y7⟩, yf, yl⟩ := HR.out.all
      dsimp only [it0, ik, inm, ity, ilo, ihi, itx, iex, ihd] at x0 x1 x2 x3 x4 x5 x6 x7 y0 y1 y2 y3 y4 y5 y6 y7
      go_wp2_with fail
      (try rw [Exit.noGoto_ret])
      refine field_ret (q := it0) (a := none) (c := 0) rfl (blk_put HR.out it0 none 0) ?_
      refine ⟨⟨none, 0, by rw [HZ.out], by rw [HZ.out]; exact Parts.nil _ _, by rw [HZ.out]; exact Nat.le_refl _⟩, ?_⟩
      repeat (refine Below.setCell ?_ (by simp) _)
      exact HB.out
end Go.Proofs.YtbhblnpehhaiiaaDoor.FrmI
