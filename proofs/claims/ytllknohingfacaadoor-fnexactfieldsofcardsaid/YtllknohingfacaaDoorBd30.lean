/- Texts of ours, laid together: CpySp. -/
import Derived.Test.YtllknohingfacaaDoorBd29
import Derived.Test.YtllknohingfacaaDoorBd17
import Derived.Laws.AppendOwnNone
/- A copy of an item, by the model. -/
namespace Go.Proofs.YtllknohingfacaaDoor.CpyS
open Go.RowKit
open PrtW PrtM NameW ItmW ItmM FrmM
open FrmI (Blk blk_put)

theorem copy_ret {Q : Ending → World → Prop} {tmps : Array Value} {W : World} {g : Nat} {q : It} {a : Option Addr} {c : Nat} (ht : tmps[2]?.getD undef = .pointer (some ⟨g, 0, none⟩)) (hB : Blk W g q a c) (hq : Q (.returned (itv q a c)) W) :
    bodyPost Tryd.prog Tryd.f22 Q Exit.ret { tmps := tmps, defers := [] } W := by
  obtain ⟨⟨y0, y1, y2, y3, y4, y5, y6, y7⟩, _⟩ := hB.all
  exact bodyPost_ret (v := itv q a c) (by simp [results, Tryd.results22, go_sem, ht, y0, y1, y2, y3, y4, y5, y6, y7]) rfl hq
/-- new parts in place of those that lay there -/
theorem blk_six {w : World} {b : Nat} {k : Int} {s : ByteArray} {ty lo hi : Int} {t : ByteArray} {ps : List Pt} {hd : Bool} {a : Option Addr} {c : Nat} (h : Blk w b (k, s, ty, lo, hi, t, ps, hd) a c) (a' : Option Addr) (c' : Nat) : Blk (w.setCell ⟨b, 6, none⟩ (.slice a' ps.length c')) b (k, s, ty, lo, hi, t, ps, hd) a' c' := by
  unfold Blk at h ⊢
  rw [blk_set _ _ _ _ _ _ h]
  simp only [List.setIfInBounds_toArray, List.set_cons_zero, List.set_cons_succ]
theorem Blk.grown {w w' : World} {b : Nat} {q : It} {a : Option Addr} {c : Nat} {row : Option Nat} (h : Blk w b q a c) (hg : w.grownBy w' row) (hne : some b ≠ row) : Blk w' b q a c := by
  unfold Blk at h ⊢
  rw [hg.block b (blk_lt h) hne]; exact h

theorem parts_any {w : World} {ad : Addr} {ps : List Pt} (h : Parts w (some ad) ps) {j : Nat} {u : Value} (hj : (cellsP ps)[j]? = some u) : w.cell? (ad.add j) = some u := by
  have hlt : j < ps.length * 3 := by have := (List.getElem?_eq_some_iff.1 hj).1; rwa [cellsP_len] at this
  obtain ⟨b1, o1, hbo, -⟩ := h.2.2 (by omega)
  cases hbo
  rw [addr_plain]
  exact parts_cells h hj
/-- what lies at a is no older than B -/
def NewA (B : Nat) (a : Option Addr) : Prop := ∀ b o, a = some ⟨b, o, none⟩ → B ≤ b
theorem parts_off {w : World} {a : Option Addr} {ps : List Pt} {x : Addr} {u : Value} (h : Parts w a ps) (hx : ∀ b o, a = some ⟨b, o, none⟩ → x.block ≠ b) : Parts (w.setCell x u) a ps := by
  refine ⟨h.1, h.2.1, fun hp => ?_⟩
  obtain ⟨b, o, ha, hb, hc⟩ := h.2.2 hp
  have e : ∀ j, (w.setCell x u).cell? ⟨b, j, none⟩ = w.cell? ⟨b, j, none⟩ := fun j => World.cell?_of_block (a := ⟨b, j, none⟩) (Below.heap_setCell _ _ _ _ (fun e => hx b o ha e.symm))
  refine ⟨b, o, ha, by simpa using hb, fun i hi => ?_⟩
  rw [e, e, e]
  exact hc i hi

set_option maxRecDepth 10000 in
set_option maxHeartbeats 3200000 in
theorem spec_copy (k : Int) (s : ByteArray) (ty lo hi : Int) (t : ByteArray) (a : Option Addr) (c : Nat) (ps : List Pt) (hd : Bool) (w : World) (hP : Parts w a ps) (hnc : a = none → c = 0) :
    Calls Tryd.prog 22 #[itv (k, s, ty, lo, hi, t, ps, hd) a c] w fun e w' => (∃ a' c', e = .returned (itv (k, s, ty, lo, hi, t, ps, hd) a' c') ∧ Parts w' a' ps ∧ ps.length ≤ c' ∧ NewA w.heap.size a') ∧ Below w.heap.size w w' := by
  have HP := hid hP
  have hl := hP.1
  have hfit := hid hP.2.1
  clear hP
  obtain ⟨i0, hi0, hz0, hz1, hz2⟩ := info_parts PrtW.Tryd.infoP
  have HB1 := hid (Blk.laid w (k, s, ty, lo, hi, t, ps, hd) a c)
  have HB2 := hid (Blk.laid (w.alloc (.cells #[.int .i64 k, .string s, .int .i64 ty, .int .i64 lo, .int .i64 hi, .string t, .slice a ps.length c, .bool hd] 26)) it0 none 0)
  obtain ⟨w2, hw2⟩ : ∃ w2, Hid ((w.alloc (.cells #[.int .i64 k, .string s, .int .i64 ty, .int .i64 lo, .int .i64 hi, .string t, .slice a ps.length c, .bool hd] 26)).alloc (.cells #[.int .i64 0, .string ⟨#[]⟩, .int .i64 0, .int .i64 0, .int .i64 0, .string ⟨#[]⟩, .slice none 0 0, .bool false] 26) = w2) := ⟨_, rfl⟩
  have HX1 : Hid (Blk w2 w.heap.size (k, s, ty, lo, hi, t, ps, hd) a c) := by rw [← hw2.out]; exact HB1.out.on ((Below.refl _ _).alloc (Nat.le_refl _) _)
  have HX2 : Hid (Blk w2 (w.heap.size + 1) it0 none 0) := by have h := HB2.out; rw [World.size_alloc] at h; rw [← hw2.out]; exact h
  have HBw : Hid (Below w.heap.size w w2) := by rw [← hw2.out]; exact ((Below.refl _ _).alloc (Nat.le_refl _) _).alloc (by simp) _
  have hsz : w2.heap.size = w.heap.size + 2 := by rw [← hw2.out]; simp
  have hown : (w2.alloc (.cells #[] 61)).ownsRow w2.heap.size 61 3 (.slice (some ⟨w2.heap.size, 0, none⟩) 0 0) 0 [] :=
    World.ownsRow_made (base := w2.heap.size) (e := 61) (size := 3) w2 #[] 0 (Nat.le_refl _) (by unfold maxLen; omega) rfl
  rw [hsz] at hown
  have HM := hid hown
  have hB2a : Below w2.heap.size w2 (w2.alloc (.cells #[] 61)) := (Below.refl _ _).alloc (Nat.le_refl _) _
  have HBa := hid hB2a
  clear HB1 HB2 hown hB2a
  go_enter Tryd.func22, Tryd.ntmps22
  go_upto_region 1 with fail
  dsimp only [ik, inm, ity, ilo, ihi, itx, iex, ihd]
  rw [hw2.out]
  obtain ⟨⟨x0, x1, x2, x3, x4, x5, x6, x7⟩, xf, xl⟩ := HX1.out.all
  dsimp only [ik, inm, ity, ilo, ihi, itx, iex, ihd] at x0 x1 x2 x3 x4 x5 x6 x7
  cases a with
  | none =>
    obtain rfl := hnc rfl
    have e : ps = [] := by
      cases ps with
      | nil => rfl
      | cons x l => obtain ⟨b, o, h, _⟩ := HP.out.2.2 (by simp); cases h
    subst e
    clear hw2 x0 x1 x2 x3 x4 x5 x7
    go_upto_region 2 with (first
      | (at_builtin; refine wpList_append_own_none rfl _ _ 24 rfl (w.heap.size + 2) 61 i0 3 Tryd.underlying24 hi0 hz1 _ 0 [] rfl HM.out rfl ?_; go_frame)
      | go_in)
    have HX3 : Hid (Blk ((w2.setCell ⟨w.heap.size, 6, none⟩ (.slice (some ⟨w.heap.size + 2, 0, none⟩) 0 0)).alloc (.cells #[] 61)) w.heap.size (k, s, ty, lo, hi, t, [], hd) (some ⟨w.heap.size + 2, 0, none⟩) 0) := (blk_six HX1.out _ _).on ((Below.refl _ _).alloc (Nat.le_refl _) _)
    have HY3 : Hid (Blk ((w2.setCell ⟨w.heap.size, 6, none⟩ (.slice (some ⟨w.heap.size + 2, 0, none⟩) 0 0)).alloc (.cells #[] 61)) (w.heap.size + 1) it0 none 0) := (HX2.out.set (by simp) _).on ((Below.refl _ _).alloc (Nat.le_refl _) _)
    have HP3 : Hid (Parts ((w2.setCell ⟨w.heap.size, 6, none⟩ (.slice (some ⟨w.heap.size + 2, 0, none⟩) 0 0)).alloc (.cells #[] 61)) (some ⟨w.heap.size + 2, 0, none⟩) []) := Parts.nil _ _
    have HB3 : Hid (Below w.heap.size w ((w2.setCell ⟨w.heap.size, 6, none⟩ (.slice (some ⟨w.heap.size + 2, 0, none⟩) 0 0)).alloc (.cells #[] 61))) := (HBw.out.setCell (by simp) _).alloc (by simp; omega) _
    generalize (w2.setCell ⟨w.heap.size, 6, none⟩ (.slice (some ⟨w.heap.size + 2, 0, none⟩) 0 0)).alloc (.cells #[] 61) = w4 at *
    have hc3 : ([] : List Pt).length ≤ 0 := Nat.le_refl _
    have HNew : NewA w.heap.size (some ⟨w.heap.size + 2, 0, none⟩) := fun b o h => by cases h; omega
    generalize (some ⟨w.heap.size + 2, 0, none⟩ : Option Addr) = a4 at *
    clear xf x6 xl HX1 HX2
    have HX3' := HX3.out
    obtain ⟨⟨x0, x1, x2, x3, x4, x5, x6, x7⟩, xf, xl⟩ := HX3.out.all
    obtain ⟨⟨y0, y1, y2, y3, y4, y5, y6, y7⟩, yf, yl⟩ := HY3.out.all
    dsimp only [it0, ik, inm, ity, ilo, ihi, itx, iex, ihd] at x0 x1 x2 x3 x4 x5 x6 x7 y0 y1 y2 y3 y4 y5 y6 y7
    go_wp2_with fail
    (try rw [Exit.noGoto_ret])
    skip
    refine copy_ret (q := (k, s, ty, lo, hi, t, [], hd)) (a := a4) (c := 0) rfl ?blk ?_
    case blk => exact blk_put HY3.out (k, s, ty, lo, hi, t, [], hd) a4 0
    refine (fun hBf => ⟨?ex, hBf⟩) ?_
    case ex =>
      have HPf := fun W => Parts.nil W a4
      first
        | exact ⟨_, _, rfl, HPf _, hc3, HNew⟩
        | exact ⟨_, ⟨_, rfl⟩, HPf _, HNew⟩
        | exact ⟨_, ⟨_, rfl⟩, HPf _, hc3, HNew⟩
    repeat (refine Below.setCell ?_ (by simp) _)
    exact HB3.out
  | some ad =>
    clear hw2 x0 x1 x2 x3 x4 x5 x7
    go_wp2_with (first
      | (at_builtin; refine wpList_append_own _ rfl _ _ 24 rfl (w.heap.size + 2) 61 i0 (.agg #[.int .i64 0, .int .i64 0, .string ByteArray.empty]) 3 32 Tryd.underlying24 hi0 hz0 hz1 hz2 rfl (by decide) _ 0 [] rfl HM.out ad ps.length c (cellsP ps) rfl ?xp1 ?xp2 ?xp3 ?xp4 ?xp5 ?xp6 ?_))
    (try case xp1 => rw [cellsP_len])
    (try case xp2 => exact fun j v hj => parts_any (HP.out.on (HBw.out.trans (HBa.out.mono HBw.out.size))) hj)
    (try case xp3 => exact cellsP_one _)
    (try case xp4 => unfold maxLen; omega)
    (try case xp5 => omega)
    (try case xp6 => simp <;> omega)
    intro v1 w3 hown1 hgrow1 _
    have HX3 := hid (Blk.grown (HX1.out.on HBa.out) hgrow1 (show some w.heap.size ≠ some (w.heap.size + 2) from fun e => by have := Option.some.inj e; omega))
    have HY3 := hid (Blk.grown (HX2.out.on HBa.out) hgrow1 (show some (w.heap.size + 1) ≠ some (w.heap.size + 2) from fun e => by have := Option.some.inj e; omega))
    have HB3 : Hid (Below w.heap.size w w3) := (HBw.out.trans (HBa.out.mono HBw.out.size)).grown hgrow1 (by simp; omega) (fun g hg => by cases hg; show w.heap.size ≤ w.heap.size + 2; omega)
    obtain ⟨a4, c4, rfl, hP3, hc3, ha4⟩ := parts_own (ps := ps) (by simpa using hown1) hl hfit.out
    have hoff : ∀ b o, a4 = some ⟨b, o, none⟩ → w.heap.size + 2 ≤ b := fun b o h => by
      rcases ha4 with ⟨h1, _⟩ | ⟨g, h1, h2⟩
      · rw [h1] at h; cases h
      · rw [h1] at h; cases h; exact h2
    have HOff := hid hoff
    have HNew : NewA w.heap.size a4 := fun b o h => by have := hoff b o h; omega
    have HX4 := hid (blk_six HX3.out a4 c4)
    have HY4 := hid (HY3.out.set (x := ⟨w.heap.size, 6, none⟩) (by simp) (.slice a4 ps.length c4))
    have HP4 := hid (parts_off hP3 (x := ⟨w.heap.size, 6, none⟩) (u := .slice a4 ps.length c4) (fun b o h => by have := hoff b o h; simp only; omega))
    have HB4 : Hid (Below w.heap.size w (w3.setCell ⟨w.heap.size, 6, none⟩ (.slice a4 ps.length c4))) := HB3.out.setCell (by simp) _
    clear xf x6 xl hown1 hgrow1 hP3 ha4 hoff HX1 HX2 HM HBa HP HBw
    obtain ⟨⟨x0, x1, x2, x3, x4, x5, x6, x7⟩, xf, xl⟩ := HX3.out.all
    dsimp only [ik, inm, ity, ilo, ihi, itx, iex, ihd] at x0 x1 x2 x3 x4 x5 x6 x7
    clear x0 x1 x2 x3 x4 x5 x7
    go_upto_region 2 with fail
    generalize w3.setCell ⟨w.heap.size, 6, none⟩ (.slice a4 ps.length c4) = w4 at *
    clear xf x6 xl HX3 HY3 HB3
    have HX3 := HX4
    have HY3 := HY4
    have HB3 := HB4
    have HX3' := HX3.out
    obtain ⟨⟨x0, x1, x2, x3, x4, x5, x6, x7⟩, xf, xl⟩ := HX3.out.all
    obtain ⟨⟨y0, y1, y2, y3, y4, y5, y6, y7⟩, yf, yl⟩ := HY3.out.all
    dsimp only [it0, ik, inm, ity, ilo, ihi, itx, iex, ihd] at x0 x1 x2 x3 x4 x5 x6 x7 y0 y1 y2 y3 y4 y5 y6 y7
    go_wp2_with fail
    (try rw [Exit.noGoto_ret])
    skip
    refine copy_ret (q := (k, s, ty, lo, hi, t, ps, hd)) (a := a4) (c := c4) rfl ?blk ?_
    case blk => exact blk_put HY3.out (k, s, ty, lo, hi, t, ps, hd) a4 c4
    refine (fun hBf => ⟨?ex, hBf⟩) ?_
    case ex =>
      refine ⟨_, _, rfl, ?_, hc3, HNew⟩
      repeat (refine parts_off ?_ (fun b o h => by have := HOff.out b o h; simp only; omega))
      exact HP4.out
    repeat (refine Below.setCell ?_ (by simp) _)
    exact HB3.out
end Go.Proofs.YtllknohingfacaaDoor.CpyS
