/- Texts of ours, laid together: FoSp, FoIm. -/
import Derived.Test.YtllknohingfacaaDoorBd30
import Derived.Test.YtllknohingfacaaDoorBd21
import Derived.Test.YtllknohingfacaaDoorBd31
/- FieldOf of the model. -/
namespace Go.Proofs.YtllknohingfacaaDoor.CpyS
open Go.RowKit
open PrtW PrtM NameW ItmW ItmM FrmM
open FrmI (Blk blk_put fieldQ fieldQ_at fieldQ_no)
open FrmS (spec_field spec_form)

/-- the field of that name in a right form, the zero item where there is none -/
def askQ (ls : List It) (s : ByteArray) : It := if formB ls = true ∧ s.size ≤ 8000 then fieldQ ls ls.length s else it0
theorem ask_form {ls : List It} {s : ByteArray} (h : formB ls = false) : askQ ls s = it0 := by unfold askQ; rw [if_neg (by rw [h]; simp)]
theorem ask_long {ls : List It} {s : ByteArray} (h : 8000 < s.size) : askQ ls s = it0 := by unfold askQ; rw [if_neg (by omega)]
theorem ask_none {ls : List It} {s : ByteArray} (h : fieldN ls ls.length s = none) : askQ ls s = it0 := by unfold askQ; rw [fieldQ_no h]; split <;> rfl
theorem ask_some {ls : List It} {s : ByteArray} {i : Nat} (h : fieldN ls ls.length s = some i) (hf : formB ls = true) (hs : ¬ 8000 < s.size) : askQ ls s = ls.getD i it0 := by unfold askQ; rw [if_pos ⟨hf, by omega⟩, fieldQ_at h]
theorem fo_ret {Q : Ending → World → Prop} {tmps : Array Value} {W : World} {g : Nat} {q : It} {a : Option Addr} {c : Nat} (ht : tmps[4]?.getD undef = .pointer (some ⟨g, 0, none⟩)) (hB : Blk W g q a c) (hq : Q (.returned (itv q a c)) W) :
    bodyPost Tryd.prog Tryd.f6 Q Exit.ret { tmps := tmps, defers := [] } W := by
  obtain ⟨⟨y0, y1, y2, y3, y4, y5, y6, y7⟩, _⟩ := hB.all
  exact bodyPost_ret (v := itv q a c) (by simp [results, Tryd.results6, go_sem, ht, y0, y1, y2, y3, y4, y5, y6, y7]) rfl hq

set_option maxRecDepth 10000 in
set_option maxHeartbeats 3200000 in
theorem spec_field_of (a : Option Addr) (cap : Nat) (ls : List It) (s : ByteArray) (w : World) (hc : Its w a ls) :
    Calls Tryd.prog 6 #[.slice a ls.length cap, .string s] w fun e w' => (∃ a' c', e = .returned (itv (askQ ls s) a' c') ∧ Parts w' a' (iex (askQ ls s)) ∧ (iex (askQ ls s)).length ≤ c' ∧ NewA w.heap.size a') ∧ Below w.heap.size w w' := by
  have HC := hid hc
  have hl := hc.1
  clear hc
  obtain ⟨z, hz⟩ : ∃ z, Hid (askQ ls s = z) := ⟨_, rfl⟩
  rw [hz.out]
  obtain ⟨w1, hw1⟩ : ∃ w1, Hid (w.alloc (.cells #[.int .i64 0, .string ⟨#[]⟩, .int .i64 0, .int .i64 0, .int .i64 0, .string ⟨#[]⟩, .slice none 0 0, .bool false] 26) = w1) := ⟨_, rfl⟩
  have HR : Hid (Blk w1 w.heap.size it0 none 0) := by rw [← hw1.out]; exact Blk.laid w it0 none 0
  have HB : Hid (Below w.heap.size w w1) := by rw [← hw1.out]; exact (Below.refl _ _).alloc (Nat.le_refl _) _
  have HLong : Hid (¬ ls.length ≤ 24 → z = it0) := fun h => by rw [← hz.out]; exact ask_form (form_long h)
  have HForm : Hid (formB ls = false → z = it0) := fun h => by rw [← hz.out]; exact ask_form h
  have HS8 : Hid (8000 < s.size → z = it0) := fun h => by rw [← hz.out]; exact ask_long h
  have HNo : Hid (fieldN ls ls.length s = none → z = it0) := fun h => by rw [← hz.out]; exact ask_none h
  have HYes : Hid (∀ i, fieldN ls ls.length s = some i → formB ls = true → ¬ 8000 < s.size → z = ls.getD i it0) := fun i h1 h2 h3 => by rw [← hz.out]; exact ask_some h1 h2 h3
  go_enter Tryd.func6, Tryd.ntmps6
  go_upto_region 1 with fail
  rw [hw1.out]
  clear hw1 hz
  go_wp2_with fail
  refine (spec_field a cap ls ls.length s w1 (HC.out.on HB.out) (Nat.le_refl _)).mono ?_
  rintro e w2 ⟨rfl, rfl⟩
  by_cases h4 : 400 < ls.length
  · have HZ := hid (HLong.out (by omega))
    generalize fieldI ls ls.length s = fi
    obtain ⟨⟨x0, x1, x2, x3, x4, x5, x6, x7⟩, xf, xl⟩ := HR.out.all
    dsimp only [it0, ik, inm, ity, ilo, ihi, itx, iex, ihd] at x0 x1 x2 x3 x4 x5 x6 x7
    go_wp2_with fail
    refine fo_ret (q := it0) (a := none) (c := 0) rfl ?blk ?_
    case blk => exact blk_put HR.out it0 none 0
    refine (fun hBf => ⟨?ex, hBf⟩) ?_
    case ex =>
      rw [HZ.out]
      have HPf : ∀ W, Parts W none [] := fun W => Parts.nil W none
      first
        | exact ⟨_, _, rfl, HPf _, Nat.le_refl _, fun b o h => by cases h⟩
        | exact ⟨_, ⟨_, rfl⟩, HPf _, fun b o h => by cases h⟩
        | exact ⟨_, ⟨_, rfl⟩, HPf _, Nat.le_refl _, fun b o h => by cases h⟩
    repeat (refine Below.setCell ?_ (by simp) _)
    exact HB.out
  by_cases h8 : 8000 < s.size
  · have HZ := hid (HS8.out h8)
    generalize fieldI ls ls.length s = fi
    obtain ⟨⟨x0, x1, x2, x3, x4, x5, x6, x7⟩, xf, xl⟩ := HR.out.all
    dsimp only [it0, ik, inm, ity, ilo, ihi, itx, iex, ihd] at x0 x1 x2 x3 x4 x5 x6 x7
    go_wp2_with fail
    refine fo_ret (q := it0) (a := none) (c := 0) rfl ?blk ?_
    case blk => exact blk_put HR.out it0 none 0
    refine (fun hBf => ⟨?ex, hBf⟩) ?_
    case ex =>
      rw [HZ.out]
      have HPf : ∀ W, Parts W none [] := fun W => Parts.nil W none
      first
        | exact ⟨_, _, rfl, HPf _, Nat.le_refl _, fun b o h => by cases h⟩
        | exact ⟨_, ⟨_, rfl⟩, HPf _, fun b o h => by cases h⟩
        | exact ⟨_, ⟨_, rfl⟩, HPf _, Nat.le_refl _, fun b o h => by cases h⟩
    repeat (refine Below.setCell ?_ (by simp) _)
    exact HB.out
  cases hf : fieldN ls ls.length s with
  | none =>
    have HZ := hid (HNo.out hf)
    rw [fieldI_no hf]
    obtain ⟨⟨x0, x1, x2, x3, x4, x5, x6, x7⟩, xf, xl⟩ := HR.out.all
    dsimp only [it0, ik, inm, ity, ilo, ihi, itx, iex, ihd] at x0 x1 x2 x3 x4 x5 x6 x7
    go_wp2_with fail
    refine fo_ret (q := it0) (a := none) (c := 0) rfl ?blk ?_
    case blk => exact blk_put HR.out it0 none 0
    refine (fun hBf => ⟨?ex, hBf⟩) ?_
    case ex =>
      rw [HZ.out]
      have HPf : ∀ W, Parts W none [] := fun W => Parts.nil W none
      first
        | exact ⟨_, _, rfl, HPf _, Nat.le_refl _, fun b o h => by cases h⟩
        | exact ⟨_, ⟨_, rfl⟩, HPf _, fun b o h => by cases h⟩
        | exact ⟨_, ⟨_, rfl⟩, HPf _, Nat.le_refl _, fun b o h => by cases h⟩
    repeat (refine Below.setCell ?_ (by simp) _)
    exact HB.out
  | some i =>
    rw [fieldI_at hf]
    obtain ⟨-, hi, -⟩ := field_at.1 hf
    go_wp2_with fail
    refine (spec_form a cap ls w2 (HC.out.on HB.out)).mono ?_
    rintro e w3 ⟨rfl, hB3⟩
    have HB3 : Hid (Below w.heap.size w w3) := HB.out.trans (hB3.mono HB.out.size)
    have HR3 := hid (HR.out.on hB3)
    obtain ⟨r, hr⟩ : ∃ r, Hid (formB ls = r) := ⟨_, rfl⟩
    rw [hr.out]
    clear hB3 HB HR
    cases r
    · have HZ := hid (HForm.out hr.out)
      obtain ⟨⟨x0, x1, x2, x3, x4, x5, x6, x7⟩, xf, xl⟩ := HR3.out.all
      dsimp only [it0, ik, inm, ity, ilo, ihi, itx, iex, ihd] at x0 x1 x2 x3 x4 x5 x6 x7
      go_wp2_with fail
      refine fo_ret (q := it0) (a := none) (c := 0) rfl ?blk ?_
      case blk => exact blk_put HR3.out it0 none 0
      refine (fun hBf => ⟨?ex, hBf⟩) ?_
      case ex =>
        rw [HZ.out]
        have HPf : ∀ W, Parts W none [] := fun W => Parts.nil W none
        first
          | exact ⟨_, _, rfl, HPf _, Nat.le_refl _, fun b o h => by cases h⟩
          | exact ⟨_, ⟨_, rfl⟩, HPf _, fun b o h => by cases h⟩
          | exact ⟨_, ⟨_, rfl⟩, HPf _, Nat.le_refl _, fun b o h => by cases h⟩
      repeat (refine Below.setCell ?_ (by simp) _)
      exact HB3.out
    · have HZ := hid (HYes.out i hf hr.out h8)
      obtain ⟨_, b, o, ai, ci, rfl, hb, hF, hcd, hcap, hnc⟩ := HC.out.at HB3.out hi
      obtain ⟨c0, c1, c2, c3, c4, c5, c6, c7⟩ := hF
      clear HYes HNo HS8 HForm HLong hf
      generalize ls.getD i it0 = p at c0 c1 c2 c3 c4 c5 c6 c7 hcd hcap HZ
      obtain ⟨kk, s1, ty, lo, hi', t, ps, hd⟩ := p
      dsimp only [ik, inm, ity, ilo, ihi, itx, iex, ihd] at c0 c1 c2 c3 c4 c5 c6 c7 hcd hcap
      have HCd := hid hcd
      clear hcd
      go_wp2_with fail
      refine (spec_copy kk s1 ty lo hi' t ai ci ps hd w3 HCd.out hnc).mono ?_
      rintro e w4 ⟨⟨a4, n4, rfl, hP4, hn4, hnew⟩, hB4⟩
      have hws3 : w.heap.size < w3.heap.size := ItmW.blk_lt HR3.out
      have HNew := hid hnew
      clear hnew
      have HB4 : Hid (Below w.heap.size w w4) := HB3.out.trans (hB4.mono HB3.out.size)
      have HR4 := hid (HR3.out.on hB4)
      have HP4 := hid hP4
      clear hB4 HB3 HR3 hP4 c0 c1 c2 c3 c4 c5 c6 c7 HCd
      obtain ⟨⟨x0, x1, x2, x3, x4, x5, x6, x7⟩, xf, xl⟩ := HR4.out.all
      dsimp only [it0, ik, inm, ity, ilo, ihi, itx, iex, ihd] at x0 x1 x2 x3 x4 x5 x6 x7
      go_wp2_with fail
      refine fo_ret (q := (kk, s1, ty, lo, hi', t, ps, hd)) (a := a4) (c := n4) rfl ?blk ?_
      case blk => exact blk_put HR4.out (kk, s1, ty, lo, hi', t, ps, hd) a4 n4
      refine (fun hBf => ⟨?ex, hBf⟩) ?_
      case ex =>
        rw [HZ.out]
        refine ⟨_, _, rfl, ?_, hn4, fun b o h => by have := HNew.out b o h; omega⟩
        repeat (refine parts_off ?_ (fun b o h => by have := HNew.out b o h; simp only; omega))
        exact HP4.out
      repeat (refine Below.setCell ?_ (by simp) _)
      exact HB4.out
end Go.Proofs.YtllknohingfacaaDoor.CpyS
/- FieldOf of the program, but for the copy it makes. -/
namespace Go.Proofs.YtllknohingfacaaDoor.CpyI
open Go.RowKit
open PrtW PrtM NameW ItmW ItmM FrmM
open CpyS
open FrmI (Blk blk_put fieldQ EnvF impl_form impl_field)

/-- an item as a value, v its parts -/
abbrev itu (p : It) (v : Value) : Value := .agg #[.int .i64 (ik p), .string (inm p), .int .i64 (ity p), .int .i64 (ilo p), .int .i64 (ihi p), .string (itx p), v, .bool (ihd p)]
/-- what a copy of q must be -/
def CopyOk (q : It) : Prop := ∀ (a : Option Addr) (c : Nat) (w : World), Parts w a (iex q) → Calls Tryd.prog 25 #[itv q a c] w fun e w' => (∃ v, e = .returned (itu q v) ∧ w'.ownsRow w.heap.size 61 3 v (iex q).length (cellsP (iex q))) ∧ Below w.heap.size w w'
theorem own_lower {W : World} {e : TypeId} {b b' k n : Nat} {v : Value} {xs : List Value} (h : W.ownsRow b e k v n xs) (hb : b' ≤ b) : W.ownsRow b' e k v n xs := by
  obtain ⟨h1, h2⟩ := h
  refine ⟨h1, ?_⟩
  rcases h2 with h2 | ⟨g, cap, cur, hv, hg, r⟩
  · exact .inl h2
  · exact .inr ⟨g, cap, cur, hv, Nat.le_trans hb hg, r⟩
theorem own_cell {W : World} {e : TypeId} {base k n : Nat} {v : Value} {xs : List Value} (h : W.ownsRow base e k v n xs) {x : Addr} (hx : x.block < base) (u : Value) : (W.setCell x u).ownsRow base e k v n xs := by
  obtain ⟨h1, h2⟩ := h
  refine ⟨h1, ?_⟩
  rcases h2 with h2 | ⟨g, cap, cur, hv, hg, hk, r⟩
  · exact .inl h2
  · exact .inr ⟨g, cap, cur, hv, hg, by rw [Below.heap_setCell _ _ _ _ (by omega)]; exact hk, r⟩
theorem ask_right {ls : List It} {s : ByteArray} (hf : formB ls = true) (hs : ¬ 8000 < s.size) : askQ ls s = fieldQ ls ls.length s := by unfold askQ; rw [if_pos ⟨hf, by omega⟩]
theorem fi_ret {Q : Ending → World → Prop} {tmps : Array Value} {W : World} {g : Nat} {k : Int} {s : ByteArray} {ty lo hi : Int} {t : ByteArray} {v : Value} {hd : Bool} (ht : tmps[4]?.getD undef = .pointer (some ⟨g, 0, none⟩))
    (hB : W.heap[g]? = some (.cells #[.int .i64 k, .string s, .int .i64 ty, .int .i64 lo, .int .i64 hi, .string t, v, .bool hd] 26 (0, 0)))
    (hq : Q (.returned (.agg #[.int .i64 k, .string s, .int .i64 ty, .int .i64 lo, .int .i64 hi, .string t, v, .bool hd])) W) :
    bodyPost Tryd.prog Tryd.f8 Q Exit.ret { tmps := tmps, defers := [] } W := by
  have y : ∀ j, W.cell? ⟨g, j, none⟩ = (#[.int .i64 k, .string s, .int .i64 ty, .int .i64 lo, .int .i64 hi, .string t, v, .bool hd] : Array Value)[j]? := fun j => by simp [World.cell?, hB]
  exact bodyPost_ret (v := .agg #[.int .i64 k, .string s, .int .i64 ty, .int .i64 lo, .int .i64 hi, .string t, v, .bool hd]) (by simp [results, Tryd.results8, go_sem, ht, y]) rfl hq

set_option maxRecDepth 10000 in
set_option maxHeartbeats 3200000 in
theorem impl_field_of (a : Option Addr) (cap : Nat) (ls : List It) (s : ByteArray) (w : World) (hc : Its w a ls) (hcap : ls.length ≤ cap) (hE : EnvF w) (hC : formB ls = true → CopyOk (fieldQ ls ls.length s)) :
    Calls Tryd.prog 8 #[.slice a ls.length cap, .string s] w fun e w' => (∃ v, e = .returned (itu (askQ ls s) v) ∧ w'.ownsRow w.heap.size 61 3 v (iex (askQ ls s)).length (cellsP (iex (askQ ls s)))) ∧ Below w.heap.size w w' := by
  have HC := hid hc
  have HE := hid hE
  have HCopy := hid hC
  have hl := hc.1
  clear hc hE hC
  obtain ⟨z, hz⟩ : ∃ z, Hid (askQ ls s = z) := ⟨_, rfl⟩
  rw [hz.out]
  obtain ⟨w1, hw1⟩ : ∃ w1, Hid (w.alloc (.cells #[.int .i64 0, .string ⟨#[]⟩, .int .i64 0, .int .i64 0, .int .i64 0, .string ⟨#[]⟩, .slice none 0 0, .bool false] 26) = w1) := ⟨_, rfl⟩
  have HR : Hid (Blk w1 w.heap.size it0 none 0) := by rw [← hw1.out]; exact Blk.laid w it0 none 0
  have HB : Hid (Below w.heap.size w w1) := by rw [← hw1.out]; exact (Below.refl _ _).alloc (Nat.le_refl _) _
  have HForm : Hid (formB ls = false → z = it0) := fun h => by rw [← hz.out]; exact ask_form h
  have HS8 : Hid (8000 < s.size → z = it0) := fun h => by rw [← hz.out]; exact ask_long h
  have HYes : Hid (formB ls = true → ¬ 8000 < s.size → z = fieldQ ls ls.length s) := fun h1 h2 => by rw [← hz.out]; exact ask_right h1 h2
  go_enter Tryd.func8, Tryd.ntmps8
  go_upto_region 1 with fail
  rw [hw1.out]
  clear hw1 hz
  by_cases h8 : 8000 < s.size
  · have HZ := hid (HS8.out h8)
    obtain ⟨⟨x0, x1, x2, x3, x4, x5, x6, x7⟩, xf, xl⟩ := HR.out.all
    dsimp only [it0, ik, inm, ity, ilo, ihi, itx, iex, ihd] at x0 x1 x2 x3 x4 x5 x6 x7
    go_wp2_with fail
    refine fi_ret (k := 0) (s := ByteArray.empty) (ty := 0) (lo := 0) (hi := 0) (t := ByteArray.empty) (v := .slice none 0 0) (hd := false) rfl ?blk ?_
    case blk => exact blk_put HR.out it0 none 0
    refine (fun hBf => ⟨⟨.slice none 0 0, by rw [HZ.out]; rfl, by rw [HZ.out]; exact World.ownsRow_nil _ _ _ _⟩, hBf⟩) ?_
    repeat (refine Below.setCell ?_ (by simp) _)
    exact HB.out
  go_wp2_with fail
  refine (impl_form a cap ls w1 (HC.out.on HB.out) hcap (HE.out.on HB.out)).mono ?_
  rintro e w2 ⟨rfl, hB2⟩
  have HB2 : Hid (Below w.heap.size w w2) := HB.out.trans (hB2.mono HB.out.size)
  have HR2 := hid (HR.out.on hB2)
  obtain ⟨r, hr⟩ : ∃ r, Hid (formB ls = r) := ⟨_, rfl⟩
  rw [hr.out]
  clear hB2 HB HR
  cases r
  · have HZ := hid (HForm.out hr.out)
    obtain ⟨⟨x0, x1, x2, x3, x4, x5, x6, x7⟩, xf, xl⟩ := HR2.out.all
    dsimp only [it0, ik, inm, ity, ilo, ihi, itx, iex, ihd] at x0 x1 x2 x3 x4 x5 x6 x7
    go_wp2_with fail
    refine fi_ret (k := 0) (s := ByteArray.empty) (ty := 0) (lo := 0) (hi := 0) (t := ByteArray.empty) (v := .slice none 0 0) (hd := false) rfl ?blk ?_
    case blk => exact blk_put HR2.out it0 none 0
    refine (fun hBf => ⟨⟨.slice none 0 0, by rw [HZ.out]; rfl, by rw [HZ.out]; exact World.ownsRow_nil _ _ _ _⟩, hBf⟩) ?_
    repeat (refine Below.setCell ?_ (by simp) _)
    exact HB2.out
  · have HZ := hid (HYes.out hr.out h8)
    have HCp := hid (HCopy.out hr.out)
    clear HYes HS8 HForm HCopy
    go_wp2_with fail
    refine (impl_field a cap ls s w2 (HC.out.on HB2.out)).mono ?_
    rintro e w3 ⟨⟨ai, ci, rfl, hP3, _⟩, hB3⟩
    have HB3 : Hid (Below w.heap.size w w3) := HB2.out.trans (hB3.mono HB2.out.size)
    have HR3 := hid (HR2.out.on hB3)
    have HP3 := hid hP3
    clear hB3 hP3 HB2 HR2
    generalize fieldQ ls ls.length s = q at HZ HCp HP3 ⊢
    go_wp2_with fail
    refine (HCp.out ai ci w3 HP3.out).mono ?_
    rintro e w4 ⟨⟨v, rfl, hO4⟩, hB4⟩
    have HB4 : Hid (Below w.heap.size w w4) := HB3.out.trans (hB4.mono HB3.out.size)
    have HR4 := hid (HR3.out.on hB4)
    have hws3 : w.heap.size < w3.heap.size := ItmW.blk_lt HR3.out
    have HO4 := hid hO4
    obtain ⟨k, s1, ty, lo, hi, t, ps, hd⟩ := q
    have hsh : ∃ a' c', v = .slice a' ps.length c' := by
      rcases hO4.2 with ⟨rfl, h0⟩ | ⟨g, c, cu, rfl, _⟩
      · rw [show ps.length = 0 from h0]; exact ⟨_, _, rfl⟩
      · exact ⟨_, _, rfl⟩
    obtain ⟨a4, c4, rfl⟩ := hsh
    clear hO4 hB4 HB3 HR3 HP3 HCp
    obtain ⟨⟨x0, x1, x2, x3, x4, x5, x6, x7⟩, xf, xl⟩ := HR4.out.all
    dsimp only [it0, ik, inm, ity, ilo, ihi, itx, iex, ihd] at x0 x1 x2 x3 x4 x5 x6 x7
    go_wp2_with fail
    refine fi_ret (k := k) (s := s1) (ty := ty) (lo := lo) (hi := hi) (t := t) (v := .slice a4 ps.length c4) (hd := hd) rfl ?blk ?_
    case blk => exact blk_put HR4.out (k, s1, ty, lo, hi, t, ps, hd) a4 c4
    refine (fun hBf => ⟨⟨.slice a4 ps.length c4, by rw [HZ.out], ?own⟩, hBf⟩) ?_
    case own =>
      rw [HZ.out]
      refine own_lower ?_ (Nat.le_of_lt hws3)
      repeat (refine own_cell ?_ (by simp only; omega) _)
      exact HO4.out
    repeat (refine Below.setCell ?_ (by simp) _)
    exact HB4.out
end Go.Proofs.YtllknohingfacaaDoor.CpyI
