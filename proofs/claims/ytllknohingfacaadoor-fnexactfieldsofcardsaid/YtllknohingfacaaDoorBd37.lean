/- Texts of ours, laid together: CpyIm. -/
import Derived.Test.YtllknohingfacaaDoorBd33
import Derived.Test.YtllknohingfacaaDoorBd34
import Derived.Test.YtllknohingfacaaDoorBd5
import Derived.Test.YtllknohingfacaaDoorBd7
import Derived.OneCell
import Derived.Deep.RegionHeld3
/- itemCopy of the program: the item in memory of its own. -/
namespace Go.Proofs.YtllknohingfacaaDoor.CpyI
open Go.RowKit
open PrtW PrtM NameW ItmW ItmM FrmM
open FrmI (Blk blk_put)
open CpyS (blk_six)

/-- as region_by, the operation at hand having not been run -/
theorem region_by2 {P : Program} {ops : Array Oper} {Q : Exit → Act → World → Prop} {id : Nat} {a : Act} {w : World} (n : Nat) (Inv : (Nat → Bool) → Act → World → Prop) (hm : P.follows .mixedOrders = true)
    (hord : AnyO.ordB ops = true) (hn : ops.size = n)
    (hstart : Inv (fun _ => false) a w.drew)
    (hstep : ∀ i, i < n → ∀ (L : Nat → Bool) (a : Act) (w : World), Inv L a w → L i = false → (∀ j, AnyO.waitsB ops i j = true → L j = true) → wpOp P ops Q i (Inv (AnyO.more L i)) a w)
    (hend : ∀ (L : Nat → Bool) (a : Act) (w : World), Inv L a w → (∀ i, i < n → L i = true) → Q .normal a w) :
    (Code.region id ops true).wp P Q a w := by
  subst hn
  refine wp_region_any hm (AnyO.any_by (AnyO.ord_of hord) (fun i hi L a w hI hl hd => hstep i hi L a w hI hl (AnyO.waits_of hi hd)) hend _ _ _ _ (by simp) (by simp) ?_)
  have : (fun i => (Array.replicate ops.size false).getD i false) = fun _ => false := by
    funext i; simp only [Array.getD_eq_getD_getElem?, Array.getElem?_replicate]; split <;> rfl
  rw [this]; exact hstart

/-- what holds while an item is copied -/
def CpW (w : World) (q : It) (a : Option Addr) (c : Nat) (W : World) : Prop := Below w.heap.size w W ∧ w.heap.size + 2 ≤ W.heap.size ∧ Blk W w.heap.size q a c ∧ Blk W (w.heap.size + 1) it0 none 0
theorem CpW.on {w W W' : World} {q : It} {a : Option Addr} {c : Nat} (h : CpW w q a c W) (hB : Below W.heap.size W W') : CpW w q a c W' :=
  ⟨h.1.trans (hB.mono h.1.size), Nat.le_trans h.2.1 hB.size, h.2.2.1.on hB, h.2.2.2.on hB⟩
theorem CpW.same1 {w W : World} {q : It} {a : Option Addr} {c : Nat} (h : CpW w q a c W) : CpW w q a c (W.setCell ⟨w.heap.size, 1, none⟩ (.string (inm q))) := by
  refine ⟨h.1.setCell (Nat.le_refl _) _, by simpa using h.2.1, ?_, h.2.2.2.set (by simp) _⟩
  have hb := h.2.2.1
  unfold Blk at hb ⊢
  rw [blk_set _ _ _ _ _ _ hb]
  simp only [List.setIfInBounds_toArray, List.set_cons_zero, List.set_cons_succ]
theorem CpW.same5 {w W : World} {q : It} {a : Option Addr} {c : Nat} (h : CpW w q a c W) : CpW w q a c (W.setCell ⟨w.heap.size, 5, none⟩ (.string (itx q))) := by
  refine ⟨h.1.setCell (Nat.le_refl _) _, by simpa using h.2.1, ?_, h.2.2.2.set (by simp) _⟩
  have hb := h.2.2.1
  unfold Blk at hb ⊢
  rw [blk_set _ _ _ _ _ _ hb]
  simp only [List.setIfInBounds_toArray, List.set_cons_zero, List.set_cons_succ]
theorem CpW.six {w W : World} {q : It} {a : Option Addr} {c : Nat} (h : CpW w q a c W) (a' : Option Addr) (c' : Nat) : CpW w q a' c' (W.setCell ⟨w.heap.size, 6, none⟩ (.slice a' (iex q).length c')) :=
  ⟨h.1.setCell (Nat.le_refl _) _, by simpa using h.2.1, blk_six h.2.2.1 a' c', h.2.2.2.set (by simp) _⟩
/-- one text lies alone in a new block -/
def RowS (w : World) (g : Nat) (t : ByteArray) (W : World) : Prop := w.heap.size + 2 ≤ g ∧ g < W.heap.size ∧ W.cell? ⟨g, 0, none⟩ = some (.string t)
theorem RowS.on {w W W' : World} {g : Nat} {t : ByteArray} (h : RowS w g t W) (hB : Below W.heap.size W W') : RowS w g t W' := ⟨h.1, Nat.lt_of_lt_of_le h.2.1 hB.size, by rw [hB.cell (p := ⟨g, 0, none⟩) h.2.1]; exact h.2.2⟩
theorem RowS.set {w W : World} {g : Nat} {t : ByteArray} (h : RowS w g t W) {x : Addr} (hx : x.block = w.heap.size) (u : Value) : RowS w g t (W.setCell x u) := by
  refine ⟨h.1, by simpa using h.2.1, ?_⟩
  rw [World.cell?_of_block (w := W) (a := ⟨g, 0, none⟩) (Below.heap_setCell _ _ _ _ (fun e => by have := h.1; simp only at e; omega))]
  exact h.2.2
theorem laid_at1 (t : ByteArray) (g : Nat) (w : World) (h : w.cell? ⟨g, 0, none⟩ = some (.string t)) (hg : g < w.heap.size) (ht : t.size ≤ 100000) :
    Calls Tryd.prog 31 #[.slice (some ⟨g, 0, none⟩) 1 1] w fun e w' => e = .returned (.string t) ∧ Below w.heap.size w w' := by
  have hcat : LaidW.catB [t] = t.data.toList := by simp [LaidW.catB]
  refine (LaidW.laid_any [t] g w (by simp) hg ?_ ?_).mono ?_
  · intro i hi
    match i, hi with
    | 0, _ => simpa using h
  · rw [hcat]; simpa using ht
  · rintro e w' ⟨rfl, hB⟩
    exact ⟨by rw [hcat], hB⟩
theorem own_form {W : World} {e : TypeId} {base k n : Nat} {v : Value} {xs : List Value} (h : W.ownsRow base e k v n xs) : ∃ a c, v = .slice a n c := by
  rcases h.2 with ⟨rfl, h0⟩ | ⟨g, c, cu, rfl, _⟩
  · rw [h0]; exact ⟨_, _, rfl⟩
  · exact ⟨_, _, rfl⟩
theorem own_on2 {W W' : World} {e : TypeId} {base k n : Nat} {v : Value} {xs : List Value} (h : W.ownsRow base e k v n xs) (hB : Below W.heap.size W W') : W'.ownsRow base e k v n xs := by
  obtain ⟨h1, h2⟩ := h
  refine ⟨h1, ?_⟩
  rcases h2 with h2 | ⟨g, cap, cur, hv, hb, hg, r⟩
  · exact .inl h2
  · exact .inr ⟨g, cap, cur, hv, hb, by rw [hB.block g (ItmW.blk_lt hg)]; exact hg, r⟩

/-- what holds while a part's name is laid anew: P is where the part lies by itself -/
def LpW (w : World) (q : It) (g c : Nat) (ps : List Pt) (P : Nat) (u : ByteArray) (W : World) : Prop :=
  CpW w q (some ⟨g, 0, none⟩) c W ∧ W.ownsRow (w.heap.size + 2) 61 3 (.slice (some ⟨g, 0, none⟩) ps.length c) ps.length (cellsP ps) ∧ P ≠ g ∧ (iex q = ps) ∧ P < W.heap.size ∧ W.cell? ⟨P, 2, none⟩ = some (.string u)
theorem LpW.on {w W W' : World} {q : It} {g c P : Nat} {ps : List Pt} {u : ByteArray} (h : LpW w q g c ps P u W) (hB : Below W.heap.size W W') : LpW w q g c ps P u W' :=
  ⟨h.1.on hB, own_on2 h.2.1 hB, h.2.2.1, h.2.2.2.1, Nat.lt_of_lt_of_le h.2.2.2.2.1 hB.size, by rw [hB.cell (p := ⟨P, 2, none⟩) h.2.2.2.2.1]; exact h.2.2.2.2.2⟩
theorem LpW.all {w W : World} {q : It} {g c P : Nat} {ps : List Pt} {u : ByteArray} (h : LpW w q g c ps P u W) : LpW w q g c ps P u W ∧ W.cell? ⟨w.heap.size, 6, none⟩ = some (.slice (some ⟨g, 0, none⟩) ps.length c) ∧ W.cell? ⟨P, 2, none⟩ = some (.string u) := by
  refine ⟨h, ?_, h.2.2.2.2.2⟩
  have := h.1.2.2.1.all.1.2.2.2.2.2.2.1
  rw [h.2.2.2.1] at this
  exact this
/-- one text lies alone in a block -/
def One (w : World) (g : Nat) (t : ByteArray) : Prop := g < w.heap.size ∧ w.cell? ⟨g, 0, none⟩ = some (.string t)
theorem LpW.one {w W : World} {q : It} {g c P : Nat} {ps : List Pt} {u : ByteArray} (_h : LpW w q g c ps P u W) : One (W.alloc (.cells #[.string u] 9)) W.heap.size u := ⟨by simp, by simp⟩
theorem laid_at (t : ByteArray) (g : Nat) (w : World) (h : One w g t) (ht : t.size ≤ 100000) :
    Calls Tryd.prog 31 #[.slice (some ⟨g, 0, none⟩) 1 1] w fun e w' => e = .returned (.string t) ∧ Below w.heap.size w w' := laid_at1 t g w h.2 h.1 ht
theorem own_cell2 {W : World} {base g c j : Nat} {ps : List Pt} (h : W.ownsRow base 61 3 (.slice (some ⟨g, 0, none⟩) ps.length c) ps.length (cellsP ps)) (hj : j < ps.length) : W.cell? ⟨g, j * 3 + 2, none⟩ = some (.string (ps.getD j pt0).2.2) ∧ W.frozen? ⟨g, j * 3 + 2, none⟩ = false :=
  ⟨(h.cellAt (j * 3 + 2) (by omega)).trans (cellsP_at ps j hj).2.2, h.frozenAt _⟩
theorem blk_at {w W : World} {q : It} {a : Option Addr} {c g j : Nat} {v : Value} (h : CpW w q a c W) (hg : w.heap.size + 2 ≤ g) : CpW w q a c (W.setCell ⟨g, j, none⟩ v) :=
  ⟨h.1.setCell (by simp only; omega) _, by simpa using h.2.1, h.2.2.1.set (by simp only; omega) _, h.2.2.2.set (by simp only; omega) _⟩
theorem LpW.put {w W : World} {q : It} {g c P j : Nat} {ps : List Pt} {u : ByteArray} (h : LpW w q g c ps P u W) (_hj : j < ps.length) (hg : w.heap.size + 2 ≤ g) (hs : (cellsP ps).set (j * 3 + 2) (.string u) = cellsP ps) : LpW w q g c ps P u (W.setCell ⟨g, j * 3 + 2, none⟩ (.string u)) := by
  refine ⟨blk_at h.1 hg, ?_, h.2.2.1, h.2.2.2.1, by simpa using h.2.2.2.2.1, ?_⟩
  · have := h.2.1.stored (j * 3 + 2) (.string u)
    rw [hs] at this
    exact this.1
  · rw [World.cell?_of_block (w := W) (a := ⟨P, 2, none⟩) (Below.heap_setCell _ _ _ _ h.2.2.1)]
    exact h.2.2.2.2.2
theorem cp_ret {Q : Ending → World → Prop} {tmps : Array Value} {W : World} {g : Nat} {k : Int} {s : ByteArray} {ty lo hi : Int} {t : ByteArray} {v : Value} {hd : Bool} (ht : tmps[2]?.getD undef = .pointer (some ⟨g, 0, none⟩))
    (hB : W.heap[g]? = some (.cells #[.int .i64 k, .string s, .int .i64 ty, .int .i64 lo, .int .i64 hi, .string t, v, .bool hd] 26 (0, 0)))
    (hq : Q (.returned (.agg #[.int .i64 k, .string s, .int .i64 ty, .int .i64 lo, .int .i64 hi, .string t, v, .bool hd])) W) :
    bodyPost Tryd.prog Tryd.f25 Q Exit.ret { tmps := tmps, defers := [] } W := by
  have y : ∀ j, W.cell? ⟨g, j, none⟩ = (#[.int .i64 k, .string s, .int .i64 ty, .int .i64 lo, .int .i64 hi, .string t, v, .bool hd] : Array Value)[j]? := fun j => by simp [World.cell?, hB]
  exact bodyPost_ret (v := .agg #[.int .i64 k, .string s, .int .i64 ty, .int .i64 lo, .int .i64 hi, .string t, v, .bool hd]) (by simp [results, Tryd.results25, go_sem, ht, y]) rfl hq
theorem list_set_same {α : Type} {l : List α} {i : Nat} {v : α} (h : l[i]? = some v) : l.set i v = l := by
  apply List.ext_getElem?
  intro j
  rw [List.getElem?_set]
  split
  · rename_i e; subst e; rw [h]; split
    · rfl
    · rename_i h2; exact absurd (List.getElem?_eq_some_iff.1 h).1 h2
  · rfl

set_option maxRecDepth 10000 in
set_option maxHeartbeats 1600000 in
theorem copy_ok (q : It) (hs : (inm q).size ≤ 100000) (ht : (itx q).size ≤ 100000) (hp : ∀ i, i < (iex q).length → ((iex q).getD i pt0).2.2.size ≤ 100000) : CopyOk q := by
  intro a c w hP
  obtain ⟨k, s, ty, lo, hi, t, ps, hd'⟩ := q
  dsimp only [ik, inm, ity, ilo, ihi, itx, iex, ihd] at hs ht hp hP
  have HP := hid hP
  have HN := hid hp
  have hl := hP.1
  have HF := hid hP.2.1
  clear hP hp
  dsimp only [itv, itu, ik, inm, ity, ilo, ihi, itx, iex, ihd]
  go_enter Tryd.func25, Tryd.ntmps25
  go_upto_region 1 with fail
  have hX1 := (Blk.laid w (k, s, ty, lo, hi, t, ps, hd') a c).on ((Below.refl _ _).alloc (Nat.le_refl _) (.cells #[.int .i64 0, .string ⟨#[]⟩, .int .i64 0, .int .i64 0, .int .i64 0, .string ⟨#[]⟩, .slice none 0 0, .bool false] 26))
  have hX2 := Blk.laid (w.alloc (.cells #[.int .i64 k, .string s, .int .i64 ty, .int .i64 lo, .int .i64 hi, .string t, .slice a ps.length c, .bool hd'] 26)) it0 none 0
  rw [World.size_alloc] at hX2
  have hBw : Below w.heap.size w ((w.alloc (.cells #[.int .i64 k, .string s, .int .i64 ty, .int .i64 lo, .int .i64 hi, .string t, .slice a ps.length c, .bool hd'] 26)).alloc (.cells #[.int .i64 0, .string ⟨#[]⟩, .int .i64 0, .int .i64 0, .int .i64 0, .string ⟨#[]⟩, .slice none 0 0, .bool false] 26)) := ((Below.refl _ _).alloc (Nat.le_refl _) _).alloc (by simp) _
  have hC0 : CpW w (k, s, ty, lo, hi, t, ps, hd') a c ((w.alloc (.cells #[.int .i64 k, .string s, .int .i64 ty, .int .i64 lo, .int .i64 hi, .string t, .slice a ps.length c, .bool hd'] 26)).alloc (.cells #[.int .i64 0, .string ⟨#[]⟩, .int .i64 0, .int .i64 0, .int .i64 0, .string ⟨#[]⟩, .slice none 0 0, .bool false] 26)) := ⟨hBw, by simp, hX1, hX2⟩
  generalize (w.alloc (.cells #[.int .i64 k, .string s, .int .i64 ty, .int .i64 lo, .int .i64 hi, .string t, .slice a ps.length c, .bool hd'] 26)).alloc (.cells #[.int .i64 0, .string ⟨#[]⟩, .int .i64 0, .int .i64 0, .int .i64 0, .string ⟨#[]⟩, .slice none 0 0, .bool false] 26) = W0 at *
  have HC0 := hid hC0
  clear hC0 hX1 hX2 hBw
  refine region_by2 17 (fun L act W => ∃ (a1 : Option Addr) (c1 : Nat) (x5 x6 x7 x8 x9 x10 x11 x12 x13 x14 x15 x16 x17 x18 : Value),
      act = { tmps := #[.agg #[.int .i64 k, .string s, .int .i64 ty, .int .i64 lo, .int .i64 hi, .string t, .slice a ps.length c, .bool hd'], .pointer (some ⟨w.heap.size, 0, none⟩), .pointer (some ⟨w.heap.size + 1, 0, none⟩), undef, undef, x5, x6, x7, x8, x9, x10, x11, x12, x13, x14, x15, x16, x17, x18, undef, undef, undef, undef, undef, undef, undef, undef, undef, undef, undef, undef, undef, undef, undef, undef, undef, undef, undef], defers := [] } ∧
      CpW w (k, s, ty, lo, hi, t, ps, hd') a1 c1 W ∧ (L 16 = true → L 9 = true ∧ L 10 = true) ∧ (L 16 = false → a1 = a ∧ c1 = c) ∧ (L 16 = true → x15 = .slice a1 ps.length c1) ∧
      (L 0 = true → x5 = .pointer (some ⟨w.heap.size, 1, none⟩)) ∧ (L 1 = true → x6 = .string s) ∧ (L 2 = true → ∃ g, x7 = .slice (some ⟨g, 0, none⟩) 1 1 ∧ RowS w g s W) ∧ (L 3 = true → x8 = .string s) ∧
      (L 4 = true → x9 = .pointer (some ⟨w.heap.size, 5, none⟩)) ∧ (L 5 = true → x10 = .string t) ∧ (L 6 = true → ∃ g, x11 = .slice (some ⟨g, 0, none⟩) 1 1 ∧ RowS w g t W) ∧ (L 7 = true → x12 = .string t) ∧
      (L 8 = true → x13 = .pointer (some ⟨w.heap.size, 6, none⟩)) ∧ (L 9 = true → x14 = .slice a ps.length c) ∧ (L 10 = true → ∃ a2 c2, x15 = .slice a2 ps.length c2 ∧ W.ownsRow (w.heap.size + 2) 61 3 (.slice a2 ps.length c2) ps.length (cellsP ps)) ∧
      (L 11 = true → x16 = .pointer (some ⟨w.heap.size, 1, none⟩)) ∧ (L 13 = true → x17 = .pointer (some ⟨w.heap.size, 5, none⟩)) ∧ (L 15 = true → x18 = .pointer (some ⟨w.heap.size, 6, none⟩))) (by kernel_rfl) (by kernel_rfl) (by kernel_rfl) ?start ?step ?fin
  case start => exact ⟨a, c, undef, undef, undef, undef, undef, undef, undef, undef, undef, undef, undef, undef, undef, undef, rfl, HC0.out.on ((Below.refl _ _).drew), by simp, fun _ => ⟨rfl, rfl⟩, by simp, by simp, by simp, by simp, by simp, by simp, by simp, by simp, by simp, by simp, by simp, by simp, by simp, by simp, by simp⟩
  case step =>
    rintro i hi L act W ⟨a1, c1, x5, x6, x7, x8, x9, x10, x11, x12, x13, x14, x15, x16, x17, x18, rfl, hW, h169, h16f, h16t, f0, f1, f2, f3, f4, f5, f6, f7, f8, f9, f10, f11, f13, f15⟩ hl hd
    have hcases : i = 0 ∨ i = 1 ∨ i = 2 ∨ i = 3 ∨ i = 4 ∨ i = 5 ∨ i = 6 ∨ i = 7 ∨ i = 8 ∨ i = 9 ∨ i = 10 ∨ i = 11 ∨ i = 12 ∨ i = 13 ∨ i = 14 ∨ i = 15 ∨ i = 16 := by omega
    rcases hcases with rfl | rfl | rfl | rfl | rfl | rfl | rfl | rfl | rfl | rfl | rfl | rfl | rfl | rfl | rfl | rfl | rfl
    · refine wpOp_step rfl (fun K hK => ?_)
      have hlt := hW.2.1
      obtain ⟨⟨y0, y1, y2, y3, y4, y5, y6, y7⟩, yf, yl⟩ := hW.2.2.1.all
      dsimp only [ik, inm, ity, ilo, ihi, itx, iex, ihd] at y0 y1 y2 y3 y4 y5 y6 y7
      clear hi
      go_simp
      exact hK _ _ ⟨_, _, _, _, _, _, _, _, _, _, _, _, _, _, _, _, rfl, hW, h169, h16f, h16t, (fun _ => rfl), f1, f2, f3, f4, f5, f6, f7, f8, f9, f10, f11, f13, f15⟩
    · have hx0 := f0 (hd 0 (by kernel_rfl))
      subst hx0
      refine wpOp_step rfl (fun K hK => ?_)
      have hlt := hW.2.1
      obtain ⟨⟨y0, y1, y2, y3, y4, y5, y6, y7⟩, yf, yl⟩ := hW.2.2.1.all
      dsimp only [ik, inm, ity, ilo, ihi, itx, iex, ihd] at y0 y1 y2 y3 y4 y5 y6 y7
      clear hi
      go_simp
      exact hK _ _ ⟨_, _, _, _, _, _, _, _, _, _, _, _, _, _, _, _, rfl, hW, h169, h16f, h16t, f0, (fun _ => rfl), f2, f3, f4, f5, f6, f7, f8, f9, f10, f11, f13, f15⟩
    · have hx1 := f1 (hd 1 (by kernel_rfl))
      subst hx1
      refine wpOp_step rfl (fun K hK => ?_)
      have hlt := hW.2.1
      obtain ⟨⟨y0, y1, y2, y3, y4, y5, y6, y7⟩, yf, yl⟩ := hW.2.2.1.all
      dsimp only [ik, inm, ity, ilo, ihi, itx, iex, ihd] at y0 y1 y2 y3 y4 y5 y6 y7
      clear hi
      go_simp
      have hB : Below W.heap.size W (W.alloc (.cells #[.string s] 9)) := (Below.refl _ _).alloc (Nat.le_refl _) _
      exact hK _ _ ⟨_, _, _, _, _, _, _, _, _, _, _, _, _, _, _, _, rfl, hW.on hB, h169, h16f, h16t, f0, f1, (fun _ => ⟨W.heap.size, rfl, hlt, by simp, by simp⟩), f3, f4, f5, (fun h => by obtain ⟨g, e, r⟩ := f6 h; exact ⟨g, e, r.on hB⟩), f7, f8, f9, (fun h => by obtain ⟨a2, c2, e, r⟩ := f10 h; exact ⟨a2, c2, e, own_on2 r hB⟩), f11, f13, f15⟩
    · obtain ⟨g, hx, hr⟩ := f2 (hd 2 (by kernel_rfl))
      subst hx
      refine wpOp_step rfl (fun K hK => ?_)
      have hlt := hW.2.1
      obtain ⟨⟨y0, y1, y2, y3, y4, y5, y6, y7⟩, yf, yl⟩ := hW.2.2.1.all
      dsimp only [ik, inm, ity, ilo, ihi, itx, iex, ihd] at y0 y1 y2 y3 y4 y5 y6 y7
      clear hi
      go_simp
      refine (laid_at1 s g W hr.2.2 hr.2.1 (by omega)).mono ?_
      rintro e w2 ⟨rfl, hB⟩
      exact hK _ _ ⟨_, _, _, _, _, _, _, _, _, _, _, _, _, _, _, _, rfl, hW.on hB, h169, h16f, h16t, f0, f1, (fun h => by obtain ⟨g, e, r⟩ := f2 h; exact ⟨g, e, r.on hB⟩), (fun _ => rfl), f4, f5, (fun h => by obtain ⟨g, e, r⟩ := f6 h; exact ⟨g, e, r.on hB⟩), f7, f8, f9, (fun h => by obtain ⟨a2, c2, e, r⟩ := f10 h; exact ⟨a2, c2, e, own_on2 r hB⟩), f11, f13, f15⟩
    · refine wpOp_step rfl (fun K hK => ?_)
      have hlt := hW.2.1
      obtain ⟨⟨y0, y1, y2, y3, y4, y5, y6, y7⟩, yf, yl⟩ := hW.2.2.1.all
      dsimp only [ik, inm, ity, ilo, ihi, itx, iex, ihd] at y0 y1 y2 y3 y4 y5 y6 y7
      clear hi
      go_simp
      exact hK _ _ ⟨_, _, _, _, _, _, _, _, _, _, _, _, _, _, _, _, rfl, hW, h169, h16f, h16t, f0, f1, f2, f3, (fun _ => rfl), f5, f6, f7, f8, f9, f10, f11, f13, f15⟩
    · have hx4 := f4 (hd 4 (by kernel_rfl))
      subst hx4
      refine wpOp_step rfl (fun K hK => ?_)
      have hlt := hW.2.1
      obtain ⟨⟨y0, y1, y2, y3, y4, y5, y6, y7⟩, yf, yl⟩ := hW.2.2.1.all
      dsimp only [ik, inm, ity, ilo, ihi, itx, iex, ihd] at y0 y1 y2 y3 y4 y5 y6 y7
      clear hi
      go_simp
      exact hK _ _ ⟨_, _, _, _, _, _, _, _, _, _, _, _, _, _, _, _, rfl, hW, h169, h16f, h16t, f0, f1, f2, f3, f4, (fun _ => rfl), f6, f7, f8, f9, f10, f11, f13, f15⟩
    · have hx5 := f5 (hd 5 (by kernel_rfl))
      subst hx5
      refine wpOp_step rfl (fun K hK => ?_)
      have hlt := hW.2.1
      obtain ⟨⟨y0, y1, y2, y3, y4, y5, y6, y7⟩, yf, yl⟩ := hW.2.2.1.all
      dsimp only [ik, inm, ity, ilo, ihi, itx, iex, ihd] at y0 y1 y2 y3 y4 y5 y6 y7
      clear hi
      go_simp
      have hB : Below W.heap.size W (W.alloc (.cells #[.string t] 9)) := (Below.refl _ _).alloc (Nat.le_refl _) _
      exact hK _ _ ⟨_, _, _, _, _, _, _, _, _, _, _, _, _, _, _, _, rfl, hW.on hB, h169, h16f, h16t, f0, f1, (fun h => by obtain ⟨g, e, r⟩ := f2 h; exact ⟨g, e, r.on hB⟩), f3, f4, f5, (fun _ => ⟨W.heap.size, rfl, hlt, by simp, by simp⟩), f7, f8, f9, (fun h => by obtain ⟨a2, c2, e, r⟩ := f10 h; exact ⟨a2, c2, e, own_on2 r hB⟩), f11, f13, f15⟩
    · obtain ⟨g, hx, hr⟩ := f6 (hd 6 (by kernel_rfl))
      subst hx
      refine wpOp_step rfl (fun K hK => ?_)
      have hlt := hW.2.1
      obtain ⟨⟨y0, y1, y2, y3, y4, y5, y6, y7⟩, yf, yl⟩ := hW.2.2.1.all
      dsimp only [ik, inm, ity, ilo, ihi, itx, iex, ihd] at y0 y1 y2 y3 y4 y5 y6 y7
      clear hi
      go_simp
      refine (laid_at1 t g W hr.2.2 hr.2.1 (by omega)).mono ?_
      rintro e w2 ⟨rfl, hB⟩
      exact hK _ _ ⟨_, _, _, _, _, _, _, _, _, _, _, _, _, _, _, _, rfl, hW.on hB, h169, h16f, h16t, f0, f1, (fun h => by obtain ⟨g, e, r⟩ := f2 h; exact ⟨g, e, r.on hB⟩), f3, f4, f5, (fun h => by obtain ⟨g, e, r⟩ := f6 h; exact ⟨g, e, r.on hB⟩), (fun _ => rfl), f8, f9, (fun h => by obtain ⟨a2, c2, e, r⟩ := f10 h; exact ⟨a2, c2, e, own_on2 r hB⟩), f11, f13, f15⟩
    · refine wpOp_step rfl (fun K hK => ?_)
      have hlt := hW.2.1
      obtain ⟨⟨y0, y1, y2, y3, y4, y5, y6, y7⟩, yf, yl⟩ := hW.2.2.1.all
      dsimp only [ik, inm, ity, ilo, ihi, itx, iex, ihd] at y0 y1 y2 y3 y4 y5 y6 y7
      clear hi
      go_simp
      exact hK _ _ ⟨_, _, _, _, _, _, _, _, _, _, _, _, _, _, _, _, rfl, hW, h169, h16f, h16t, f0, f1, f2, f3, f4, f5, f6, f7, (fun _ => rfl), f9, f10, f11, f13, f15⟩
    · have hx8 := f8 (hd 8 (by kernel_rfl))
      subst hx8
      have h16 : L 16 = false := by cases h : L 16 with | false => rfl | true => exact absurd (h169 h).1 (by rw [hl]; decide)
      obtain ⟨e1, e2⟩ := h16f h16
      subst e1
      subst e2
      refine wpOp_step rfl (fun K hK => ?_)
      have hlt := hW.2.1
      obtain ⟨⟨y0, y1, y2, y3, y4, y5, y6, y7⟩, yf, yl⟩ := hW.2.2.1.all
      dsimp only [ik, inm, ity, ilo, ihi, itx, iex, ihd] at y0 y1 y2 y3 y4 y5 y6 y7
      clear hi
      go_simp
      exact hK _ _ ⟨_, _, _, _, _, _, _, _, _, _, _, _, _, _, _, _, rfl, hW, (fun h => ⟨rfl, (h169 h).2⟩), h16f, h16t, f0, f1, f2, f3, f4, f5, f6, f7, f8, (fun _ => rfl), f10, f11, f13, f15⟩
    · have hx := f9 (hd 9 (by kernel_rfl))
      subst hx
      have hp := HP.out.on hW.1
      refine wpOp_step rfl (fun K hK => ?_)
      have hlt := hW.2.1
      obtain ⟨⟨y0, y1, y2, y3, y4, y5, y6, y7⟩, yf, yl⟩ := hW.2.2.1.all
      dsimp only [ik, inm, ity, ilo, ihi, itx, iex, ihd] at y0 y1 y2 y3 y4 y5 y6 y7
      clear hi
      go_simp
      refine (clone_parts a c ps W hp).mono ?_
      rintro e w2 ⟨v, rfl, hr, hB⟩
      obtain ⟨a2, c2, rfl⟩ := own_form hr
      exact hK _ _ ⟨_, _, _, _, _, _, _, _, _, _, _, _, _, _, _, _, rfl, hW.on hB, (fun h => ⟨(h169 h).1, rfl⟩), h16f, (fun h => absurd (h169 h).2 (by rw [hl]; decide)), f0, f1, (fun h => by obtain ⟨g, e, r⟩ := f2 h; exact ⟨g, e, r.on hB⟩), f3, f4, f5, (fun h => by obtain ⟨g, e, r⟩ := f6 h; exact ⟨g, e, r.on hB⟩), f7, f8, f9, (fun _ => ⟨a2, c2, rfl, own_lower hr hlt⟩), f11, f13, f15⟩
    · refine wpOp_step rfl (fun K hK => ?_)
      have hlt := hW.2.1
      obtain ⟨⟨y0, y1, y2, y3, y4, y5, y6, y7⟩, yf, yl⟩ := hW.2.2.1.all
      dsimp only [ik, inm, ity, ilo, ihi, itx, iex, ihd] at y0 y1 y2 y3 y4 y5 y6 y7
      clear hi
      go_simp
      exact hK _ _ ⟨_, _, _, _, _, _, _, _, _, _, _, _, _, _, _, _, rfl, hW, h169, h16f, h16t, f0, f1, f2, f3, f4, f5, f6, f7, f8, f9, f10, (fun _ => rfl), f13, f15⟩
    · have hx11 := f11 (hd 11 (by kernel_rfl))
      subst hx11
      have hx3 := f3 (hd 3 (by kernel_rfl))
      subst hx3
      refine wpOp_step rfl (fun K hK => ?_)
      have hlt := hW.2.1
      obtain ⟨⟨y0, y1, y2, y3, y4, y5, y6, y7⟩, yf, yl⟩ := hW.2.2.1.all
      dsimp only [ik, inm, ity, ilo, ihi, itx, iex, ihd] at y0 y1 y2 y3 y4 y5 y6 y7
      clear hi
      go_simp
      exact hK _ _ ⟨_, _, _, _, _, _, _, _, _, _, _, _, _, _, _, _, rfl, hW.same1, h169, h16f, h16t, f0, f1, (fun h => by obtain ⟨g, e, r⟩ := f2 h; exact ⟨g, e, r.set rfl _⟩), f3, f4, f5, (fun h => by obtain ⟨g, e, r⟩ := f6 h; exact ⟨g, e, r.set rfl _⟩), f7, f8, f9, (fun h => by obtain ⟨a2, c2, e, r⟩ := f10 h; exact ⟨a2, c2, e, own_cell r (by simp only; omega) _⟩), f11, f13, f15⟩
    · refine wpOp_step rfl (fun K hK => ?_)
      have hlt := hW.2.1
      obtain ⟨⟨y0, y1, y2, y3, y4, y5, y6, y7⟩, yf, yl⟩ := hW.2.2.1.all
      dsimp only [ik, inm, ity, ilo, ihi, itx, iex, ihd] at y0 y1 y2 y3 y4 y5 y6 y7
      clear hi
      go_simp
      exact hK _ _ ⟨_, _, _, _, _, _, _, _, _, _, _, _, _, _, _, _, rfl, hW, h169, h16f, h16t, f0, f1, f2, f3, f4, f5, f6, f7, f8, f9, f10, f11, (fun _ => rfl), f15⟩
    · have hx13 := f13 (hd 13 (by kernel_rfl))
      subst hx13
      have hx7 := f7 (hd 7 (by kernel_rfl))
      subst hx7
      refine wpOp_step rfl (fun K hK => ?_)
      have hlt := hW.2.1
      obtain ⟨⟨y0, y1, y2, y3, y4, y5, y6, y7⟩, yf, yl⟩ := hW.2.2.1.all
      dsimp only [ik, inm, ity, ilo, ihi, itx, iex, ihd] at y0 y1 y2 y3 y4 y5 y6 y7
      clear hi
      go_simp
      exact hK _ _ ⟨_, _, _, _, _, _, _, _, _, _, _, _, _, _, _, _, rfl, hW.same5, h169, h16f, h16t, f0, f1, (fun h => by obtain ⟨g, e, r⟩ := f2 h; exact ⟨g, e, r.set rfl _⟩), f3, f4, f5, (fun h => by obtain ⟨g, e, r⟩ := f6 h; exact ⟨g, e, r.set rfl _⟩), f7, f8, f9, (fun h => by obtain ⟨a2, c2, e, r⟩ := f10 h; exact ⟨a2, c2, e, own_cell r (by simp only; omega) _⟩), f11, f13, f15⟩
    · refine wpOp_step rfl (fun K hK => ?_)
      have hlt := hW.2.1
      obtain ⟨⟨y0, y1, y2, y3, y4, y5, y6, y7⟩, yf, yl⟩ := hW.2.2.1.all
      dsimp only [ik, inm, ity, ilo, ihi, itx, iex, ihd] at y0 y1 y2 y3 y4 y5 y6 y7
      clear hi
      go_simp
      exact hK _ _ ⟨_, _, _, _, _, _, _, _, _, _, _, _, _, _, _, _, rfl, hW, h169, h16f, h16t, f0, f1, f2, f3, f4, f5, f6, f7, f8, f9, f10, f11, f13, (fun _ => rfl)⟩
    · have hx := f15 (hd 15 (by kernel_rfl))
      subst hx
      obtain ⟨a2, c2, hx2, hr⟩ := f10 (hd 10 (by kernel_rfl))
      subst hx2
      refine wpOp_step rfl (fun K hK => ?_)
      have hlt := hW.2.1
      obtain ⟨⟨y0, y1, y2, y3, y4, y5, y6, y7⟩, yf, yl⟩ := hW.2.2.1.all
      dsimp only [ik, inm, ity, ilo, ihi, itx, iex, ihd] at y0 y1 y2 y3 y4 y5 y6 y7
      clear hi
      go_simp
      exact hK _ _ ⟨a2, c2, _, _, _, _, _, _, _, _, _, _, _, _, _, _, rfl, hW.six a2 c2, (fun _ => ⟨hd 9 (by kernel_rfl), hd 10 (by kernel_rfl)⟩), (fun h => by simp [AnyO.more] at h), (fun _ => rfl), f0, f1, (fun h => by obtain ⟨g, e, r⟩ := f2 h; exact ⟨g, e, r.set rfl _⟩), f3, f4, f5, (fun h => by obtain ⟨g, e, r⟩ := f6 h; exact ⟨g, e, r.set rfl _⟩), f7, f8, f9, (fun h => by obtain ⟨a2, c2, e, r⟩ := f10 h; exact ⟨a2, c2, e, own_cell r (by simp only; omega) _⟩), f11, f13, f15⟩
  case fin =>
    rintro L act W ⟨a1, c1, x5, x6, x7, x8, x9, x10, x11, x12, x13, x14, x15, x16, x17, x18, rfl, hW, h169, h16f, h16t, f0, f1, f2, f3, f4, f5, f6, f7, f8, f9, f10, f11, f13, f15⟩ hall
    obtain ⟨a2, c2, e15, hr⟩ := f10 (hall 10 (by omega))
    have e16 := h16t (hall 16 (by omega))
    rw [e15] at e16
    injection e16 with e1 _ e2
    subst e1
    subst e2
    have HW := hid hW
    have HR := hid hr
    clear h169 h16f h16t f0 f1 f2 f3 f4 f5 f6 f7 f8 f9 f10 f11 f13 f15 hall hW hr HC0 HP
    obtain ⟨⟨y0, y1, y2, y3, y4, y5, y6, y7⟩, yf, yl⟩ := HW.out.2.2.1.all
    dsimp only [ik, inm, ity, ilo, ihi, itx, iex, ihd] at y0 y1 y2 y3 y4 y5 y6 y7
    clear y0 y1 y2 y3 y4 y5 y7
    go_wp2_with fail
    go_loopw [22] (fun i wr => ∃ j : Nat, j ≤ ps.length ∧ i = .int .i64 j ∧ Hid (CpW w (k, s, ty, lo, hi, t, ps, hd') a2 c2 wr) ∧ Hid (wr.ownsRow (w.heap.size + 2) 61 3 (.slice a2 ps.length c2) ps.length (cellsP ps))) (fun i _ => ps.length - (intOf i).toNat)
    case atStart => exact ⟨0, Nat.zero_le _, rfl, HW, HR⟩
    case round =>
      obtain ⟨j, hj, rfl, HWr, HRr⟩ := hrel
      by_cases hlt : j < ps.length
      · rcases HRr.out.2 with ⟨_, h0⟩ | ⟨g, cap, cur, hv, hbg, _⟩
        · omega
        injection hv with h1 _ h2
        subst h1
        clear h2
        obtain ⟨d0, d1, d2⟩ := cellsP_at ps j hlt
        have c0 : wr.cell? ⟨g, j * 3, none⟩ = _ := (HRr.out.cellAt (j * 3) (by omega)).trans d0
        have c1' : wr.cell? ⟨g, j * 3 + 1, none⟩ = _ := (HRr.out.cellAt (j * 3 + 1) (by omega)).trans d1
        have c2' : wr.cell? ⟨g, j * 3 + 2, none⟩ = _ := (HRr.out.cellAt (j * 3 + 2) (by omega)).trans d2
        have hn2 := HN.out j hlt
        have hsame : Hid ((cellsP ps).set (j * 3 + 2) (.string (ps.getD j pt0).2.2) = cellsP ps) := list_set_same d2
        clear d0 d1 d2
        generalize ps.getD j pt0 = p at c0 c1' c2' hn2 hsame
        obtain ⟨m, x, u⟩ := p
        dsimp only at c0 c1' c2' hn2 hsame
        go_upto_region 5 with fail
        have hU := hid hn2
        have hS1 : LpW w (k, s, ty, lo, hi, t, ps, hd') g c2 ps wr.heap.size u (wr.alloc (.cells #[.int .i64 m, .int .i64 x, .string u] 61)) :=
          ⟨HWr.out.on ((Below.refl _ _).alloc (Nat.le_refl _) _), own_on2 HRr.out ((Below.refl _ _).alloc (Nat.le_refl _) _), fun e => by have := (HRr.out.lt g rfl).2; omega, rfl, by simp, by simp⟩
        generalize wr.alloc (.cells #[.int .i64 m, .int .i64 x, .string u] 61) = W1 at *
        generalize wr.heap.size = P at *
        have hS0 := hS1.on (Below.refl _ _).drew
        clear c0 c1' c2' hS1 HWr HRr y6 yf HW HR
        clear hn2
        refine wp_region_held_drew (S := (fun w' => LpW w (k, s, ty, lo, hi, t, ps, hd') g c2 ps P u w' ∧ w'.cell? ⟨w.heap.size, 6, none⟩ = some (.slice (some ⟨g, 0, none⟩) ps.length c2) ∧ w'.cell? ⟨P, 2, none⟩ = some (.string u))) (by kernel_rfl) ?_ (fun hHeld => ?_)
        · (try dsimp only) <;> (first | exact LpW.all hSn | exact LpW.all hS0)
        refine wpAnyH_take (i := 0) (oi := { dst := some 27, op := Go.Op.fieldAddr 26 (Go.Operand.tmp 1) 6, type := 0, pos := "l06_form.go:371", after := #[], guard := none }) (v := ?_) rfl (by kernel_rfl) (by kernel_rfl) (by kernel_rfl) (fun _ _ _ h => h) (Or.inl ⟨by rfl, ?yld1⟩) hHeld ?nxt1
        case yld1 => (intro w hSw; (try dsimp only at hSw); go_simp) <;> with_reducible rfl
        (try simp only [Act.put, List.setIfInBounds_toArray, List.set_cons_zero, List.set_cons_succ])
        refine wpAnyH_take (i := 1) (oi := { dst := some 28, op := Go.Op.load 24 (Go.Operand.tmp 27), type := 24, pos := "l06_form.go:371", after := #[{ on := 0, ground := Go.Ground.data }], guard := none }) (v := ?_) rfl (by kernel_rfl) (by kernel_rfl) (by kernel_rfl) (fun _ _ _ h => h) (Or.inl ⟨by rfl, ?yld2⟩) hHeld ?nxt2
        case yld2 => (intro w hSw; (try dsimp only at hSw); go_simp) <;> with_reducible rfl
        (try simp only [Act.put, List.setIfInBounds_toArray, List.set_cons_zero, List.set_cons_succ])
        refine wpAnyH_take (i := 2) (oi := { dst := some 29, op := Go.Op.move (Go.Operand.tmp 3), type := 3, pos := "l06_form.go:371", after := #[], guard := none }) (v := ?_) rfl (by kernel_rfl) (by kernel_rfl) (by kernel_rfl) (fun _ _ _ h => h) (Or.inl ⟨by rfl, ?yld3⟩) hHeld ?nxt3
        case yld3 => (intro w hSw; (try dsimp only at hSw); go_simp) <;> with_reducible rfl
        (try simp only [Act.put, List.setIfInBounds_toArray, List.set_cons_zero, List.set_cons_succ])
        refine wpAnyH_take (i := 3) (oi := { dst := some 30, op := Go.Op.fieldAddr 61 (Go.Operand.tmp 4) 2, type := 0, pos := "l06_form.go:371", after := #[], guard := none }) (v := ?_) rfl (by kernel_rfl) (by kernel_rfl) (by kernel_rfl) (fun _ _ _ h => h) (Or.inl ⟨by rfl, ?yld4⟩) hHeld ?nxt4
        case yld4 => (intro w hSw; (try dsimp only at hSw); go_simp) <;> with_reducible rfl
        (try simp only [Act.put, List.setIfInBounds_toArray, List.set_cons_zero, List.set_cons_succ])
        refine wpAnyH_take (i := 4) (oi := { dst := some 31, op := Go.Op.load 9 (Go.Operand.tmp 30), type := 9, pos := "l06_form.go:371", after := #[{ on := 3, ground := Go.Ground.data }], guard := none }) (v := ?_) rfl (by kernel_rfl) (by kernel_rfl) (by kernel_rfl) (fun _ _ _ h => h) (Or.inl ⟨by rfl, ?yld5⟩) hHeld ?nxt5
        case yld5 => (intro w hSw; (try dsimp only at hSw); go_simp) <;> with_reducible rfl
        (try simp only [Act.put, List.setIfInBounds_toArray, List.set_cons_zero, List.set_cons_succ])
        refine wpAnyH_ready (rs := [5]) (by kernel_rfl) (by simp) ?_
        refine AllReadyH.cons (o := { dst := some 32, op := Go.Op.buildSlice 35 1 #[(0, Go.Operand.tmp 31)], type := 35, pos := "l06_form.go:371", after := #[{ on := 4, ground := Go.Ground.data }], guard := none }) rfl (fun K hK => ?_) AllReadyH.nil
        go_simp
        have hSn := hHeld.1.on ((Below.refl _ _).alloc (Nat.le_refl _) (.cells #[.string u] 9))
        have hRow := hHeld.1.one
        refine hK.out _ _ ?_ (fun hHeld2 => ?_)
        · (try dsimp only) <;> (first | exact LpW.all hSn | exact LpW.all hS0)
        clear hK K hHeld
        have hHeld := hHeld2
        clear hHeld2
        (try simp only [Act.put, List.setIfInBounds_toArray, List.set_cons_zero, List.set_cons_succ])
        refine wpAnyH_ready (rs := [6]) (by kernel_rfl) (by simp) ?_
        refine AllReadyH.cons (o := { dst := some 33, op := Go.Op.call { callee := Go.Callee.value (Go.Operand.func 31), args := #[Go.Operand.tmp 32], argTypes := #[35] }, type := 9, pos := "l06_form.go:371", after := #[{ on := 5, ground := Go.Ground.data }], guard := none }) rfl (fun K hK => ?_) AllReadyH.nil
        go_simp
        go_at_call 31
        have hp := hHeld.1
        refine (laid_at u _ _ hRow hU.out).mono ?_
        rintro e w' ⟨rfl, hB⟩
        have hSn := hp.on hB
        clear hp hB hRow
        (try go_wp2_with fail)
        refine hK.out _ _ ?_ (fun hHeld2 => ?_)
        · (try dsimp only) <;> (first | exact LpW.all hSn | exact LpW.all hS0)
        clear hK K hHeld
        have hHeld := hHeld2
        clear hHeld2
        (try simp only [Act.put, List.setIfInBounds_toArray, List.set_cons_zero, List.set_cons_succ])
        refine wpAnyH_take (i := 7) (oi := { dst := some 34, op := Go.Op.indexAddr 24 (Go.Operand.tmp 28) (Go.Operand.tmp 29), type := 0, pos := "l06_form.go:371", after := #[{ on := 1, ground := Go.Ground.data }, { on := 2, ground := Go.Ground.data }, { on := 0, ground := Go.Ground.phase }, { on := 1, ground := Go.Ground.phase }, { on := 2, ground := Go.Ground.phase }, { on := 3, ground := Go.Ground.phase }, { on := 4, ground := Go.Ground.phase }, { on := 5, ground := Go.Ground.phase }, { on := 6, ground := Go.Ground.phase }], guard := none }) (v := ?_) rfl (by kernel_rfl) (by kernel_rfl) (by kernel_rfl) (fun _ _ _ h => h) (Or.inl ⟨by rfl, ?yld6⟩) hHeld ?nxt6
        case yld6 => (intro w hSw; (try dsimp only at hSw); go_simp) <;> with_reducible rfl
        (try simp only [Act.put, List.setIfInBounds_toArray, List.set_cons_zero, List.set_cons_succ])
        refine wpAnyH_take (i := 8) (oi := { dst := some 35, op := Go.Op.fieldAddr 61 (Go.Operand.tmp 34) 2, type := 0, pos := "l06_form.go:371", after := #[{ on := 7, ground := Go.Ground.data }, { on := 0, ground := Go.Ground.phase }, { on := 1, ground := Go.Ground.phase }, { on := 2, ground := Go.Ground.phase }, { on := 3, ground := Go.Ground.phase }, { on := 4, ground := Go.Ground.phase }, { on := 5, ground := Go.Ground.phase }, { on := 6, ground := Go.Ground.phase }], guard := none }) (v := ?_) rfl (by kernel_rfl) (by kernel_rfl) (by kernel_rfl) (fun _ _ _ h => h) (Or.inl ⟨by rfl, ?yld7⟩) hHeld ?nxt7
        case yld7 => (intro w hSw; (try dsimp only at hSw); go_simp) <;> with_reducible rfl
        (try simp only [Act.put, List.setIfInBounds_toArray, List.set_cons_zero, List.set_cons_succ])
        refine wpAnyH_ready (rs := [9]) (by kernel_rfl) (by simp) ?_
        refine AllReadyH.cons (o := { dst := none, op := Go.Op.store 9 (Go.Operand.tmp 35) (Go.Operand.tmp 33), type := 0, pos := "l06_form.go:371", after := #[{ on := 8, ground := Go.Ground.data }, { on := 6, ground := Go.Ground.data }, { on := 6, ground := Go.Ground.chain }, { on := 0, ground := Go.Ground.phase }, { on := 1, ground := Go.Ground.phase }, { on := 2, ground := Go.Ground.phase }, { on := 3, ground := Go.Ground.phase }, { on := 4, ground := Go.Ground.phase }, { on := 5, ground := Go.Ground.phase }, { on := 6, ground := Go.Ground.phase }], guard := none }) rfl (fun K hK => ?_) AllReadyH.nil
        obtain ⟨r2, f2⟩ := own_cell2 hHeld.1.2.1 hlt
        go_simp
        have hSn := hHeld.1.put hlt hbg hsame.out
        refine hK.out _ _ ?_ (fun hHeld2 => ?_)
        · (try dsimp only) <;> (first | exact LpW.all hSn | exact LpW.all hS0)
        clear hK K hHeld
        have hHeld := hHeld2
        clear hHeld2
        (try simp only [Act.put, List.setIfInBounds_toArray, List.set_cons_zero, List.set_cons_succ])
        refine wpAnyH_done (by kernel_rfl) ?_ _
        have HWn := hid hHeld.1.1
        have HRn := hid hHeld.1.2.1
        clear hHeld hS0 hSn
        go_wp2_with fail
        go_roundw
        case rel => exact ⟨j + 1, by omega, by go_num, HWn, HRn⟩
        case measure => simp [intOf]; omega
      · obtain rfl : j = ps.length := by omega
        obtain ⟨⟨x0, x1, x2, x3, x4, x5', x6', x7'⟩, xf, xl⟩ := HWr.out.2.2.1.all
        obtain ⟨⟨z0, z1, z2, z3, z4, z5, z6, z7⟩, zf, zl⟩ := HWr.out.2.2.2.all
        dsimp only [it0, ik, inm, ity, ilo, ihi, itx, iex, ihd] at x0 x1 x2 x3 x4 x5' x6' x7' z0 z1 z2 z3 z4 z5 z6 z7
        go_wp2_with fail
        refine cp_ret (k := k) (s := s) (ty := ty) (lo := lo) (hi := hi) (t := t) (v := .slice a2 ps.length c2) (hd := hd') rfl ?blk ?_
        case blk => exact blk_put HWr.out.2.2.2 (k, s, ty, lo, hi, t, ps, hd') a2 c2
        refine (fun hBf => ⟨⟨.slice a2 ps.length c2, rfl, ?own⟩, hBf⟩) ?_
        case own =>
          refine own_lower (b := w.heap.size + 2) ?_ (by omega)
          repeat (refine own_cell ?_ (by simp only; omega) _)
          exact HRr.out
        repeat (refine Below.setCell ?_ (by simp) _)
        exact HWr.out.1
end Go.Proofs.YtllknohingfacaaDoor.CpyI
