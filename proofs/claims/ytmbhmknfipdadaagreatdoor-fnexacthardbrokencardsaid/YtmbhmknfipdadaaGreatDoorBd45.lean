/- Texts of ours, laid together. -/
import Derived.Test.YtmbhmknfipdadaaGreatDoorBd44
import Derived.Test.YtmbhmknfipdadaaGreatDoorBd40
import Derived.Maps.AppendAt
import Derived.OneCell
import Derived.Test.YtmbhmknfipdadaaGreatDoorBd20
namespace Go.Proofs.YtmbhmknfipdadaaGreatDoor.RteS
open Go.RowKit
open PrtW PrtM ItmW ItmM FrmM FitW EvlM ValW NameW RteM
open AnsW (An an0 nm kd nu cd tx told putA rightA good Ans)
theorem item_box (w : World) (k : Int) (s : ByteArray) (ty lo hi : Int) (t : ByteArray) (a : Option Addr) (n cap : Nat) (hd : Bool) :
  Below w.heap.size w (w.alloc (.cells #[.int .i64 k, .string s, .int .i64 ty, .int .i64 lo, .int .i64 hi, .string t, .slice a n cap, .bool hd] 57)) := (Below.refl _ _).alloc (Nat.le_refl _) _
def ItB (W : World) (b : Nat) (k : Int) (s : ByteArray) (ty lo hi : Int) (t : ByteArray) (a : Option Addr) (n cap : Nat) (hd : Bool) : Prop := W.heap[b]? = some (.cells #[.int .i64 k, .string s, .int .i64 ty, .int .i64 lo, .int .i64 hi, .string t, .slice a n cap, .bool hd] 57 (0, 0))
theorem ItB.on {W W' : World} {b : Nat} {k : Int} {s : ByteArray} {ty lo hi : Int} {t : ByteArray} {a : Option Addr} {n cap : Nat} {hd : Bool} (h : ItB W b k s ty lo hi t a n cap hd) (hB : Below W.heap.size W W') : ItB W' b k s ty lo hi t a n cap hd := by
 unfold ItB at h ⊢
 rw [hB.block b (ItmW.blk_lt h)]; exact h
theorem ItB.cells {W : World} {b : Nat} {k : Int} {s : ByteArray} {ty lo hi : Int} {t : ByteArray} {a : Option Addr} {n cap : Nat} {hd : Bool} (h : ItB W b k s ty lo hi t a n cap hd) :
  W.cell? ⟨b, 0, none⟩ = some (.int .i64 k) ∧ W.cell? ⟨b, 1, none⟩ = some (.string s) ∧ W.cell? ⟨b, 2, none⟩ = some (.int .i64 ty) ∧ W.cell? ⟨b, 3, none⟩ = some (.int .i64 lo) ∧ W.cell? ⟨b, 4, none⟩ = some (.int .i64 hi) ∧ W.cell? ⟨b, 5, none⟩ = some (.string t) ∧ W.cell? ⟨b, 6, none⟩ = some (.slice a n cap) ∧ W.cell? ⟨b, 7, none⟩ = some (.bool hd) := by
 unfold ItB at h
 simp [World.cell?, h]
theorem ro_ret {Q : Ending → World → Prop} {tmps : Array Value} {W : World} {g : Nat} {vP vK vB : Value} {c : ByteArray} {d : Bool} (ht : tmps[4]?.getD undef = .pointer (some ⟨g, 0, none⟩)) (hB : RoB W g vP vK vB c d) (hq : Q (.returned (.agg #[vP, vK, vB, .string c, .bool d])) W) :
  bodyPost Tryz.prog Tryz.f29 Q Exit.ret { tmps := tmps, defers := [] } W := by
 obtain ⟨⟨y0, y1, y2, y3, y4⟩, _⟩ := hB.cells
 exact bodyPost_ret (v := .agg #[vP, vK, vB, .string c, .bool d]) (by simp [results, Tryz.results29, go_sem, ht, y0, y1, y2, y3, y4]) rfl hq
def RteE (F : Rt) (b0 : Nat) (e : Ending) (w' : World) : Prop := ∃ vP vK vB, e = .returned (.agg #[vP, vK, vB, .string F.2.1, .bool F.2.2]) ∧ RtS w' b0 vP vK vB F.1.1 F.1.2.1 F.1.2.2 ∧ rightA F.1.2.1 = true ∧ F.1.1.length ≤ 25 ∧ F.1.2.2.length ≤ 25
def Way (ls : List It) (a : List An) (F : Rt) (b0 O : Nat) (i : Nat) (W : World) : Prop :=
 ∃ (f : Nat) (vP vK vB : Value) (P : List ByteArray) (K : List An) (B : List ByteArray), ls.length - i ≤ f ∧ routeL a f (ls.drop i) (P, K, B) = F ∧ RtS W b0 vP vK vB P K B ∧ RoB W O vP vK vB ByteArray.empty false ∧ rightA K = true ∧ K.length ≤ i ∧ P.length ≤ i ∧ B.length ≤ i
theorem Way.on {ls : List It} {a : List An} {F : Rt} {b0 O i : Nat} {W W' : World} (h : Way ls a F b0 O i W) (hB : Below W.heap.size W W') : Way ls a F b0 O i W' := by
 obtain ⟨f, vP, vK, vB, P, K, B, h1, h2, h3, h4, h5⟩ := h
 exact ⟨f, vP, vK, vB, P, K, B, h1, h2, h3.on hB, h4.on hB, h5⟩
theorem Tryz.infoS7 : (Tryz.prog.info? 9).map (fun i => (i.zero, i.size, i.bytes)) = some (some (.string ⟨#[]⟩), 1, 16) := by kernel_rfl
theorem ItB.grown {W W' : World} {b : Nat} {k : Int} {s : ByteArray} {ty lo hi : Int} {t : ByteArray} {a : Option Addr} {n cap : Nat} {hd : Bool} {row : Option Nat} (h : ItB W b k s ty lo hi t a n cap hd) (hg : W.grownBy W' row) (hne : row ≠ some b) : ItB W' b k s ty lo hi t a n cap hd := by
 unfold ItB at h ⊢
 rw [hg.block b (ItmW.blk_lt h) (fun e => hne e.symm)]; exact h
theorem ItB.other {W : World} {b0 : Nat} {k : Int} {s : ByteArray} {ty lo hi : Int} {t : ByteArray} {a : Option Addr} {n cap : Nat} {hd : Bool} (h : ItB W b0 k s ty lo hi t a n cap hd) {b : Nat} (hb : b ≠ b0) (j : Nat) (u : Value) : ItB (W.setCell ⟨b, j, none⟩ u) b0 k s ty lo hi t a n cap hd := by
 unfold ItB at h ⊢
 rw [Below.heap_setCell _ _ _ _ (fun e => hb e.symm)]; exact h
theorem own_not_item {W : World} {base : Nat} {v : Value} {P : List ByteArray} (hT : OwnT W base v P) {b : Nat} {k : Int} {s : ByteArray} {ty lo hi : Int} {t : ByteArray} {a : Option Addr} {n cap : Nat} {hd : Bool} (h : ItB W b k s ty lo hi t a n cap hd) (e : v.ownBlock = some b) : False := by
 obtain ⟨cs, hc⟩ := own_block hT e
 unfold ItB at h
 rw [hc] at h
 injection h with h
 injection h with _ h2
 exact absurd h2 (by decide)
def VaB (W : World) (b : Nat) (k n : Int) (a : Option Addr) (l c : Nat) (t : ByteArray) : Prop := W.heap[b]? = some (.cells #[.int .i64 k, .int .i64 n, .slice a l c, .string t] 59 (0, 0))
theorem VaB.cells {W : World} {b : Nat} {k n : Int} {a : Option Addr} {l c : Nat} {t : ByteArray} (h : VaB W b k n a l c t) : W.cell? ⟨b, 0, none⟩ = some (.int .i64 k) ∧ W.cell? ⟨b, 1, none⟩ = some (.int .i64 n) ∧ W.cell? ⟨b, 2, none⟩ = some (.slice a l c) ∧ W.cell? ⟨b, 3, none⟩ = some (.string t) := by
 unfold VaB at h
 simp [World.cell?, h]
theorem VaB.on {W W' : World} {b : Nat} {k n : Int} {a : Option Addr} {l c : Nat} {t : ByteArray} (h : VaB W b k n a l c t) (hB : Below W.heap.size W W') : VaB W' b k n a l c t := by
 unfold VaB at h ⊢
 rw [hB.block b (ItmW.blk_lt h)]; exact h
theorem val_box (w : World) (k n : Int) (a : Option Addr) (l c : Nat) (t : ByteArray) : Below w.heap.size w (w.alloc (.cells #[.int .i64 k, .int .i64 n, .slice a l c, .string t] 59)) := (Below.refl _ _).alloc (Nat.le_refl _) _
theorem res_box (w : World) (a b : Int) : Below w.heap.size w (w.alloc (.cells #[.int .i64 a, .int .i64 b] 86)) := (Below.refl _ _).alloc (Nat.le_refl _) _
theorem own_box (w : World) (s : ByteArray) : Below w.heap.size w (w.alloc (.cells #[.string s] 9)) := (Below.refl _ _).alloc (Nat.le_refl _) _
theorem item_two {s : ByteArray} {ty lo hi : Int} {t : ByteArray} {ps : List Pt} {hd : Bool} (h : itemB (2, s, ty, lo, hi, t, ps, hd) = true) : truthB ps = true ∧ True := by
 have h1 : (noText s && (bareB ty lo hi && (noText t && (truthB ps && !hd)))) = true := h
 simp only [Bool.and_eq_true] at h1
 exact ⟨h1.2.2.2.1, trivial⟩
theorem item_one {s : ByteArray} {ty lo hi : Int} {t : ByteArray} {ps : List Pt} {hd : Bool} (h : itemB (1, s, ty, lo, hi, t, ps, hd) = true) : nameB s = true := by
 have h1 : (nameB s && (rangeB ty lo hi && (labelB t && (noParts ps && !hd)))) = true := h
 simp only [Bool.and_eq_true] at h1
 exact h1.1
theorem item_five {s : ByteArray} {ty lo hi : Int} {t : ByteArray} {ps : List Pt} {hd : Bool} (h : itemB (5, s, ty, lo, hi, t, ps, hd) = true) : nameB s = true ∧ rightB ps = true := by
 have h1 : (nameB s && (bareB ty lo hi && (labelB t && truthB ps))) = true := h
 simp only [Bool.and_eq_true] at h1
 have h2 := h1.2.2.2
 unfold truthB at h2
 rw [Bool.and_eq_true] at h2
 exact ⟨h1.1, h2.1⟩
theorem item_six {s : ByteArray} {ty lo hi : Int} {t : ByteArray} {ps : List Pt} {hd : Bool} (h : itemB (6, s, ty, lo, hi, t, ps, hd) = true) : nameB s = true ∧ rightB ps = true := by
 have h1 : (nameB s && (bareB ty lo hi && (noText t && (rightB ps && (!truthB ps && !hd))))) = true := h
 simp only [Bool.and_eq_true] at h1
 exact ⟨h1.1, h1.2.2.2.1⟩
set_option maxRecDepth 10000 in
set_option maxHeartbeats 6400000 in
theorem spec_way (la : Option Addr) (lc : Nat) (ls : List It) (aa : Option Addr) (ac : Nat) (an : List An) (w : World) (hc : Its w la ls) (hA : Ans w aa an) (hf : formB ls = true) (hra : rightA an = true) :
    Calls Tryz.prog 29 #[.slice la ls.length lc, .slice aa an.length ac] w fun e w' => RteE (routeL an ls.length ls ([], [], [])) (w.heap.size + 2) e w' ∧ Below w.heap.size w w' := by
  have HC := hid hc
  have HA := hid hA
  have HF := hid hf
  have HRA := hid hra
  have hl := hc.1
  have h24 := (form_at hf).1
  clear hc hA hf hra
  obtain ⟨F, hFF⟩ : ∃ F, Hid (routeL an ls.length ls ([], [], []) = F) := ⟨_, rfl⟩
  rw [hFF.out]
  obtain ⟨i0, hi0, hz0, hz1, hz2⟩ := info_parts Tryz.infoS7
  have hl1 := (Below.refl w.heap.size w).alloc (Nat.le_refl _) (.cells #[.slice none 0 0, .slice none 0 0, .slice none 0 0, .string ⟨#[]⟩, .bool false] 29)
  have hl2 := hl1.alloc (by simp) (.cells #[.slice none 0 0, .slice none 0 0, .slice none 0 0, .string ⟨#[]⟩, .bool false] 29)
  have hR0 : RoB ((w.alloc (.cells #[.slice none 0 0, .slice none 0 0, .slice none 0 0, .string ⟨#[]⟩, .bool false] 29)).alloc (.cells #[.slice none 0 0, .slice none 0 0, .slice none 0 0, .string ⟨#[]⟩, .bool false] 29)) w.heap.size (.slice none 0 0) (.slice none 0 0) (.slice none 0 0) ByteArray.empty false := RoB.on (heap_alloc_new w _) ((Below.refl _ _).alloc (Nat.le_refl _) _)
  have hO0 : RoB ((w.alloc (.cells #[.slice none 0 0, .slice none 0 0, .slice none 0 0, .string ⟨#[]⟩, .bool false] 29)).alloc (.cells #[.slice none 0 0, .slice none 0 0, .slice none 0 0, .string ⟨#[]⟩, .bool false] 29)) (w.heap.size + 1) (.slice none 0 0) (.slice none 0 0) (.slice none 0 0) ByteArray.empty false := by
    have h := heap_alloc_new (w.alloc (.cells #[.slice none 0 0, .slice none 0 0, .slice none 0 0, .string ⟨#[]⟩, .bool false] 29)) (.cells #[.slice none 0 0, .slice none 0 0, .slice none 0 0, .string ⟨#[]⟩, .bool false] 29)
    rw [World.size_alloc] at h
    exact h
  have hW0 : Way ls an F (w.heap.size + 2) (w.heap.size + 1) 0 ((w.alloc (.cells #[.slice none 0 0, .slice none 0 0, .slice none 0 0, .string ⟨#[]⟩, .bool false] 29)).alloc (.cells #[.slice none 0 0, .slice none 0 0, .slice none 0 0, .string ⟨#[]⟩, .bool false] 29)) := ⟨ls.length, _, _, _, [], [], [], by omega, by rw [List.drop_zero]; exact hFF.out, RtS.nil _ _, hO0, by decide, Nat.zero_le _, Nat.zero_le _, Nat.zero_le _⟩
  go_enter Tryz.func29, Tryz.ntmps29
  go_upto_region 2 with fail
  generalize (w.alloc (.cells #[.slice none 0 0, .slice none 0 0, .slice none 0 0, .string ⟨#[]⟩, .bool false] 29)).alloc (.cells #[.slice none 0 0, .slice none 0 0, .slice none 0 0, .string ⟨#[]⟩, .bool false] 29) = W0 at *
  have HR0 := hid hR0
  have HW0 := hid hW0
  have HB0 := hid hl2
  clear hl1 hl2 hR0 hO0 hW0 hFF
  go_wp2_with fail
  go_loopw [6] (fun iv wr => ∃ i : Nat, i ≤ ls.length + 1 ∧ iv = .int .i64 (i : Int) ∧ Hid (Way ls an F (w.heap.size + 2) (w.heap.size + 1) i wr) ∧ Hid (RoB wr w.heap.size (.slice none 0 0) (.slice none 0 0) (.slice none 0 0) ByteArray.empty false) ∧ Hid (Below w.heap.size w wr)) (fun iv _ => ls.length + 1 - (intOf iv).toNat)
  case atStart => exact ⟨0, by omega, rfl, HW0, HR0, HB0⟩
  case round =>
    obtain ⟨i, hi, rfl, HWy, HR, HB⟩ := hrel
    by_cases hlt : i < ls.length
    · obtain ⟨f, vP, vK, vB, P, K, B, hf1, hr1, hS1, hO1, hK1, lK, lP, lB⟩ := HWy.out
      obtain ⟨f', rfl⟩ : ∃ g, f = g + 1 := ⟨f - 1, by omega⟩
      rw [drop_it ls i hlt] at hr1
      obtain ⟨_, b, o, ai, ci, rfl, hb, hE, hPt, hcap, hnc⟩ := HC.out.at HB.out hlt
      have hI := (behind_at ((form_at HF.out).2.1 i hlt)).1
      obtain ⟨c0, c1, c2, c3, c4, c5, c6, c7⟩ := hE
      generalize ls.getD i it0 = q at c0 c1 c2 c3 c4 c5 c6 c7 hI hr1 hPt
      obtain ⟨kk, s, ty, lo, hi', t, ps, hd⟩ := q
      dsimp only [ik, inm, ity, ilo, ihi, itx, iex, ihd] at c0 c1 c2 c3 c4 c5 c6 c7 hPt
      have HI := hid hI
      have HRt := hid hr1
      have hbx := item_box wr kk s ty lo hi' t ai ps.length ci hd
      have HX : Hid (ItB (wr.alloc (.cells #[.int .i64 kk, .string s, .int .i64 ty, .int .i64 lo, .int .i64 hi', .string t, .slice ai ps.length ci, .bool hd] 57)) wr.heap.size kk s ty lo hi' t ai ps.length ci hd) := heap_alloc_new wr _
      have HS : Hid (RtS (wr.alloc (.cells #[.int .i64 kk, .string s, .int .i64 ty, .int .i64 lo, .int .i64 hi', .string t, .slice ai ps.length ci, .bool hd] 57)) (w.heap.size + 2) vP vK vB P K B) := hS1.on hbx
      have HO : Hid (RoB (wr.alloc (.cells #[.int .i64 kk, .string s, .int .i64 ty, .int .i64 lo, .int .i64 hi', .string t, .slice ai ps.length ci, .bool hd] 57)) (w.heap.size + 1) vP vK vB ByteArray.empty false) := hO1.on hbx
      have HR1 : Hid (RoB (wr.alloc (.cells #[.int .i64 kk, .string s, .int .i64 ty, .int .i64 lo, .int .i64 hi', .string t, .slice ai ps.length ci, .bool hd] 57)) w.heap.size (.slice none 0 0) (.slice none 0 0) (.slice none 0 0) ByteArray.empty false) := HR.out.on hbx
      have HB1 : Hid (Below w.heap.size w (wr.alloc (.cells #[.int .i64 kk, .string s, .int .i64 ty, .int .i64 lo, .int .i64 hi', .string t, .slice ai ps.length ci, .bool hd] 57))) := HB.out.trans (hbx.mono HB.out.size)
      have HPt : Hid (Parts (wr.alloc (.cells #[.int .i64 kk, .string s, .int .i64 ty, .int .i64 lo, .int .i64 hi', .string t, .slice ai ps.length ci, .bool hd] 57)) ai ps) := hPt.on hbx
      have HN := hid hnc
      have hbs : w.heap.size + 2 ≤ wr.heap.size := by have := ItmW.blk_lt hO1; omega
      have hgs : wr.heap.size < (wr.alloc (.cells #[.int .i64 kk, .string s, .int .i64 ty, .int .i64 lo, .int .i64 hi', .string t, .slice ai ps.length ci, .bool hd] 57)).heap.size := by simp
      clear hI hr1 hS1 hO1 hbx hPt hnc HWy HR HB
      go_upto_region 6 with fail
      generalize wr.alloc (.cells #[.int .i64 kk, .string s, .int .i64 ty, .int .i64 lo, .int .i64 hi', .string t, .slice ai ps.length ci, .bool hd] 57) = W1 at *
      generalize wr.heap.size = g at *
      clear c0 c1 c2 c3 c4 c5 c6 c7
      have HK := hid hK1
      clear hK1
      obtain ⟨x0, x1, x2, x3, x4, x5, x6, x7⟩ := HX.out.cells
      obtain ⟨⟨y0, y1, y2, y3, y4⟩, yf, yl⟩ := HO.out.cells
      by_cases k1 : kk = 1
      · subst k1
        have hs20 : s.size ≤ 20 := (of_decide_eq_true (item_one HI.out)).2.1
        obtain ⟨ak, ck, hv, -⟩ := HS.out.ans HK.out
        subst hv
        obtain ⟨aB, cB, hvB, _⟩ := own_shape HS.out.2.1
        subst hvB
        have hob := own_box W1 s
        go_upto_region 9 with (first
          | (at_builtin; refine wpList_append_own_at _ rfl _ _ 26 rfl (w.heap.size + 2) 9 i0 (.string ⟨#[]⟩) 1 16 Tryz.underlying26 hi0 hz0 hz1 hz2 rfl (by decide) vP P.length (strB P) rfl (HS.out.on hob).1 ⟨W1.heap.size, 0, none⟩ 1 1 [.string s] rfl rfl (cell_one_new _ _ _) (by simp [Value.oneCell']) (by unfold maxLen; omega) (by omega) (by simp; omega) ?_
             intro v' w2 hown' hg2 _ hat2
             have HO2 := hid ((HO.out.on hob).grown hg2 (fun e => by have := ((HS.out.on hob).1.lt _ e).1; omega))
             have HR2 := hid ((HR1.out.on hob).grown hg2 (fun e => by have := ((HS.out.on hob).1.lt _ e).1; omega))
             have HX2 := hid (ItB.grown (HX.out.on hob) hg2 (fun e => own_not_item (HS.out.on hob).1 (HX.out.on hob) e))
             have HS2 := hid ((HS.out.on hob).pushP hown' hg2 hat2)
             have HB2 : Hid (Below w.heap.size w w2) := (HB1.out.trans (hob.mono HB1.out.size)).grown hg2 (by simp; omega) (fun j hj => by have := ((HS.out.on hob).1.lt _ hj).1; omega)
             obtain ⟨a4, c4, rfl, _⟩ := own_shape hown'
             obtain ⟨⟨z0, z1, z2, z3, z4⟩, zf, zl⟩ := HO2.out.cells
             clear hown' hg2 hat2 y0 y1 y2 y3 y4 yf yl x0 x1 x2 x3 x4 x5 x6 x7
             go_frame)
          | go_in)
        have HS3 := hid (HS2.out.set (by omega) HO2.out.ty 0 (.slice a4 (P.length + 1) c4))
        have HR3 := hid (HR2.out.other (b := w.heap.size + 1) (by omega) 0 (.slice a4 (P.length + 1) c4))
        have HX3 := hid (ItB.other HX2.out (b := w.heap.size + 1) (by omega) 0 (.slice a4 (P.length + 1) c4))
        have HB3 : Hid (Below w.heap.size w (w2.setCell ⟨w.heap.size + 1, 0, none⟩ (.slice a4 (P.length + 1) c4))) := HB2.out.setCell (by simp only; omega) _
        have HO3 := hid (HO2.out.setP (.slice a4 (P.length + 1) c4))
        generalize w2.setCell ⟨w.heap.size + 1, 0, none⟩ (.slice a4 (P.length + 1) c4) = W3 at *
        clear z0 z1 z2 z3 z4 zf zl HO2 HR2 HX2 HS2 HB2 hob HX HS HO HR1 HB1 HPt HN
        obtain ⟨x0, x1, x2, x3, x4, x5, x6, x7⟩ := HX3.out.cells
        go_wp2_with fail
        refine (AnsW.spec_l05of aa ac an s W3 (HA.out.on HB3.out) HRA.out).mono ?_
        rintro e w4 ⟨⟨av, cv, rfl, hcd, hcn⟩, hB4⟩
        have hFit : Hid (fitsQ an (1, s, ty, lo, hi', t, ps, hd) = fitB ty lo hi' (kd (told an s)) (nu (told an s)) (cd (told an s)) (tx (told an s))) := rfl
        have hAns : Hid (ansAt an s = (s, kd (told an s), nu (told an s), cd (told an s), tx (told an s))) := rfl
        generalize told an s = v at hcd hFit hAns ⊢
        obtain ⟨s', k', n', zs, t'⟩ := v
        dsimp only [kd, nu, cd, tx] at hcd hFit hAns ⊢
        have hvb := val_box w4 k' n' av zs.length cv t'
        have hb5 := hB4.trans (hvb.mono hB4.size)
        have HB5 : Hid (Below w.heap.size w (w4.alloc (.cells #[.int .i64 k', .int .i64 n', .slice av zs.length cv, .string t'] 59))) := HB3.out.trans (hb5.mono HB3.out.size)
        have HS5 : Hid (RtS (w4.alloc (.cells #[.int .i64 k', .int .i64 n', .slice av zs.length cv, .string t'] 59)) (w.heap.size + 2) (.slice a4 (P.length + 1) c4) (.slice ak K.length ck) (.slice aB B.length cB) (P ++ [s]) K B) := HS3.out.on hb5
        have HO5 : Hid (RoB (w4.alloc (.cells #[.int .i64 k', .int .i64 n', .slice av zs.length cv, .string t'] 59)) (w.heap.size + 1) (.slice a4 (P.length + 1) c4) (.slice ak K.length ck) (.slice aB B.length cB) ByteArray.empty false) := HO3.out.on hb5
        have HR5 : Hid (RoB (w4.alloc (.cells #[.int .i64 k', .int .i64 n', .slice av zs.length cv, .string t'] 59)) w.heap.size (.slice none 0 0) (.slice none 0 0) (.slice none 0 0) ByteArray.empty false) := HR3.out.on hb5
        have HX5 : Hid (ItB (w4.alloc (.cells #[.int .i64 k', .int .i64 n', .slice av zs.length cv, .string t'] 59)) g 1 s ty lo hi' t ai ps.length ci hd) := HX3.out.on hb5
        have HCd : Hid (Codes (w4.alloc (.cells #[.int .i64 k', .int .i64 n', .slice av zs.length cv, .string t'] 59)) av zs) := hcd.on hvb
        have HV5 : Hid (VaB (w4.alloc (.cells #[.int .i64 k', .int .i64 n', .slice av zs.length cv, .string t'] 59)) w4.heap.size k' n' av zs.length cv t') := heap_alloc_new w4 _
        have HCn := hid hcn
        have hws4 : w.heap.size + 2 ≤ (w4.alloc (.cells #[.int .i64 k', .int .i64 n', .slice av zs.length cv, .string t'] 59)).heap.size := by have := hB4.size; have := ItmW.blk_lt HX3.out; simp; omega
        clear hB4 hvb hb5 hcd hcn HB3 HS3 HO3 HR3 HX3 x0 x1 x2 x3 x4 x5 x6 x7
        go_upto_region 10 with fail
        generalize w4.alloc (.cells #[.int .i64 k', .int .i64 n', .slice av zs.length cv, .string t'] 59) = W5 at *
        generalize w4.heap.size = gv at *
        obtain ⟨x0, x1, x2, x3, x4, x5, x6, x7⟩ := HX5.out.cells
        obtain ⟨v0, v1, v2, v3⟩ := HV5.out.cells
        obtain ⟨⟨y0, y1, y2, y3, y4⟩, yf, yl⟩ := HO5.out.cells
        by_cases k0 : k' = 0
        · subst k0
          have HFe : Hid (((P ++ [s], K, B), s, false) = F) := by
            have h := HRt.out
            rw [route_stop rfl (by rw [hFit.out]; rfl)] at h
            exact h
          clear HRt hFit hAns HCd HCn
          go_upto_region 12 with fail
          have HO7 := hid (HO5.out.setC s)
          have HS7 := hid (HS5.out.set (by omega) HO5.out.ty 3 (.string s))
          have HR7 := hid (HR5.out.other (b := w.heap.size + 1) (by omega) 3 (.string s))
          have HB7 : Hid (Below w.heap.size w (W5.setCell ⟨w.heap.size + 1, 3, none⟩ (.string s))) := HB5.out.setCell (by simp only; omega) _
          generalize W5.setCell ⟨w.heap.size + 1, 3, none⟩ (.string s) = W7 at *
          clear x0 x1 x2 x3 x4 x5 x6 x7 y0 y1 y2 y3 y4 yf yl HO5 HS5 HR5 HB5
          obtain ⟨⟨y0, y1, y2, y3, y4⟩, yf, yl⟩ := HO7.out.cells
          obtain ⟨⟨z0, z1, z2, z3, z4⟩, zf, zl⟩ := HR7.out.cells
          go_wp2_with fail
          refine ro_ret (g := w.heap.size) (vP := .slice a4 (P.length + 1) c4) (vK := .slice ak K.length ck) (vB := .slice aB B.length cB) (c := s) (d := false) rfl ?blk ?_
          case blk => exact HR7.out.five _ _ _ _ _
          have hR := HR7.out
          refine ⟨⟨_, _, _, by rw [← HFe.out], ?st, by rw [← HFe.out]; exact HK.out, by rw [← HFe.out]; show (P ++ [s]).length ≤ 25; simp; omega, by rw [← HFe.out]; show B.length ≤ 25; omega⟩, ?bel⟩
          case st =>
            rw [← HFe.out]
            exact ((((HS7.out.set (by omega) hR.ty 0 _).set (by omega) (hR.setP _).ty 1 _).set (by omega) ((hR.setP _).setK _).ty 2 _).set (by omega) (((hR.setP _).setK _).setB _).ty 3 _).set (by omega) ((((hR.setP _).setK _).setB _).setC _).ty 4 _
          case bel =>
            repeat (refine Below.setCell ?_ (by simp) _)
            exact HB7.out
        · go_wp2_with fail
          refine (FitS.spec_fits_in 1 s ty lo hi' t ai ps.length ci hd k' n' av cv zs t' W5 HCd.out).mono ?_
          rintro e w6 ⟨rfl, hB6⟩
          have HB6 : Hid (Below w.heap.size w w6) := HB5.out.trans (hB6.mono HB5.out.size)
          have HS6 := hid (HS5.out.on hB6)
          have HO6 := hid (HO5.out.on hB6)
          have HR6 := hid (HR5.out.on hB6)
          have HX6 := hid (HX5.out.on hB6)
          have HV6 := hid (HV5.out.on hB6)
          have HCd6 := hid (HCd.out.on hB6)
          have hws6 : w.heap.size + 2 ≤ w6.heap.size := Nat.le_trans hws4 hB6.size
          obtain ⟨r, hr⟩ : ∃ r, Hid (fitB ty lo hi' k' n' zs t' = r) := ⟨_, rfl⟩
          rw [hr.out]
          rw [hr.out] at hFit
          clear hB6 HB5 HS5 HO5 HR5 HX5 HV5 HCd x0 x1 x2 x3 x4 x5 x6 x7 y0 y1 y2 y3 y4 yf yl v0 v1 v2 v3 hws4
          obtain ⟨x0, x1, x2, x3, x4, x5, x6, x7⟩ := HX6.out.cells
          obtain ⟨⟨y0, y1, y2, y3, y4⟩, yf, yl⟩ := HO6.out.cells
          cases r
          · have HFe : Hid (((P ++ [s], K, B), s, false) = F) := by
              have h := HRt.out
              rw [route_stop rfl hFit.out] at h
              exact h
            clear HRt hFit hAns HCd6 HCn HV6
            go_upto_region 12 with fail
            have HO7 := hid (HO6.out.setC s)
            have HS7 := hid (HS6.out.set (by omega) HO6.out.ty 3 (.string s))
            have HR7 := hid (HR6.out.other (b := w.heap.size + 1) (by omega) 3 (.string s))
            have HB7 : Hid (Below w.heap.size w (w6.setCell ⟨w.heap.size + 1, 3, none⟩ (.string s))) := HB6.out.setCell (by simp only; omega) _
            generalize w6.setCell ⟨w.heap.size + 1, 3, none⟩ (.string s) = W7 at *
            clear x0 x1 x2 x3 x4 x5 x6 x7 y0 y1 y2 y3 y4 yf yl HO6 HS6 HR6 HB6
            obtain ⟨⟨y0, y1, y2, y3, y4⟩, yf, yl⟩ := HO7.out.cells
            obtain ⟨⟨z0, z1, z2, z3, z4⟩, zf, zl⟩ := HR7.out.cells
            go_wp2_with fail
            refine ro_ret (g := w.heap.size) (vP := .slice a4 (P.length + 1) c4) (vK := .slice ak K.length ck) (vB := .slice aB B.length cB) (c := s) (d := false) rfl ?blk ?_
            case blk => exact HR7.out.five _ _ _ _ _
            have hR := HR7.out
            refine ⟨⟨_, _, _, by rw [← HFe.out], ?st, by rw [← HFe.out]; exact HK.out, by rw [← HFe.out]; show (P ++ [s]).length ≤ 25; simp; omega, by rw [← HFe.out]; show B.length ≤ 25; omega⟩, ?bel⟩
            case st =>
              rw [← HFe.out]
              exact ((((HS7.out.set (by omega) hR.ty 0 _).set (by omega) (hR.setP _).ty 1 _).set (by omega) ((hR.setP _).setK _).ty 2 _).set (by omega) (((hR.setP _).setK _).setB _).ty 3 _).set (by omega) ((((hR.setP _).setK _).setB _).setC _).ty 4 _
            case bel =>
              repeat (refine Below.setCell ?_ (by simp) _)
              exact HB7.out
          · have HFn : Hid (routeL an f' (ls.drop (i + 1)) (P ++ [s], putA K (s, k', n', zs, t'), B) = F) := by
              have h := HRt.out
              rw [route_ask rfl hFit.out] at h
              have e : ansAt an (inm (1, s, ty, lo, hi', t, ps, hd)) = (s, k', n', zs, t') := hAns.out
              rw [e] at h
              exact h
            have HPK : Hid (rightA (putA K (s, k', n', zs, t')) = true ∧ (putA K (s, k', n', zs, t')).length ≤ K.length + 1) := by
              have hg := ans_good HRA.out hFit.out
              have e : ansAt an (inm (1, s, ty, lo, hi', t, ps, hd)) = (s, k', n', zs, t') := hAns.out
              rw [e] at hg
              exact put_known HK.out (by omega) hg
            obtain ⟨v0, v1, v2, v3⟩ := HV6.out.cells
            obtain ⟨ak1, ck1, hv1, hAk1⟩ := HS6.out.ans HK.out
            cases hv1
            have HAk1 := hid hAk1
            clear hAk1 HRt hFit hAns hr
            go_wp2_with fail
            refine (AnsO.spec_put ak ck K s k' n' av cv zs t' w6 HAk1.out HCd6.out HCn.out).mono ?_
            rintro e w8 ⟨⟨v8, qs, rfl, hO8, hqs⟩, hB8⟩
            have HB8 : Hid (Below w.heap.size w w8) := HB6.out.trans (hB8.mono HB6.out.size)
            have HS8 := hid ((HS6.out.on hB8).putK hO8 hws6)
            have HO8 := hid (HO6.out.on hB8)
            have HR8 := hid (HR6.out.on hB8)
            obtain ⟨g8, c8, rfl⟩ := hO8.2.2
            have HQ := hid hqs
            clear hB8 hO8 hqs HB6 HS6 HO6 HR6 HX6 HV6 HAk1 HCd6 x0 x1 x2 x3 x4 x5 x6 x7 y0 y1 y2 y3 y4 yf yl v0 v1 v2 v3
            obtain ⟨⟨y0, y1, y2, y3, y4⟩, yf, yl⟩ := HO8.out.cells
            have hWn : Hid (Way ls an F (w.heap.size + 2) (w.heap.size + 1) (i + 1) (w8.setCell ⟨w.heap.size + 1, 1, none⟩ (.slice (some ⟨g8, 0, none⟩) qs.length c8))) := ⟨f', _, _, _, P ++ [s], qs.map Prod.fst, B, by omega, by rw [HQ.out]; exact HFn.out, HS8.out.set (by omega) HO8.out.ty _ _, HO8.out.setK _, by rw [HQ.out]; exact HPK.out.1, by rw [HQ.out]; exact Nat.le_trans HPK.out.2 (by omega), by simp; omega, by omega⟩
            go_wp2_with fail
            refine ⟨⟨i + 1, by omega, by go_num, hWn, HR8.out.other (by omega) _ _, HB8.out.setCell (by simp only; omega) _⟩, by simp [intOf]; omega⟩
      · by_cases k2 : kk = 2
        · subst k2
          have hRi : Hid (rightB ps = true) := by have h := (item_two HI.out).1; unfold truthB at h; rw [Bool.and_eq_true] at h; exact h.1
          obtain ⟨ak, ck, hv, hAk⟩ := HS.out.ans HK.out
          subst hv
          have HAk := hid hAk
          clear hAk
          go_wp2_with fail
          refine (EvlI.spec_all ai ci ps ak ck K W1 HPt.out HAk.out hRi.out HK.out).mono ?_
          rintro e w2 ⟨rfl, hB2⟩
          have HB2 : Hid (Below w.heap.size w w2) := HB1.out.trans (hB2.mono HB1.out.size)
          have HS2 := hid (HS.out.on hB2)
          have HO2 := hid (HO.out.on hB2)
          have HR2 := hid (HR1.out.on hB2)
          clear hB2 HS HO HR1 HB1 HX HPt HAk x0 x1 x2 x3 x4 x5 x6 x7 y0 y1 y2 y3 y4 yf yl
          obtain ⟨rr, hrr⟩ : ∃ r, Hid (ev K 6 ps = r) := ⟨_, rfl⟩
          rw [hrr.out]
          go_wp2_with fail
          refine (EvlS.spec_truth true w2).mono ?_
          rintro e w3 ⟨rfl, hB3⟩
          have HB3 : Hid (Below w.heap.size w w3) := HB2.out.trans (hB3.mono HB2.out.size)
          have HS3 := hid (HS2.out.on hB3)
          have HO3 := hid (HO2.out.on hB3)
          have HR3 := hid (HR2.out.on hB3)
          clear hB3 HB2 HS2 HO2 HR2
          obtain ⟨r1, r2⟩ := rr
          by_cases he : r1 = 2 ∧ r2 = 1
          · obtain ⟨rfl, rfl⟩ := he
            have hWn : Hid (Way ls an F (w.heap.size + 2) (w.heap.size + 1) (i + 1) w3) := ⟨f', _, _, _, P, K, B, by omega, by rw [← HRt.out, route_if rfl (by show ev K 6 ps = _; rw [hrr.out])], HS3.out, HO3.out, HK.out, by omega, by omega, by omega⟩
            clear HRt hrr
            go_wp2_with fail
            refine ⟨⟨i + 1, by omega, by go_num, hWn, HR3, HB3⟩, by simp [intOf]; omega⟩
          · obtain ⟨j, hj⟩ : ∃ j, Hid (i + 1 + skipL true (ls.drop (i + 1)) 0 = j) := ⟨_, rfl⟩
            have hjl : j ≤ ls.length := by have := skip_len true (ls.drop (i + 1)) 0; rw [List.length_drop] at this; have := hj.out; omega
            have hji : i < j := by have := hj.out; omega
            have hWn : Hid (Way ls an F (w.heap.size + 2) (w.heap.size + 1) (j + 1) w3) := ⟨f', _, _, _, P, K, B, by omega, by
              rw [← HRt.out, route_pass rfl (by show ¬ ev K 6 ps = _; rw [hrr.out]; exact fun e => he (by injection e with e1 e2; exact ⟨e1, e2⟩)), List.drop_drop, ← hj.out]
              congr 2, HS3.out, HO3.out, HK.out, by omega, by omega, by omega⟩
            clear HRt hrr
            by_cases e1 : r1 = 2
            · subst e1
              have e2 : ¬ r2 = 1 := fun h => he ⟨rfl, h⟩
              clear he
              go_wp2_with fail
              refine (spec_skip (some ⟨b, o, none⟩) lc ls i true w3 (HC.out.on HB3.out) hlt).mono ?_
              rintro e w4 ⟨rfl, rfl⟩
              rw [hj.out]
              go_wp2_with fail
              refine ⟨⟨j + 1, by omega, by go_num, hWn, HR3, HB3⟩, by simp [intOf]; omega⟩
            · clear he
              go_wp2_with fail
              refine (spec_skip (some ⟨b, o, none⟩) lc ls i true w3 (HC.out.on HB3.out) hlt).mono ?_
              rintro e w4 ⟨rfl, rfl⟩
              rw [hj.out]
              go_wp2_with fail
              refine ⟨⟨j + 1, by omega, by go_num, hWn, HR3, HB3⟩, by simp [intOf]; omega⟩
        · by_cases k3 : kk = 3
          · subst k3
            obtain ⟨j, hj⟩ : ∃ j, Hid (i + 1 + skipL false (ls.drop (i + 1)) 0 = j) := ⟨_, rfl⟩
            have hjl : j ≤ ls.length := by have := skip_len false (ls.drop (i + 1)) 0; rw [List.length_drop] at this; have := hj.out; omega
            have hji : i < j := by have := hj.out; omega
            have hWn : Hid (Way ls an F (w.heap.size + 2) (w.heap.size + 1) (j + 1) W1) := ⟨f', _, _, _, P, K, B, by omega, by
              rw [← HRt.out, route_else rfl, List.drop_drop, ← hj.out]
              congr 2, HS.out, HO.out, HK.out, by omega, by omega, by omega⟩
            clear HRt
            go_wp2_with fail
            refine (spec_skip (some ⟨b, o, none⟩) lc ls i false W1 (HC.out.on HB1.out) hlt).mono ?_
            rintro e w4 ⟨rfl, rfl⟩
            rw [hj.out]
            go_wp2_with fail
            refine ⟨⟨j + 1, by omega, by go_num, hWn, HR1, HB1⟩, by simp [intOf]; omega⟩
          · by_cases k5 : kk = 5
            · subst k5
              have hRi : Hid (rightB ps = true) := (item_five HI.out).2
              have hs20 : s.size ≤ 20 := (of_decide_eq_true (item_five HI.out).1).2.1
              obtain ⟨ak, ck, hv, hAk⟩ := HS.out.ans HK.out
              subst hv
              have HAk := hid hAk
              clear hAk
              go_wp2_with fail
              refine (EvlI.spec_all ai ci ps ak ck K W1 HPt.out HAk.out hRi.out HK.out).mono ?_
              rintro e w2 ⟨rfl, hB2⟩
              have HB2 : Hid (Below w.heap.size w w2) := HB1.out.trans (hB2.mono HB1.out.size)
              have HS2 := hid (HS.out.on hB2)
              have HO2 := hid (HO.out.on hB2)
              have HR2 := hid (HR1.out.on hB2)
              have HX2 := hid (HX.out.on hB2)
              clear hB2 HS HO HR1 HB1 HX HPt HAk x0 x1 x2 x3 x4 x5 x6 x7 y0 y1 y2 y3 y4 yf yl
              obtain ⟨rr, hrr⟩ : ∃ r, Hid (ev K 6 ps = r) := ⟨_, rfl⟩
              rw [hrr.out]
              go_wp2_with fail
              refine (EvlS.spec_truth false w2).mono ?_
              rintro e w3 ⟨rfl, hB3⟩
              have HB3 : Hid (Below w.heap.size w w3) := HB2.out.trans (hB3.mono HB2.out.size)
              have HS3 := hid (HS2.out.on hB3)
              have HO3 := hid (HO2.out.on hB3)
              have HR3 := hid (HR2.out.on hB3)
              have HX3 := hid (HX2.out.on hB3)
              have hws3 : w.heap.size + 2 ≤ w3.heap.size := by have := HB3.out.size; have := ItmW.blk_lt HX3.out; omega
              clear hB3 HB2 HS2 HO2 HR2 HX2
              obtain ⟨r1, r2⟩ := rr
              by_cases he : r1 = 2 ∧ r2 = 0
              · obtain ⟨rfl, rfl⟩ := he
                have HFn : Hid (routeL an f' (ls.drop (i + 1)) (P, K, B ++ [s]) = F) := by
                  have h := HRt.out
                  rw [route_check rfl, if_pos (show ev K 6 ps = (2, 0) from hrr.out)] at h
                  exact h
                clear HRt hrr
                obtain ⟨x0, x1, x2, x3, x4, x5, x6, x7⟩ := HX3.out.cells
                obtain ⟨⟨y0, y1, y2, y3, y4⟩, yf, yl⟩ := HO3.out.cells
                have hob := own_box w3 s
                go_wp2_with (first
                  | (at_builtin; refine wpList_append_own_at _ rfl _ _ 26 rfl (w.heap.size + 2) 9 i0 (.string ⟨#[]⟩) 1 16 Tryz.underlying26 hi0 hz0 hz1 hz2 rfl (by decide) vB B.length (strB B) rfl (HS3.out.on hob).2.1 ⟨w3.heap.size, 0, none⟩ 1 1 [.string s] rfl rfl (cell_one_new _ _ _) (by simp [Value.oneCell']) (by unfold maxLen; omega) (by omega) (by simp; omega) ?_
                     intro v' w4 hown' hg4 _ hat4
                     have HO4 := hid ((HO3.out.on hob).grown hg4 (fun e => by have := ((HS3.out.on hob).2.1.lt _ e).1; omega))
                     have HR4 := hid ((HR3.out.on hob).grown hg4 (fun e => by have := ((HS3.out.on hob).2.1.lt _ e).1; omega))
                     have HS4 := hid ((HS3.out.on hob).pushB hown' hg4 hat4)
                     have HB4 : Hid (Below w.heap.size w w4) := (HB3.out.trans (hob.mono HB3.out.size)).grown hg4 (by simp; omega) (fun j hj => by have := ((HS3.out.on hob).2.1.lt _ hj).1; omega)
                     obtain ⟨a4, c4, rfl, _⟩ := own_shape hown'
                     obtain ⟨⟨z0, z1, z2, z3, z4⟩, zf, zl⟩ := HO4.out.cells
                     clear hown' hg4 hat4 y0 y1 y2 y3 y4 yf yl
                     go_frame)
                  | go_in)
                have hWn : Hid (Way ls an F (w.heap.size + 2) (w.heap.size + 1) (i + 1) (w4.setCell ⟨w.heap.size + 1, 2, none⟩ (.slice a4 (B.length + 1) c4))) := ⟨f', _, _, _, P, K, B ++ [s], by omega, HFn.out, HS4.out.set (by omega) HO4.out.ty _ _, HO4.out.setB _, HK.out, by omega, by omega, by simp; omega⟩
                exact ⟨⟨i + 1, by omega, by go_num, hWn, HR4.out.other (by omega) _ _, HB4.out.setCell (by simp only; omega) _⟩, by simp [intOf]; omega⟩
              · have hWn : Hid (Way ls an F (w.heap.size + 2) (w.heap.size + 1) (i + 1) w3) := ⟨f', _, _, _, P, K, B, by omega, by
                  have h := HRt.out
                  rw [route_check rfl, if_neg (show ¬ ev K 6 ps = (2, 0) from by rw [hrr.out]; exact fun e => he (by injection e with e1 e2; exact ⟨e1, e2⟩))] at h
                  exact h, HS3.out, HO3.out, HK.out, by omega, by omega, by omega⟩
                clear HRt hrr
                by_cases e1 : r1 = 2
                · subst e1
                  have e2 : ¬ r2 = 0 := fun h => he ⟨rfl, h⟩
                  clear he
                  go_wp2_with fail
                  refine ⟨⟨i + 1, by omega, by go_num, hWn, HR3, HB3⟩, by simp [intOf]; omega⟩
                · clear he
                  go_wp2_with fail
                  refine ⟨⟨i + 1, by omega, by go_num, hWn, HR3, HB3⟩, by simp [intOf]; omega⟩
            · by_cases k6 : kk = 6
              · subst k6
                have hNm := (item_six HI.out).1
                have hRi : Hid (rightB ps = true) := (item_six HI.out).2
                have hs20 : s.size ≤ 20 := (of_decide_eq_true hNm).2.1
                have HNm := hid hNm
                clear hNm
                obtain ⟨ak, ck, hv, hAk⟩ := HS.out.ans HK.out
                subst hv
                have HAk := hid hAk
                clear hAk
                go_wp2_with fail
                refine (EvlI.spec_all ai ci ps ak ck K W1 HPt.out HAk.out hRi.out HK.out).mono ?_
                rintro e w2 ⟨rfl, hB2⟩
                have hrb := res_box w2 (ev K 6 ps).1 (ev K 6 ps).2
                have HB3 : Hid (Below w.heap.size w (w2.alloc (.cells #[.int .i64 (ev K 6 ps).1, .int .i64 (ev K 6 ps).2] 86))) := HB1.out.trans ((hB2.trans (hrb.mono hB2.size)).mono HB1.out.size)
                have hb3 := hB2.trans (hrb.mono hB2.size)
                have HS3 : Hid (RtS (w2.alloc (.cells #[.int .i64 (ev K 6 ps).1, .int .i64 (ev K 6 ps).2] 86)) (w.heap.size + 2) vP (.slice ak K.length ck) vB P K B) := HS.out.on hb3
                have HO3 : Hid (RoB (w2.alloc (.cells #[.int .i64 (ev K 6 ps).1, .int .i64 (ev K 6 ps).2] 86)) (w.heap.size + 1) vP (.slice ak K.length ck) vB ByteArray.empty false) := HO.out.on hb3
                have HR3 : Hid (RoB (w2.alloc (.cells #[.int .i64 (ev K 6 ps).1, .int .i64 (ev K 6 ps).2] 86)) w.heap.size (.slice none 0 0) (.slice none 0 0) (.slice none 0 0) ByteArray.empty false) := HR1.out.on hb3
                have HX3 : Hid (ItB (w2.alloc (.cells #[.int .i64 (ev K 6 ps).1, .int .i64 (ev K 6 ps).2] 86)) g 6 s ty lo hi' t ai ps.length ci hd) := HX.out.on hb3
                have q0 : (w2.alloc (.cells #[.int .i64 (ev K 6 ps).1, .int .i64 (ev K 6 ps).2] 86)).cell? ⟨w2.heap.size, 0, none⟩ = some (.int .i64 (ev K 6 ps).1) := by simp
                have q1 : (w2.alloc (.cells #[.int .i64 (ev K 6 ps).1, .int .i64 (ev K 6 ps).2] 86)).cell? ⟨w2.heap.size, 1, none⟩ = some (.int .i64 (ev K 6 ps).2) := by simp
                have hws2 : w.heap.size + 2 ≤ (w2.alloc (.cells #[.int .i64 (ev K 6 ps).1, .int .i64 (ev K 6 ps).2] 86)).heap.size := by have := hB2.size; have := ItmW.blk_lt HX.out; simp; omega
                clear hB2 hrb hb3 HS HO HR1 HB1 HX HPt HAk x0 x1 x2 x3 x4 x5 x6 x7 y0 y1 y2 y3 y4 yf yl
                go_upto_region 24 with fail
                obtain ⟨rr, hrr⟩ : ∃ r, Hid (ev K 6 ps = r) := ⟨_, rfl⟩
                rw [hrr.out] at HB3 HS3 HO3 HR3 HX3 q0 q1 hws2 ⊢
                obtain ⟨r1, r2⟩ := rr
                dsimp only at HB3 HS3 HO3 HR3 HX3 q0 q1 hws2 ⊢
                generalize w2.alloc (.cells #[.int .i64 r1, .int .i64 r2] 86) = W3 at *
                generalize w2.heap.size = gr at *
                by_cases hc : r1 = 1 ∧ -1000000000 ≤ r2 ∧ r2 ≤ 1000000000
                · obtain ⟨rfl, hc1, hc2⟩ := hc
                  have HFn : Hid (routeL an f' (ls.drop (i + 1)) (P, putA K (s, 1, r2, [], ByteArray.empty), B) = F) := by
                    have h := HRt.out
                    rw [route_comp rfl] at h
                    have e : compK K (6, s, ty, lo, hi', t, ps, hd) = putA K (s, 1, r2, [], ByteArray.empty) := by
                      unfold compK
                      rw [show ev K 6 (iex (6, s, ty, lo, hi', t, ps, hd)) = (1, r2) from hrr.out, if_pos ⟨rfl, hc1, hc2⟩]
                    rw [e] at h
                    exact h
                  have HPK := hid (put_known HK.out (by omega) (comp_good (q := (6, s, ty, lo, hi', t, ps, hd)) HNm.out hc1 hc2))
                  have hin : inB r2 (-1000000000) 1000000000 = true := decide_eq_true ⟨hc1, hc2⟩
                  clear HRt hrr
                  go_wp2_with fail
                  refine (PrtS.is_any r2 (-1000000000) 1000000000 W3).mono ?_
                  rintro e w4 ⟨rfl, rfl⟩
                  rw [hin]
                  obtain ⟨ak1, ck1, hv1, hAk1⟩ := HS3.out.ans HK.out
                  cases hv1
                  have HAk1 := hid hAk1
                  clear hAk1
                  obtain ⟨x0, x1, x2, x3, x4, x5, x6, x7⟩ := HX3.out.cells
                  obtain ⟨⟨y0, y1, y2, y3, y4⟩, yf, yl⟩ := HO3.out.cells
                  go_wp2_with fail
                  refine (AnsO.spec_put ak ck K s 1 r2 none 0 [] ByteArray.empty w4 HAk1.out (Codes.nil _ _) (fun _ => rfl)).mono ?_
                  rintro e w5 ⟨⟨v5, qs, rfl, hO5, hqs⟩, hB5⟩
                  have HB5 : Hid (Below w.heap.size w w5) := HB3.out.trans (hB5.mono HB3.out.size)
                  have HS5 := hid ((HS3.out.on hB5).putK hO5 hws2)
                  have HO5 := hid (HO3.out.on hB5)
                  have HR5 := hid (HR3.out.on hB5)
                  obtain ⟨g5, c5, rfl⟩ := hO5.2.2
                  have HQ := hid hqs
                  clear hB5 hO5 hqs HB3 HS3 HO3 HR3 HX3 HAk1 x0 x1 x2 x3 x4 x5 x6 x7 y0 y1 y2 y3 y4 yf yl q0 q1
                  obtain ⟨⟨y0, y1, y2, y3, y4⟩, yf, yl⟩ := HO5.out.cells
                  have hWn : Hid (Way ls an F (w.heap.size + 2) (w.heap.size + 1) (i + 1) (w5.setCell ⟨w.heap.size + 1, 1, none⟩ (.slice (some ⟨g5, 0, none⟩) qs.length c5))) := ⟨f', _, _, _, P, qs.map Prod.fst, B, by omega, by rw [HQ.out]; exact HFn.out, HS5.out.set (by omega) HO5.out.ty _ _, HO5.out.setK _, by rw [HQ.out]; exact HPK.out.1, by rw [HQ.out]; exact Nat.le_trans HPK.out.2 (by omega), by omega, by omega⟩
                  go_wp2_with fail
                  refine ⟨⟨i + 1, by omega, by go_num, hWn, HR5.out.other (by omega) _ _, HB5.out.setCell (by simp only; omega) _⟩, by simp [intOf]; omega⟩
                · have hWn : Hid (Way ls an F (w.heap.size + 2) (w.heap.size + 1) (i + 1) W3) := ⟨f', _, _, _, P, K, B, by omega, by
                    have h := HRt.out
                    rw [route_comp rfl] at h
                    have e : compK K (6, s, ty, lo, hi', t, ps, hd) = K := by
                      unfold compK
                      rw [show ev K 6 (iex (6, s, ty, lo, hi', t, ps, hd)) = (r1, r2) from hrr.out, if_neg hc]
                    rw [e] at h
                    exact h, HS3.out, HO3.out, HK.out, by omega, by omega, by omega⟩
                  clear HRt hrr
                  by_cases e1 : r1 = 1
                  · subst e1
                    have hin : inB r2 (-1000000000) 1000000000 = false := decide_eq_false (fun h => hc ⟨rfl, h.1, h.2⟩)
                    clear hc
                    go_wp2_with fail
                    refine (PrtS.is_any r2 (-1000000000) 1000000000 W3).mono ?_
                    rintro e w4 ⟨rfl, rfl⟩
                    rw [hin]
                    go_wp2_with fail
                    refine ⟨⟨i + 1, by omega, by go_num, hWn, HR3, HB3⟩, by simp [intOf]; omega⟩
                  · clear hc
                    go_wp2_with fail
                    refine ⟨⟨i + 1, by omega, by go_num, hWn, HR3, HB3⟩, by simp [intOf]; omega⟩
              · have hWn : Hid (Way ls an F (w.heap.size + 2) (w.heap.size + 1) (i + 1) W1) := ⟨f', _, _, _, P, K, B, by omega, by rw [← HRt.out, route_other k1 k2 k3 k5 k6], HS.out, HO.out, HK.out, by omega, by omega, by omega⟩
                clear HRt
                go_wp2_with fail
                refine ⟨⟨i + 1, by omega, by go_num, hWn, HR1, HB1⟩, by simp [intOf]; omega⟩
    · obtain ⟨f, vP, vK, vB, P, K, B, hf1, hr1, hS1, hO1, hK1, lK, lP, lB⟩ := HWy.out
      have hnil : ls.drop i = [] := List.drop_eq_nil_of_le (by omega)
      rw [hnil, route_nil] at hr1
      have HFe := hid hr1
      have HK := hid hK1
      have HS := hid hS1
      have HO := hid hO1
      clear hr1 hS1 hO1 hK1 hnil HWy
      obtain ⟨aP, cP, hvP, _⟩ := own_shape HS.out.1
      obtain ⟨aB, cB, hvB, _⟩ := own_shape HS.out.2.1
      obtain ⟨ak, ck, hv, _⟩ := HS.out.ans HK.out
      subst hvP
      subst hvB
      subst hv
      have hRl : w.heap.size < wr.heap.size := ItmW.blk_lt HR.out
      obtain ⟨⟨y0, y1, y2, y3, y4⟩, yf, yl⟩ := HO.out.cells
      go_upto_region 27 with fail
      have HO2 := hid (HO.out.setD true)
      have HS2 := hid (HS.out.set (by omega) HO.out.ty 4 (.bool true))
      have HR2 := hid (HR.out.other (b := w.heap.size + 1) (by omega) 4 (.bool true))
      have HB2 : Hid (Below w.heap.size w (wr.setCell ⟨w.heap.size + 1, 4, none⟩ (.bool true))) := HB.out.setCell (by simp only; omega) _
      generalize wr.setCell ⟨w.heap.size + 1, 4, none⟩ (.bool true) = W2 at *
      clear y0 y1 y2 y3 y4 yf yl HO HS HR HB
      obtain ⟨⟨y0, y1, y2, y3, y4⟩, yf, yl⟩ := HO2.out.cells
      obtain ⟨⟨z0, z1, z2, z3, z4⟩, zf, zl⟩ := HR2.out.cells
      go_wp2_with fail
      refine ro_ret (g := w.heap.size) (vP := .slice aP P.length cP) (vK := .slice ak K.length ck) (vB := .slice aB B.length cB) (c := ByteArray.empty) (d := true) rfl ?blk ?_
      case blk => exact HR2.out.five _ _ _ _ _
      have hR := HR2.out
      refine ⟨⟨_, _, _, by rw [← HFe.out], ?st, by rw [← HFe.out]; exact HK.out, by rw [← HFe.out]; show P.length ≤ 25; omega, by rw [← HFe.out]; show B.length ≤ 25; omega⟩, ?bel⟩
      case st =>
        rw [← HFe.out]
        exact ((((HS2.out.set (by omega) hR.ty 0 _).set (by omega) (hR.setP _).ty 1 _).set (by omega) ((hR.setP _).setK _).ty 2 _).set (by omega) (((hR.setP _).setK _).setB _).ty 3 _).set (by omega) ((((hR.setP _).setK _).setB _).setC _).ty 4 _
      case bel =>
        repeat (refine Below.setCell ?_ (by simp) _)
        exact HB2.out
end Go.Proofs.YtmbhmknfipdadaaGreatDoor.RteS
namespace Go.Proofs.YtmbhmknfipdadaaGreatDoor.RteI
open Go.RowKit
open PrtW PrtM ItmW ItmM FrmM EvlM EvlS ValW NameW RteM RteS BookW PrtI
open AnsW (An an0 nm kd nu cd tx told putA rightA good)
def Kp (O b0 : Nat) (W W' : World) : Prop := W.heap.size ≤ W'.heap.size ∧ (∀ b, b < b0 → b ≠ O → W'.heap[b]? = W.heap[b]?) ∧ W'.os = W.os ∧ W'.tape = W.tape ∧ W'.output = W.output ∧ ∀ b cs fz, b ≠ O → W.heap[b]? = some (.cells cs 57 fz) → W'.heap[b]? = W.heap[b]?
theorem own_no_item {W : World} {base : Nat} {v : Value} {P : List ByteArray} (hT : OwnT W base v P) {b : Nat} (e : v.ownBlock = some b) {cs : Array Value} {fz : Nat × Nat} (hc : W.heap[b]? = some (.cells cs 57 fz)) : False := by
 obtain ⟨cs', h'⟩ := own_block hT e
 rw [h'] at hc
 injection hc with hc
 injection hc with _ h2
 exact absurd h2 (by decide)
theorem Kp.refl (O b0 : Nat) (W : World) : Kp O b0 W W := ⟨Nat.le_refl _, fun _ _ _ => rfl, rfl, rfl, rfl, fun _ _ _ _ _ => rfl⟩
theorem Kp.trans {O b0 : Nat} {W W' W'' : World} (h : Kp O b0 W W') (k : Kp O b0 W' W'') : Kp O b0 W W'' := ⟨Nat.le_trans h.1 k.1, fun b hb hO => (k.2.1 b hb hO).trans (h.2.1 b hb hO), k.2.2.1.trans h.2.2.1, k.2.2.2.1.trans h.2.2.2.1, k.2.2.2.2.1.trans h.2.2.2.2.1, fun b cs fz hO hc => (k.2.2.2.2.2 b cs fz hO ((h.2.2.2.2.2 b cs fz hO hc).trans hc)).trans (h.2.2.2.2.2 b cs fz hO hc)⟩
theorem Kp.below {O b0 : Nat} {W W' : World} (hB : Below W.heap.size W W') (h0 : b0 ≤ W.heap.size) : Kp O b0 W W' := ⟨hB.size, fun b hb _ => hB.block b (by omega), hB.os, hB.tape, hB.output, fun b _ _ _ hc => hB.block b (Array.getElem?_eq_some_iff.1 hc).1⟩
theorem Kp.set {O b0 : Nat} {W : World} (j : Nat) (u : Value) : Kp O b0 W (W.setCell ⟨O, j, none⟩ u) := ⟨by simp, fun b _ hO => Below.heap_setCell _ _ _ _ hO, rfl, rfl, rfl, fun b _ _ hO _ => Below.heap_setCell _ _ _ _ hO⟩
theorem Kp.grown {O b0 : Nat} {W W' : World} {row : Option Nat} (hg : W.grownBy W' row) (h0 : b0 ≤ W.heap.size) (hr : ∀ b, row = some b → b0 ≤ b) (hi : ∀ b, row = some b → ∀ cs fz, W.heap[b]? ≠ some (.cells cs 57 fz)) : Kp O b0 W W' := ⟨hg.size, fun b hb _ => hg.block b (by omega) (fun e => by have := hr b e.symm; omega), hg.os, hg.tape, hg.output, fun b cs fz _ hc => hg.block b (Array.getElem?_eq_some_iff.1 hc).1 (fun e => hi b e.symm cs fz hc)⟩
theorem Kp.ahead {O b0 S : Nat} {W W' : World} (h : Kp O b0 W W') (hO : S ≤ O) (h0 : S ≤ b0) : Below S W W' := ⟨h.2.2.1, h.2.2.2.1, h.2.2.2.2.1, h.1, fun b hb => h.2.1 b (by omega) (by omega)⟩
def RowC (b0 g : Nat) (s : ByteArray) (W : World) : Prop := b0 ≤ g ∧ g < W.heap.size ∧ W.cell? ⟨g, 0, none⟩ = some (.string s)
theorem RowC.on {b0 g : Nat} {s : ByteArray} {W W' : World} (h : RowC b0 g s W) (hB : Below W.heap.size W W') : RowC b0 g s W' := ⟨h.1, Nat.lt_of_lt_of_le h.2.1 hB.size, by rw [hB.cell (p := ⟨g, 0, none⟩) h.2.1]; exact h.2.2⟩
theorem laid_row (t : ByteArray) (g : Nat) (w : World) (h : w.cell? ⟨g, 0, none⟩ = some (.string t)) (hg : g < w.heap.size) (ht : t.size ≤ 100000) :
  Calls Tryz.prog 93 #[.slice (some ⟨g, 0, none⟩) 1 1] w fun e w' => e = .returned (.string t) ∧ Below w.heap.size w w' := by
 have hcat : LaidW.catB [t] = t.data.toList := by simp [LaidW.catB]
 refine (LaidW.laid_any [t] g w (by simp) hg ?_ ?_).mono ?_
 ·intro i hi
  match i, hi with
  | 0, _ => simpa using h
 ·rw [hcat]; simpa using ht
 ·rintro e w' ⟨rfl, hB⟩
  exact ⟨by rw [hcat], hB⟩
theorem wpOp_append_own_at {P : Program} {ops : Array Oper} {Q : Exit → Act → World → Prop} {idx : Nat} {o : Oper} {K : Act → World → Prop} {a : Act} {w : World} (hop : ops[idx]? = some o) (hgd : o.guard = none) (s x : Operand) (t : TypeId)
  (ho : o.op = .call { callee := .builtin .append, args := #[s, x], argTypes := #[t, t] })
  (base : Nat) (e : TypeId) (i : TypeInfo) (z : Value) (size bytes : Nat) (ht : P.underlying t = some (.slice e)) (hi : P.info? e = some i) (hz : i.zero = some z)
  (hsize : i.size = size) (hby : i.bytes = bytes) (hzs : z.cells.size = size) (hsz : 0 < size)
  (v : Value) (n : Nat) (xs : List Value) (hs : a.eval s = v) (hown : w.ownsRow base e size v n xs)
  (ad : Addr) (m c : Nat) (news : List Value) (hx : a.eval x = .slice (some ad) m c) (hl : news.length = m * size) (hnews : ∀ j u, news[j]? = some u → w.cell? (ad.add j) = some u) (h1 : ∀ u ∈ news, u.oneCell' = true)
  (h63 : n + m ≤ maxLen) (hbytes : (n + m) * bytes ≤ 140737488355328) (hbase : base ≤ w.heap.size)
  (h : ∀ v' w', w'.ownsRow base e size v' (n + m) (xs ++ news) → w.grownBy w' v.ownBlock → (v' = .slice none 0 0 ↔ v = .slice none 0 0 ∧ m = 0) → (v'.ownBlock = v.ownBlock ∨ v'.ownBlock = some w.heap.size) → K (a.put o.dst v') w') :
  wpOp P ops Q idx K a w := by
 refine wpOp_step hop (fun K' hK => ?_)
 rw [if_pos (by simp [Region.wanted, hgd])]
 obtain ⟨v', w', hr, h2, h3, h4, h5⟩ := run_append_own_at (P := P) w base t o.type e i z size bytes ht hi hz hsize hby hzs hsz v n xs hown ad m c news hl hnews h1 h63 hbytes hbase
 unfold Oper.wp execOp
 simp only [ho, resolve, invoke, builtin, Sem.run_bind, Sem.run_pure, Result.andThen_ok, List.map_toArray, List.map_cons, List.map_nil, hs, hx, hr]
 exact hK _ _ (h v' w' h2 h3 h4 h5)
def CkW (w : World) (O b0 Bg Bk : Nat) (vP vX : Value) (cur : ByteArray) (k : Int) (s : ByteArray) (ty lo hi : Int) (t : ByteArray) (a : Option Addr) (n c : Nat) (hd : Bool) (W : World) : Prop :=
 (O < b0 ∧ b0 ≤ w.heap.size) ∧ WkB W O Bg Bk vP vX cur ∧ ItB W w.heap.size k s ty lo hi t a n c hd ∧ Kp O b0 w W
section
variable {w : World} {O b0 Bg Bk : Nat} {vP vX : Value} {cur : ByteArray} {k : Int} {s : ByteArray} {ty lo hi : Int} {t : ByteArray} {a : Option Addr} {n c : Nat} {hd : Bool} {W W' : World}
theorem CkW.on (h : CkW w O b0 Bg Bk vP vX cur k s ty lo hi t a n c hd W) (hB : Below W.heap.size W W') : CkW w O b0 Bg Bk vP vX cur k s ty lo hi t a n c hd W' :=
 ⟨h.1, h.2.1.on hB, h.2.2.1.on hB, h.2.2.2.trans (Kp.below hB (Nat.le_trans h.1.2 h.2.2.2.1))⟩
theorem CkW.store (h : CkW w O b0 Bg Bk vP vX cur k s ty lo hi t a n c hd W) (u : Value) : CkW w O b0 Bg Bk vP u cur k s ty lo hi t a n c hd (W.setCell ⟨O, 4, none⟩ u) :=
 ⟨h.1, h.2.1.setB u, h.2.2.1.other (by have := h.1; omega) _ _, h.2.2.2.trans (Kp.set _ _)⟩
theorem CkW.rts {vB : Value} {P B : List ByteArray} (h : CkW w O b0 Bg Bk vP vX cur k s ty lo hi t a n c hd W) (r : RtS W b0 vP (.slice none 0 0) vB P [] B) (u : Value) : RtS (W.setCell ⟨O, 4, none⟩ u) b0 vP (.slice none 0 0) vB P [] B :=
 r.set h.1.1 ⟨_, _, _, h.2.1, by decide⟩ _ _
theorem CkW.grown {vB : Value} {B : List ByteArray} (h : CkW w O b0 Bg Bk vP vX cur k s ty lo hi t a n c hd W) (hT : OwnT W b0 vB B) (hg : W.grownBy W' vB.ownBlock) : CkW w O b0 Bg Bk vP vX cur k s ty lo hi t a n c hd W' :=
 ⟨h.1, h.2.1.grown hg (fun e => by have := (hT.lt _ e).1; have := h.1; omega), h.2.2.1.grown hg (fun e => own_not_item hT h.2.2.1 e), h.2.2.2.trans (Kp.grown hg (Nat.le_trans h.1.2 h.2.2.2.1) (fun b e => (hT.lt _ e).1) (fun b e cs fz hc => own_no_item hT e hc))⟩
end
set_option maxRecDepth 10000 in
set_option maxHeartbeats 3200000 in
theorem impl_check {b0 F : Nat} (O Bg Bk : Nat) (vP vB : Value) (cur : ByteArray) (K : List An) (P B : List ByteArray) (k : Int) (s : ByteArray) (ty lo hi : Int) (t : ByteArray) (a : Option Addr) (ps : List Pt) (c : Nat) (hd : Bool) (w : World) (hO : O < b0) (hb0 : b0 ≤ w.heap.size) (h : WkB w O Bg Bk vP vB cur) (hS : RtS w b0 vP (.slice none 0 0) vB P [] B) (hP : Parts w a ps) (hcap : ps.length ≤ c) (hr : rightB ps = true) (hE : EnvS w) (hBk : BookF w F Bk K) (hK : rightA K = true) (hs : s.size ≤ 20) (hlB : B.length ≤ 1000) :
  Calls Tryz.prog 99 #[.pointer (some ⟨O, 0, none⟩), .agg #[.int .i64 k, .string s, .int .i64 ty, .int .i64 lo, .int .i64 hi, .string t, .slice a ps.length c, .bool hd]] w fun e w' => e = .returned (.tuple #[]) ∧ Kp O b0 w w' ∧ ∃ vB', WkB w' O Bg Bk vP vB' cur ∧ RtS w' b0 vP (.slice none 0 0) vB' P [] (if ev K 6 ps = (2, 0) then B ++ [s] else B) := by
 have hbx := item_box w k s ty lo hi t a ps.length c hd
 have HX : Hid (ItB (w.alloc (.cells #[.int .i64 k, .string s, .int .i64 ty, .int .i64 lo, .int .i64 hi, .string t, .slice a ps.length c, .bool hd] 57)) w.heap.size k s ty lo hi t a ps.length c hd) := heap_alloc_new w _
 have HW1 := RteS.hid (h.on hbx)
 have HS1 := RteS.hid (hS.on hbx)
 have HP1 := RteS.hid (hP.on hbx)
 have HE1 := RteS.hid (hE.on hbx)
 have HBk1 := RteS.hid (hBk.on hbx)
 have HB1 := RteS.hid hbx
 have HR := RteS.hid hr
 have HK := RteS.hid hK
 clear hbx h hS hP hr hE hBk hK
 obtain ⟨X, hX⟩ : ∃ X, Hid ((if ev K 6 ps = (2, 0) then B ++ [s] else B) = X) := ⟨_, rfl⟩
 rw [hX.out]
 obtain ⟨⟨r1, r2⟩, hrr⟩ : ∃ r, Hid (ev K 6 ps = r) := ⟨_, rfl⟩
 obtain ⟨i0, hi0, hz0, hz1, hz2⟩ := info_parts Tryz.infoS7
 go_enter Tryz.func99, Tryz.ntmps99
 go_upto_region 1 with fail
 generalize w.alloc (.cells #[.int .i64 k, .string s, .int .i64 ty, .int .i64 lo, .int .i64 hi, .string t, .slice a ps.length c, .bool hd] 57) = W1 at *
 obtain ⟨z0, z1, z2, z3, z4, z5, z6, z7⟩ := HX.out.cells
 go_wp2_with fail
 refine (impl_tells O Bg Bk vP vB cur K a c ps W1 HW1.out HP1.out hcap HR.out HE1.out HBk1.out HK.out).mono ?_
 rintro e w2 ⟨rfl, hB2⟩
 have HB2 : Hid (Below w.heap.size w w2) := HB1.out.trans (hB2.mono HB1.out.size)
 have HS2 := RteS.hid (HS1.out.on hB2)
 have HW2 := RteS.hid (HW1.out.on hB2)
 have HX2 := RteS.hid (HX.out.on hB2)
 clear hB2 HS1 HW1 HX HP1 HE1 HBk1 HB1 z0 z1 z2 z3 z4 z5 z6 z7
 rw [hrr.out]
 go_wp2_with fail
 refine (EvlS.impl_truth false w2).mono ?_
 rintro e w3 ⟨rfl, hB3⟩
 have HB3 : Hid (Below w.heap.size w w3) := HB2.out.trans (hB3.mono HB2.out.size)
 have HS3 := RteS.hid (HS2.out.on hB3)
 have HW3 := RteS.hid (HW2.out.on hB3)
 have HX3 := RteS.hid (HX2.out.on hB3)
 clear hB3 HB2 HS2 HW2 HX2
 by_cases he : r1 = 2 ∧ r2 = 0
 ·obtain ⟨rfl, rfl⟩ := he
  go_upto_region 2 with fail
  -- region
  refine AnyO.region_by2 16 (fun L act W => ∃ (vX x10 x11 x12 x13 x14 x15 x16 x17 x18 x19 x20 x21 x22 x23 x24 : Value),
   act = { tmps := #[.pointer (some ⟨O, 0, none⟩), .agg #[.int .i64 k, .string s, .int .i64 ty, .int .i64 lo, .int .i64 hi, .string t, .slice a ps.length c, .bool hd], undef, .pointer (some ⟨w.heap.size, 0, none⟩), .pointer (some ⟨O, 0, none⟩), .pointer (some ⟨w.heap.size, 6, none⟩), .slice a ps.length c, rv ((truthR false).fst, (truthR false).snd), rv (truthR false), .bool true, x10, x11, x12, x13, x14, x15, x16, x17, x18, x19, x20, x21, x22, x23, x24], defers := [] } ∧
   Hid (CkW w O b0 Bg Bk vP vX cur k s ty lo hi t a ps.length c hd W) ∧ (L 15 = false → vX = vB) ∧ (L 15 = true → L 11 = true) ∧ (L 15 = true → vX = x21) ∧ (L 15 = true → L 5 = true) ∧ (L 11 = true → L 9 = true) ∧ (L 11 = false → Hid (RtS W b0 vP (.slice none 0 0) vB P [] B)) ∧
   (L 0 = true → x10 = .pointer (some ⟨O, 0, none⟩)) ∧ (L 1 = true → x11 = .pointer (some ⟨O, 0, none⟩)) ∧ (L 2 = true → x12 = .pointer (some ⟨O, 0, none⟩)) ∧ (L 3 = true → x13 = .pointer (some ⟨O, 2, none⟩)) ∧ (L 4 = true → x14 = .pointer (some ⟨O, 4, none⟩)) ∧ (L 5 = true → x15 = vB) ∧ (L 6 = true → x16 = .pointer (some ⟨w.heap.size, 1, none⟩)) ∧ (L 7 = true → x17 = .string s) ∧ (L 8 = true → L 11 = false → ∃ g, x18 = .slice (some ⟨g, 0, none⟩) 1 1 ∧ RowC b0 g s W) ∧ (L 9 = true → x19 = .string s) ∧ (L 10 = true → L 11 = false → ∃ g, x20 = .slice (some ⟨g, 0, none⟩) 1 1 ∧ RowC b0 g s W) ∧ (L 11 = true → ∃ a2 c2, x21 = .slice a2 (B.length + 1) c2 ∧ RtS W b0 vP (.slice none 0 0) (.slice a2 (B.length + 1) c2) P [] (B ++ [s])) ∧ (L 12 = true → x22 = .pointer (some ⟨O, 0, none⟩)) ∧ (L 13 = true → x23 = .pointer (some ⟨O, 2, none⟩)) ∧ (L 14 = true → x24 = .pointer (some ⟨O, 4, none⟩))) (by kernel_rfl) (by kernel_rfl) (by kernel_rfl) ?start ?step ?fin
  case start => exact ⟨vB, undef, undef, undef, undef, undef, undef, undef, undef, undef, undef, undef, undef, undef, undef, undef, rfl, RteS.hid ((show CkW w O b0 Bg Bk vP vB cur k s ty lo hi t a ps.length c hd w3 from ⟨⟨hO, hb0⟩, HW3.out, HX3.out, Kp.below HB3.out hb0⟩).on ((Below.refl _ _).drew)), fun _ => rfl, by simp, by simp, by simp, by simp, fun _ => RteS.hid (HS3.out.on ((Below.refl _ _).drew)), by simp, by simp, by simp, by simp, by simp, by simp, by simp, by simp, by simp, by simp, by simp, by simp, by simp, by simp, by simp⟩
  case step =>
   rintro i hi L act W ⟨vX, x10, x11, x12, x13, x14, x15, x16, x17, x18, x19, x20, x21, x22, x23, x24, rfl, hW, hv0, hv1, hv2, hv3, hv4, hR, f0, f1, f2, f3, f4, f5, f6, f7, f8, f9, f10, f11, f12, f13, f14⟩ hl hd
   have hcases : i = 0 ∨ i = 1 ∨ i = 2 ∨ i = 3 ∨ i = 4 ∨ i = 5 ∨ i = 6 ∨ i = 7 ∨ i = 8 ∨ i = 9 ∨ i = 10 ∨ i = 11 ∨ i = 12 ∨ i = 13 ∨ i = 14 ∨ i = 15 := by omega
   rcases hcases with rfl | rfl | rfl | rfl | rfl | rfl | rfl | rfl | rfl | rfl | rfl | rfl | rfl | rfl | rfl | rfl
   ·refine wpOp_step rfl (fun K hK => ?_)
    have hlt : b0 ≤ W.heap.size := Nat.le_trans hb0 hW.out.2.2.2.1
    obtain ⟨⟨y0, y1, y2, y3, y4, y5, y6⟩, yf, yl⟩ := hW.out.2.1.cells
    obtain ⟨z0, z1, z2, z3, z4, z5, z6, z7⟩ := hW.out.2.2.1.cells
    clear hi
    go_simp
    exact hK _ _ ⟨_, _, _, _, _, _, _, _, _, _, _, _, _, _, _, _, rfl, hW, hv0, hv1, hv2, hv3, hv4, hR, (fun _ => rfl), f1, f2, f3, f4, f5, f6, f7, f8, f9, f10, f11, f12, f13, f14⟩
   ·refine wpOp_step rfl (fun K hK => ?_)
    have hlt : b0 ≤ W.heap.size := Nat.le_trans hb0 hW.out.2.2.2.1
    obtain ⟨⟨y0, y1, y2, y3, y4, y5, y6⟩, yf, yl⟩ := hW.out.2.1.cells
    obtain ⟨z0, z1, z2, z3, z4, z5, z6, z7⟩ := hW.out.2.2.1.cells
    clear hi
    go_simp
    exact hK _ _ ⟨_, _, _, _, _, _, _, _, _, _, _, _, _, _, _, _, rfl, hW, hv0, hv1, hv2, hv3, hv4, hR, f0, (fun _ => rfl), f2, f3, f4, f5, f6, f7, f8, f9, f10, f11, f12, f13, f14⟩
   ·have hx1 := f1 (hd 1 (by kernel_rfl))
    subst hx1
    refine wpOp_step rfl (fun K hK => ?_)
    have hlt : b0 ≤ W.heap.size := Nat.le_trans hb0 hW.out.2.2.2.1
    obtain ⟨⟨y0, y1, y2, y3, y4, y5, y6⟩, yf, yl⟩ := hW.out.2.1.cells
    obtain ⟨z0, z1, z2, z3, z4, z5, z6, z7⟩ := hW.out.2.2.1.cells
    clear hi
    go_simp
    exact hK _ _ ⟨_, _, _, _, _, _, _, _, _, _, _, _, _, _, _, _, rfl, hW, hv0, hv1, hv2, hv3, hv4, hR, f0, f1, (fun _ => rfl), f3, f4, f5, f6, f7, f8, f9, f10, f11, f12, f13, f14⟩
   ·have hx2 := f2 (hd 2 (by kernel_rfl))
    subst hx2
    refine wpOp_step rfl (fun K hK => ?_)
    have hlt : b0 ≤ W.heap.size := Nat.le_trans hb0 hW.out.2.2.2.1
    obtain ⟨⟨y0, y1, y2, y3, y4, y5, y6⟩, yf, yl⟩ := hW.out.2.1.cells
    obtain ⟨z0, z1, z2, z3, z4, z5, z6, z7⟩ := hW.out.2.2.1.cells
    clear hi
    go_simp
    exact hK _ _ ⟨_, _, _, _, _, _, _, _, _, _, _, _, _, _, _, _, rfl, hW, hv0, hv1, hv2, hv3, hv4, hR, f0, f1, f2, (fun _ => rfl), f4, f5, f6, f7, f8, f9, f10, f11, f12, f13, f14⟩
   ·have hx3 := f3 (hd 3 (by kernel_rfl))
    subst hx3
    refine wpOp_step rfl (fun K hK => ?_)
    have hlt : b0 ≤ W.heap.size := Nat.le_trans hb0 hW.out.2.2.2.1
    obtain ⟨⟨y0, y1, y2, y3, y4, y5, y6⟩, yf, yl⟩ := hW.out.2.1.cells
    obtain ⟨z0, z1, z2, z3, z4, z5, z6, z7⟩ := hW.out.2.2.1.cells
    clear hi
    go_simp
    exact hK _ _ ⟨_, _, _, _, _, _, _, _, _, _, _, _, _, _, _, _, rfl, hW, hv0, hv1, hv2, hv3, hv4, hR, f0, f1, f2, f3, (fun _ => rfl), f5, f6, f7, f8, f9, f10, f11, f12, f13, f14⟩
   ·have hx4 := f4 (hd 4 (by kernel_rfl))
    subst hx4
    have h15 : L 15 = false := by cases h : L 15 with | false => rfl | true => exact absurd (hv3 h) (by rw [hl]; decide)
    have e5 := hv0 h15
    subst e5
    refine wpOp_step rfl (fun K hK => ?_)
    have hlt : b0 ≤ W.heap.size := Nat.le_trans hb0 hW.out.2.2.2.1
    obtain ⟨⟨y0, y1, y2, y3, y4, y5, y6⟩, yf, yl⟩ := hW.out.2.1.cells
    obtain ⟨z0, z1, z2, z3, z4, z5, z6, z7⟩ := hW.out.2.2.1.cells
    clear hi
    go_simp
    exact hK _ _ ⟨_, _, _, _, _, _, _, _, _, _, _, _, _, _, _, _, rfl, hW, hv0, hv1, hv2, (fun _ => rfl), hv4, hR, f0, f1, f2, f3, f4, (fun _ => rfl), f6, f7, f8, f9, f10, f11, f12, f13, f14⟩
   ·refine wpOp_step rfl (fun K hK => ?_)
    have hlt : b0 ≤ W.heap.size := Nat.le_trans hb0 hW.out.2.2.2.1
    obtain ⟨⟨y0, y1, y2, y3, y4, y5, y6⟩, yf, yl⟩ := hW.out.2.1.cells
    obtain ⟨z0, z1, z2, z3, z4, z5, z6, z7⟩ := hW.out.2.2.1.cells
    clear hi
    go_simp
    exact hK _ _ ⟨_, _, _, _, _, _, _, _, _, _, _, _, _, _, _, _, rfl, hW, hv0, hv1, hv2, hv3, hv4, hR, f0, f1, f2, f3, f4, f5, (fun _ => rfl), f7, f8, f9, f10, f11, f12, f13, f14⟩
   ·have hx6 := f6 (hd 6 (by kernel_rfl))
    subst hx6
    refine wpOp_step rfl (fun K hK => ?_)
    have hlt : b0 ≤ W.heap.size := Nat.le_trans hb0 hW.out.2.2.2.1
    obtain ⟨⟨y0, y1, y2, y3, y4, y5, y6⟩, yf, yl⟩ := hW.out.2.1.cells
    obtain ⟨z0, z1, z2, z3, z4, z5, z6, z7⟩ := hW.out.2.2.1.cells
    clear hi
    go_simp
    exact hK _ _ ⟨_, _, _, _, _, _, _, _, _, _, _, _, _, _, _, _, rfl, hW, hv0, hv1, hv2, hv3, hv4, hR, f0, f1, f2, f3, f4, f5, f6, (fun _ => rfl), f8, f9, f10, f11, f12, f13, f14⟩
   ·have hx := f7 (hd 7 (by kernel_rfl))
    subst hx
    refine wpOp_step rfl (fun K hK => ?_)
    have hlt : b0 ≤ W.heap.size := Nat.le_trans hb0 hW.out.2.2.2.1
    obtain ⟨⟨y0, y1, y2, y3, y4, y5, y6⟩, yf, yl⟩ := hW.out.2.1.cells
    obtain ⟨z0, z1, z2, z3, z4, z5, z6, z7⟩ := hW.out.2.2.1.cells
    clear hi
    go_simp
    have hB : Below W.heap.size W (W.alloc (.cells #[.string s] 9)) := own_box W s
    exact hK _ _ ⟨_, _, _, _, _, _, _, _, _, _, _, _, _, _, _, _, rfl, RteS.hid (hW.out.on hB), hv0, hv1, hv2, hv3, hv4, (fun h => RteS.hid ((hR h).out.on hB)), f0, f1, f2, f3, f4, f5, f6, f7, (fun _ _ => ⟨W.heap.size, rfl, hlt, by simp, by simp⟩), f9, (fun h h1 => by obtain ⟨g, e, r⟩ := f10 h h1; exact ⟨g, e, r.on hB⟩), (fun h => by obtain ⟨a2, c2, e, r⟩ := f11 h; exact ⟨a2, c2, e, r.on hB⟩), f12, f13, f14⟩
   ·have h11 : L 11 = false := by cases h : L 11 with | false => rfl | true => exact absurd (hv4 h) (by rw [hl]; decide)
    obtain ⟨g, hx, hr⟩ := f8 (hd 8 (by kernel_rfl)) h11
    subst hx
    refine wpOp_step rfl (fun K hK => ?_)
    have hlt : b0 ≤ W.heap.size := Nat.le_trans hb0 hW.out.2.2.2.1
    obtain ⟨⟨y0, y1, y2, y3, y4, y5, y6⟩, yf, yl⟩ := hW.out.2.1.cells
    obtain ⟨z0, z1, z2, z3, z4, z5, z6, z7⟩ := hW.out.2.2.1.cells
    clear hi
    go_simp
    refine (laid_row s g W hr.2.2 hr.2.1 (by omega)).mono ?_
    rintro e w2 ⟨rfl, hB⟩
    exact hK _ _ ⟨_, _, _, _, _, _, _, _, _, _, _, _, _, _, _, _, rfl, RteS.hid (hW.out.on hB), hv0, hv1, hv2, hv3, (fun _ => rfl), (fun h => RteS.hid ((hR h).out.on hB)), f0, f1, f2, f3, f4, f5, f6, f7, (fun h h1 => by obtain ⟨g, e, r⟩ := f8 h h1; exact ⟨g, e, r.on hB⟩), (fun _ => rfl), (fun h h1 => by obtain ⟨g, e, r⟩ := f10 h h1; exact ⟨g, e, r.on hB⟩), (fun h => by obtain ⟨a2, c2, e, r⟩ := f11 h; exact ⟨a2, c2, e, r.on hB⟩), f12, f13, f14⟩
   ·have hx := f9 (hd 9 (by kernel_rfl))
    subst hx
    refine wpOp_step rfl (fun K hK => ?_)
    have hlt : b0 ≤ W.heap.size := Nat.le_trans hb0 hW.out.2.2.2.1
    obtain ⟨⟨y0, y1, y2, y3, y4, y5, y6⟩, yf, yl⟩ := hW.out.2.1.cells
    obtain ⟨z0, z1, z2, z3, z4, z5, z6, z7⟩ := hW.out.2.2.1.cells
    clear hi
    go_simp
    have hB : Below W.heap.size W (W.alloc (.cells #[.string s] 9)) := own_box W s
    exact hK _ _ ⟨_, _, _, _, _, _, _, _, _, _, _, _, _, _, _, _, rfl, RteS.hid (hW.out.on hB), hv0, hv1, hv2, hv3, hv4, (fun h => RteS.hid ((hR h).out.on hB)), f0, f1, f2, f3, f4, f5, f6, f7, (fun h h1 => by obtain ⟨g, e, r⟩ := f8 h h1; exact ⟨g, e, r.on hB⟩), f9, (fun _ _ => ⟨W.heap.size, rfl, hlt, by simp, by simp⟩), (fun h => by obtain ⟨a2, c2, e, r⟩ := f11 h; exact ⟨a2, c2, e, r.on hB⟩), f12, f13, f14⟩
   ·have hx5 := f5 (hd 5 (by kernel_rfl))
    subst x15
    obtain ⟨g, hx, hr⟩ := f10 (hd 10 (by kernel_rfl)) hl
    subst hx
    have HRt := hR hl
    have hbs : b0 ≤ W.heap.size := Nat.le_trans hb0 hW.out.2.2.2.1
    refine wpOp_append_own_at rfl rfl (.tmp 15) (.tmp 20) 26 rfl b0 9 i0 (.string ⟨#[]⟩) 1 16 Tryz.underlying26 hi0 hz0 hz1 hz2 rfl (by decide) vB B.length (strB B) rfl HRt.out.2.1 ⟨g, 0, none⟩ 1 1 [.string s] rfl rfl (fun j u hj => by match j, hj with | 0, hj => simp at hj; subst hj; simpa [Addr.add] using hr.2.2) (by simp [Value.oneCell']) (by unfold maxLen; omega) (by omega) hbs ?_
    intro v2 w4 hown hg _ hat
    obtain ⟨a2, c2, rfl, _⟩ := own_shape hown
    exact ⟨_, _, _, _, _, _, _, _, _, _, _, _, _, _, _, _, rfl, RteS.hid (hW.out.grown HRt.out.2.1 hg), hv0, (fun _ => rfl), (fun h => absurd (hv1 h) (by rw [hl]; decide)), hv3, (fun _ => hd 9 (by kernel_rfl)), (fun h => by simp [AnyO.more] at h), f0, f1, f2, f3, f4, f5, f6, f7, (fun _ h => by simp [AnyO.more] at h), f9, (fun _ h => by simp [AnyO.more] at h), (fun _ => ⟨a2, c2, rfl, HRt.out.pushB hown hg hat⟩), f12, f13, f14⟩
   ·have hx0 := f0 (hd 0 (by kernel_rfl))
    subst hx0
    refine wpOp_step rfl (fun K hK => ?_)
    have hlt : b0 ≤ W.heap.size := Nat.le_trans hb0 hW.out.2.2.2.1
    obtain ⟨⟨y0, y1, y2, y3, y4, y5, y6⟩, yf, yl⟩ := hW.out.2.1.cells
    obtain ⟨z0, z1, z2, z3, z4, z5, z6, z7⟩ := hW.out.2.2.1.cells
    clear hi
    go_simp
    exact hK _ _ ⟨_, _, _, _, _, _, _, _, _, _, _, _, _, _, _, _, rfl, hW, hv0, hv1, hv2, hv3, hv4, hR, f0, f1, f2, f3, f4, f5, f6, f7, f8, f9, f10, f11, (fun _ => rfl), f13, f14⟩
   ·have hx12 := f12 (hd 12 (by kernel_rfl))
    subst hx12
    refine wpOp_step rfl (fun K hK => ?_)
    have hlt : b0 ≤ W.heap.size := Nat.le_trans hb0 hW.out.2.2.2.1
    obtain ⟨⟨y0, y1, y2, y3, y4, y5, y6⟩, yf, yl⟩ := hW.out.2.1.cells
    obtain ⟨z0, z1, z2, z3, z4, z5, z6, z7⟩ := hW.out.2.2.1.cells
    clear hi
    go_simp
    exact hK _ _ ⟨_, _, _, _, _, _, _, _, _, _, _, _, _, _, _, _, rfl, hW, hv0, hv1, hv2, hv3, hv4, hR, f0, f1, f2, f3, f4, f5, f6, f7, f8, f9, f10, f11, f12, (fun _ => rfl), f14⟩
   ·have hx13 := f13 (hd 13 (by kernel_rfl))
    subst hx13
    refine wpOp_step rfl (fun K hK => ?_)
    have hlt : b0 ≤ W.heap.size := Nat.le_trans hb0 hW.out.2.2.2.1
    obtain ⟨⟨y0, y1, y2, y3, y4, y5, y6⟩, yf, yl⟩ := hW.out.2.1.cells
    obtain ⟨z0, z1, z2, z3, z4, z5, z6, z7⟩ := hW.out.2.2.1.cells
    clear hi
    go_simp
    exact hK _ _ ⟨_, _, _, _, _, _, _, _, _, _, _, _, _, _, _, _, rfl, hW, hv0, hv1, hv2, hv3, hv4, hR, f0, f1, f2, f3, f4, f5, f6, f7, f8, f9, f10, f11, f12, f13, (fun _ => rfl)⟩
   ·have hx14 := f14 (hd 14 (by kernel_rfl))
    subst hx14
    obtain ⟨a2, c2, hx, r11⟩ := f11 (hd 11 (by kernel_rfl))
    subst hx
    refine wpOp_step rfl (fun K hK => ?_)
    have hlt : b0 ≤ W.heap.size := Nat.le_trans hb0 hW.out.2.2.2.1
    obtain ⟨⟨y0, y1, y2, y3, y4, y5, y6⟩, yf, yl⟩ := hW.out.2.1.cells
    obtain ⟨z0, z1, z2, z3, z4, z5, z6, z7⟩ := hW.out.2.2.1.cells
    clear hi
    go_simp
    exact hK _ _ ⟨(.slice a2 (B.length + 1) c2), _, _, _, _, _, _, _, _, _, _, _, _, _, _, _, rfl, RteS.hid (hW.out.store _), (fun h => by simp [AnyO.more] at h), (fun _ => hd 11 (by kernel_rfl)), (fun _ => rfl), (fun _ => hd 5 (by kernel_rfl)), hv4, (fun h => absurd (hd 11 (by kernel_rfl)) (by rw [show L 11 = false from h]; decide)), f0, f1, f2, f3, f4, f5, f6, f7, (fun _ h => absurd (hd 11 (by kernel_rfl)) (by rw [show L 11 = false from h]; decide)), f9, (fun _ h => absurd (hd 11 (by kernel_rfl)) (by rw [show L 11 = false from h]; decide)), (fun _ => ⟨a2, c2, rfl, hW.out.rts r11 _⟩), f12, f13, f14⟩
  case fin =>
   rintro L act W ⟨vX, x10, x11, x12, x13, x14, x15, x16, x17, x18, x19, x20, x21, x22, x23, x24, rfl, hW, hv0, hv1, hv2, hv3, hv4, hR, f0, f1, f2, f3, f4, f5, f6, f7, f8, f9, f10, f11, f12, f13, f14⟩ hall
   obtain ⟨a2, c2, e11, r11⟩ := f11 (hall 11 (by omega))
   have e15 := hv2 (hall 15 (by omega))
   rw [e11] at e15
   subst e15
   have hXe : X = B ++ [s] := by rw [← hX.out, if_pos (show ev K 6 ps = (2, 0) from hrr.out)]
   have HQ : Hid (Kp O b0 w W ∧ ∃ vB', WkB W O Bg Bk vP vB' cur ∧ RtS W b0 vP (.slice none 0 0) vB' P [] X) := ⟨hW.out.2.2.2, _, hW.out.2.1, hXe ▸ r11⟩
   clear hv0 hv1 hv2 hv3 hv4 hR f0 f1 f2 f3 f4 f5 f6 f7 f8 f9 f10 f11 f12 f13 f14 hW r11 hall
   go_wp2_with fail
   refine bodyPost_end (v := .tuple #[]) (by simp [results, Tryz.results99, go_sem]) rfl ⟨rfl, HQ.out⟩
  -- end
 ·have hne : ¬ ((r1, r2) : Int × Int) = (2, 0) := fun e => he (by injection e with e1 e2; exact ⟨e1, e2⟩)
  have hXe : X = B := by rw [← hX.out, hrr.out, if_neg hne]
  have HQ : Hid (Kp O b0 w w3 ∧ ∃ vB', WkB w3 O Bg Bk vP vB' cur ∧ RtS w3 b0 vP (.slice none 0 0) vB' P [] X) := ⟨Kp.below HB3.out hb0, vB, HW3.out, hXe ▸ HS3.out⟩
  clear hrr hX hXe
  by_cases e1 : r1 = 2
  ·subst e1
   have e2 : ¬ r2 = 0 := fun h => he ⟨rfl, h⟩
   clear he hne
   go_wp2_with fail
   refine bodyPost_end (v := .tuple #[]) (by simp [results, Tryz.results99, go_sem]) rfl ⟨rfl, HQ.out⟩
  ·clear he hne
   go_wp2_with fail
   refine bodyPost_end (v := .tuple #[]) (by simp [results, Tryz.results99, go_sem]) rfl ⟨rfl, HQ.out⟩
open Go.RowKit Go.Maps
open PrtW PrtM ItmW ItmM FrmM EvlM EvlS ValW NameW RteM RteS BookW PrtI
open AnsW (An an0 nm kd nu cd tx told putA rightA good right_ris)
theorem cpy_num (w : World) (F : Nat) (s : ByteArray) (n : Int) : Cpy w F (s, 1, n, [], ByteArray.empty) (av 1 n none 0 0 ByteArray.empty) := ⟨none, 0, rfl, Codes.nil _ _, RdI.free_nil _ _, RdS.fresh_none _, fun _ => rfl⟩
theorem blk_num {n : Int} {b : Nat} (h : BookW.Blk (av 1 n none 0 0 ByteArray.empty) b) : False := by
 obtain ⟨k', n', o, l', c, t', hv, hl⟩ := h
 simp only [av, Value.agg.injEq, Array.mk.injEq, List.cons.injEq, Value.slice.injEq] at hv
 omega
set_option maxRecDepth 10000 in
set_option maxHeartbeats 3200000 in
theorem impl_compute {F : Nat} (O Bg Bk : Nat) (vP vB : Value) (cur : ByteArray) (K : List An) (D : DataW Value) (k : Int) (s : ByteArray) (ty lo hi : Int) (t : ByteArray) (a : Option Addr) (ps : List Pt) (c : Nat) (hd : Bool) (w : World) (hOB : O ≠ Bk) (hBl : Bk < w.heap.size) (h : WkB w O Bg Bk vP vB cur) (hP : Parts w a ps) (hcap : ps.length ≤ c) (hr : rightB ps = true) (hE : EnvS w) (hBk : BookN w F Bk K D) (hK : rightA K = true) (hl : K.length < 30) (hs : nameB s = true) :
  Calls Tryz.prog 100 #[.pointer (some ⟨O, 0, none⟩), .agg #[.int .i64 k, .string s, .int .i64 ty, .int .i64 lo, .int .i64 hi, .string t, .slice a ps.length c, .bool hd]] w fun e w' => e = .returned (.tuple #[]) ∧ w.grownBy w' (some Bk) ∧ ∃ D', BookN w' F Bk (compK K (k, s, ty, lo, hi, t, ps, hd)) D' ∧ ∀ Dg, SubD D Dg → SubD D' Dg := by
 have hbx := item_box w k s ty lo hi t a ps.length c hd
 have HX : Hid (ItB (w.alloc (.cells #[.int .i64 k, .string s, .int .i64 ty, .int .i64 lo, .int .i64 hi, .string t, .slice a ps.length c, .bool hd] 57)) w.heap.size k s ty lo hi t a ps.length c hd) := heap_alloc_new w _
 have HW1 := RteS.hid (h.on hbx)
 have HP1 := RteS.hid (hP.on hbx)
 have HE1 := RteS.hid (hE.on hbx)
 have HBk1 := RteS.hid (hBk.on hbx)
 have HB1 := RteS.hid hbx
 have HR := RteS.hid hr
 have HK := RteS.hid hK
 have hs20 : s.size ≤ 20 := (of_decide_eq_true hs).2.1
 have HSz : Hid (s.size ≤ 100000) := by show _ ≤ _; omega
 have HSm : Hid (s.size ≤ maxLen) := by show _ ≤ _; unfold maxLen; omega
 have HKm : Hid (K.length < maxLen) := by show _ < _; unfold maxLen; omega
 have HNm := RteS.hid hs
 clear hbx h hP hr hE hBk hs
 obtain ⟨X, hX⟩ : ∃ X, Hid (compK K (k, s, ty, lo, hi, t, ps, hd) = X) := ⟨_, rfl⟩
 rw [hX.out]
 obtain ⟨⟨r1, r2⟩, hrr⟩ : ∃ r, Hid (ev K 6 ps = r) := ⟨_, rfl⟩
 go_enter Tryz.func100, Tryz.ntmps100
 go_upto_region 1 with fail
 generalize w.alloc (.cells #[.int .i64 k, .string s, .int .i64 ty, .int .i64 lo, .int .i64 hi, .string t, .slice a ps.length c, .bool hd] 57) = W1 at *
 obtain ⟨z0, z1, z2, z3, z4, z5, z6, z7⟩ := HX.out.cells
 go_wp2_with fail
 refine (impl_tells O Bg Bk vP vB cur K a c ps W1 HW1.out HP1.out hcap HR.out HE1.out HBk1.out.f HK.out).mono ?_
 rintro e w2 ⟨rfl, hB2⟩
 have HB2 : Hid (Below w.heap.size w w2) := HB1.out.trans (hB2.mono HB1.out.size)
 have HW2 := RteS.hid (HW1.out.on hB2)
 have HX2 := RteS.hid (HX.out.on hB2)
 have HN2 := RteS.hid (HBk1.out.on hB2)
 clear hB2 HW1 HX HP1 HE1 HBk1 HB1 z0 z1 z2 z3 z4 z5 z6 z7
 rw [hrr.out]
 have hb3 : Below w2.heap.size w2 (w2.alloc (.cells #[.int .i64 r1, .int .i64 r2] 86)) := EvlS.below_one w2 _
 have HB3 : Hid (Below w.heap.size w (w2.alloc (.cells #[.int .i64 r1, .int .i64 r2] 86))) := HB2.out.trans (hb3.mono HB2.out.size)
 have HW3 := RteS.hid (HW2.out.on hb3)
 have HX3 := RteS.hid (HX2.out.on hb3)
 have HN3 := RteS.hid (HN2.out.on hb3)
 have HG3 := RteS.hid (R2.new w2 r1 r2)
 have hw2 : w.heap.size ≤ w2.heap.size := HB2.out.size
 clear hb3 HW2 HX2 HN2 HB2
 go_upto_region 2 with fail
 generalize w2.alloc (.cells #[.int .i64 r1, .int .i64 r2] 86) = W3 at *
 generalize w2.heap.size = g2 at *
 obtain ⟨r0', r1', rf⟩ := HG3.out.cells
 have hgl := HG3.out.lt
 dsimp only at r0' r1'
 have HGr : Hid (w.grownBy W3 (some Bk)) := ⟨HB3.out.os, HB3.out.tape, HB3.out.output, HB3.out.size, fun b hb _ => HB3.out.block b hb⟩
 by_cases he : r1 = 1 ∧ -1000000000 ≤ r2 ∧ r2 ≤ 1000000000
 ·obtain ⟨rfl, hlo, hhi⟩ := he
  have hXe : X = putA K (s, 1, r2, [], ByteArray.empty) := by
   rw [← hX.out]
   unfold compK
   rw [if_pos (by show (ev K 6 ps).1 = 1 ∧ _ ≤ (ev K 6 ps).2 ∧ (ev K 6 ps).2 ≤ _; rw [hrr.out]; exact ⟨rfl, hlo, hhi⟩)]
   show putA K (s, 1, (ev K 6 ps).2, [], ByteArray.empty) = _
   rw [hrr.out]
  have hin : Hid (PrtM.inB r2 (-1000000000) 1000000000 = true) := by show _ = _; unfold PrtM.inB; exact decide_eq_true ⟨hlo, hhi⟩
  have HRp : Hid (rightA X = true) := by show _ = _; rw [hXe]; exact (put_known HK.out hl (comp_good (q := (k, s, ty, lo, hi, t, ps, hd)) HNm.out hlo hhi)).1
  have HXe := RteS.hid hXe
  clear hXe hX hrr hlo hhi
  go_wp2_with fail
  refine (PrtI.between_any _ _ _ _).mono ?_
  rintro e w' ⟨rfl, rfl⟩
  rw [hin.out]
  go_upto_region 3 with fail
  have HM := RteS.hid (Mp.on HN3.out.1 (Below.refl _ _).drew)
  have HH := RteS.hid (HN3.out.2.1.on (Below.refl _ _).drew)
  have HApt := RteS.hid HN3.out.2.2
  have hOl := HW3.out.cells.2.2
  have hwl : w.heap.size < w'.heap.size := ItmW.blk_lt HX3.out
  have hMl := HN3.out.1.lt
  obtain ⟨-, y1, -⟩ := HW3.out.cells.1
  obtain ⟨-, x1, -⟩ := HX3.out.cells
  have hgB : g2 ≠ Bk := by omega
  have hwB : w.heap.size ≠ Bk := by omega
  have HAll : Hid (∀ w2, BkS w' Bk w2 → BkS w' Bk w2 ∧ w2.cell? ⟨O, 1, none⟩ = some (.map (some Bk)) ∧ w2.cell? ⟨w.heap.size, 1, none⟩ = some (.string s) ∧ w2.cell? ⟨g2, 0, none⟩ = some (.int .i64 1) ∧ w2.cell? ⟨g2, 1, none⟩ = some (.int .i64 r2)) := fun w2 hS => by
   have hc : ∀ b j, b < w'.heap.size → b ≠ Bk → w2.cell? ⟨b, j, none⟩ = w'.cell? ⟨b, j, none⟩ := fun b j hb hn => World.cell?_of_block (w := w') (hS.1.block b hb (fun e => hn (Option.some.inj e)))
   exact ⟨hS, by rw [hc _ _ hOl hOB]; exact y1, by rw [hc _ _ hwl hwB]; exact x1, by rw [hc _ _ hgl hgB]; exact r0', by rw [hc _ _ hgl hgB]; exact r1'⟩
  have hS0 : BkS w' Bk w'.drew := ⟨⟨rfl, rfl, rfl, Nat.le_refl _, fun _ _ _ => rfl⟩, by show _ ≤ w'.heap.size; omega⟩
  clear y1 x1 r0' r1' rf HX3 HG3
  refine wp_region_held_drew (S := (fun wx => BkS w' Bk wx ∧ wx.cell? ⟨O, 1, none⟩ = some (.map (some Bk)) ∧ wx.cell? ⟨w.heap.size, 1, none⟩ = some (.string s) ∧ wx.cell? ⟨g2, 0, none⟩ = some (.int .i64 1) ∧ wx.cell? ⟨g2, 1, none⟩ = some (.int .i64 r2))) (by kernel_rfl) ?_ (fun hHeld => ?_)
  ·(try dsimp only) <;> (first | exact HAll.out _ hSn | exact HAll.out _ hS0)
  refine tk 0 (some 17) rfl hHeld ?_; (try simp only [Act.put, pA, pB, pC]); refine tk 1 (some 18) rfl hHeld ?_; (try simp only [Act.put, pA, pB, pC]); refine tk 2 (some 19) rfl hHeld ?_; (try simp only [Act.put, pA, pB, pC]); refine tk 3 (some 20) rfl hHeld ?_; (try simp only [Act.put, pA, pB, pC]); refine tk 4 (some 21) rfl hHeld ?_; (try simp only [Act.put, pA, pB, pC]); refine tk 5 (some 22) rfl hHeld ?_; (try simp only [Act.put, pA, pB, pC]); refine tk 8 (some 25) rfl hHeld ?_; (try simp only [Act.put, pA, pB, pC]); refine tk 9 (some 26) rfl hHeld ?_; (try simp only [Act.put, pA, pB, pC]); refine tk 10 (some 27) rfl hHeld ?_; (try simp only [Act.put, pA, pB, pC])
  refine wpAnyH_ready (rs := [6]) (by kernel_rfl) (by simp) ?_
  refine AllReadyH.cons rfl (fun K hK => ?_) AllReadyH.nil
  go_simp
  have hSn := hHeld.1.on ((Below.refl _ _).alloc (Nat.le_refl _) (.cells #[.string s] 9))
  have HM2 := RteS.hid (Mp.on HM.out ((Below.refl _ _).alloc (Nat.le_refl _) (.cells #[.string s] 9)))
  have HH2 := RteS.hid (HH.out.on ((Below.refl _ _).alloc (Nat.le_refl _) (.cells #[.string s] 9)))
  clear HM HH
  have HM := HM2
  have HH := HH2
  clear HM2 HH2
  have HSl := hHeld.1.one s
  refine hK.out _ _ ?_ (fun hHeld2 => ?_)
  ·(try dsimp only) <;> (first | exact HAll.out _ hSn | exact HAll.out _ hS0)
  clear hK K hHeld
  have hHeld := hHeld2
  clear hHeld2
  (try simp only [Act.put, pA, pB, pC])
  refine wpAnyH_ready (rs := [7]) (by kernel_rfl) (by simp) ?_
  refine AllReadyH.cons rfl (fun K hK => ?_) AllReadyH.nil
  go_simp
  go_at_call 93
  have hp := hHeld.1
  refine (laid_at s _ _ HSl HSz.out).mono ?_
  rintro e w5 ⟨rfl, hB⟩
  have HM2 := RteS.hid (Mp.on HM.out hB)
  have HH2 := RteS.hid (HH.out.on hB)
  clear HM HH
  have HM := HM2
  have HH := HH2
  clear HM2 HH2
  have hSn := hp.on hB
  clear hp hB HSl
  (try go_wp2_with fail)
  refine hK.out _ _ ?_ (fun hHeld2 => ?_)
  ·(try dsimp only) <;> (first | exact HAll.out _ hSn | exact HAll.out _ hS0)
  clear hK K hHeld
  have hHeld := hHeld2
  clear hHeld2
  (try simp only [Act.put, pA, pB, pC])
  refine wpAnyH_ready (rs := [11]) (by kernel_rfl) (by simp) ?_
  refine AllReadyH.cons rfl (fun K hK => ?_) AllReadyH.nil
  obtain ⟨wm, hrun, hown, hgr⟩ := HM.out.update key_law Tryz.underlying93 HKm.out (key := .string s) (val := av 1 r2 none 0 0 ⟨#[]⟩) (Go.WideMaps.keyOf_string_mk Tryz.underlying9 HSm.out) rfl
  go_simp
  have hSn := hHeld.1.grown hgr
  refine hK.out _ _ ?_ (fun hHeld2 => ?_)
  ·(try dsimp only) <;> (first | exact HAll.out _ hSn | exact HAll.out _ hS0)
  clear hK K hHeld
  have hHeld := hHeld2
  clear hHeld2
  (try simp only [Act.put, pA, pB, pC])
  refine wpAnyH_done (by kernel_rfl) ?_ _
  have hb9 : BkS w Bk w' := ⟨HGr.out, by omega⟩
  have HQ : Hid (w.grownBy wm (some Bk) ∧ ∃ D', BookN wm F Bk X D' ∧ ∀ Dg, SubD D Dg → SubD D' Dg) := by
   refine ⟨(hb9.grown hHeld.1.1).1, D.put (.string s.data.toList) (.held (av 1 r2 none 0 0 ByteArray.empty)), ?_, fun Dg hD => hD.put HM.out.isMap (fun b hb => (blk_num hb).elim)⟩
   rw [HXe.out]
   exact BookN.put (w := w5) (F := F) (p := (s, 1, r2, [], ByteArray.empty)) (v := av 1 r2 none 0 0 ByteArray.empty) ⟨HM.out, HH.out, HApt.out.1, HApt.out.2⟩ HK.out (by rw [← HXe.out]; exact HRp.out) hgr hown (cpy_num _ _ _ _) (fun b hb => (blk_num hb).elim) (fun _ _ _ _ h _ => (blk_num h).elim)
  clear hHeld hS0 HH HM hown hgr hrun hb9 HAll HGr HN3 HApt
  go_wp2_with fail
  refine bodyPost_end (v := .tuple #[]) (by simp [results, Tryz.results100, go_sem]) rfl ⟨rfl, HQ.out⟩
 ·have hXe : X = K := by
   rw [← hX.out]
   unfold compK
   rw [if_neg (by show ¬ ((ev K 6 ps).1 = 1 ∧ _ ≤ (ev K 6 ps).2 ∧ (ev K 6 ps).2 ≤ _); rw [hrr.out]; exact he)]
  have HQ : Hid (w.grownBy W3 (some Bk) ∧ ∃ D', BookN W3 F Bk X D' ∧ ∀ Dg, SubD D Dg → SubD D' Dg) := ⟨HGr.out, D, hXe ▸ HN3.out, fun _ h => h⟩
  clear hXe hX hrr
  by_cases h1 : r1 = 1
  ·subst h1
   have hin : Hid (PrtM.inB r2 (-1000000000) 1000000000 = false) := by show _ = _; unfold PrtM.inB; exact decide_eq_false fun h => he ⟨rfl, h⟩
   clear he
   go_wp2_with fail
   refine (PrtI.between_any _ _ _ _).mono ?_
   rintro e w' ⟨rfl, rfl⟩
   rw [hin.out]
   go_wp2_with fail
   refine bodyPost_end (v := .tuple #[]) (by simp [results, Tryz.results100, go_sem]) rfl ⟨rfl, HQ.out⟩
  ·have e1 : (r1 == 1) = false := by simpa using h1
   clear he
   go_wp2_with fail
   refine bodyPost_end (v := .tuple #[]) (by simp [results, Tryz.results100, go_sem]) rfl ⟨rfl, HQ.out⟩
end Go.Proofs.YtmbhmknfipdadaaGreatDoor.RteI
namespace Go.Proofs.YtmbhmknfipdadaaGreatDoor.RteS
open Go.RowKit
open PrtW PrtM ItmW ItmM FrmM FitW EvlM ValW NameW RteM
open AnsW (An an0 nm kd nu cd tx told putA rightA good Ans)
theorem rt_no {ls : List It} {an : List An} (h : ¬ (formB ls = true ∧ rightA an = true)) : routeF ls an = (([], [], []), ByteArray.empty, false) := if_neg h
theorem rt_yes {ls : List It} {an : List An} (h1 : formB ls = true) (h2 : rightA an = true) : routeF ls an = routeL an ls.length ls ([], [], []) := if_pos ⟨h1, h2⟩
def RteF (F : Rt) (w : World) (e : Ending) (w' : World) : Prop := ∃ b0, w.heap.size ≤ b0 ∧ RteE F b0 e w'
theorem rte_none (w w' : World) : RteF (([], [], []), ByteArray.empty, false) w (.returned (.agg #[.slice none 0 0, .slice none 0 0, .slice none 0 0, .string ByteArray.empty, .bool false])) w' :=
 ⟨w.heap.size, Nat.le_refl _, _, _, _, rfl, RtS.nil _ _, by decide, by simp, by simp⟩
set_option maxRecDepth 10000 in
set_option maxHeartbeats 1600000 in
theorem spec_right (la : Option Addr) (lc : Nat) (ls : List It) (aa : Option Addr) (ac : Nat) (an : List An) (w : World) (hc : Its w la ls) (hA : Ans w aa an) :
  Calls Tryz.prog 28 #[.slice la ls.length lc, .slice aa an.length ac] w fun e w' => e = .returned (.bool (formB ls && rightA an)) ∧ Below w.heap.size w w' := by
 have HC := hid hc
 have HA := hid hA
 have hl := hc.1
 have hl2 := hA.1
 clear hc hA
 by_cases h1 : 400 < ls.length
 ·have e1 : formB ls = false := form_long (by omega)
  rw [e1]
  go_enter Tryz.func28, Tryz.ntmps28
  go_wp2
  go_ret
  exact ⟨rfl, Below.refl _ _⟩
 by_cases h2 : 400 < an.length
 ·have e1 : rightA an = false := AnsW.rightA_long (by omega)
  rw [e1, Bool.and_false]
  go_enter Tryz.func28, Tryz.ntmps28
  go_wp2
  go_ret
  exact ⟨rfl, Below.refl _ _⟩
 obtain ⟨r, hr⟩ : ∃ r, Hid (formB ls = r) := ⟨_, rfl⟩
 obtain ⟨m, hm⟩ : ∃ m, Hid (rightA an = m) := ⟨_, rfl⟩
 rw [hr.out, hm.out]
 go_enter Tryz.func28, Tryz.ntmps28
 go_wp2_with fail
 refine (FrmS.spec_form la lc ls w HC.out).mono ?_
 rintro e w1 ⟨rfl, hB1⟩
 rw [hr.out]
 have HB1 := hid hB1
 clear hB1
 cases r
 ·go_wp2_with fail
  go_ret
  exact ⟨rfl, HB1.out⟩
 ·go_wp2_with fail
  refine (AnsW.spec_answers aa ac an w1 (HA.out.on HB1.out)).mono ?_
  rintro e w2 ⟨rfl, hB2⟩
  rw [hm.out]
  have HB2 : Hid (Below w.heap.size w w2) := HB1.out.trans (hB2.mono HB1.out.size)
  clear hB2
  go_wp2_with fail
  go_ret
  exact ⟨rfl, HB2.out⟩
theorem rof_ret {Q : Ending → World → Prop} {tmps : Array Value} {W : World} {g : Nat} {vP vK vB : Value} {c : ByteArray} {d : Bool} (ht : tmps[4]?.getD undef = .pointer (some ⟨g, 0, none⟩)) (hB : RoB W g vP vK vB c d) (hq : Q (.returned (.agg #[vP, vK, vB, .string c, .bool d])) W) :
  bodyPost Tryz.prog Tryz.f9 Q Exit.ret { tmps := tmps, defers := [] } W := by
 obtain ⟨⟨y0, y1, y2, y3, y4⟩, _⟩ := hB.cells
 exact bodyPost_ret (v := .agg #[vP, vK, vB, .string c, .bool d]) (by simp [results, Tryz.results9, go_sem, ht, y0, y1, y2, y3, y4]) rfl hq
set_option maxRecDepth 10000 in
set_option maxHeartbeats 1600000 in
theorem spec_route (la : Option Addr) (lc : Nat) (ls : List It) (aa : Option Addr) (ac : Nat) (an : List An) (w : World) (hc : Its w la ls) (hA : Ans w aa an) :
  Calls Tryz.prog 9 #[.slice la ls.length lc, .slice aa an.length ac] w fun e w' => RteF (routeF ls an) w e w' ∧ Below w.heap.size w w' := by
 have HC := hid hc
 have HA := hid hA
 clear hc hA
 obtain ⟨F, hF⟩ : ∃ F, Hid (routeF ls an = F) := ⟨_, rfl⟩
 rw [hF.out]
 have hb := (Below.refl w.heap.size w).alloc (Nat.le_refl _) (.cells #[.slice none 0 0, .slice none 0 0, .slice none 0 0, .string ⟨#[]⟩, .bool false] 29)
 have HR0 : Hid (RoB (w.alloc (.cells #[.slice none 0 0, .slice none 0 0, .slice none 0 0, .string ⟨#[]⟩, .bool false] 29)) w.heap.size (.slice none 0 0) (.slice none 0 0) (.slice none 0 0) ByteArray.empty false) := heap_alloc_new w _
 have HB0 := hid hb
 have hws : (w.alloc (.cells #[.slice none 0 0, .slice none 0 0, .slice none 0 0, .string ⟨#[]⟩, .bool false] 29)).heap.size = w.heap.size + 1 := by simp
 have HWS := hid hws
 clear hb hws
 go_enter Tryz.func9, Tryz.ntmps9
 go_upto_region 1 with fail
 generalize w.alloc (.cells #[.slice none 0 0, .slice none 0 0, .slice none 0 0, .string ⟨#[]⟩, .bool false] 29) = W0 at *
 go_wp2_with fail
 refine (spec_right la lc ls aa ac an W0 (HC.out.on HB0.out) (HA.out.on HB0.out)).mono ?_
 rintro e w1 ⟨rfl, hB1⟩
 have HB1 : Hid (Below w.heap.size w w1) := HB0.out.trans (hB1.mono HB0.out.size)
 have HR1 := hid (HR0.out.on hB1)
 have hs1 : w.heap.size + 1 ≤ w1.heap.size := by have := hB1.size; have := HWS.out; omega
 clear hB1 HB0 HR0 HWS
 by_cases hr : formB ls = true ∧ rightA an = true
 ·have e1 : (formB ls && rightA an) = true := by rw [hr.1, hr.2]; rfl
  have HF := hid hr
  have hFe : Hid (routeL an ls.length ls ([], [], []) = F) := by rw [← hF.out, rt_yes hr.1 hr.2]; rfl
  rw [e1]
  clear e1 hr hF
  go_wp2_with fail
  refine (spec_way la lc ls aa ac an w1 (HC.out.on HB1.out) (HA.out.on HB1.out) HF.out.1 HF.out.2).mono ?_
  rw [hFe.out]
  rintro e w2 ⟨⟨vP, vK, vB, rfl, hS, hK, hlP, hlB⟩, hB2⟩
  have HB2 : Hid (Below w.heap.size w w2) := HB1.out.trans (hB2.mono HB1.out.size)
  have HR2 := hid (HR1.out.on hB2)
  have HS2 := hid hS
  have HK2 := hid hK
  have HL2 := hid (show F.1.1.length ≤ 25 ∧ F.1.2.2.length ≤ 25 from ⟨hlP, hlB⟩)
  obtain ⟨aP, cP, hvP, _⟩ := own_shape HS2.out.1
  obtain ⟨aB, cB, hvB, _⟩ := own_shape HS2.out.2.1
  obtain ⟨ak, ck, hv, _⟩ := HS2.out.ans HK2.out
  subst hvP
  subst hvB
  subst hv
  clear hS hK hlP hlB hB2 HR1 HB1
  obtain ⟨⟨z0, z1, z2, z3, z4⟩, zf, zl⟩ := HR2.out.cells
  go_wp2_with fail
  refine rof_ret (g := w.heap.size) rfl (HR2.out.five _ _ _ _ _) ?_
  have hR := HR2.out
  refine ⟨⟨w1.heap.size + 2, by omega, _, _, _, rfl, ?st, HK2.out, HL2.out.1, HL2.out.2⟩, ?bel⟩
  case st => exact ((((HS2.out.set (by omega) hR.ty 0 _).set (by omega) (hR.setP _).ty 1 _).set (by omega) ((hR.setP _).setK _).ty 2 _).set (by omega) (((hR.setP _).setK _).setB _).ty 3 _).set (by omega) ((((hR.setP _).setK _).setB _).setC _).ty 4 _
  case bel =>
   repeat (refine Below.setCell ?_ (by simp) _)
   exact HB2.out
 ·have e1 : (formB ls && rightA an) = false := by
   cases h1 : formB ls
   ·rfl
   ·cases h2 : rightA an
    ·rfl
    ·exact absurd ⟨h1, h2⟩ hr
  have hFe : Hid (F = (([], [], []), ByteArray.empty, false)) := by rw [← hF.out, rt_no hr]; rfl
  rw [e1]
  clear e1 hr hF
  obtain ⟨⟨z0, z1, z2, z3, z4⟩, zf, zl⟩ := HR1.out.cells
  go_wp2_with fail
  refine rof_ret (g := w.heap.size) rfl (HR1.out.five _ _ _ _ _) ?_
  refine ⟨by rw [hFe.out]; exact rte_none w _, ?bel⟩
  case bel =>
   repeat (refine Below.setCell ?_ (by simp) _)
   exact HB1.out
end Go.Proofs.YtmbhmknfipdadaaGreatDoor.RteS
