/- Texts of ours, laid together: DrawVal, DrawVSpoil, DrawVTop, DrawVRead. -/
import Derived.Test.YtphdkhdlgcglpaaGreatDoorBd5
import Derived.Test.YtphdkhdlgcglpaaGreatDoorBd21
import Derived.Deep.Cut
import Derived.Deep.CutBlock
import Derived.Deep.AppendLies
import Derived.Deep.RegionLaw
/- An answer, as a law draws it: whatever the source gives, an answer with few codes and a short text. -/
namespace Go.Proofs.YtphdkhdlgcglpaaGreatDoor.DrawV
open Go.RowKit
open ValW ValS ValI DrawW RdS
set_option linter.unusedSimpArgs false

/-- one of some texts -/
theorem pick_any (B g n : Nat) (xs : List ByteArray) (w : World) (a : Option Addr) (len cap : Nat) (hd : Dr w B a len cap) (hB : B < g) (hx : w.heap[g]? = some (.cells (strs xs).toArray 9 (0, 0))) (hn : xs.length = n) (h1 : 1 < n) (h2 : n ≤ 1000) :
    Calls Tryz.prog 43 #[.pointer (some ⟨B, 0, none⟩), .slice (some ⟨g, 0, none⟩) n n] w fun e w' =>
      ∃ x : ByteArray, e = .returned (.string x) ∧ x ∈ xs ∧ Dr w' B a len cap ∧ w.grownBy w' (some B) := by
  have HD : Hid (Dr w B a len cap) := hd
  have HX : Hid (w.heap[g]? = some (.cells (strs xs).toArray 9 (0, 0))) := hx
  have hg : g < w.heap.size := (Array.getElem?_eq_some_iff.1 hx).1
  clear hd hx
  go_enter Tryz.func43, Tryz.ntmps43
  go_wp2_with fail
  refine (n_any B n _ a len cap HD.out (by omega)).mono ?_
  rintro e w1 ⟨r, rfl, hr, hd1, hg1⟩
  have HD1 : Hid (Dr w1 B a len cap) := hd1
  have HG1 : Hid (w.grownBy w1 (some B)) := hg1
  have hr2 : r < n := by omega
  have hx1 : w1.heap[g]? = some (.cells (strs xs).toArray 9 (0, 0)) := (hg1.block g hg (by intro e; cases e; omega)).trans HX.out
  obtain ⟨x, hx⟩ : ∃ x, xs[r]? = some x := ⟨_, List.getElem?_eq_getElem (by omega)⟩
  have c : w1.cell? ⟨g, r, none⟩ = some (.string x) := by simp [World.cell?, hx1, strs, hx]
  have HXM : Hid (x ∈ xs) := List.mem_of_getElem? hx
  clear hd1 hg1 hx1 hr hx
  go_wp2
  go_ret
  exact ⟨x, rfl, HXM.out, HD1.out, HG1.out⟩

def vals (k n : Int) (cv : Value) (t : ByteArray) : Array Value := #[.int .i64 k, .int .i64 n, cv, .string t]
/-- an answer under way: the source, the place of the result, the answer itself with the codes that it owns -/
def LF (w : World) (B : Nat) (a : Option Addr) (len cap V : Nat) (k n : Int) (zs : List Int) (cv : Value) (t : ByteArray) (wr : World) : Prop := Dr wr B a len cap ∧ B < w.heap.size ∧ w.heap.size < V ∧ V < wr.heap.size ∧ wr.heap[w.heap.size]? = some (.cells (vals 0 0 (.slice none 0 0) ByteArray.empty) 38 (0, 0)) ∧
  wr.heap[V]? = some (.cells (vals k n cv t) 38 (0, 0)) ∧ wr.ownsRow (V + 1) 2 1 cv zs.length (cellsI zs) ∧ w.grownBy wr (some B)
section
variable {w wr w2 : World} {B : Nat} {a : Option Addr} {len cap V : Nat} {k n : Int} {zs : List Int} {cv : Value} {t : ByteArray}
theorem LF.draw (h : LF w B a len cap V k n zs cv t wr) (hd : Dr w2 B a len cap) (hg : wr.grownBy w2 (some B)) : LF w B a len cap V k n zs cv t w2 := by
  obtain ⟨h1, h2, h3, h4, h5, h6, h7, h8⟩ := h
  refine ⟨hd, h2, h3, Nat.lt_of_lt_of_le h4 hg.size, (hg.block _ (by omega) (by intro e; cases e; omega)).trans h5, (hg.block _ h4 (by intro e; cases e; omega)).trans h6, h7.kept hg ?_, grown_trans h8 hg⟩
  cases e : cv.ownBlock with
  | none => exact .inl rfl
  | some x => exact .inr (by have := (h7.lt x e).1; intro h; cases h; omega)
theorem LF.alloc (h : LF w B a len cap V k n zs cv t wr) (o : Obj) : LF w B a len cap V k n zs cv t (wr.alloc o) :=
  h.draw (h.1.alloc o) (World.grownBy_alloc _ _ _)
theorem LF.drew (h : LF w B a len cap V k n zs cv t wr) : LF w B a len cap V k n zs cv t wr.drew :=
  h.draw (h.1.kept fun _ _ => rfl) ⟨rfl, rfl, rfl, Nat.le_refl _, fun _ _ _ => rfl⟩
theorem LF.set (h : LF w B a len cap V k n zs cv t wr) (j : Nat) (v : Value) {k' n' : Int} {zs' : List Int} {cv' : Value} {t' : ByteArray} (e : (vals k n cv t).setIfInBounds j v = vals k' n' cv' t') (ho : (wr.setCell ⟨V, j, none⟩ v).ownsRow (V + 1) 2 1 cv' zs'.length (cellsI zs')) : LF w B a len cap V k' n' zs' cv' t' (wr.setCell ⟨V, j, none⟩ v) := by
  obtain ⟨h1, h2, h3, h4, h5, h6, h7, h8⟩ := h
  refine ⟨h1.kept fun x hx => heap_setCell_other wr ⟨V, j, none⟩ x v (by simp only; omega), h2, h3, by simpa using h4, (heap_setCell_other wr ⟨V, j, none⟩ _ v (by simp only; omega)).trans h5, ?_, ho, ?_⟩
  · rw [heap_setCell_same wr V j _ 38 v h6, e]
  · exact ⟨h8.os, h8.tape, h8.output, by simpa using h8.size, fun x hx hne => (heap_setCell_other wr ⟨V, j, none⟩ x v (by simp only; omega)).trans (h8.block x hx hne)⟩
theorem LF.setK (h : LF w B a len cap V k n zs cv t wr) (k' : Int) : LF w B a len cap V k' n zs cv t (wr.setCell ⟨V, 0, none⟩ (.int .i64 k')) :=
  h.set 0 _ rfl (ownsRow_setCell_below h.2.2.2.2.2.2.1 (by simp only; omega) _)
theorem LF.setN (h : LF w B a len cap V k n zs cv t wr) (n' : Int) : LF w B a len cap V k n' zs cv t (wr.setCell ⟨V, 1, none⟩ (.int .i64 n')) :=
  h.set 1 _ rfl (ownsRow_setCell_below h.2.2.2.2.2.2.1 (by simp only; omega) _)
theorem LF.setT (h : LF w B a len cap V k n zs cv t wr) (t' : ByteArray) : LF w B a len cap V k n zs cv t' (wr.setCell ⟨V, 3, none⟩ (.string t')) :=
  h.set 3 _ rfl (ownsRow_setCell_below h.2.2.2.2.2.2.1 (by simp only; omega) _)
theorem LF.grown (h : LF w B a len cap V k n zs cv t wr) (hg : wr.grownBy w2 cv.ownBlock) {cv' : Value} {zs' : List Int} (ho : w2.ownsRow (V + 1) 2 1 cv' zs'.length (cellsI zs')) : LF w B a len cap V k n zs' cv' t (w2.setCell ⟨V, 2, none⟩ cv') := by
  obtain ⟨h1, h2, h3, h4, h5, h6, h7, h8⟩ := h
  have hne : ∀ x, x ≤ V → some x ≠ cv.ownBlock := fun x hx e => by have := (h7.lt x e.symm).1; omega
  have hk : ∀ x, x ≤ V → w2.heap[x]? = wr.heap[x]? := fun x hx => hg.block x (by omega) (hne x hx)
  have h0 : w2.heap[V]? = some (.cells (vals k n cv t) 38 (0, 0)) := (hk V (Nat.le_refl _)).trans h6
  refine ⟨h1.kept fun x hx => (heap_setCell_other w2 ⟨V, 2, none⟩ x _ (by simp only; omega)).trans (hk x (by omega)), h2, h3, by have := hg.size; simp; omega, ((heap_setCell_other w2 ⟨V, 2, none⟩ _ _ (by simp only; omega)).trans (hk _ (by omega))).trans h5, ?_, ownsRow_setCell_below ho (by simp only; omega) _, ?_⟩
  · rw [heap_setCell_same w2 V 2 _ 38 _ h0]; rfl
  · exact ⟨hg.os.trans h8.os, hg.tape.trans h8.tape, hg.output.trans h8.output, by have := h8.size; have := hg.size; simp; omega, fun x hx hne2 => ((heap_setCell_other w2 ⟨V, 2, none⟩ x _ (by simp only; omega)).trans (hk x (by omega))).trans (h8.block x hx hne2)⟩
theorem LF.cells (h : LF w B a len cap V k n zs cv t wr) : wr.cell? ⟨V, 0, none⟩ = some (.int .i64 k) ∧ wr.cell? ⟨V, 1, none⟩ = some (.int .i64 n) ∧ wr.cell? ⟨V, 2, none⟩ = some cv ∧ wr.cell? ⟨V, 3, none⟩ = some (.string t) ∧ ∀ j, wr.frozen? ⟨V, j, none⟩ = false := by
  have h6 := h.2.2.2.2.2.1
  exact ⟨by simp [World.cell?, h6, vals], by simp [World.cell?, h6, vals], by simp [World.cell?, h6, vals], by simp [World.cell?, h6, vals], fun j => by simp [World.frozen?, h6]⟩
theorem LF.slice (h : LF w B a len cap V k n zs cv t wr) : ∃ ca cl cc, cv = .slice ca cl cc := by
  rcases h.2.2.2.2.2.2.1.2 with ⟨h0, _⟩ | ⟨g, c, cur, h0, _⟩
  · exact ⟨_, _, _, h0⟩
  · exact ⟨_, _, _, h0⟩
end
theorem dr_set {w : World} {B : Nat} {a : Option Addr} {len cap : Nat} (h : Dr w B a len cap) {p : Addr} (hp : B < p.block) (v : Value) : Dr (w.setCell p v) B a len cap :=
  h.kept fun x hx => heap_setCell_other w p x v (by omega)
theorem grown_set2 {w wr : World} {B : Nat} (h : w.grownBy wr (some B)) {p : Addr} (hp : w.heap.size ≤ p.block) (v : Value) : w.grownBy (wr.setCell p v) (some B) :=
  ⟨h.os, h.tape, h.output, by simpa using h.size, fun x hx hne => (heap_setCell_other wr p x v (by omega)).trans (h.block x hx hne)⟩
def fives : List Int := [-1000000000, 1000000000, 1000000001, 20, 21]
theorem five_cell (r : Nat) (h : r < 5) : (#[Value.int IntKind.i64 (-1000000000), Value.int IntKind.i64 1000000000, Value.int IntKind.i64 1000000001, Value.int IntKind.i64 20, Value.int IntKind.i64 21] : Array Value)[r]? = some (.int .i64 (fives.getD r 0)) := by
  match r, h with
  | 0, _ => rfl
  | 1, _ => rfl
  | 2, _ => rfl
  | 3, _ => rfl
  | 4, _ => rfl
theorem made_bytes (n : Nat) : (madeCells #[Value.int .u8 0] n).toList = TxtS.cellsB (List.replicate n (0 : UInt8)) := by
  unfold madeCells TxtS.cellsB
  apply List.ext_getElem
  · simp
  · intro i h1 h2; simp [Nat.mod_one]
def LV (w : World) (B : Nat) (a : Option Addr) (len cap V m : Nat) (wr : World) : Prop := ∃ (k n : Int) (zs : List Int) (cv : Value) (t : ByteArray), LF w B a len cap V k n zs cv t wr ∧ zs.length ≤ m ∧ t.size ≤ 41
def LRel (w : World) (B : Nat) (a : Option Addr) (len cap V : Nat) (v : Value) (wr : World) : Prop := ∃ j : Nat, 1 ≤ j ∧ j ≤ 5 ∧ v = .int .i64 j ∧ LV w B a len cap V (j - 1) wr
theorem Tryz.infoI64 : (Tryz.prog.info? 2).map (fun i => (i.zero, i.size, i.bytes)) = some (some (.int .i64 0), 1, 8) := by kernel_rfl

set_option maxRecDepth 10000 in
set_option maxHeartbeats 4000000 in
theorem value_any (B : Nat) (w : World) (a : Option Addr) (len cap : Nat) (hd : Dr w B a len cap) :
    Calls Tryz.prog 55 #[.pointer (some ⟨B, 0, none⟩)] w fun e w' =>
      ∃ k n zs t a' cap', e = .returned (av k n a' zs.length cap' t) ∧ Codes w' a' zs ∧ Fresh a' w.heap.size ∧ (a' = none → cap' = 0) ∧ zs.length ≤ 5 ∧ t.size ≤ 41 ∧ Dr w' B a len cap ∧ w.grownBy w' (some B) := by
  have HD : Hid (Dr w B a len cap) := hd
  have hB := hd.lt
  clear hd
  obtain ⟨i0, hi0, hz0, hz1, hz2⟩ := info_parts Tryz.infoI64
  go_enter Tryz.func55, Tryz.ntmps55
  go_wp2_with fail
  refine (n_any B 7 _ a len cap (HD.out.alloc _) (by omega)).mono ?_
  rintro e w1 ⟨r, rfl, hr, hd1, hg1⟩
  have hV : w.heap.size < w1.heap.size := by have := hg1.size; simp at this; omega
  have HL : Hid (LF w B a len cap w1.heap.size r 0 [] (.slice none 0 0) ByteArray.empty (w1.alloc (.cells #[.int .i64 r, .int .i64 0, .slice none 0 0, .string ⟨#[]⟩] 38))) := by
    refine ⟨hd1.alloc _, hB, hV, by simp, ?_, heap_alloc_new w1 _, World.ownsRow_nil _ _ _ _, grown_trans (grown_trans (World.grownBy_alloc _ _ _) hg1) (World.grownBy_alloc _ _ _)⟩
    rw [Below.heap_alloc _ _ _ hV, hg1.block _ (by simp) (by intro e; cases e; omega)]
    exact heap_alloc_new w _
  have hr7 : r < 7 := by omega
  clear hd1 hg1 hr
  go_upto_block 0 with fail
  generalize w1.alloc (.cells #[.int .i64 r, .int .i64 0, .slice none 0 0, .string ⟨#[]⟩] 38) = W at *
  generalize w1.heap.size = V at *
  have hVW := HL.out.2.2.2.1
  obtain ⟨c0, c1, c2, c3, cf⟩ := HL.out.cells
  go_cut [] from 4 (LV w B a len cap V 4)
  case first =>
    by_cases h1 : r = 1
    · have q1 : ((r : Int) == 1) = true := by simp [h1]
      go_wp2_with fail
      refine (n_any B 30 _ a len cap HL.out.1 (by omega)).mono ?_
      rintro e w2 ⟨x, rfl, hx, hd2, hg2⟩
      have HL2 := HL.out.draw hd2 hg2
      obtain ⟨d0, d1, d2, d3, df⟩ := HL2.cells
      have HL3 : Hid (LF w B a len cap V r ((x : Int) - 5) [] (.slice none 0 0) ByteArray.empty (w2.setCell ⟨V, 1, none⟩ (.int .i64 ((x : Int) - 5)))) := HL2.setN _
      have hx2 : x < 30 := by omega
      clear hd2 hg2 HL2 hx
      go_wp2
      go_meet
      exact ⟨_, _, _, _, _, HL3.out, by simp, by decide⟩
    by_cases h2 : r = 2
    · have q1 : ((r : Int) == 1) = false := by simp [h2]
      have q2 : ((r : Int) == 2) = true := by simp [h2]
      go_wp2_with fail
      refine (n_any B 4 _ a len cap HL.out.1 (by omega)).mono ?_
      rintro e w2 ⟨x, rfl, hx, hd2, hg2⟩
      have HL2 := HL.out.draw hd2 hg2
      obtain ⟨d0, d1, d2, d3, df⟩ := HL2.cells
      have HL3 : Hid (LF w B a len cap V r (1 + (x : Int)) [] (.slice none 0 0) ByteArray.empty (w2.setCell ⟨V, 1, none⟩ (.int .i64 (1 + (x : Int))))) := HL2.setN _
      have hx2 : x < 4 := by omega
      clear hd2 hg2 HL2 hx
      go_wp2
      go_meet
      exact ⟨_, _, _, _, _, HL3.out, by simp, by decide⟩
    by_cases h3 : r = 3
    · have q1 : ((r : Int) == 1) = false := by simp [h3]
      have q2 : ((r : Int) == 2) = false := by simp [h3]
      have q3 : ((r : Int) == 3) = true := by simp [h3]
      clear c0 c1 c2 c3 cf h3
      go_wp2_with fail
      go_loopw [4] (LRel w B a len cap V) (fun v _ => 5 - (intOf v).toNat)
      case atStart => exact ⟨1, by omega, by omega, rfl, _, _, _, _, _, HL.out, by simp, by decide⟩
      case round =>
        obtain ⟨j, hj1, hj5, rfl, k, n, zs, cv, t, hl, hzl, htl⟩ := hrel
        have HLR : Hid (LF w B a len cap V k n zs cv t wr) := hl
        have hVr := hl.2.2.2.1
        have hVw := hl.2.2.1
        clear hl
        by_cases hj : j ≤ 4
        · go_wp2_with fail
          refine (one_any B 2 _ a len cap HLR.out.1 (by omega)).mono ?_
          rintro e w2 ⟨b, rfl, hd2, hg2⟩
          have HL2 : Hid (LF w B a len cap V k n zs cv t w2) := HLR.out.draw hd2 hg2
          clear hd2 hg2
          cases b with
          | false =>
            go_wp2
            go_roundw
            case rel => exact ⟨j + 1, by omega, by omega, by go_num, k, n, zs, cv, t, HL2.out, by omega, htl⟩
            case measure => simp [intOf]; omega
          | true =>
            obtain ⟨d0, d1, d2, d3, df⟩ := HL2.out.cells
            obtain ⟨ca, cl, cc, rfl⟩ := HL2.out.slice
            have hown := HL2.out.2.2.2.2.2.2.1
            have hV2 := HL2.out.2.2.2.1
            go_wp2_with (first
              | (at_builtin; refine wpList_append_own _ rfl _ _ 36 rfl (V + 1) 2 i0 (.int .i64 0) 1 8 Tryz.underlying36 hi0 hz0 hz1 hz2 rfl (by decide) _ _ _ rfl (hown.alloc _) ⟨w2.heap.size, 0, none⟩ 1 1 [.int .i64 j] rfl rfl ?c1 ?c2 ?c3 ?c4 ?c5 ?_))
            case c1 =>
              intro x u hx
              match x, hx with
              | 0, hx => simp at hx; subst hx; simp [Addr.add]
            case c2 => intro u hu; simp at hu; subst hu; rfl
            case c3 => unfold maxLen; omega
            case c4 => omega
            case c5 => simp; omega
            intro v' w3 hown3 hgrow3 _
            have hown4 : w3.ownsRow (V + 1) 2 1 v' (zs ++ [(j : Int)]).length (cellsI (zs ++ [(j : Int)])) := by
              rw [cellsI_snoc]; simpa using hown3
            have HL4 : Hid (LF w B a len cap V k n (zs ++ [(j : Int)]) v' t (w3.setCell ⟨V, 2, none⟩ v')) := (HL2.out.alloc _).grown hgrow3 hown4
            have e2 : w3.cell? ⟨V, 2, none⟩ = some (.slice ca cl cc) := by
              have h0 : some V ≠ (Value.slice ca cl cc).ownBlock := fun e => by have := (hown.lt V e.symm).1; omega
              rw [hgrow3.cell_far ⟨V, 2, none⟩ (by simp; omega) h0, World.cell?_alloc_lt _ _ ⟨V, 2, none⟩ (by simp only; omega)]; exact d2
            have f2 : w3.frozen? ⟨V, 2, none⟩ = false := by
              have h0 : some V ≠ (Value.slice ca cl cc).ownBlock := fun e => by have := (hown.lt V e.symm).1; omega
              have hal := (HL2.out.alloc (.cells #[.int .i64 j] 2)).cells.2.2.2.2 2
              rw [hgrow3.frozen_far ⟨V, 2, none⟩ (by simp; omega) h0]; exact hal
            obtain ⟨g, cp, rfl⟩ : ∃ g cp, v' = .slice (some g) (zs.length + 1) cp := by
              obtain ⟨g, cp, hv, _⟩ := hown3.form (by omega)
              exact ⟨_, cp, hv⟩
            clear hown hown3 hgrow3 d0 d1 d2 d3 df hown4
            go_wp2
            go_roundw
            case rel => exact ⟨j + 1, by omega, by omega, by go_num, k, n, zs ++ [(j : Int)], _, t, HL4.out, by simp; omega, htl⟩
            case measure => simp [intOf]; omega
        · go_wp2
          go_meet
          exact ⟨k, n, zs, cv, t, HLR.out, by omega, htl⟩
    by_cases h4 : r = 4
    · have q1 : ((r : Int) == 1) = false := by simp [h4]
      have q2 : ((r : Int) == 2) = false := by simp [h4]
      have q3 : ((r : Int) == 3) = false := by simp [h4]
      have q4 : ((r : Int) == 4) = true := by simp [h4]
      go_wp2_with fail
      refine (pick_any B W.heap.size 5 [⟨#[]⟩, ⟨#[97]⟩, ⟨#[115, 97, 121, 32, 34, 120, 34]⟩, ⟨#[98, 44, 99]⟩, ⟨#[34]⟩] _ a len cap (HL.out.1.alloc _) (by omega) (heap_alloc_new W _) rfl (by omega) (by omega)).mono ?_
      rintro e w2 ⟨x, rfl, hx, hd2, hg2⟩
      have HL2 := (HL.out.alloc _).draw hd2 hg2
      obtain ⟨d0, d1, d2, d3, df⟩ := HL2.cells
      have HL3 : Hid (LF w B a len cap V r 0 [] (.slice none 0 0) x (w2.setCell ⟨V, 3, none⟩ (.string x))) := HL2.setT _
      have HXS : Hid (x.size ≤ 41) := by
        show x.size ≤ 41
        simp only [List.mem_cons, List.mem_nil_iff, or_false] at hx
        rcases hx with rfl | rfl | rfl | rfl | rfl <;> decide
      clear hd2 hg2 HL2 hx
      go_wp2
      go_meet
      exact ⟨_, _, _, _, _, HL3.out, by simp, HXS.out⟩
    · have q1 : ((r : Int) == 1) = false := by simp; omega
      have q2 : ((r : Int) == 2) = false := by simp; omega
      have q3 : ((r : Int) == 3) = false := by simp; omega
      have q4 : ((r : Int) == 4) = false := by simp; omega
      go_wp2
      go_meet
      exact ⟨_, _, _, _, _, HL.out, by simp, by decide⟩
  case rest =>
    obtain ⟨k, n, zs, cv, t, hl, hzl, htl⟩ := hcut
    clear c0 c1 c2 c3 cf HL hVW
    have HLR : Hid (LF w B a len cap V k n zs cv t wc) := hl
    clear hl
    go_wp2_with fail
    refine (one_any B 25 _ a len cap HLR.out.1 (by omega)).mono ?_
    rintro e w2 ⟨b, rfl, hd2, hg2⟩
    have HL2 : Hid (LF w B a len cap V k n zs cv t w2) := HLR.out.draw hd2 hg2
    clear hd2 hg2 HLR
    go_upto_if 43 with fail
    go_cut [] from 4 (LV w B a len cap V 5)
    case first =>
      cases b with
      | false =>
        go_wp2
        go_meet
        exact ⟨k, n, zs, cv, t, HL2.out, by omega, htl⟩
      | true =>
        go_wp2_with fail
        refine (n_any B 5 _ a len cap HL2.out.1 (by omega)).mono ?_
        rintro e w3 ⟨x, rfl, hx, hd3, hg3⟩
        have HL3 : Hid (LF w B a len cap V k n zs cv t w3) := HL2.out.draw hd3 hg3
        obtain ⟨c0, c1, c2, c3, cf⟩ := HL3.out.cells
        have hV3 := HL3.out.2.2.2.1
        have hVw := HL3.out.2.2.1
        clear hd3 hg3 HL2
        by_cases h0 : x = 0
        · have p0 : ((x : Int) == 0) = true := by simp [h0]
          clear h0
          go_wp2_with fail
          refine (n_any B 9 _ a len cap HL3.out.1 (by omega)).mono ?_
          rintro e w4 ⟨y, rfl, hy, hd4, hg4⟩
          have HL4 := HL3.out.draw hd4 hg4
          obtain ⟨d0, d1, d2, d3, df⟩ := HL4.cells
          have HL5 : Hid (LF w B a len cap V ((y : Int) - 1) n zs cv t (w4.setCell ⟨V, 0, none⟩ (.int .i64 ((y : Int) - 1)))) := HL4.setK _
          have hy2 : y < 9 := by omega
          clear hd4 hg4 HL4 hy
          go_wp2
          go_meet
          exact ⟨_, _, _, _, _, HL5.out, by omega, htl⟩
        by_cases h1 : x = 1
        · have p0 : ((x : Int) == 0) = false := by simp [h1]
          have p1 : ((x : Int) == 1) = true := by simp [h1]
          clear h1
          go_wp2_with fail
          refine (n_any B 5 _ a len cap (HL3.out.1.alloc _) (by omega)).mono ?_
          rintro e w4 ⟨y, rfl, hy, hd4, hg4⟩
          have HL4 := (HL3.out.alloc _).draw hd4 hg4
          have hy2 : y < 5 := by omega
          have hcy : w4.cell? ⟨w3.heap.size, y, none⟩ = some (.int .i64 (fives.getD y 0)) := by
            have hb : w4.heap[w3.heap.size]? = _ := (hg4.block w3.heap.size (by simp) (by intro e; cases e; have := HL3.out.2.1; omega)).trans (heap_alloc_new w3 _)
            simp only [World.cell?, hb]
            exact five_cell y hy2
          obtain ⟨d0, d1, d2, d3, df⟩ := HL4.cells
          generalize fives.getD y 0 = v at hcy
          have HL5 : Hid (LF w B a len cap V k v zs cv t (w4.setCell ⟨V, 1, none⟩ (.int .i64 v))) := HL4.setN _
          clear hd4 hg4 HL4 hy
          go_wp2
          go_meet
          exact ⟨_, _, _, _, _, HL5.out, by omega, htl⟩
        by_cases h2 : x = 2
        · have p0 : ((x : Int) == 0) = false := by simp [h2]
          have p1 : ((x : Int) == 1) = false := by simp [h2]
          have p2 : ((x : Int) == 2) = true := by simp [h2]
          clear h2
          obtain ⟨ca, cl, cc, rfl⟩ := HL3.out.slice
          go_upto_region 23 with fail
          go_region_law (first
            | (go_simp
               go_at_call 41
               refine (n_any B 22 w3.drew a len cap HL3.out.drew.1 (by omega)).mono ?_
               rintro e w4 ⟨y, rfl, hy, hd4, hg4⟩
               have HL4 := HL3.out.drew.draw hd4 hg4
               have hV4 := HL4.2.2.2.1
               obtain ⟨d0, d1, d2, d3, df⟩ := HL4.cells
               have d2a : ∀ o, (w4.alloc o).cell? ⟨V, 2, none⟩ = some (.slice ca cl cc) := fun o => (HL4.alloc o).cells.2.2.1
               dsimp only)
            | (refine step_append_lies _ rfl (.tmp 64) (.tmp 67) 36 rfl (V + 1) 2 i0 (.int .i64 0) 1 8 Tryz.underlying36 hi0 hz0 hz1 hz2 rfl (by decide) (.slice ca cl cc) zs.length (cellsI zs) rfl (HL4.2.2.2.2.2.2.1.alloc _) ⟨w4.heap.size, 0, none⟩ 1 1 [.int .i64 y] rfl rfl (by intro j u hj; match j, hj with | 0, hj => (simp at hj; subst hj; simp [Addr.add])) (by intro u hu; simp at hu; subst hu; rfl) (by decide) (by unfold maxLen; omega) (by omega) (by simp; omega) (w4.heap.size + 1) (by simp) ?_
               intro g cp w5 hown5 hgrow5 hat5 hlt5
               have e2 : w5.cell? ⟨V, 2, none⟩ = some (.slice ca cl cc) := by
                 have h0 : some V ≠ (Value.slice ca cl cc).ownBlock := fun e => by have := (HL4.2.2.2.2.2.2.1.lt V e.symm).1; omega
                 rw [hgrow5.cell_far ⟨V, 2, none⟩ (by simp; omega) h0]; exact d2a _
               have f2 : w5.frozen? ⟨V, 2, none⟩ = false := by
                 have h0 : some V ≠ (Value.slice ca cl cc).ownBlock := fun e => by have := (HL4.2.2.2.2.2.2.1.lt V e.symm).1; omega
                 rw [hgrow5.frozen_far ⟨V, 2, none⟩ (by simp; omega) h0]; exact (HL4.alloc _).cells.2.2.2.2 2))
          all_goals
            have hown6 : w5.ownsRow (V + 1) 2 1 (.slice (some ⟨g, 0, none⟩) (zs.length + 1) cp) (zs ++ [(y : Int)]).length (cellsI (zs ++ [(y : Int)])) := by
              rw [cellsI_snoc]; simpa using hown5
            have HL6 : Hid (LF w B a len cap V k n (zs ++ [(y : Int)]) (.slice (some ⟨g, 0, none⟩) (zs.length + 1) cp) t (w5.setCell ⟨V, 2, none⟩ (.slice (some ⟨g, 0, none⟩) (zs.length + 1) cp))) := (HL4.alloc _).grown hgrow5 hown6
            clear hown5 hgrow5 hown6 HL4 d0 d1 d2 d3 df d2a e2 f2 hd4 hg4
            go_wp2
            go_meet
            exact ⟨_, _, _, _, _, HL6.out, by simp; omega, htl⟩
        by_cases h3 : x = 3
        · have p0 : ((x : Int) == 0) = false := by simp [h3]
          have p1 : ((x : Int) == 1) = false := by simp [h3]
          have p2 : ((x : Int) == 2) = false := by simp [h3]
          have p3 : ((x : Int) == 3) = true := by simp [h3]
          clear h3
          obtain ⟨j0, hj0, hy0, hy1, hy2⟩ := info_parts TxtS.Tryz.infoB
          go_wp2_with (first | (at_make; refine wpList_make_full _ rfl _ _ 22 rfl w3.heap.size 5 j0 (.int .u8 0) 1 Tryz.underlying22 hj0 hy0 hy1 _ _ _ _ 41 rfl rfl rfl rfl ?m1 ?m2 ?m3 ?_))
          case m1 => rw [hy2]; omega
          case m2 => unfold maxLen; omega
          case m3 => exact Nat.le_refl _
          intro w4 hown4 hgrow4
          rw [made_bytes] at hown4
          have hcv := TxtS.conv_own hown4
          have HL4 : Hid (LF w B a len cap V k n zs cv t w4) := HL3.out.draw (HL3.out.1.kept fun x hx => hgrow4.block x (Nat.lt_of_le_of_lt hx HL3.out.1.lt) (by simp)) ⟨hgrow4.os, hgrow4.tape, hgrow4.output, hgrow4.size, fun x hx _ => hgrow4.block x hx (by simp)⟩
          obtain ⟨z, hz⟩ := TxtS.hide (⟨(List.replicate 41 (0 : UInt8)).toArray⟩ : ByteArray)
          have HZ : Hid (z.size ≤ 41) := by show _ ≤ _; rw [TxtM.size_len, ← hz.out, TxtM.data_mk]; simp
          rw [hz.out] at hcv
          clear hown4 hgrow4
          go_wp2_with fail
          refine (pick_any B w4.heap.size 2 [⟨#[10]⟩, z] _ a len cap (HL4.out.1.alloc _) (by have := HL4.out.1.lt; omega) (heap_alloc_new w4 _) rfl (by omega) (by omega)).mono ?_
          rintro e w5 ⟨u, rfl, hu, hd5, hg5⟩
          have HL5 := (HL4.out.alloc _).draw hd5 hg5
          obtain ⟨d0, d1, d2, d3, df⟩ := HL5.cells
          have HL6 : Hid (LF w B a len cap V k n zs cv u (w5.setCell ⟨V, 3, none⟩ (.string u))) := HL5.setT _
          have HU : Hid (u.size ≤ 41) := by
            show u.size ≤ 41
            simp only [List.mem_cons, List.mem_nil_iff, or_false] at hu
            rcases hu with rfl | rfl
            · decide
            · exact HZ.out
          clear hd5 hg5 HL5 hu
          go_wp2
          go_meet
          exact ⟨_, _, _, _, _, HL6.out, by omega, HU.out⟩
        · have p0 : ((x : Int) == 0) = false := by simp; omega
          have p1 : ((x : Int) == 1) = false := by simp; omega
          have p2 : ((x : Int) == 2) = false := by simp; omega
          have p3 : ((x : Int) == 3) = false := by simp; omega
          have HL5 : Hid (LF w B a len cap V k n zs cv ⟨#[116]⟩ (w3.setCell ⟨V, 3, none⟩ (.string ⟨#[116]⟩))) := HL3.out.setT _
          go_wp2
          go_meet
          exact ⟨_, _, _, _, _, HL5.out, by omega, by decide⟩
    case rest =>
      obtain ⟨k', n', zs', cv', t', hl, hzl', htl'⟩ := hcut
      clear HL2
      obtain ⟨c0, c1, c2, c3, cf⟩ := hl.cells
      obtain ⟨h1, h2, h3, h4, h5, h6, h7, h8⟩ := hl
      obtain ⟨a', cap', rfl, hcd, hap⟩ := own_codes h7 (by omega)
      have hN : a' = none → cap' = 0 := by
        rcases h7.2 with ⟨h0, _⟩ | ⟨g, c, cur, h0, _⟩
        · injection h0 with e1 e2 e3; intro _; exact e3
        · injection h0 with e1; intro e; rw [e] at e1; cases e1
      have b0 : wc.cell? ⟨w.heap.size, 0, none⟩ = some (.int .i64 0) := by simp [World.cell?, h5, vals]
      have b1 : wc.cell? ⟨w.heap.size, 1, none⟩ = some (.int .i64 0) := by simp [World.cell?, h5, vals]
      have b2 : wc.cell? ⟨w.heap.size, 2, none⟩ = some (.slice none 0 0) := by simp [World.cell?, h5, vals]
      have b3 : wc.cell? ⟨w.heap.size, 3, none⟩ = some (.string ByteArray.empty) := by simp [World.cell?, h5, vals]
      have g0 : ∀ j, wc.frozen? ⟨w.heap.size, j, none⟩ = false := fun j => by simp [World.frozen?, h5]
      have HD2 : Hid (Dr wc B a len cap) := h1
      have HCD : Hid (Codes wc a' zs') := hcd
      have HG : Hid (w.grownBy wc (some B)) := h8
      have hFR : Fresh a' (V + 1) := fun b o hb => by
        rcases hap with h | ⟨g, h, hg⟩
        · rw [h] at hb; cases hb
        · rw [h] at hb; cases hb; exact hg
      clear h1 h5 h6 h7 h8 hcd hap
      go_wp2
      refine bodyPost_ret (v := av k' n' a' zs'.length cap' t') (by simp [results, Tryz.results55, go_sem, b0, b1, b2, b3]) rfl ⟨k', n', zs', t', a', cap', rfl, ?_, fun b o hb => by have := hFR b o hb; omega, hN, hzl', htl', ?_, ?_⟩
      · repeat (refine codes_set ?_ (fun b o hb => by have := hFR b o hb; simp only; omega) _)
        exact HCD.out
      · repeat (refine dr_set ?_ (by simp only; omega) _)
        exact HD2.out
      · repeat (refine grown_set2 ?_ (by simp only; omega) _)
        exact HG.out
end Go.Proofs.YtphdkhdlgcglpaaGreatDoor.DrawV
/- A text that is changed a little, as a law draws it: a bound of its length. -/
namespace Go.Proofs.YtphdkhdlgcglpaaGreatDoor.DrawV
open Go.RowKit
open ValW ValS ValI DrawW RdS
set_option linter.unusedSimpArgs false

theorem size_one (z : UInt8) : (ByteArray.mk #[z]).size = 1 := rfl
set_option maxRecDepth 10000 in
set_option maxHeartbeats 1000000 in
theorem spoil_any (B : Nat) (t : ByteArray) (w : World) (a : Option Addr) (len cap : Nat) (hd : Dr w B a len cap) (ht : t.size ≤ 1000) :
    Calls Tryz.prog 42 #[.pointer (some ⟨B, 0, none⟩), .string t] w fun e w' =>
      ∃ s : ByteArray, e = .returned (.string s) ∧ s.size ≤ t.size + 1 ∧ Dr w' B a len cap ∧ w.grownBy w' (some B) := by
  have HD : Hid (Dr w B a len cap) := hd
  have hB := hd.lt
  clear hd
  go_enter Tryz.func42, Tryz.ntmps42
  go_wp2_with fail
  refine (n_any B (t.size + 1) _ a len cap HD.out (by omega)).mono ?_
  rintro e w1 ⟨k, rfl, hk, hd1, hg1⟩
  have hk2 : k ≤ t.size := by omega
  have HD1 : Hid (Dr w1 B a len cap) := hd1
  have HG1 : Hid (w.grownBy w1 (some B)) := hg1
  clear hd1 hg1 hk
  go_wp2_with fail
  refine (n_any B 17 _ a len cap HD1.out (by omega)).mono ?_
  rintro e w2 ⟨x, rfl, hx, hd2, hg2⟩
  have hx2 : x < 17 := by omega
  have HD2 : Hid (Dr w2 B a len cap) := hd2
  have HG2 : Hid (w.grownBy w2 (some B)) := grown_trans HG1.out hg2
  have hx3 : (x : Int) < 17 := by omega
  have hcv : ∀ z : UInt8, (convert 22 9 (.slice (some ⟨w2.heap.size, 0, none⟩) 1 1)).run Tryz.prog (w2.alloc (.cells #[.int .u8 (z.toNat : Int)] 5)) = .ok (.string ⟨#[z]⟩) (w2.alloc (.cells #[.int .u8 (z.toNat : Int)] 5)) := fun z =>
    TxtS.conv_own (l := [z]) (World.ownsRow_lit (base := 0) (e := 5) (size := 1) w2 #[.int .u8 (z.toNat : Int)] 1 (Nat.zero_le _) (by unfold maxLen; omega) rfl)
  have HW : Hid (∀ z : UInt8, Dr (w2.alloc (.cells #[.int .u8 (z.toNat : Int)] 5)) B a len cap ∧ w.grownBy (w2.alloc (.cells #[.int .u8 (z.toNat : Int)] 5)) (some B)) := fun z => ⟨HD2.out.alloc _, grown_trans HG2.out (World.grownBy_alloc _ _ _)⟩
  clear hd2 hg2 hx
  by_cases hke : k = t.size
  · have p1 : ((k : Int) == (t.size : Int)) = true := by simp [hke]
    have p2 : (k : Int) = t.size := by omega
    go_wp2_with fail
    generalize (ByteArray.mk #[32, 10, 48, 97, 45, 110, 44, 58, 93, 255, 40, 120, 126, 49, 128, 225, 59])[x]'(show x < 17 from hx2) = z at *
    obtain ⟨hd3, hg3⟩ := HW.out z
    have HD3 : Hid (Dr (w2.alloc (.cells #[.int .u8 (z.toNat : Int)] 5)) B a len cap) := hd3
    have HG3 : Hid (w.grownBy (w2.alloc (.cells #[.int .u8 (z.toNat : Int)] 5)) (some B)) := hg3
    clear hd3 hg3 hcv HW
    generalize w2.alloc (.cells #[.int .u8 (z.toNat : Int)] 5) = W at *
    go_region
    go_wp2
    go_ret
    exact ⟨_, rfl, by simp only [ByteArray.size_append, ByteArray.size_extract, size_one]; omega, HD3.out.kept fun _ _ => rfl, grown_trans HG3.out ⟨rfl, rfl, rfl, Nat.le_refl _, fun _ _ _ => rfl⟩⟩
  · have p1 : ((k : Int) == (t.size : Int)) = false := by simp; omega
    have p2 : ¬ (k : Int) = t.size := by omega
    have p3 : (k : Int) + 1 ≤ t.size := by omega
    go_wp2_with fail
    generalize (ByteArray.mk #[32, 10, 48, 97, 45, 110, 44, 58, 93, 255, 40, 120, 126, 49, 128, 225, 59])[x]'(show x < 17 from hx2) = z at *
    obtain ⟨hd3, hg3⟩ := HW.out z
    have HG3 : Hid (w.grownBy (w2.alloc (.cells #[.int .u8 (z.toNat : Int)] 5)) (some B)) := hg3
    clear hg3 hcv HW
    refine (one_any B 3 _ a len cap hd3 (by omega)).mono ?_
    rintro e w4 ⟨b, rfl, hd4, hg4⟩
    have HD4 : Hid (Dr w4 B a len cap) := hd4
    have HG4 : Hid (w.grownBy w4 (some B)) := grown_trans HG3.out hg4
    clear hd4 hg4 hd3 HG3
    cases b
    · go_wp2_with fail
      refine (one_any B 2 _ a len cap HD4.out (by omega)).mono ?_
      rintro e w5 ⟨b, rfl, hd5, hg5⟩
      have HD5 : Hid (Dr w5 B a len cap) := hd5
      have HG5 : Hid (w.grownBy w5 (some B)) := grown_trans HG4.out hg5
      clear hd5 hg5 HD4 HG4
      cases b
      · go_wp2_with fail
        go_region
        go_wp2
        go_ret
        exact ⟨_, rfl, by simp only [ByteArray.size_append, ByteArray.size_extract, size_one]; omega, HD5.out.kept fun _ _ => rfl, grown_trans HG5.out ⟨rfl, rfl, rfl, Nat.le_refl _, fun _ _ _ => rfl⟩⟩
      · go_wp2_with fail
        go_region
        go_wp2
        go_ret
        exact ⟨_, rfl, by simp only [ByteArray.size_append, ByteArray.size_extract, size_one]; omega, HD5.out.kept fun _ _ => rfl, grown_trans HG5.out ⟨rfl, rfl, rfl, Nat.le_refl _, fun _ _ _ => rfl⟩⟩
    · go_wp2_with fail
      go_region
      go_wp2
      go_ret
      exact ⟨_, rfl, by simp only [ByteArray.size_append, ByteArray.size_extract, size_one]; omega, HD4.out.kept fun _ _ => rfl, grown_trans HG4.out ⟨rfl, rfl, rfl, Nat.le_refl _, fun _ _ _ => rfl⟩⟩
end Go.Proofs.YtphdkhdlgcglpaaGreatDoor.DrawV
/- What a law draws of answers, made of bytes that came in: an answer, an answer with a number. -/
namespace Go.Proofs.YtphdkhdlgcglpaaGreatDoor.DrawV
open Go.RowKit
open ValW ValS ValI DrawW RdS
set_option linter.unusedSimpArgs false

theorem code_more {w w' : World} {B B' : Nat} {a : Option Addr} {len : Nat} (h : CodeAt w B a len) (hb : B ≤ B') (hk : ∀ k, k < B → w'.heap[k]? = w.heap[k]?) : CodeAt w' B' a len := by
  obtain ⟨h1, h2⟩ := h.kept hk
  refine ⟨h1, fun hp => ?_⟩
  obtain ⟨b, off, ha, hb2, hz⟩ := h2 hp
  exact ⟨b, off, ha, by omega, hz⟩
theorem source_at (w : World) (B : Nat) (a : Option Addr) (len cap : Nat) (hB : w.heap.size = B) (hc : CodeAt w B a len) :
    Calls Tryz.prog 38 #[.slice a len cap] w fun e w' =>
      e = .returned (.pointer (some ⟨B, 0, none⟩)) ∧ Dr w' B a len cap ∧ Below B w w' := by
  subst hB
  exact source_any w a len cap hc
/-- the place of a result that is not yet filled -/
def Zero (w : World) (b : Nat) : Prop := w.heap[b]? = some (.cells (vals 0 0 (.slice none 0 0) ByteArray.empty) 38 (0, 0))
theorem Zero.cells {w : World} {b : Nat} (h : Zero w b) : w.cell? ⟨b, 0, none⟩ = some (.int .i64 0) ∧ w.cell? ⟨b, 1, none⟩ = some (.int .i64 0) ∧ w.cell? ⟨b, 2, none⟩ = some (.slice none 0 0) ∧ w.cell? ⟨b, 3, none⟩ = some (.string ByteArray.empty) ∧ ∀ j, w.frozen? ⟨b, j, none⟩ = false := by
  unfold Zero at h
  exact ⟨by simp [World.cell?, h, vals], by simp [World.cell?, h, vals], by simp [World.cell?, h, vals], by simp [World.cell?, h, vals], fun j => by simp [World.frozen?, h]⟩

set_option maxRecDepth 10000 in
set_option maxHeartbeats 400000 in
theorem drawText_any (w : World) (a : Option Addr) (len cap : Nat) (hc : CodeAt w w.heap.size a len) :
    Calls Tryz.prog 19 #[.slice a len cap] w fun e w' =>
      ∃ k n zs t a' cap', e = .returned (av k n a' zs.length cap' t) ∧ Codes w' a' zs ∧ Fresh a' (w.heap.size + 1) ∧ (a' = none → cap' = 0) ∧ zs.length ≤ 5 ∧ t.size ≤ 41 ∧ Below w.heap.size w w' := by
  have HC : Hid (CodeAt w w.heap.size a len) := hc
  clear hc
  go_enter Tryz.func19, Tryz.ntmps19
  go_wp2_with fail
  refine (source_at _ (w.heap.size + 1) a len cap (by simp) (code_more HC.out (by omega) fun k hk => Below.heap_alloc w _ k hk)).mono ?_
  rintro e w1 ⟨rfl, hd1, hB1⟩
  have hs1 : w.heap.size + 1 < w1.heap.size := hd1.lt
  have hz1 : Zero w1 w.heap.size := (hB1.block _ (by omega)).trans (heap_alloc_new w _)
  have HZ1 : Hid (Zero w1 w.heap.size) := hz1
  have HD1 : Hid (Dr w1 (w.heap.size + 1) a len cap) := hd1
  have HB1 : Hid (Below w.heap.size w w1) := (below_one w _).trans (hB1.mono (by omega))
  clear hd1 hB1 hz1
  go_wp2_with fail
  refine (value_any (w.heap.size + 1) w1 a len cap HD1.out).mono ?_
  rintro e w2 ⟨k, n, zs, t, a', cap', rfl, hcd, hfr, hN, hz, ht, hd2, hg2⟩
  have HB2 : Hid (Below w.heap.size w w2) := HB1.out.trans (grown_below hg2 (by omega) HB1.out.size)
  have hz2 : Zero w2 w.heap.size := (hg2.block _ (by omega) (by intro e; have := Option.some.inj e; omega)).trans HZ1.out
  obtain ⟨b0, b1, b2, b3, g0⟩ := hz2.cells
  have HCD : Hid (Codes w2 a' zs) := hcd
  have HFR : Hid (Fresh a' w1.heap.size) := hfr
  clear hcd hfr hd2 hg2 hz2
  go_wp2
  refine bodyPost_ret (v := av k n a' zs.length cap' t) (by simp [results, Tryz.results19, go_sem, b0, b1, b2, b3]) rfl ⟨k, n, zs, t, a', cap', rfl, ?_, fun b o hb => by have := HFR.out b o hb; omega, hN, hz, ht, ?_⟩
  · repeat (refine codes_set ?_ (fun b o hb => by have := HFR.out b o hb; simp only; omega) _)
    exact HCD.out
  · repeat (refine Below.setCell ?_ (by simp) _)
    exact HB2.out

set_option maxRecDepth 10000 in
set_option maxHeartbeats 400000 in
theorem drawHas_any (w : World) (a : Option Addr) (len cap : Nat) (hc : CodeAt w w.heap.size a len) :
    Calls Tryz.prog 24 #[.slice a len cap] w fun e w' =>
      ∃ k n zs t a' cap', ∃ c : Nat, e = .returned (.tuple #[av k n a' zs.length cap' t, .int .i64 c]) ∧ c < 6 ∧ Codes w' a' zs ∧ Fresh a' (w.heap.size + 1) ∧ (a' = none → cap' = 0) ∧ zs.length ≤ 5 ∧ t.size ≤ 41 ∧ Below w.heap.size w w' := by
  have HC : Hid (CodeAt w w.heap.size a len) := hc
  clear hc
  go_enter Tryz.func24, Tryz.ntmps24
  go_wp2_with fail
  refine (source_at _ (w.heap.size + 1) a len cap (by simp) (code_more HC.out (by omega) fun k hk => Below.heap_alloc w _ k hk)).mono ?_
  rintro e w1 ⟨rfl, hd1, hB1⟩
  have hs1 : w.heap.size + 1 < w1.heap.size := hd1.lt
  have hz1 : Zero w1 w.heap.size := (hB1.block _ (by omega)).trans (heap_alloc_new w _)
  have HZ1 : Hid (Zero w1 w.heap.size) := hz1
  have HD1 : Hid (Dr w1 (w.heap.size + 1) a len cap) := hd1
  have HB1 : Hid (Below w.heap.size w w1) := (below_one w _).trans (hB1.mono (by omega))
  clear hd1 hB1 hz1
  go_wp2_with fail
  refine (value_any (w.heap.size + 1) w1 a len cap HD1.out).mono ?_
  rintro e w2 ⟨k, n, zs, t, a', cap', rfl, hcd, hfr, hN, hz, ht, hd2, hg2⟩
  have HB2 : Hid (Below w.heap.size w w2) := HB1.out.trans (grown_below hg2 (by omega) HB1.out.size)
  have hs2 : w1.heap.size ≤ w2.heap.size := hg2.size
  have HZ2 : Hid (Zero w2 w.heap.size) := (hg2.block _ (by omega) (by intro e; have := Option.some.inj e; omega)).trans HZ1.out
  have HCD : Hid (Codes w2 a' zs) := hcd
  have HFR : Hid (Fresh a' w1.heap.size) := hfr
  have HD2 : Hid (Dr w2 (w.heap.size + 1) a len cap) := hd2
  clear hcd hfr hd2 hg2 HZ1 HB1 HD1 HC
  have hs3 : w2.heap.size < (w2.alloc (.cells #[.int .i64 k, .int .i64 n, .slice a' zs.length cap', .string t] 38)).heap.size := by simp
  have HV : Hid (At4 (w2.alloc (.cells #[.int .i64 k, .int .i64 n, .slice a' zs.length cap', .string t] 38)) w2.heap.size (.int .i64 k) (.int .i64 n) (.slice a' zs.length cap') (.string t)) := At4.laid w2 _ _ _ _ _
  have HZ3 : Hid (Zero (w2.alloc (.cells #[.int .i64 k, .int .i64 n, .slice a' zs.length cap', .string t] 38)) w.heap.size) := (Below.heap_alloc _ _ _ (by omega)).trans HZ2.out
  have HC3 : Hid (Codes (w2.alloc (.cells #[.int .i64 k, .int .i64 n, .slice a' zs.length cap', .string t] 38)) a' zs) := HCD.out.alloc _
  have HD3 : Hid (Dr (w2.alloc (.cells #[.int .i64 k, .int .i64 n, .slice a' zs.length cap', .string t] 38)) (w.heap.size + 1) a len cap) := HD2.out.alloc _
  have HB3 : Hid (Below w.heap.size w (w2.alloc (.cells #[.int .i64 k, .int .i64 n, .slice a' zs.length cap', .string t] 38))) := HB2.out.trans ((below_one w2 _).mono (by omega))
  go_wp2_with fail
  clear HZ2 HCD HD2 HB2
  generalize w2.alloc (.cells #[.int .i64 k, .int .i64 n, .slice a' zs.length cap', .string t] 38) = W at *
  generalize w2.heap.size = V at *
  have step : Hid (∀ X : World, X.heap = W.heap → W.grownBy X none → Calls Tryz.prog 41 #[.pointer (some ⟨w.heap.size + 1, 0, none⟩), .int .i64 6] X fun e w' =>
      ∃ r : Nat, e = .returned (.int .i64 r) ∧ r < 6 ∧ Codes w' a' zs ∧ Below w.heap.size w w' ∧ Zero w' w.heap.size ∧ At4 w' V (.int .i64 k) (.int .i64 n) (.slice a' zs.length cap') (.string t)) := by
    intro X hX hgX
    refine (n_any (w.heap.size + 1) 6 X a len cap (HD3.out.kept fun j _ => by rw [hX]) (by omega)).mono ?_
    rintro e w' ⟨r, rfl, hr, -, hg⟩
    have hk : ∀ j, j < W.heap.size → j ≠ w.heap.size + 1 → w'.heap[j]? = W.heap[j]? := fun j hj hne => by
      rw [hg.block j (by rw [hX]; exact hj) (by intro e; exact hne (Option.some.inj e)), hX]
    have hsz : W.heap.size ≤ w'.heap.size := by have := hg.size; rw [hX] at this; exact this
    refine ⟨r, rfl, by omega, ⟨HC3.out.1, fun hp => ?_⟩, ⟨?_, ?_, ?_, Nat.le_trans HB3.out.size hsz, fun j hj => (hk j (by have := HB3.out.size; omega) (by omega)).trans (HB3.out.block j hj)⟩, (hk _ (by omega) (by omega)).trans HZ3.out, ?_⟩
    · obtain ⟨b, o, ha, hb, hc⟩ := HC3.out.2 hp
      have := HFR.out b o ha
      exact ⟨b, o, ha, by omega, fun i hi => by rw [World.cell?_of_block (w := W) (hk b hb (by omega))]; exact hc i hi⟩
    · exact hg.os.trans (hgX.os.trans HB3.out.os)
    · exact hg.tape.trans (hgX.tape.trans HB3.out.tape)
    · exact hg.output.trans (hgX.output.trans HB3.out.output)
    · obtain ⟨x0, x1, x2, x3, x4⟩ := HV.out
      have e := hk V hs3 (by omega)
      exact ⟨(World.cell?_of_block (w := W) e).trans x0, (World.cell?_of_block (w := W) e).trans x1, (World.cell?_of_block (w := W) e).trans x2, (World.cell?_of_block (w := W) e).trans x3, by omega⟩
  obtain ⟨x0, x1, x2, x3, x4⟩ := HV.out
  go_region_with (first
    | (go_at_call 41
       refine (step.out W.drew rfl ⟨rfl, rfl, rfl, Nat.le_refl _, fun _ _ _ => rfl⟩).mono ?_
       rintro e w4 ⟨r, rfl, hr, hc4, hB4, hz4, hV4⟩
       obtain ⟨y0, y1, y2, y3, y4⟩ := hV4
       obtain ⟨b0, b1, b2, b3, g0⟩ := hz4.cells))
  all_goals
    go_wp2
    refine bodyPost_ret (v := .tuple #[av k n a' zs.length cap' t, .int .i64 r]) (by simp [results, Tryz.results24, go_sem, b0, b1, b2, b3]) rfl ⟨k, n, zs, t, a', cap', r, rfl, hr, ?_, fun b o hb => by have := HFR.out b o hb; omega, hN, hz, ht, ?_⟩
    · repeat (refine codes_set ?_ (fun b o hb => by have := HFR.out b o hb; simp only; omega) _)
      exact hc4
    · repeat (refine Below.setCell ?_ (by simp) _)
      exact hB4
end Go.Proofs.YtphdkhdlgcglpaaGreatDoor.DrawV
/- A text as a law draws it, for an answer to be read of: a bound of its length. -/
namespace Go.Proofs.YtphdkhdlgcglpaaGreatDoor.DrawV
open Go.RowKit
open ValW ValS ValI DrawW RdS TxtS TxtM RdM
set_option linter.unusedSimpArgs false

theorem textB_len (k n : Int) (zs : List Int) (t : ByteArray) : (textB k n zs t).size ≤ 100 := by
  unfold textB
  by_cases h : ValM.right k n zs t = true
  · rw [if_pos h, size_len, data_mk]; exact text_len h
  · rw [if_neg h]; decide

def reads : List ByteArray := [⟨#[]⟩, ⟨#[45, 48]⟩, ⟨#[48, 49]⟩, ⟨#[35, 48]⟩, ⟨#[35, 50, 49]⟩, ⟨#[123, 125]⟩, ⟨#[123, 49, 44, 49, 125]⟩, ⟨#[123, 44, 125]⟩, ⟨#[34]⟩, ⟨#[34, 97]⟩, ⟨#[34, 34, 34]⟩, ⟨#[68]⟩, ⟨#[68, 75, 32]⟩, ⟨#[123, 49]⟩, ⟨#[45, 45, 49]⟩, ⟨#[49, 48, 48, 48, 48, 48, 48, 48, 48, 49]⟩]
theorem reads_len : ∀ x ∈ reads, x.size ≤ 10 := by decide

set_option maxRecDepth 10000 in
set_option maxHeartbeats 1000000 in
theorem drawRead_any (w : World) (a : Option Addr) (len cap : Nat) (hc : CodeAt w w.heap.size a len) :
    Calls Tryz.prog 21 #[.slice a len cap] w fun e w' =>
      ∃ s : ByteArray, e = .returned (.string s) ∧ s.size ≤ 101 ∧ Below w.heap.size w w' := by
  have HC : Hid (CodeAt w w.heap.size a len) := hc
  clear hc
  go_enter Tryz.func21, Tryz.ntmps21
  go_wp2_with fail
  refine (source_any w a len cap HC.out).mono ?_
  rintro e w1 ⟨rfl, hd1, hB1⟩
  have HD1 : Hid (Dr w1 w.heap.size a len cap) := hd1
  have HB1 : Hid (Below w.heap.size w w1) := hB1
  clear hd1 hB1
  go_wp2_with fail
  refine (value_any w.heap.size w1 a len cap HD1.out).mono ?_
  rintro e w2 ⟨k, n, zs, t, a', cap', rfl, hcd, hfr, hN, hz, ht, hd2, hg2⟩
  have HB2 : Hid (Below w.heap.size w w2) := HB1.out.trans (grown_below hg2 (Nat.le_refl _) HB1.out.size)
  have HCD : Hid (Codes w2 a' zs) := hcd
  have HD2 : Hid (Dr w2 w.heap.size a len cap) := hd2
  clear hcd hfr hd2 hg2 HB1 HD1 HC
  go_wp2_with fail
  refine (spec_text k n a' cap' zs t w2 HCD.out (by unfold maxLen; omega)).mono ?_
  rintro e w3 ⟨rfl, hB3⟩
  have hs := HD2.out.lt
  have HD3 : Hid (Dr w3 w.heap.size a len cap) := HD2.out.kept fun j hj => hB3.block j (by omega)
  have HB3 : Hid (Below w.heap.size w w3) := HB2.out.trans (hB3.mono HB2.out.size)
  have hl := textB_len k n zs t
  generalize textB k n zs t = s at *
  clear hB3 HB2 HD2 HCD
  go_wp2_with fail
  refine (n_any w.heap.size 4 _ a len cap HD3.out (by omega)).mono ?_
  rintro e w4 ⟨r, rfl, hr, hd4, hg4⟩
  have HD4 : Hid (Dr w4 w.heap.size a len cap) := hd4
  have HB4 : Hid (Below w.heap.size w w4) := HB3.out.trans (grown_below hg4 (Nat.le_refl _) HB3.out.size)
  clear hd4 hg4 HB3 HD3
  by_cases h0 : r = 0
  · subst h0
    go_wp2_with fail
    refine (spoil_any w.heap.size s w4 a len cap HD4.out (by omega)).mono ?_
    rintro e w5 ⟨s2, rfl, hs2, hd5, hg5⟩
    have HB5 : Hid (Below w.heap.size w w5) := HB4.out.trans (grown_below hg5 (Nat.le_refl _) HB4.out.size)
    clear hd5 hg5
    go_wp2
    go_ret
    exact ⟨_, rfl, by omega, HB5.out⟩
  by_cases h1 : r = 1
  · subst h1
    go_wp2_with fail
    have hs4 := HD4.out.lt
    refine (pick_any w.heap.size w4.heap.size 16 reads _ a len cap (HD4.out.alloc _) hs4 (heap_alloc_new w4 _) rfl (by omega) (by omega)).mono ?_
    rintro e w5 ⟨x, rfl, hx, hd5, hg5⟩
    have hx2 := reads_len x hx
    have HB5 : Hid (Below w.heap.size w w5) := (HB4.out.trans ((below_one w4 _).mono (by omega))).trans (grown_below hg5 (Nat.le_refl _) (by simp; omega))
    clear hd5 hg5 hx
    go_wp2
    go_ret
    exact ⟨_, rfl, by omega, HB5.out⟩
  · have q0 : ((r : Int) == 0) = false := by simp; omega
    have q1 : ((r : Int) == 1) = false := by simp; omega
    go_wp2
    go_ret
    exact ⟨_, rfl, by omega, HB4.out⟩
end Go.Proofs.YtphdkhdlgcglpaaGreatDoor.DrawV
