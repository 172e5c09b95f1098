/- Texts of ours, laid together: ValCore, ValEqL, ValWalks, ValAt. -/
import Derived.Test.YtjnnkilmlngjgaaGreatDoorProg
import Derived.WalkKit
import Derived.WalkSpells
import Derived.WalkLawsBesides
import Derived.RegionTactic
import Derived.BigRegion
import Derived.OpenShut
import Derived.Laws.MakeOwn
import Derived.Handy
/- How the codes of an answer lie in memory. -/
namespace Go.Proofs.YtjnnkilmlngjgaaGreatDoor.ValW
open Go.RowKit

/-- the codes zs lie in memory as a slice at a -/
def Codes (w : World) (a : Option Addr) (zs : List Int) : Prop :=
  zs.length ≤ 1048576 ∧ (0 < zs.length → ∃ b o, a = some ⟨b, o, none⟩ ∧ b < w.heap.size ∧ ∀ i, i < zs.length → w.cell? ⟨b, o + i, none⟩ = some (.int .i64 (zs.getD i 0)))
theorem Codes.on {w w' : World} {a : Option Addr} {zs : List Int} (h : Codes w a zs) (hB : Below w.heap.size w w') : Codes w' a zs := by
  refine ⟨h.1, fun hp => ?_⟩
  obtain ⟨b, o, ha, hb, hc⟩ := h.2 hp
  exact ⟨b, o, ha, Nat.lt_of_lt_of_le hb hB.size, fun i hi => by rw [hB.cell (p := ⟨b, o + i, none⟩) hb]; exact hc i hi⟩
theorem Codes.alloc {w : World} {a : Option Addr} {zs : List Int} (h : Codes w a zs) (o : Obj) : Codes (w.alloc o) a zs := h.on ((Below.refl _ _).alloc (Nat.le_refl _) o)
theorem Codes.setCell {w : World} {g off : Nat} {zs : List Int} (h : Codes w (some ⟨g, off, none⟩) zs) {p : Addr} (hp : p.block ≠ g) (v : Value) : Codes (w.setCell p v) (some ⟨g, off, none⟩) zs := by
  refine ⟨h.1, fun hl => ?_⟩
  obtain ⟨b, o, ha, hb, hc⟩ := h.2 hl
  cases ha
  exact ⟨g, off, rfl, by simpa using hb, fun i hi => by rw [World.cell?_setCell_other w p ⟨g, off + i, none⟩ _ (by intro e; apply hp; rw [e])]; exact hc i hi⟩
theorem Codes.nil (w : World) (a : Option Addr) : Codes w a [] := ⟨Nat.zero_le _, fun h => absurd h (Nat.lt_irrefl _)⟩

theorem bcell {W w1 : World} (hb : Below W.heap.size W w1) : (∀ b o, b < W.heap.size → w1.cell? ⟨b, o, none⟩ = W.cell? ⟨b, o, none⟩) ∧ (∀ b o, b < W.heap.size → w1.frozen? ⟨b, o, none⟩ = W.frozen? ⟨b, o, none⟩) :=
  ⟨fun b o h => hb.cell (p := ⟨b, o, none⟩) h, fun b o h => hb.frozen (p := ⟨b, o, none⟩) h⟩

/-- an answer, as a value -/
abbrev av (k n : Int) (a : Option Addr) (len cap : Nat) (t : ByteArray) : Value := .agg #[.int .i64 k, .int .i64 n, .slice a len cap, .string t]

def cellsI (zs : List Int) : List Value := zs.map (.int .i64)
def rowI (n : Nat) (l : List Int) : List Value := cellsI l ++ List.replicate (n - l.length) (.int .i64 0)
theorem made_row (z : Nat) : (madeCells #[Value.int IntKind.i64 0] z).toList = rowI z [] := by
  unfold madeCells rowI cellsI
  apply List.ext_getElem
  · simp
  · intro i h1 h2; simp [Nat.mod_one]
theorem row_set (zs : List Int) (k : Nat) (h : k < zs.length) :
    (rowI zs.length (zs.take k)).toArray.setIfInBounds k (.int .i64 (zs.getD k 0)) = (rowI zs.length (zs.take (k + 1))).toArray := by
  have hl : (cellsI (zs.take k)).length = k := by simp [cellsI]; omega
  have e1 : zs.length - (zs.take k).length = (zs.length - (zs.take (k + 1)).length) + 1 := by simp; omega
  have e2 : zs.take (k + 1) = zs.take k ++ [zs.getD k 0] := by
    rw [List.take_succ_eq_append_getElem h]; simp [List.getD, List.getElem?_eq_getElem h]
  unfold rowI
  rw [List.setIfInBounds_toArray, e1, List.replicate_succ, List.set_append_right _ _ (by omega), hl, Nat.sub_self, List.set_cons_zero]
  congr 1
  conv => rhs; rw [e2]
  simp [cellsI]; omega
theorem row_full (zs : List Int) : rowI zs.length zs = cellsI zs := by simp [rowI]
theorem codes_of_row {w : World} {g : Nat} {T : TypeId} {zs : List Int} (h : w.heap[g]? = some (.cells (cellsI zs).toArray T (0, 0))) (hl : zs.length ≤ 1048576) : Codes w (some ⟨g, 0, none⟩) zs := by
  refine ⟨hl, fun _ => ⟨g, 0, rfl, (Array.getElem?_eq_some_iff.1 h).1, fun i hi => ?_⟩⟩
  simp [World.cell?, h, cellsI, List.getD, List.getElem?_eq_getElem hi]

theorem Tryz.infoI : (Tryz.prog.info? 2).map (fun i => (i.zero, i.size, i.bytes)) = some (some (.int .i64 0), 1, 8) := by kernel_rfl
end Go.Proofs.YtjnnkilmlngjgaaGreatDoor.ValW
/- What the laws answer of two answers that are alike. -/
namespace Go.Proofs.YtjnnkilmlngjgaaGreatDoor.ValW
open Go.RowKit

set_option maxRecDepth 10000 in
set_option maxHeartbeats 400000 in
theorem eqInts (a a' : Option Addr) (cap cap' : Nat) (zs : List Int) (w : World) (hc : Codes w a zs) (hc' : Codes w a' zs) :
    Calls Tryz.prog 29 #[.slice a zs.length cap, .slice a' zs.length cap'] w fun e w' => e = .returned (.bool true) ∧ Below w.heap.size w w' := by
  have HC : Hid (Codes w a zs) := hc
  have HC' : Hid (Codes w a' zs) := hc'
  have hl := hc.1
  clear hc hc'
  go_enter Tryz.func29, Tryz.ntmps29
  go_wp2
  go_loopw [5] (fun i wr => ∃ k : Nat, k ≤ zs.length ∧ i = .int .i64 k ∧ Below w.heap.size w wr) (fun i _ => zs.length - (intOf i).toNat)
  case atStart => exact ⟨0, Nat.zero_le _, rfl, Below.refl _ _⟩
  case round =>
    obtain ⟨k, hk, rfl, hbel⟩ := hrel
    by_cases hlt : k < zs.length
    · obtain ⟨_, h1⟩ := HC.out
      obtain ⟨_, h2⟩ := HC'.out
      obtain ⟨b, o, rfl, hb, hcs⟩ := h1 (by omega)
      obtain ⟨b', o', rfl, hb', hcs'⟩ := h2 (by omega)
      have hcell : wr.cell? ⟨b, o + k, none⟩ = some (.int .i64 (zs.getD k 0)) := (hbel.cell hb).trans (hcs k hlt)
      have hcell' : wr.cell? ⟨b', o' + k, none⟩ = some (.int .i64 (zs.getD k 0)) := (hbel.cell hb').trans (hcs' k hlt)
      generalize zs.getD k 0 = v at hcell hcell'
      have HB : Hid (Below w.heap.size w wr) := hbel
      clear hcs hcs' h1 h2 HC HC' hbel
      go_wp2
      go_region
      go_wp2
      refine ⟨⟨k + 1, by omega, by go_num, HB.out.drew⟩, by simp [intOf]; omega⟩
    · go_wp2
      go_ret
      exact ⟨rfl, hbel⟩

set_option maxHeartbeats 400000 in
theorem eqVal (k n : Int) (a a' : Option Addr) (cap cap' : Nat) (zs : List Int) (t : ByteArray) (w : World) (hc : Codes w a zs) (hc' : Codes w a' zs) :
    Calls Tryz.prog 12 #[av k n a zs.length cap t, av k n a' zs.length cap' t] w fun e w' => e = .returned (.bool true) ∧ Below w.heap.size w w' := by
  have HC : Hid (Codes w a zs) := hc
  have HC' : Hid (Codes w a' zs) := hc'
  clear hc hc'
  go_enter Tryz.func12, Tryz.ntmps12
  go_wp2_with fail
  refine (eqInts a a' cap cap' zs _ (HC.out.on ?hb) (HC'.out.on ?hb)).mono ?_
  case hb => go_grown
  rintro e w1 ⟨rfl, hB1⟩
  have HB : Hid (Below w.heap.size w w1) := Below.trans ?hb (hB1.mono (by simp; omega))
  case hb => go_grown
  obtain ⟨hcl, hfz⟩ := bcell hB1
  simp only [World.size_alloc] at hcl hfz
  clear hB1 HC HC'
  go_wp2
  go_ret
  exact ⟨rfl, HB.out⟩
end Go.Proofs.YtjnnkilmlngjgaaGreatDoor.ValW
/- What the laws' own helpers do with an answer: its size, a copy of it. -/
namespace Go.Proofs.YtjnnkilmlngjgaaGreatDoor.ValW
open Go.RowKit

theorem szInts_no (a : Option Addr) (len cap : Nat) (left : Int) (w : World) (h0 : 0 ≤ left) (h1 : left ≤ 1048576) (h : left < len) (hm : len ≤ maxLen) :
    Calls Tryz.prog 18 #[.slice a len cap, .int .i64 left] w fun e w' => e = .returned (.int .i64 (-1)) ∧ w' = w := by
  unfold maxLen at hm
  go_enter Tryz.func18, Tryz.ntmps18
  go_wp2
  go_ret
  exact ⟨rfl, rfl⟩
theorem szInts_yes (a : Option Addr) (len cap : Nat) (left : Int) (w : World) (h1 : left ≤ 1048576) (h : ¬ left < len) :
    Calls Tryz.prog 18 #[.slice a len cap, .int .i64 left] w fun e w' => e = .returned (.int .i64 (left - len)) ∧ w' = w := by
  go_enter Tryz.func18, Tryz.ntmps18
  go_wp2
  go_ret
  exact ⟨rfl, rfl⟩
theorem sz_no (k n : Int) (a : Option Addr) (len cap : Nat) (t : ByteArray) (left : Int) (w : World) (h0 : 0 ≤ left) (h1 : left ≤ 1048576) (h : left < len + t.size) (hm : len ≤ maxLen) (ht : t.size ≤ maxLen) :
    Calls Tryz.prog 5 #[av k n a len cap t, .int .i64 left] w fun e w' => e = .returned (.int .i64 (-1)) ∧ Below w.heap.size w w' := by
  by_cases hl : left < len
  · unfold maxLen at ht
    go_enter Tryz.func5, Tryz.ntmps5
    go_wp2_with (go_at_call 18; refine (szInts_no a len cap left _ h0 h1 hl hm).mono ?_; rintro e w' ⟨rfl, rfl⟩)
    go_ret
    exact ⟨rfl, (Below.refl _ _).alloc (Nat.le_refl _) _⟩
  · unfold maxLen at ht
    go_enter Tryz.func5, Tryz.ntmps5
    go_wp2_with (go_at_call 18; refine (szInts_yes a len cap left _ h1 hl).mono ?_; rintro e w' ⟨rfl, rfl⟩)
    go_ret
    exact ⟨rfl, (Below.refl _ _).alloc (Nat.le_refl _) _⟩
theorem sz_yes (k n : Int) (a : Option Addr) (len cap : Nat) (t : ByteArray) (left : Int) (w : World) (h1 : left ≤ 1048576) (h : ¬ left < len + t.size) :
    Calls Tryz.prog 5 #[av k n a len cap t, .int .i64 left] w fun e w' => e = .returned (.int .i64 (left - len - t.size)) ∧ Below w.heap.size w w' := by
  go_enter Tryz.func5, Tryz.ntmps5
  go_wp2_with (go_at_call 18; refine (szInts_yes a len cap left _ h1 (by omega)).mono ?_; rintro e w' ⟨rfl, rfl⟩)
  go_ret
  exact ⟨rfl, (Below.refl _ _).alloc (Nat.le_refl _) _⟩

set_option maxRecDepth 10000 in
set_option maxHeartbeats 400000 in
theorem toIntsO (a : Option Addr) (cap : Nat) (zs : List Int) (w : World) (hc : Codes w a zs) :
    Calls Tryz.prog 25 #[.slice a zs.length cap] w fun e w' => e = .returned (.slice (some ⟨w.heap.size, 0, none⟩) zs.length zs.length) ∧ w'.heap[w.heap.size]? = some (.cells (cellsI zs).toArray 2 (0, 0)) ∧ Below w.heap.size w w' := by
  obtain ⟨i0, hi, hz0, hz1, hz2⟩ := info_parts Tryz.infoI
  obtain ⟨hl, hc⟩ := hc
  have HC : Hid (0 < zs.length → ∃ b o, a = some ⟨b, o, none⟩ ∧ b < w.heap.size ∧ ∀ i, i < zs.length → w.cell? ⟨b, o + i, none⟩ = some (.int .i64 (zs.getD i 0))) := hc
  clear hc
  go_enter Tryz.func25, Tryz.ntmps25
  go_wp2_with (first | (at_make; refine wpList_make_full _ rfl _ _ 23 rfl w.heap.size 2 i0 (.int .i64 0) 1 Tryz.underlying23 hi hz0 hz1 _ _ _ _ zs.length rfl rfl rfl rfl ?m1 ?m2 ?m3 ?_))
  case m1 => rw [hz2]; omega
  case m2 => unfold maxLen; omega
  case m3 => exact Nat.le_refl _
  intro w1 hown hgrow
  obtain ⟨cur, hrow⟩ : ∃ cur : List Value, cur = rowI zs.length [] ∧ w1.heap[w.heap.size]? = some (.cells cur.toArray 2 (0, 0)) := by
    rw [made_row] at hown
    obtain ⟨_, hv⟩ := hown
    rcases hv with ⟨h0, _⟩ | ⟨g, cap, cu, h0, _, hg, _, _, hs, ht⟩
    · cases h0
    · cases h0
      refine ⟨rowI zs.length [], rfl, ?_⟩
      rw [hg, ← ht, List.take_of_length_le (by simp; omega)]
  obtain ⟨HCur, hrow1⟩ := hrow
  have hB1 : Below w.heap.size w w1 := (Below.refl _ _).grown hgrow (Nat.le_refl _) (fun k hk => by cases hk)
  clear hown hgrow
  subst HCur
  go_wp2
  go_loopw [4] (fun i wr => ∃ k : Nat, k ≤ zs.length ∧ i = .int .i64 k ∧ Hid (wr.heap[w.heap.size]? = some (.cells (rowI zs.length (zs.take k)).toArray 2 (0, 0))) ∧ Below w.heap.size w wr) (fun i _ => zs.length - (intOf i).toNat)
  case atStart => exact ⟨0, Nat.zero_le _, rfl, hrow1, hB1⟩
  case round =>
    obtain ⟨k, hk, rfl, hrow, hbel⟩ := hrel
    clear hrow1 hB1
    by_cases hlt : k < zs.length
    · obtain ⟨b, o, rfl, hb, hcs⟩ := HC.out (by omega)
      have hcell : wr.cell? ⟨b, o + k, none⟩ = some (.int .i64 (zs.getD k 0)) := (hbel.cell hb).trans (hcs k hlt)
      have hfr : wr.frozen? ⟨w.heap.size, k, none⟩ = false := by simp [World.frozen?, hrow.out]
      have hold : wr.cell? ⟨w.heap.size, k, none⟩ = some (.int .i64 0) := by
        have e : (rowI zs.length (zs.take k))[k]? = some (.int .i64 0) := by
          have hl2 : (cellsI (zs.take k)).length = k := by simp [cellsI]; omega
          unfold rowI; rw [List.getElem?_append_right (Nat.le_of_eq hl2), hl2, Nat.sub_self, List.getElem?_replicate, if_pos (by rw [List.length_take]; omega)]
        simp [World.cell?, hrow.out, e]
      clear hcs
      have HR : Hid ((wr.setCell ⟨w.heap.size, k, none⟩ (.int .i64 (zs.getD k 0))).heap[w.heap.size]? = some (.cells (rowI zs.length (zs.take (k + 1))).toArray 2 (0, 0))) := by
        have := row_set zs k hlt
        show _ = _
        rw [← this]; simp [World.setCell, Array.getElem?_modify, hrow.out]
      have HB : Hid (Below w.heap.size w (wr.setCell ⟨w.heap.size, k, none⟩ (.int .i64 (zs.getD k 0)))) := hbel.setCell (Nat.le_refl _) _
      generalize hv : zs.getD k 0 = v at *
      clear hrow hbel
      go_wp2
      refine ⟨⟨k + 1, by omega, by go_num, HR, HB.out⟩, by simp [intOf]; omega⟩
    · go_wp2
      go_ret
      refine ⟨rfl, ?_, hbel⟩
      have := hrow.out
      rw [List.take_of_length_le (by omega), row_full] at this
      exact this
theorem toInts (a : Option Addr) (cap : Nat) (zs : List Int) (w : World) (hc : Codes w a zs) :
    Calls Tryz.prog 25 #[.slice a zs.length cap] w fun e w' => e = .returned (.slice (some ⟨w.heap.size, 0, none⟩) zs.length zs.length) ∧ Codes w' (some ⟨w.heap.size, 0, none⟩) zs ∧ Below w.heap.size w w' :=
  (toIntsO a cap zs w hc).mono fun _ _ ⟨h1, h2, h3⟩ => ⟨h1, codes_of_row (T := 2) h2 hc.1, h3⟩
theorem blk_other {w : World} {g : Nat} {x : Obj} (h : w.heap[g]? = some x) {p : Addr} (hp : p.block ≠ g) (v : Value) : (w.setCell p v).heap[g]? = some x := by
  rw [Below.heap_setCell w p v g (Ne.symm hp)]; exact h

theorem toValO (k n : Int) (a : Option Addr) (cap : Nat) (zs : List Int) (t : ByteArray) (w : World) (hc : Codes w a zs) :
    Calls Tryz.prog 8 #[av k n a zs.length cap t] w fun e w' => ∃ g', e = .returned (av k n (some ⟨g', 0, none⟩) zs.length zs.length t) ∧ w.heap.size ≤ g' ∧ w'.heap[g']? = some (.cells (cellsI zs).toArray 2 (0, 0)) ∧ Below w.heap.size w w' := by
  have HC : Hid (Codes w a zs) := hc
  clear hc
  go_enter Tryz.func8, Tryz.ntmps8
  go_wp2_with fail
  refine (toIntsO a cap zs _ (HC.out.on ?hb)).mono ?_
  case hb => go_grown
  rintro e w1 ⟨rfl, hc1, hB1⟩
  have HB : Hid (Below w.heap.size w w1) := Below.trans ?hb (hB1.mono (by simp; omega))
  case hb => go_grown
  have HC1 : Hid (w1.heap[w.heap.size + 1 + 1 + 1]? = some (.cells (cellsI zs).toArray 2 (0, 0))) := by show _ = _; simpa using hc1
  obtain ⟨hcl, hfz⟩ := bcell hB1
  have hz : w.heap.size + 1 + 1 < w1.heap.size := by have := hB1.size; simp at this; omega
  simp only [World.size_alloc] at hcl hfz
  clear hc1 hB1 HC
  go_wp2
  refine bodyPost_ret (v := av k n (some ⟨w.heap.size + 1 + 1 + 1, 0, none⟩) zs.length zs.length t) (by simp [results, Tryz.results8, go_sem, hcl]) rfl ⟨_, rfl, by omega, ?_, ?_⟩
  · repeat (refine blk_other ?_ (by simp) _)
    exact HC1.out
  · repeat (refine Below.setCell ?_ (show w.heap.size ≤ _ by simp only; omega) _)
    exact HB.out
theorem toVal (k n : Int) (a : Option Addr) (cap : Nat) (zs : List Int) (t : ByteArray) (w : World) (hc : Codes w a zs) :
    Calls Tryz.prog 8 #[av k n a zs.length cap t] w fun e w' => ∃ a', e = .returned (av k n a' zs.length zs.length t) ∧ Codes w' a' zs ∧ Below w.heap.size w w' :=
  (toValO k n a cap zs t w hc).mono fun _ _ ⟨_, h1, _, h2, h3⟩ => ⟨_, h1, codes_of_row (T := 2) h2 hc.1, h3⟩
end Go.Proofs.YtjnnkilmlngjgaaGreatDoor.ValW
/- Four cells that lie in a block, as an answer does behind its pointer. -/
namespace Go.Proofs.YtjnnkilmlngjgaaGreatDoor.ValI
open Go.RowKit

/-- four cells that lie in a block -/
def At4 (w : World) (b : Nat) (v0 v1 v2 v3 : Value) : Prop := w.cell? ⟨b, 0, none⟩ = some v0 ∧ w.cell? ⟨b, 1, none⟩ = some v1 ∧ w.cell? ⟨b, 2, none⟩ = some v2 ∧ w.cell? ⟨b, 3, none⟩ = some v3 ∧ b < w.heap.size
theorem At4.on {w w' : World} {b : Nat} {v0 v1 v2 v3 : Value} (h : At4 w b v0 v1 v2 v3) (hB : Below w.heap.size w w') : At4 w' b v0 v1 v2 v3 := by
  obtain ⟨h0, h1, h2, h3, hb⟩ := h
  exact ⟨by rw [hB.cell (p := ⟨b, 0, none⟩) hb]; exact h0, by rw [hB.cell (p := ⟨b, 1, none⟩) hb]; exact h1, by rw [hB.cell (p := ⟨b, 2, none⟩) hb]; exact h2, by rw [hB.cell (p := ⟨b, 3, none⟩) hb]; exact h3, Nat.lt_of_lt_of_le hb hB.size⟩
theorem At4.laid (w : World) (T : TypeId) (v0 v1 v2 v3 : Value) : At4 (w.alloc (.cells #[v0, v1, v2, v3] T)) w.heap.size v0 v1 v2 v3 := ⟨by simp, by simp, by simp, by simp, by simp⟩
end Go.Proofs.YtjnnkilmlngjgaaGreatDoor.ValI
