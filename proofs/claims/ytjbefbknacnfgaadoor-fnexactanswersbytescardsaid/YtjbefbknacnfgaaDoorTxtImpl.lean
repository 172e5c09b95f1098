/- The program's texts: the digits of a number, a list of codes, the text of a right answer. -/
import Derived.Test.YtjbefbknacnfgaaDoorTxtMath
import Derived.Test.YtjbefbknacnfgaaDoorShelf
import Derived.Test.YtjbefbknacnfgaaDoorValRightI
import Derived.Test.YtjbefbknacnfgaaDoorValTypes
import Derived.Lib.AppendIntMem
import Derived.Lib.SmallJoins
import Derived.Laws.Concat
namespace Go.Proofs.YtjbefbknacnfgaaDoor.TxtI
open Go.RowKit
open ValM ValW ValS ValI TxtM

theorem hide (x : ByteArray) : ∃ r : ByteArray, Hid (x = r) := ⟨x, show x = x from rfl⟩
theorem ret_str {a b : ByteArray} (h : a = b) : Ending.returned (.string a) = .returned (.string b) := by rw [h]
/-- the library's table of powers, and its variable that says how long a text its search by machine takes -/
def Env (w : World) : Prop := Lib.TabIs Tryd.prog w "internal/strconv.uint64pow10" .u64 Lib.pow10Tab ∧ ∃ m, w.cell? ⟨1, 0, none⟩ = some (.int .i64 m)
theorem Env.on {w w' : World} (h : Env w) (hB : Below w.heap.size w w') : Env w' := by
  obtain ⟨ht, m, hm⟩ := h
  refine ⟨Joins.tab_stays (g := 0) (by kernel_rfl) ht hB (Nat.le_refl _), m, ?_⟩
  rw [hB.cell (p := ⟨1, 0, none⟩) (World.block_lt_of_cell? w _ hm)]; exact hm

theorem digits_small (n : Int) (w : World) (h0 : 0 ≤ n) (h1 : n < 100) :
    Calls Tryd.prog 42 #[.int .i64 n] w fun e w' => e = .returned (.string ⟨(Lib.decDigits n.toNat).toArray⟩) ∧ w' = w := by
  obtain ⟨m, rfl⟩ : ∃ m : Nat, n = m := ⟨n.toNat, by omega⟩
  rw [Int.toNat_natCast]
  obtain ⟨r, hr⟩ := hide (⟨(Lib.decDigits m).toArray⟩ : ByteArray)
  rw [hr.out]
  go_enter Tryd.func42, Tryd.ntmps42
  go_wp2_with (go_at_call 49; refine (Tryd.strconv_FormatInt_10_small m (by omega) _).mono ?_; rintro e w' ⟨rfl, rfl⟩; rw [hr.out])
  go_ret
  exact ⟨rfl, rfl⟩
theorem digits_in (n : Int) (w : World) (h0 : -9223372036854775808 ≤ n) (h1 : n ≤ 9223372036854775807) (hE : Env w) :
    Calls Tryd.prog 42 #[.int .i64 n] w fun e w' => e = .returned (.string ⟨(Lib.itoa n).toArray⟩) ∧ Below w.heap.size w w' := by
  obtain ⟨r, hr⟩ := hide (⟨(Lib.itoa n).toArray⟩ : ByteArray)
  rw [hr.out]
  have HE : Hid (Env w) := hE
  clear hE
  go_enter Tryd.func42, Tryd.ntmps42
  go_wp2_with fail
  refine (Tryd.strconv_FormatInt_10 n h0 h1 _ HE.out.1).mono ?_
  rintro e w1 ⟨rfl, k, os, hw⟩
  rw [hr.out]
  have HB : Hid (Below w.heap.size w w1) := by rw [hw]; exact Lib.below_grow _ w (Nat.le_refl _) k os
  clear hw
  go_wp2
  go_ret
  exact ⟨rfl, HB.out⟩

/-! codes joined -/
theorem Tryd.infoT : (Tryd.prog.info? 9).map (fun i => (i.zero, i.size, i.bytes)) = some (some (.string ByteArray.empty), 1, 16) := by kernel_rfl
def strC (zs : List Int) (j : Nat) : ByteArray := ⟨(Lib.decDigits (zs.getD j 0).toNat).toArray⟩
/-- the row of texts, the first k of them written -/
def rowT (zs : List Int) (k : Nat) : List Value := (List.range zs.length).map fun j => .string (if j < k then strC zs j else ByteArray.empty)
theorem made_rowT (zs : List Int) : (madeCells #[Value.string ByteArray.empty] zs.length).toList = rowT zs 0 := by
  unfold madeCells rowT
  apply List.ext_getElem
  · simp
  · intro i h1 h2; simp [Nat.mod_one]
theorem rowT_set (zs : List Int) (k : Nat) : (rowT zs k).toArray.setIfInBounds k (.string (strC zs k)) = (rowT zs (k + 1)).toArray := by
  rw [List.setIfInBounds_toArray]
  congr 1
  apply List.ext_getElem
  · simp [rowT]
  · intro i h1 h2
    simp only [rowT, List.getElem_set, List.getElem_map, List.getElem_range]
    by_cases h : k = i
    · subst h; simp
    · rw [if_neg h]
      by_cases h' : i < k
      · rw [if_pos h', if_pos (by omega)]
      · rw [if_neg h', if_neg (by omega)]
theorem rowT_at (zs : List Int) (k j : Nat) (h : j < zs.length) : (rowT zs k)[j]? = some (.string (if j < k then strC zs j else ByteArray.empty)) := by
  unfold rowT; simp [h]
theorem texts_eq (zs : List Int) : ((List.range zs.length).map (strC zs)).map (·.data.toList) = codesL zs := by
  apply List.ext_getElem
  · simp [codesL]
  · intro i h1 h2
    have hi : i < zs.length := by simpa using h1
    simp [codesL, strC, List.getD, List.getElem?_eq_getElem hi]

set_option maxRecDepth 10000 in
set_option maxHeartbeats 1000000 in
theorem listed_in (a : Option Addr) (cap : Nat) (zs : List Int) (w : World) (hc : Codes w a zs) (hr0 : risesB zs = true) :
    Calls Tryd.prog 43 #[.slice a zs.length cap] w fun e w' => e = .returned (.string ⟨(Lib.join (codesL zs) [44]).toArray⟩) ∧ Below w.heap.size w w' := by
  obtain ⟨i0, hi, hz0, hz1, hz2⟩ := info_parts Tryd.infoT
  have HC : Hid (Codes w a zs) := hc
  have HR : Hid (risesB zs = true) := hr0
  have hl := rises_len hr0
  have HJ : Hid ((Lib.join (codesL zs) [44]).length ≤ 60) := by
    show _ ≤ _; rw [← upTo_all]; have := upTo_len hr0 zs.length (Nat.le_refl _); omega
  clear hc hr0
  obtain ⟨r, hr⟩ := hide (⟨(Lib.join (codesL zs) [44]).toArray⟩ : ByteArray)
  rw [hr.out]
  go_enter Tryd.func43, Tryd.ntmps43
  go_wp2_with (first | (at_make; refine wpList_make_full _ rfl _ _ 53 rfl w.heap.size 9 i0 (.string ByteArray.empty) 1 Tryd.underlying53 hi hz0 hz1 _ _ _ _ zs.length rfl rfl rfl rfl ?m1 ?m2 ?m3 ?_))
  case m1 => rw [hz2]; omega
  case m2 => unfold maxLen; omega
  case m3 => exact Nat.le_refl _
  intro w1 hown hgrow
  obtain ⟨cur, hrow⟩ : ∃ cur : List Value, cur = rowT zs 0 ∧ w1.heap[w.heap.size]? = some (.cells cur.toArray 9 (0, 0)) := by
    rw [made_rowT] at hown
    obtain ⟨_, hv⟩ := hown
    rcases hv with ⟨h0, _⟩ | ⟨g, cap, cu, h0, _, hg, _, _, hs, ht⟩
    · cases h0
    · cases h0
      refine ⟨rowT zs 0, rfl, ?_⟩
      rw [hg, ← ht, List.take_of_length_le (by simp; omega)]
  obtain ⟨HCur, hrow1⟩ := hrow
  have hB1 : Below w.heap.size w w1 := (Below.refl _ _).grown hgrow (Nat.le_refl _) (fun k hk => by cases hk)
  clear hown hgrow
  subst HCur
  go_wp2
  go_loopw [4, 5, 11] (fun _ _ i wr => ∃ k : Nat, k ≤ zs.length ∧ i = .int .i64 k ∧ Hid (wr.heap[w.heap.size]? = some (.cells (rowT zs k).toArray 9 (0, 0))) ∧ Below w.heap.size w wr) (fun _ _ i _ => zs.length - (intOf i).toNat)
  case atStart => exact ⟨0, Nat.zero_le _, rfl, hrow1, hB1⟩
  case round =>
    obtain ⟨k, hk, rfl, hrow, hbel⟩ := hrel
    clear hrow1 hB1
    by_cases hlt : k < zs.length
    · obtain ⟨b, o, rfl, hb, hcs⟩ := HC.out.2 (by omega)
      have hcell : wr.cell? ⟨b, o + k, none⟩ = some (.int .i64 (zs.getD k 0)) := (hbel.cell hb).trans (hcs k hlt)
      have hfr : wr.frozen? ⟨w.heap.size, k, none⟩ = false := by simp [World.frozen?, hrow.out]
      have hold : wr.cell? ⟨w.heap.size, k, none⟩ = some (.string ByteArray.empty) := by
        have e := rowT_at zs k k hlt
        rw [if_neg (by omega)] at e
        simp [World.cell?, hrow.out, e]
      have HR1 : Hid ((wr.setCell ⟨w.heap.size, k, none⟩ (.string (strC zs k))).heap[w.heap.size]? = some (.cells (rowT zs (k + 1)).toArray 9 (0, 0))) := by
        have := rowT_set zs k
        show _ = _
        rw [← this]; simp [World.setCell, Array.getElem?_modify, hrow.out]
      have HB : Hid (Below w.heap.size w (wr.setCell ⟨w.heap.size, k, none⟩ (.string (strC zs k)))) := hbel.setCell (Nat.le_refl _) _
      have hok := rises_at HR.out k hlt
      obtain ⟨v, hv⟩ : ∃ v, Hid (zs.getD k 0 = v) := ⟨_, rfl⟩
      have hst : strC zs k = ⟨(Lib.decDigits v.toNat).toArray⟩ := by unfold strC; rw [hv.out]
      obtain ⟨s, hs⟩ := hide (strC zs k)
      rw [hs.out] at HR1 HB hst
      rw [hv.out] at hcell
      have hv1 : 1 ≤ v := by rw [← hv.out]; exact hok.1
      have hv2 : v ≤ 20 := by rw [← hv.out]; exact hok.2.1
      have HST : Hid (s = ⟨(Lib.decDigits v.toNat).toArray⟩) := hst
      clear hrow hbel hok hcs hst
      go_wp2_with (go_at_call 42; refine (digits_small v _ (by omega) (by omega)).mono ?_; rintro e w' ⟨rfl, rfl⟩; rw [← HST.out])
      refine ⟨⟨k + 1, by omega, by go_num, HR1, HB.out⟩, by simp [intOf]; omega⟩
    · have hk2 : k = zs.length := by omega
      have hcs : ∀ (j : Nat) x, ((List.range zs.length).map (strC zs))[j]? = some x → wr.cell? ⟨w.heap.size, 0 + j, none⟩ = some (.string x) := by
        intro j x hj
        have hj2 : j < zs.length := by have := (List.getElem?_eq_some_iff.1 hj).1; simpa using this
        have e := rowT_at zs k j hj2
        rw [if_pos (by omega)] at e
        simp [hj2] at hj
        rw [← hj, Nat.zero_add]; simp [World.cell?, hrow.out, e]
      have HB : Hid (Below w.heap.size w wr) := hbel
      have hlt2 : w.heap.size < wr.heap.size := (Array.getElem?_eq_some_iff.1 hrow.out).1
      have hjoin := Tryd.strings_Join w.heap.size 0 zs.length ((List.range zs.length).map (strC zs)) ⟨#[44]⟩ wr hcs hlt2 (by simp; omega) (by simp) (by rw [texts_eq]; have := HJ.out; show (Lib.join (codesL zs) [44]).length ≤ _; omega)
      rw [texts_eq, List.length_map, List.length_range] at hjoin
      have HJN : Hid (Calls Tryd.prog 50 #[.slice (some ⟨w.heap.size, 0, none⟩) zs.length zs.length, .string ⟨#[44]⟩] wr fun e w' => e = .returned (.string r) ∧ Below wr.heap.size wr w') :=
        hjoin.mono fun e w' h => ⟨by rw [h.1, ← hr.out], h.2⟩
      clear hcs hjoin hbel hrow
      go_wp2_with (go_at_call 50; refine HJN.out.mono ?_; rintro e w2 ⟨rfl, hB2⟩)
      go_ret
      exact ⟨rfl, HB.out.trans (hB2.mono HB.out.size)⟩
end Go.Proofs.YtjbefbknacnfgaaDoor.TxtI
