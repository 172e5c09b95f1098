/- Texts of ours, laid together: TxtImpl, TxtCont. -/
import Derived.Test.YtphdkhdlgcglpaaGreatDoorBd4
import Derived.Test.YtphdkhdlgcglpaaGreatDoorShelf
import Derived.Test.YtphdkhdlgcglpaaGreatDoorBd17
import Derived.Test.YtphdkhdlgcglpaaGreatDoorBd2
import Derived.Lib.AppendIntMem
import Derived.Lib.SmallJoins
import Derived.Laws.Concat
/- The program's texts: the digits of a number, a list of codes, the text of a right answer. -/
namespace Go.Proofs.YtphdkhdlgcglpaaGreatDoor.TxtI
open Go.RowKit
open ValM ValW ValS ValI TxtM

theorem hide (x : ByteArray) : ∃ r : ByteArray, Hid (x = r) := ⟨x, show x = x from rfl⟩
theorem ret_str {a b : ByteArray} (h : a = b) : Ending.returned (.string a) = .returned (.string b) := by rw [h]
/-- the library's table of powers, and its variable that says how long a text its search by machine takes -/
def Env (w : World) : Prop := Lib.TabIs Tryz.prog w "internal/strconv.uint64pow10" .u64 Lib.pow10Tab ∧ ∃ m, w.cell? ⟨3, 0, none⟩ = some (.int .i64 m)
theorem Env.on {w w' : World} (h : Env w) (hB : Below w.heap.size w w') : Env w' := by
  obtain ⟨ht, m, hm⟩ := h
  refine ⟨Joins.tab_stays (g := 2) (by kernel_rfl) ht hB (Nat.le_refl _), m, ?_⟩
  rw [hB.cell (p := ⟨3, 0, none⟩) (World.block_lt_of_cell? w _ hm)]; exact hm

theorem digits_small (n : Int) (w : World) (h0 : 0 ≤ n) (h1 : n < 100) :
    Calls Tryz.prog 96 #[.int .i64 n] w fun e w' => e = .returned (.string ⟨(Lib.decDigits n.toNat).toArray⟩) ∧ w' = w := by
  obtain ⟨m, rfl⟩ : ∃ m : Nat, n = m := ⟨n.toNat, by omega⟩
  rw [Int.toNat_natCast]
  obtain ⟨r, hr⟩ := hide (⟨(Lib.decDigits m).toArray⟩ : ByteArray)
  rw [hr.out]
  go_enter Tryz.func96, Tryz.ntmps96
  go_wp2_with (go_at_call 126; refine (Tryz.strconv_FormatInt_10_small m (by omega) _).mono ?_; rintro e w' ⟨rfl, rfl⟩; rw [hr.out])
  go_ret
  exact ⟨rfl, rfl⟩
theorem digits_in (n : Int) (w : World) (h0 : -9223372036854775808 ≤ n) (h1 : n ≤ 9223372036854775807) (hE : Env w) :
    Calls Tryz.prog 96 #[.int .i64 n] w fun e w' => e = .returned (.string ⟨(Lib.itoa n).toArray⟩) ∧ Below w.heap.size w w' := by
  obtain ⟨r, hr⟩ := hide (⟨(Lib.itoa n).toArray⟩ : ByteArray)
  rw [hr.out]
  have HE : Hid (Env w) := hE
  clear hE
  go_enter Tryz.func96, Tryz.ntmps96
  go_wp2_with fail
  refine (Tryz.strconv_FormatInt_10 n h0 h1 _ HE.out.1).mono ?_
  rintro e w1 ⟨rfl, k, os, hw⟩
  rw [hr.out]
  have HB : Hid (Below w.heap.size w w1) := by rw [hw]; exact Lib.below_grow _ w (Nat.le_refl _) k os
  clear hw
  go_wp2
  go_ret
  exact ⟨rfl, HB.out⟩

/-! codes joined -/
theorem Tryz.infoT : (Tryz.prog.info? 9).map (fun i => (i.zero, i.size, i.bytes)) = some (some (.string ByteArray.empty), 1, 16) := by kernel_rfl
def strC (zs : List Int) (j : Nat) : ByteArray := ⟨(Lib.decDigits (zs.getD j 0).toNat).toArray⟩
/-- the row of texts, the first k of them written -/
def rowT (zs : List Int) (k : Nat) : List Value := (List.range zs.length).map fun j => .string (if j < k then strC zs j else ByteArray.empty)
theorem made_rowT (zs : List Int) : (madeCells #[Value.string ByteArray.empty] zs.length).toList = rowT zs 0 := by
  unfold madeCells rowT
  apply List.ext_getElem
  · simp
  · intro i h1 h2; simp [Nat.mod_one]
theorem rowT_set (zs : List Int) (k : Nat) : (rowT zs k).toArray.setIfInBounds k (.string (strC zs k)) = (rowT zs (k + 1)).toArray := by
  rw [List.setIfInBounds_toArray]
  congr 1
  apply List.ext_getElem
  · simp [rowT]
  · intro i h1 h2
    simp only [rowT, List.getElem_set, List.getElem_map, List.getElem_range]
    by_cases h : k = i
    · subst h; simp
    · rw [if_neg h]
      by_cases h' : i < k
      · rw [if_pos h', if_pos (by omega)]
      · rw [if_neg h', if_neg (by omega)]
theorem rowT_at (zs : List Int) (k j : Nat) (h : j < zs.length) : (rowT zs k)[j]? = some (.string (if j < k then strC zs j else ByteArray.empty)) := by
  unfold rowT; simp [h]
theorem texts_eq (zs : List Int) : ((List.range zs.length).map (strC zs)).map (·.data.toList) = codesL zs := by
  apply List.ext_getElem
  · simp [codesL]
  · intro i h1 h2
    have hi : i < zs.length := by simpa using h1
    simp [codesL, strC, List.getD, List.getElem?_eq_getElem hi]

set_option maxRecDepth 10000 in
set_option maxHeartbeats 1000000 in
theorem listed_in (a : Option Addr) (cap : Nat) (zs : List Int) (w : World) (hc : Codes w a zs) (hr0 : risesB zs = true) :
    Calls Tryz.prog 97 #[.slice a zs.length cap] w fun e w' => e = .returned (.string ⟨(Lib.join (codesL zs) [44]).toArray⟩) ∧ Below w.heap.size w w' := by
  obtain ⟨i0, hi, hz0, hz1, hz2⟩ := info_parts Tryz.infoT
  have HC : Hid (Codes w a zs) := hc
  have HR : Hid (risesB zs = true) := hr0
  have hl := rises_len hr0
  have HJ : Hid ((Lib.join (codesL zs) [44]).length ≤ 60) := by
    show _ ≤ _; rw [← upTo_all]; have := upTo_len hr0 zs.length (Nat.le_refl _); omega
  clear hc hr0
  obtain ⟨r, hr⟩ := hide (⟨(Lib.join (codesL zs) [44]).toArray⟩ : ByteArray)
  rw [hr.out]
  go_enter Tryz.func97, Tryz.ntmps97
  go_wp2_with (first | (at_make; refine wpList_make_full _ rfl _ _ 32 rfl w.heap.size 9 i0 (.string ByteArray.empty) 1 Tryz.underlying32 hi hz0 hz1 _ _ _ _ zs.length rfl rfl rfl rfl ?m1 ?m2 ?m3 ?_))
  case m1 => rw [hz2]; omega
  case m2 => unfold maxLen; omega
  case m3 => exact Nat.le_refl _
  intro w1 hown hgrow
  obtain ⟨cur, hrow⟩ : ∃ cur : List Value, cur = rowT zs 0 ∧ w1.heap[w.heap.size]? = some (.cells cur.toArray 9 (0, 0)) := by
    rw [made_rowT] at hown
    obtain ⟨_, hv⟩ := hown
    rcases hv with ⟨h0, _⟩ | ⟨g, cap, cu, h0, _, hg, _, _, hs, ht⟩
    · cases h0
    · cases h0
      refine ⟨rowT zs 0, rfl, ?_⟩
      rw [hg, ← ht, List.take_of_length_le (by simp; omega)]
  obtain ⟨HCur, hrow1⟩ := hrow
  have hB1 : Below w.heap.size w w1 := (Below.refl _ _).grown hgrow (Nat.le_refl _) (fun k hk => by cases hk)
  clear hown hgrow
  subst HCur
  go_wp2
  go_loopw [4, 5, 11] (fun _ _ i wr => ∃ k : Nat, k ≤ zs.length ∧ i = .int .i64 k ∧ Hid (wr.heap[w.heap.size]? = some (.cells (rowT zs k).toArray 9 (0, 0))) ∧ Below w.heap.size w wr) (fun _ _ i _ => zs.length - (intOf i).toNat)
  case atStart => exact ⟨0, Nat.zero_le _, rfl, hrow1, hB1⟩
  case round =>
    obtain ⟨k, hk, rfl, hrow, hbel⟩ := hrel
    clear hrow1 hB1
    by_cases hlt : k < zs.length
    · obtain ⟨b, o, rfl, hb, hcs⟩ := HC.out.2 (by omega)
      have hcell : wr.cell? ⟨b, o + k, none⟩ = some (.int .i64 (zs.getD k 0)) := (hbel.cell hb).trans (hcs k hlt)
      have hfr : wr.frozen? ⟨w.heap.size, k, none⟩ = false := by simp [World.frozen?, hrow.out]
      have hold : wr.cell? ⟨w.heap.size, k, none⟩ = some (.string ByteArray.empty) := by
        have e := rowT_at zs k k hlt
        rw [if_neg (by omega)] at e
        simp [World.cell?, hrow.out, e]
      have HR1 : Hid ((wr.setCell ⟨w.heap.size, k, none⟩ (.string (strC zs k))).heap[w.heap.size]? = some (.cells (rowT zs (k + 1)).toArray 9 (0, 0))) := by
        have := rowT_set zs k
        show _ = _
        rw [← this]; simp [World.setCell, Array.getElem?_modify, hrow.out]
      have HB : Hid (Below w.heap.size w (wr.setCell ⟨w.heap.size, k, none⟩ (.string (strC zs k)))) := hbel.setCell (Nat.le_refl _) _
      have hok := rises_at HR.out k hlt
      obtain ⟨v, hv⟩ : ∃ v, Hid (zs.getD k 0 = v) := ⟨_, rfl⟩
      have hst : strC zs k = ⟨(Lib.decDigits v.toNat).toArray⟩ := by unfold strC; rw [hv.out]
      obtain ⟨s, hs⟩ := hide (strC zs k)
      rw [hs.out] at HR1 HB hst
      rw [hv.out] at hcell
      have hv1 : 1 ≤ v := by rw [← hv.out]; exact hok.1
      have hv2 : v ≤ 20 := by rw [← hv.out]; exact hok.2.1
      have HST : Hid (s = ⟨(Lib.decDigits v.toNat).toArray⟩) := hst
      clear hrow hbel hok hcs hst
      go_wp2_with (go_at_call 96; refine (digits_small v _ (by omega) (by omega)).mono ?_; rintro e w' ⟨rfl, rfl⟩; rw [← HST.out])
      refine ⟨⟨k + 1, by omega, by go_num, HR1, HB.out⟩, by simp [intOf]; omega⟩
    · have hk2 : k = zs.length := by omega
      have hcs : ∀ (j : Nat) x, ((List.range zs.length).map (strC zs))[j]? = some x → wr.cell? ⟨w.heap.size, 0 + j, none⟩ = some (.string x) := by
        intro j x hj
        have hj2 : j < zs.length := by have := (List.getElem?_eq_some_iff.1 hj).1; simpa using this
        have e := rowT_at zs k j hj2
        rw [if_pos (by omega)] at e
        simp [hj2] at hj
        rw [← hj, Nat.zero_add]; simp [World.cell?, hrow.out, e]
      have HB : Hid (Below w.heap.size w wr) := hbel
      have hlt2 : w.heap.size < wr.heap.size := (Array.getElem?_eq_some_iff.1 hrow.out).1
      have hjoin := Tryz.strings_Join w.heap.size 0 zs.length ((List.range zs.length).map (strC zs)) ⟨#[44]⟩ wr hcs hlt2 (by simp; omega) (by simp) (by rw [texts_eq]; have := HJ.out; show (Lib.join (codesL zs) [44]).length ≤ _; omega)
      rw [texts_eq, List.length_map, List.length_range] at hjoin
      have HJN : Hid (Calls Tryz.prog 127 #[.slice (some ⟨w.heap.size, 0, none⟩) zs.length zs.length, .string ⟨#[44]⟩] wr fun e w' => e = .returned (.string r) ∧ Below wr.heap.size wr w') :=
        hjoin.mono fun e w' h => ⟨by rw [h.1, ← hr.out], h.2⟩
      clear hcs hjoin hbel hrow
      go_wp2_with (go_at_call 127; refine HJN.out.mono ?_; rintro e w2 ⟨rfl, hB2⟩)
      go_ret
      exact ⟨rfl, HB.out.trans (hB2.mono HB.out.size)⟩
end Go.Proofs.YtphdkhdlgcglpaaGreatDoor.TxtI
/- The program's text of what an answer says, kind by kind; and its ValueText. -/
namespace Go.Proofs.YtphdkhdlgcglpaaGreatDoor.TxtI
open Go.RowKit
open ValM ValW ValS ValI TxtM

theorem cont_silence (k : Int) (w : World) (hk : k = 0 ∨ k = 5 ∨ k = 6) :
    Calls Tryz.prog 56 #[.iface 126 (.agg #[.int .i64 k])] w fun e w' => e = .returned (.string ⟨(if k = 5 then [68, 75] else if k = 6 then [82, 70] else []).toArray⟩) ∧ Below w.heap.size w w' := by
  have q0 := ValT.silence_silence (.agg #[.int .i64 k])
  rcases hk with rfl | rfl | rfl <;>
  · go_enter Tryz.func56, Tryz.ntmps56
    go_wp2
    go_ret
    exact ⟨rfl, by go_grown⟩
theorem cont_integer (n : Int) (w : World) (h0 : -1000000000 ≤ n) (h1 : n ≤ 1000000000) (hE : Env w) :
    Calls Tryz.prog 56 #[.iface 128 (.agg #[.int .i64 n])] w fun e w' => e = .returned (.string ⟨(Lib.itoa n).toArray⟩) ∧ Below w.heap.size w w' := by
  have q0 := ValT.integer_silence (.agg #[.int .i64 n])
  have q1 := ValT.integer_integer (.agg #[.int .i64 n])
  have HE : Hid (Env w) := hE
  clear hE
  obtain ⟨r, hr⟩ := hide (⟨(Lib.itoa n).toArray⟩ : ByteArray)
  rw [hr.out]
  go_enter Tryz.func56, Tryz.ntmps56
  go_wp2_with fail
  refine (digits_in n _ (by omega) (by omega) (HE.out.on (below_one w _))).mono ?_
  rintro e w1 ⟨rfl, hB1⟩
  rw [hr.out]
  have HB : Hid (Below w.heap.size w w1) := (below_one w _).trans (hB1.mono (by simp))
  clear hB1
  go_wp2
  go_ret
  exact ⟨rfl, HB.out⟩
theorem cont_choice (n : Int) (w : World) (h0 : 1 ≤ n) (h1 : n ≤ 20) :
    Calls Tryz.prog 56 #[.iface 129 (.agg #[.int .i64 n])] w fun e w' => e = .returned (.string ⟨(35 :: Lib.decDigits n.toNat).toArray⟩) ∧ Below w.heap.size w w' := by
  have q0 := ValT.choice_silence (.agg #[.int .i64 n])
  have q1 := ValT.choice_integer (.agg #[.int .i64 n])
  have q2 := ValT.choice_choice (.agg #[.int .i64 n])
  obtain ⟨r, hr⟩ := hide (⟨(35 :: Lib.decDigits n.toNat).toArray⟩ : ByteArray)
  rw [hr.out]
  have hl := dec_len19 (m := n.toNat) (by omega)
  obtain ⟨s, hs⟩ := hide (⟨(Lib.decDigits n.toNat).toArray⟩ : ByteArray)
  have hsz : s.size ≤ 19 := by rw [size_len, ← hs.out, data_mk]; exact hl
  have HF : Hid ((⟨#[35]⟩ : ByteArray) ++ s = r) := by
    show _ = _; rw [← hr.out]; apply eq_mk; rw [data_add, ← hs.out, data_mk]; rfl
  clear hl
  go_enter Tryz.func56, Tryz.ntmps56
  go_wp2_with (go_at_call 96; refine (digits_small n _ (by omega) (by omega)).mono ?_; rintro e w' ⟨rfl, rfl⟩; rw [hs.out])
  go_ret
  exact ⟨ret_str HF.out, by go_grown⟩
theorem cont_choices (a : Option Addr) (cap : Nat) (zs : List Int) (w : World) (hc : Codes w a zs) (hr0 : risesB zs = true) :
    Calls Tryz.prog 56 #[.iface 131 (.agg #[.slice a zs.length cap])] w fun e w' => e = .returned (.string ⟨(123 :: (Lib.join (codesL zs) [44] ++ [125])).toArray⟩) ∧ Below w.heap.size w w' := by
  have q0 := ValT.choices_silence (.agg #[.slice a zs.length cap])
  have q1 := ValT.choices_integer (.agg #[.slice a zs.length cap])
  have q2 := ValT.choices_choice (.agg #[.slice a zs.length cap])
  have q3 := ValT.choices_choices (.agg #[.slice a zs.length cap])
  obtain ⟨r, hr⟩ := hide (⟨(123 :: (Lib.join (codesL zs) [44] ++ [125])).toArray⟩ : ByteArray)
  rw [hr.out]
  obtain ⟨s, hs⟩ := hide (⟨(Lib.join (codesL zs) [44]).toArray⟩ : ByteArray)
  have hsz : s.size ≤ 60 := by
    rw [size_len, ← hs.out, data_mk, ← upTo_all]
    have := upTo_len hr0 zs.length (Nat.le_refl _); have := rises_len hr0; omega
  have HF : Hid ((⟨#[123]⟩ : ByteArray) ++ s ++ (⟨#[125]⟩ : ByteArray) = r) := by
    show _ = _; rw [← hr.out]; apply eq_mk; rw [data_add, data_add, ← hs.out, data_mk]; rfl
  have HC : Hid (Codes w a zs) := hc
  have HR : Hid (risesB zs = true) := hr0
  clear hc hr0
  go_enter Tryz.func56, Tryz.ntmps56
  go_wp2_with fail
  refine (listed_in a cap zs _ (HC.out.alloc _) HR.out).mono ?_
  rintro e w1 ⟨rfl, hB1⟩
  rw [hs.out]
  have HB : Hid (Below w.heap.size w w1) := (below_one w _).trans (hB1.mono (by simp))
  clear hB1
  go_wp2
  go_ret
  exact ⟨ret_str HF.out, HB.out⟩
theorem cont_words (t : ByteArray) (w : World) (ht : t.size ≤ 40) (hE : Env w) :
    Calls Tryz.prog 56 #[.iface 134 (.agg #[.string t])] w fun e w' => e = .returned (.string ⟨(34 :: (quoteL t.data.toList ++ [34])).toArray⟩) ∧ Below w.heap.size w w' := by
  have q0 := ValT.words_silence (.agg #[.string t])
  have q1 := ValT.words_integer (.agg #[.string t])
  have q2 := ValT.words_choice (.agg #[.string t])
  have q3 := ValT.words_choices (.agg #[.string t])
  have q4 := ValT.words_words (.agg #[.string t])
  obtain ⟨r, hr⟩ := hide (⟨(34 :: (quoteL t.data.toList ++ [34])).toArray⟩ : ByteArray)
  rw [hr.out]
  obtain ⟨s, hs⟩ := hide (⟨(quoteL t.data.toList).toArray⟩ : ByteArray)
  have hsz : s.size ≤ 80 := by
    rw [size_len, ← hs.out, data_mk]
    have := quote_len t.data.toList; rw [← size_len] at this; omega
  have HF : Hid ((⟨#[34]⟩ : ByteArray) ++ s ++ (⟨#[34]⟩ : ByteArray) = r) := by
    show _ = _; rw [← hr.out]; apply eq_mk; rw [data_add, data_add, ← hs.out, data_mk]; rfl
  have HE : Hid (Env w) := hE
  have HC : Hid (t.size + Lib.countB t ⟨#[34]⟩ * (⟨#[34, 34]⟩ : ByteArray).size ≤ 140737488355328) := by
    have := Lib.countB_le ⟨#[34]⟩ (by decide) t.size t (Nat.le_refl _)
    have e : (⟨#[34, 34]⟩ : ByteArray).size = 2 := rfl
    show _ ≤ _; rw [e]; omega
  clear hE
  go_enter Tryz.func56, Tryz.ntmps56
  go_wp2_with fail
  obtain ⟨m, hm⟩ := (HE.out.on (below_one w (.cells #[.string t] 134))).2
  refine (Tryz.strings_ReplaceAll t ⟨#[34]⟩ ⟨#[34, 34]⟩ m _ (by omega) hm (by decide) HC.out).mono ?_
  rintro e w1 ⟨rfl, hB1⟩
  have e1 : (⟨(Lib.replaceAll t.data.toList (⟨#[34]⟩ : ByteArray).data.toList (⟨#[34, 34]⟩ : ByteArray).data.toList).toArray⟩ : ByteArray) = s := by
    rw [← hs.out, ← quote_replace]
  rw [e1]
  have HB : Hid (Below w.heap.size w w1) := (below_one w _).trans (hB1.mono (by simp))
  clear hB1 e1 hm
  go_wp2
  go_ret
  exact ⟨ret_str HF.out, HB.out⟩

/-- what an answer says, as the program holds it -/
def contV (k n : Int) (a : Option Addr) (len cap : Nat) (t : ByteArray) : Value :=
  if k = 1 then .iface 128 (.agg #[.int .i64 n]) else if k = 2 then .iface 129 (.agg #[.int .i64 n])
  else if k = 3 then .iface 131 (.agg #[.slice a len cap]) else if k = 4 then .iface 134 (.agg #[.string t]) else .iface 126 (.agg #[.int .i64 k])
theorem contV_none {k n : Int} {a : Option Addr} {len cap : Nat} {t : ByteArray} (hk : k = 0 ∨ k = 5 ∨ k = 6) : contV k n a len cap t = .iface 126 (.agg #[.int .i64 k]) := by
  unfold contV; rw [if_neg (by omega), if_neg (by omega), if_neg (by omega), if_neg (by omega)]
theorem content_any (k n : Int) (a : Option Addr) (cap : Nat) (zs : List Int) (t : ByteArray) (w : World) (hr : right k n zs t = true) :
    Calls Tryz.prog 57 #[av k n a zs.length cap t] w fun e w' => e = .returned (contV k n a zs.length cap t) ∧ Below w.heap.size w w' := by
  rcases kinds hr with ⟨hk, _⟩ | ⟨hk, _⟩ | ⟨hk, _⟩ | ⟨hk, _⟩ | ⟨hk, _⟩
  · rw [contV_none hk]; exact content_none k n a zs.length cap t w hk
  · subst hk; exact content_int 1 n a zs.length cap t w rfl
  · subst hk; exact content_code 2 n a zs.length cap t w rfl
  · subst hk; exact content_set 3 n a zs.length cap t w rfl
  · subst hk; exact content_text 4 n a zs.length cap t w rfl
theorem cont_any (k n : Int) (a : Option Addr) (cap : Nat) (zs : List Int) (t : ByteArray) (w : World) (hc : Codes w a zs) (hr : right k n zs t = true) (hE : Env w) :
    Calls Tryz.prog 56 #[contV k n a zs.length cap t] w fun e w' => e = .returned (.string ⟨(textL k n zs t).toArray⟩) ∧ Below w.heap.size w w' := by
  rcases kinds hr with ⟨hk, _⟩ | ⟨rfl, h0, h1, _⟩ | ⟨rfl, h0, h1, _⟩ | ⟨rfl, _, h0, _⟩ | ⟨rfl, _, _, _, h0⟩
  · have e : textL k n zs t = if k = 5 then [68, 75] else if k = 6 then [82, 70] else [] := by unfold textL; rw [if_neg (by omega), if_neg (by omega), if_neg (by omega), if_neg (by omega)]
    rw [contV_none hk, e]; exact cont_silence k w hk
  · exact cont_integer n w h0 h1 hE
  · exact cont_choice n w h0 h1
  · exact cont_choices a cap zs w hc h0
  · exact cont_words t w h0 hE

theorem impl_text (k n : Int) (a : Option Addr) (cap : Nat) (zs : List Int) (t : ByteArray) (w : World) (hc : Codes w a zs) (ht : t.size ≤ maxLen) (hE : Env w) :
    Calls Tryz.prog 20 #[av k n a zs.length cap t] w fun e w' => e = .returned (.string (textB k n zs t)) ∧ Below w.heap.size w w' := by
  have HC : Hid (Codes w a zs) := hc
  have HT : Hid (t.size ≤ maxLen) := ht
  have HE : Hid (Env w) := hE
  obtain ⟨r, hr⟩ := hide (textB k n zs t)
  obtain ⟨x, hx⟩ : ∃ x, Hid (right k n zs t = x) := ⟨_, rfl⟩
  obtain ⟨c, hcv⟩ : ∃ c, Hid (contV k n a zs.length cap t = c) := ⟨_, rfl⟩
  rw [hr.out]
  clear hc ht hE
  go_enter Tryz.func20, Tryz.ntmps20
  go_wp2_with fail
  refine (impl_right k n a cap zs t _ (HC.out.alloc _) HT.out).mono ?_
  rintro e w1 ⟨rfl, hB1⟩
  rw [hx.out]
  have HA : Hid (At4 w1 w.heap.size (.int .i64 k) (.int .i64 n) (.slice a zs.length cap) (.string t)) := (At4.laid w _ _ _ _ _).on hB1
  have HB1 : Hid (Below w.heap.size w w1) := (below_one w _).trans (hB1.mono (by simp))
  clear hB1
  cases x with
  | false =>
    have HF : Hid (ByteArray.empty = r) := by show _ = _; rw [← hr.out]; unfold textB; rw [if_neg (by rw [hx.out]; simp)]
    go_wp2
    go_ret
    exact ⟨ret_str HF.out, HB1.out⟩
  | true =>
    have HF : Hid ((⟨(textL k n zs t).toArray⟩ : ByteArray) = r) := by show _ = _; rw [← hr.out]; unfold textB; rw [if_pos hx.out]
    obtain ⟨c0, c1, c2, c3, hsz⟩ := HA.out
    go_wp2_with fail
    refine (content_any k n a cap zs t _ hx.out).mono ?_
    rintro e w2 ⟨rfl, hB2⟩
    have HB2 : Hid (Below w.heap.size w w2) := HB1.out.trans (hB2.mono HB1.out.size)
    clear hB2 c0 c1 c2 c3 hsz
    rw [hcv.out]
    have HK : Hid (Calls Tryz.prog 56 #[c] w2 fun e w' => e = .returned (.string r) ∧ Below w2.heap.size w2 w') := by
      have := cont_any k n a cap zs t w2 (HC.out.on HB2.out) hx.out (HE.out.on HB2.out)
      rw [hcv.out, HF.out] at this; exact this
    go_wp2_with fail
    refine HK.out.mono ?_
    rintro e w3 ⟨rfl, hB3⟩
    have HB3 : Hid (Below w.heap.size w w3) := HB2.out.trans (hB3.mono HB2.out.size)
    clear hB3
    go_wp2
    go_ret
    exact ⟨rfl, HB3.out⟩
end Go.Proofs.YtphdkhdlgcglpaaGreatDoor.TxtI
