/- Texts of ours, laid together: TxtSpec, TxtSpecV. -/
import Derived.Test.YtphdkhdlgcglpaaGreatDoorBd4
import Derived.Test.YtphdkhdlgcglpaaGreatDoorBd12
import Derived.Test.YtphdkhdlgcglpaaGreatDoorBd8
import Derived.Laws.AppendOwn
import Derived.Laws.OwnMore
import Derived.Laws.IdiomStrings
import Derived.Laws.Concat
import Derived.Laws.BytesString
/- The model's texts: the digits of a number, the text of a right answer. -/
namespace Go.Proofs.YtphdkhdlgcglpaaGreatDoor.TxtS
open Go.RowKit
open ValM ValW ValS ValI TxtM

theorem hide (x : ByteArray) : ∃ r : ByteArray, Hid (x = r) := ⟨x, show x = x from rfl⟩
theorem ret_str {a b : ByteArray} (h : a = b) : Ending.returned (.string a) = .returned (.string b) := by rw [h]
theorem Tryz.infoB : (Tryz.prog.info? 5).map (fun i => (i.zero, i.size, i.bytes)) = some (some (.int .u8 0), 1, 1) := by kernel_rfl

def cellsB (l : List UInt8) : List Value := l.map (fun b => Value.int .u8 (b.toNat : Int))
theorem conv_own {w : World} {base n : Nat} {v : Value} {l : List UInt8} (h : w.ownsRow base 5 1 v n (cellsB l)) :
    (convert 22 9 v).run Tryz.prog w = .ok (.string ⟨l.toArray⟩) w := by
  obtain ⟨hl, hv⟩ := h
  have hn : n = l.length := by unfold cellsB at hl; simp at hl; omega
  subst hn
  rcases hv with ⟨rfl, h0⟩ | ⟨g, cap, cur, rfl, _, hg, hc, _, hs, ht⟩
  · have : l = [] := List.length_eq_zero_iff.1 h0
    subst this
    rw [run_convert_bytes_string w 22 9 5 none 0 0 Tryz.underlying22 Tryz.underlying5 Tryz.underlying9]
    simp [Conv.bytesToString, Sem.run_pure]; rfl
  · refine run_convert_bytes_back w 22 9 5 _ cap l Tryz.underlying22 Tryz.underlying5 Tryz.underlying9 ?_
    intro j hj
    have e : (cellsB l)[j]? = some (.int .u8 (l[j].toNat : Int)) := by unfold cellsB; simp [hj]
    rw [← ht] at e
    have e2 : cur[j]? = some (.int .u8 (l[j].toNat : Int)) := by
      rw [List.getElem?_take] at e
      split at e
      · simpa using e
      · cases e
    have hplain : (⟨g, 0, none⟩ : Addr).add j = ⟨g, j, none⟩ := by unfold Addr.add; split <;> simp_all
    rw [hplain]; simp [World.cell?, hg, e2]
/-- one digit, as a string -/
def dig (d : Nat) : ByteArray := ⟨#[UInt8.ofNat (48 + d)]⟩
theorem dig_data (d : Nat) : (dig d).data.toList = [UInt8.ofNat (48 + d)] := rfl
theorem dig_size (d : Nat) : (dig d).size = 1 := rfl
theorem conv_dig (w : World) (d : Nat) (h : d < 10) :
    (convert 22 9 (.slice (some ⟨w.heap.size, 0, none⟩) 1 1)).run Tryz.prog (w.alloc (.cells #[.int .u8 (48 + (d : Int))] 5)) = .ok (.string (dig d)) (w.alloc (.cells #[.int .u8 (48 + (d : Int))] 5)) := by
  refine run_convert_bytes_back _ 22 9 5 _ 1 [UInt8.ofNat (48 + d)] Tryz.underlying22 Tryz.underlying5 Tryz.underlying9 ?_
  intro j hj
  have : j = 0 := by simpa using hj
  subst this
  simp [Addr.add]; omega

set_option maxRecDepth 10000 in
set_option maxHeartbeats 1000000 in
theorem dec_in (n : Int) (w : World) (h0 : 0 ≤ n) (h1 : n ≤ 9223372036854775807) :
    Calls Tryz.prog 79 #[.int .i64 n] w fun e w' => e = .returned (.string ⟨(Lib.decDigits n.toNat).toArray⟩) ∧ Below w.heap.size w w' := by
  by_cases hz : n = 0
  · subst hz
    go_enter Tryz.func79, Tryz.ntmps79
    go_wp2
    go_ret
    exact ⟨ret_str (by rw [Lib.decDigits]; rfl), Below.refl _ _⟩
  obtain ⟨r, hr⟩ : ∃ r : ByteArray, Hid ((⟨(Lib.decDigits n.toNat).toArray⟩ : ByteArray) = r) := ⟨_, rfl⟩
  rw [hr.out]
  have hneg : ¬ n < 0 := by omega
  have HZ : Hid (¬ n = 0) := hz
  have HD : Hid ((Lib.decDigits n.toNat).length ≤ 19) := dec_len19 (by omega)
  go_enter Tryz.func79, Tryz.ntmps79
  go_wp2
  go_loopw [0, 4] (fun u v wr => ∃ (m : Nat) (out : ByteArray), u = .int .i64 m ∧ m ≤ 9223372036854775807 ∧ v = .string out ∧ Below w.heap.size w wr ∧ Hid (Lib.decDigits n.toNat = tail0 m ++ out.data.toList)) (fun u _ _ => (intOf u).toNat)
  case atStart => exact ⟨n.toNat, ByteArray.empty, by rw [Int.toNat_of_nonneg h0], by omega, rfl, Below.refl _ _, show Lib.decDigits n.toNat = _ by unfold tail0; rw [if_neg (by have := HZ.out; omega)]; simp⟩
  case round =>
    obtain ⟨m, out, rfl, hm, rfl, hbel, hA⟩ := hrel
    by_cases hm0 : m = 0
    · subst hm0
      have HF : Hid (out = r) := show out = r by
        have e : tail0 0 ++ out.data.toList = out.data.toList := rfl
        rw [← hr.out, hA.out, e, mk_data]
      go_wp2
      go_ret
      exact ⟨ret_str HF.out, hbel⟩
    · have hlen : out.size ≤ 19 := by
        have := HD.out; rw [hA.out, List.length_append, ← size_len] at this; omega
      obtain ⟨d, hd⟩ : ∃ d : Nat, m % 10 = d := ⟨_, rfl⟩
      obtain ⟨q, hq⟩ : ∃ q : Nat, m / 10 = q := ⟨_, rfl⟩
      have hdi : (m : Int) % 10 = d := by omega
      have hqi : (m : Int) / 10 = q := by omega
      have hdl : d < 10 := by omega
      have hql : q < m := by omega
      have HN : Hid (Lib.decDigits n.toNat = tail0 q ++ (dig d ++ out).data.toList) := by
        show _ = _; rw [hA.out, dec_step m hm0, data_add, dig_data, hq, hd]; simp
      have hcv := conv_dig wr d hdl
      have hds := dig_size d
      have hB2 := hbel.alloc hbel.size (Obj.cells #[Value.int IntKind.u8 (48 + (d : Int))] 5)
      clear hd hq
      go_wp2
      go_roundw
      case rel => exact ⟨q, _, by go_num, by omega, rfl, hB2, HN⟩
      case measure => simp [intOf]; omega

theorem dec3_in (n : Int) (w : World) (h0 : -1000000000 ≤ n) (h1 : n ≤ 1000000000) :
    Calls Tryz.prog 78 #[.int .i64 n] w fun e w' => e = .returned (.string ⟨(Lib.itoa n).toArray⟩) ∧ Below w.heap.size w w' := by
  obtain ⟨r, hr⟩ : ∃ r : ByteArray, Hid ((⟨(Lib.itoa n).toArray⟩ : ByteArray) = r) := ⟨_, rfl⟩
  rw [hr.out]
  by_cases h : n < 0
  · obtain ⟨m, hm⟩ : ∃ m : Int, -n = m := ⟨_, rfl⟩
    go_enter Tryz.func78, Tryz.ntmps78
    go_wp2_with fail
    refine (dec_in m _ (by omega) (by omega)).mono ?_
    rintro e w1 ⟨rfl, hB1⟩
    have hl := dec_len19 (m := m.toNat) (by omega)
    obtain ⟨s, hs⟩ : ∃ s : ByteArray, Hid ((⟨(Lib.decDigits m.toNat).toArray⟩ : ByteArray) = s) := ⟨_, rfl⟩
    have hsz : s.size ≤ 19 := by rw [size_len, ← hs.out, data_mk]; exact hl
    have HF : Hid ((⟨#[45]⟩ : ByteArray) ++ s = r) := by
      show _ = _; rw [← hr.out, itoa_neg h, hm]; apply eq_mk; rw [data_add, ← hs.out, data_mk]; rfl
    rw [hs.out]
    clear hl
    go_wp2
    go_ret
    exact ⟨ret_str HF.out, hB1⟩
  · go_enter Tryz.func78, Tryz.ntmps78
    go_wp2_with fail
    refine (dec_in n _ (by omega) (by omega)).mono ?_
    rintro e w1 ⟨rfl, hB1⟩
    obtain ⟨s, hs⟩ : ∃ s : ByteArray, Hid ((⟨(Lib.decDigits n.toNat).toArray⟩ : ByteArray) = s) := ⟨_, rfl⟩
    have HF : Hid (s = r) := show s = r by rw [← hr.out, ← hs.out, itoa_pos (by omega)]
    rw [hs.out]
    go_wp2
    go_ret
    exact ⟨ret_str HF.out, hB1⟩

theorem text_int (n : Int) (a : Option Addr) (len cap : Nat) (t : ByteArray) (w : World) (h0 : -1000000000 ≤ n) (h1 : n ≤ 1000000000) :
    Calls Tryz.prog 61 #[av 1 n a len cap t] w fun e w' => e = .returned (.string ⟨(Lib.itoa n).toArray⟩) ∧ Below w.heap.size w w' := by
  obtain ⟨r, hr⟩ : ∃ r : ByteArray, Hid ((⟨(Lib.itoa n).toArray⟩ : ByteArray) = r) := ⟨_, rfl⟩
  rw [hr.out]
  go_enter Tryz.func61, Tryz.ntmps61
  go_wp2_with fail
  refine (dec3_in n _ h0 h1).mono ?_
  rintro e w1 ⟨rfl, hB1⟩
  rw [hr.out]
  have HB : Hid (Below w.heap.size w w1) := (below_one w _).trans (hB1.mono (by simp))
  clear hB1
  go_wp2
  go_ret
  exact ⟨rfl, HB.out⟩
theorem text_code (n : Int) (a : Option Addr) (len cap : Nat) (t : ByteArray) (w : World) (h0 : 1 ≤ n) (h1 : n ≤ 20) :
    Calls Tryz.prog 61 #[av 2 n a len cap t] w fun e w' => e = .returned (.string ⟨(35 :: Lib.decDigits n.toNat).toArray⟩) ∧ Below w.heap.size w w' := by
  obtain ⟨r, hr⟩ : ∃ r : ByteArray, Hid ((⟨(35 :: Lib.decDigits n.toNat).toArray⟩ : ByteArray) = r) := ⟨_, rfl⟩
  rw [hr.out]
  go_enter Tryz.func61, Tryz.ntmps61
  go_wp2_with fail
  refine (dec_in n _ (by omega) (by omega)).mono ?_
  rintro e w1 ⟨rfl, hB1⟩
  have hl := dec_len19 (m := n.toNat) (by omega)
  obtain ⟨s, hs⟩ : ∃ s : ByteArray, Hid ((⟨(Lib.decDigits n.toNat).toArray⟩ : ByteArray) = s) := ⟨_, rfl⟩
  have hsz : s.size ≤ 19 := by rw [size_len, ← hs.out, data_mk]; exact hl
  have HF : Hid ((⟨#[35]⟩ : ByteArray) ++ s = r) := by
    show _ = _; rw [← hr.out]; apply eq_mk; rw [data_add, ← hs.out, data_mk]; rfl
  rw [hs.out]
  have HB : Hid (Below w.heap.size w w1) := (below_one w _).trans (hB1.mono (by simp))
  clear hB1 hl
  go_wp2
  go_ret
  exact ⟨ret_str HF.out, HB.out⟩

set_option maxRecDepth 10000 in
set_option maxHeartbeats 1000000 in
theorem text_set (n : Int) (a : Option Addr) (cap : Nat) (zs : List Int) (t : ByteArray) (w : World) (hc : Codes w a zs) (hr0 : risesB zs = true) :
    Calls Tryz.prog 61 #[av 3 n a zs.length cap t] w fun e w' => e = .returned (.string ⟨(123 :: (Lib.join (codesL zs) [44] ++ [125])).toArray⟩) ∧ Below w.heap.size w w' := by
  have HC : Hid (Codes w a zs) := hc
  have HR : Hid (risesB zs = true) := hr0
  have hl := rises_len hr0
  clear hc hr0
  obtain ⟨r, hr⟩ := hide (⟨(123 :: (Lib.join (codesL zs) [44] ++ [125])).toArray⟩ : ByteArray)
  rw [hr.out]
  go_enter Tryz.func61, Tryz.ntmps61
  go_wp2
  go_loopw [3, 4] (fun u v wr => ∃ (i : Nat) (s : ByteArray), i ≤ zs.length ∧ u = .string s ∧ v = .int .i64 i ∧ s.size ≤ 1 + 3 * i ∧ Below w.heap.size w wr ∧ Hid (s.data.toList = 123 :: upTo zs i) ∧ Hid (At4 wr w.heap.size (.int .i64 3) (.int .i64 n) (.slice a zs.length cap) (.string t))) (fun _ v _ => zs.length - (intOf v).toNat)
  case atStart => exact ⟨0, ⟨#[123]⟩, Nat.zero_le _, rfl, rfl, by decide, below_one w _, show _ = _ by rfl, At4.laid w _ _ _ _ _⟩
  case round =>
    obtain ⟨i, s, hi, rfl, rfl, hsz, hbel, HS, H4⟩ := hrel
    obtain ⟨c0, c1, c2, c3, hbz⟩ := H4.out
    clear c0 c1 c3
    by_cases hlt : i < zs.length
    · obtain ⟨b, o, rfl, hb, hcs⟩ := HC.out.2 (by omega)
      have hcell : wr.cell? ⟨b, o + i, none⟩ = some (.int .i64 (zs.getD i 0)) := (hbel.cell hb).trans (hcs i hlt)
      obtain ⟨v, hv⟩ : ∃ v, Hid (zs.getD i 0 = v) := ⟨_, rfl⟩
      rw [hv.out] at hcell
      have hok := rises_at HR.out i hlt
      have hv1 : 1 ≤ v := by rw [← hv.out]; exact hok.1
      have hv2 : v ≤ 20 := by rw [← hv.out]; exact hok.2.1
      have HU : Hid (upTo zs (i + 1) = upTo zs i ++ (if i = 0 then [] else [44]) ++ Lib.decDigits v.toNat) := by
        show _ = _; rw [← hv.out]; exact upTo_succ zs i hlt
      have hd2 := dec_len 1 v.toNat (by omega)
      have HB : Hid (Below w.heap.size w wr) := hbel
      clear hok hcs hbel
      by_cases h0 : i = 0
      · subst h0
        rw [Nat.add_zero] at hcell
        go_wp2_with fail
        refine (dec_in v _ (by omega) (by omega)).mono ?_
        rintro e w1 ⟨rfl, hB1⟩
        obtain ⟨x, hx⟩ : ∃ x : ByteArray, Hid ((⟨(Lib.decDigits v.toNat).toArray⟩ : ByteArray) = x) := ⟨_, rfl⟩
        have hxz : x.size ≤ 2 := by rw [size_len, ← hx.out, data_mk]; exact hd2
        rw [hx.out]
        have HN : Hid ((s ++ x).data.toList = 123 :: upTo zs (0 + 1)) := by
          show _ = _; rw [data_add, HS.out, ← hx.out, data_mk, HU.out]; simp
        have HB1 : Hid (Below w.heap.size w w1) := HB.out.trans (hB1.mono HB.out.size)
        have H41 := H4.out.on hB1
        clear hB1 hd2 c2
        go_wp2
        go_roundw
        case rel => exact ⟨1, _, by omega, rfl, by go_num, by rw [ByteArray.size_append]; omega, HB1.out, HN, H41⟩
        case measure => simp [intOf]; omega
      · go_wp2_with fail
        refine (dec_in v _ (by omega) (by omega)).mono ?_
        rintro e w1 ⟨rfl, hB1⟩
        obtain ⟨x, hx⟩ : ∃ x : ByteArray, Hid ((⟨(Lib.decDigits v.toNat).toArray⟩ : ByteArray) = x) := ⟨_, rfl⟩
        have hxz : x.size ≤ 2 := by rw [size_len, ← hx.out, data_mk]; exact hd2
        rw [hx.out]
        have HN : Hid ((s ++ (⟨#[44]⟩ : ByteArray) ++ x).data.toList = 123 :: upTo zs (i + 1)) := by
          show _ = _; rw [data_add, data_add, HS.out, ← hx.out, data_mk, HU.out, if_neg h0]; simp
        have HB1 : Hid (Below w.heap.size w w1) := HB.out.trans (hB1.mono HB.out.size)
        have H41 := H4.out.on hB1
        have hs44 : (⟨#[44]⟩ : ByteArray).size = 1 := rfl
        clear hB1 hd2 c2
        go_wp2
        go_roundw
        case rel => exact ⟨i + 1, _, by omega, rfl, by go_num, by rw [ByteArray.size_append, ByteArray.size_append]; omega, HB1.out, HN, H41⟩
        case measure => simp [intOf]; omega
    · have HF : Hid (s ++ (⟨#[125]⟩ : ByteArray) = r) := by
        show _ = _; rw [← hr.out]; apply eq_mk; rw [data_add, HS.out, show i = zs.length by omega, upTo_all]; simp
      go_wp2
      go_ret
      exact ⟨ret_str HF.out, hbel⟩
theorem text_word (k n : Int) (a : Option Addr) (len cap : Nat) (t : ByteArray) (w : World) (hk : k = 0 ∨ k = 5 ∨ k = 6) :
    Calls Tryz.prog 61 #[av k n a len cap t] w fun e w' => e = .returned (.string ⟨(if k = 5 then [68, 75] else if k = 6 then [82, 70] else []).toArray⟩) ∧ Below w.heap.size w w' := by
  rcases hk with rfl | rfl | rfl <;>
  · go_enter Tryz.func61, Tryz.ntmps61
    go_wp2
    go_ret
    exact ⟨rfl, below_one w _⟩

theorem cells_snoc (l : List UInt8) (x : UInt8) : cellsB (l ++ [x]) = cellsB l ++ [.int .u8 (x.toNat : Int)] := by unfold cellsB; simp
set_option maxRecDepth 10000 in
set_option maxHeartbeats 2000000 in
theorem text_text (n : Int) (a : Option Addr) (len cap : Nat) (t : ByteArray) (w : World) (ht : t.size ≤ 40) :
    Calls Tryz.prog 61 #[av 4 n a len cap t] w fun e w' => e = .returned (.string ⟨(34 :: (quoteL t.data.toList ++ [34])).toArray⟩) ∧ Below w.heap.size w w' := by
  obtain ⟨r, hr⟩ := hide (⟨(34 :: (quoteL t.data.toList ++ [34])).toArray⟩ : ByteArray)
  rw [hr.out]
  obtain ⟨i0, hi, hz0, hz1, hz2⟩ := info_parts Tryz.infoB
  have HTL : Hid (t.data.toList.length = t.size) := (size_len t).symm
  go_enter Tryz.func61, Tryz.ntmps61
  go_wp2
  go_loopw [5, 6] (fun u v wr => ∃ (i : Nat) (l : List UInt8), i ≤ t.size ∧ v = .int .i64 i ∧ l.length ≤ 1 + 2 * i ∧ wr.ownsRow (w.heap.size + 1) 5 1 u l.length (cellsB l) ∧ Below (w.heap.size + 1) (w.alloc (.cells #[.int .i64 4, .int .i64 n, .slice a len cap, .string t] 38)) wr ∧ Hid (l = 34 :: quoteL (t.data.toList.take i))) (fun _ v _ => t.size - (intOf v).toNat)
  case atStart =>
    refine ⟨0, [34], Nat.zero_le _, rfl, by simp, ?_, (Below.refl _ _).alloc (by simp) _, show _ = _ by simp [quoteL]⟩
    have := World.ownsRow_lit (base := w.heap.size + 1) (e := 5) (size := 1) (w.alloc (.cells #[.int .i64 4, .int .i64 n, .slice a len cap, .string t] 38)) #[.int .u8 34] 1 (by simp) (by unfold maxLen; omega) rfl
    simpa [cellsB] using this
  case round =>
    obtain ⟨i, l, hi2, rfl, hll, hown, hbel, HS⟩ := hrel
    have c3 : wr.cell? ⟨w.heap.size, 3, none⟩ = some (.string t) := by rw [hbel.cell (p := ⟨w.heap.size, 3, none⟩) (by simp)]; simp
    have hsz := hbel.size
    have HBw : Hid (Below w.heap.size w wr) := (below_one w _).trans (hbel.mono (by omega))
    rw [World.size_alloc] at hsz
    by_cases hlt : i < t.size
    · obtain ⟨x, hx⟩ : ∃ x : UInt8, t[i]'hlt = x := ⟨_, rfl⟩
      have HT : Hid (t.data.toList.take (i + 1) = t.data.toList.take i ++ [x]) := by
        show _ = _
        rw [List.take_add_one, List.getElem?_eq_getElem (by have := HTL.out; omega)]
        simp; exact hx
      have HX : Hid (t[i]'hlt = x) := hx
      by_cases hq : x = 34
      · have hq2 : (t[i]'hlt).toNat = 34 := by rw [hx, hq]; rfl
        go_wp2_with (first
          | (at_builtin; refine wpList_append_own _ rfl _ _ 22 rfl (w.heap.size + 1) 5 i0 (.int .u8 0) 1 1 Tryz.underlying22 hi hz0 hz1 hz2 rfl (by decide) _ _ _ rfl (hown.alloc _) ⟨wr.heap.size, 0, none⟩ 1 1 [.int .u8 34] rfl rfl ?c1 ?c2 ?c3 ?c4 ?c5 ?_))
        case c1 =>
          intro j u hj
          match j, hj with
          | 0, hj => simp at hj; subst hj; simp [Addr.add]
        case c2 => intro u hu; simp at hu; subst hu; rfl
        case c3 => unfold maxLen; omega
        case c4 => omega
        case c5 => simp; omega
        intro v' w1 hown' hgrow _
        have hown2 : w1.ownsRow (w.heap.size + 1) 5 1 v' (l ++ [34]).length (cellsB (l ++ [34])) := by
          rw [cells_snoc]; simpa using hown'
        have hb2 := (hbel.alloc (by simpa using hsz) (Obj.cells #[Value.int IntKind.u8 34] 5)).grown hgrow (by simp; omega) (fun k hk => (hown.lt k hk).1)
        have d3 : w1.cell? ⟨w.heap.size, 3, none⟩ = some (.string t) := by rw [hb2.cell (p := ⟨w.heap.size, 3, none⟩) (by simp)]; simp
        have hsz1 := hb2.size
        rw [World.size_alloc] at hsz1
        have HN : Hid (l ++ [34] ++ [34] = 34 :: quoteL (t.data.toList.take (i + 1))) := by
          show _ = _; rw [HS.out, HT.out, quote_snoc, if_pos hq]; simp
        clear hown hown' hgrow c3 HBw hbel
        go_wp2_with (first
          | (at_builtin; refine wpList_append_own _ rfl _ _ 22 rfl (w.heap.size + 1) 5 i0 (.int .u8 0) 1 1 Tryz.underlying22 hi hz0 hz1 hz2 rfl (by decide) _ _ _ rfl (hown2.alloc _) ⟨w1.heap.size, 0, none⟩ 1 1 [.int .u8 34] rfl rfl ?e1 ?e2 ?e3 ?e4 ?e5 ?_))
        case e1 =>
          intro j u hj
          match j, hj with
          | 0, hj => simp at hj; subst hj; simp [Addr.add]
        case e2 => intro u hu; simp at hu; subst hu; rfl
        case e3 => unfold maxLen; simp; omega
        case e4 => simp; omega
        case e5 => simp; omega
        intro v2 w2 hown3 hgrow2 _
        have hown4 : w2.ownsRow (w.heap.size + 1) 5 1 v2 (l ++ [34] ++ [34]).length (cellsB (l ++ [34] ++ [34])) := by
          rw [cells_snoc]; simpa using hown3
        have hb4 := (hb2.alloc (by simpa using hsz1) (Obj.cells #[Value.int IntKind.u8 34] 5)).grown hgrow2 (by simp; omega) (fun k hk => (hown2.lt k hk).1)
        clear hown2 hown3 hgrow2 d3 hb2
        go_wp2
        go_roundw
        case rel => exact ⟨i + 1, _, by omega, by go_num, by simp; omega, hown4, hb4, HN⟩
        case measure => simp [intOf]; omega
      · obtain ⟨y, hy⟩ : ∃ y : Nat, (t[i]'hlt).toNat = y := ⟨_, rfl⟩
        have hy2 : x.toNat = y := by rw [← hx]; exact hy
        have hy3 : ¬ y = 34 := fun e => hq (by rw [← hy2] at e; exact UInt8.toNat_inj.1 e)
        have hy4 : y < 256 := by rw [← hy2]; exact x.toNat_lt
        go_wp2_with (first
          | (at_builtin; refine wpList_append_own _ rfl _ _ 22 rfl (w.heap.size + 1) 5 i0 (.int .u8 0) 1 1 Tryz.underlying22 hi hz0 hz1 hz2 rfl (by decide) _ _ _ rfl (hown.alloc _) ⟨wr.heap.size, 0, none⟩ 1 1 [.int .u8 y] rfl rfl ?f1 ?f2 ?f3 ?f4 ?f5 ?_))
        case f1 =>
          intro j u hj
          match j, hj with
          | 0, hj => simp at hj; subst hj; simp [Addr.add]
        case f2 => intro u hu; simp at hu; subst hu; rfl
        case f3 => unfold maxLen; simp; omega
        case f4 => omega
        case f5 => simp; omega
        intro v' w1 hown' hgrow _
        have hown2 : w1.ownsRow (w.heap.size + 1) 5 1 v' (l ++ [x]).length (cellsB (l ++ [x])) := by
          rw [cells_snoc, hy2]; simpa using hown'
        have hb2 := (hbel.alloc (by simpa using hsz) (Obj.cells #[Value.int IntKind.u8 y] 5)).grown hgrow (by simp; omega) (fun k hk => (hown.lt k hk).1)
        have HN : Hid (l ++ [x] = 34 :: quoteL (t.data.toList.take (i + 1))) := by
          show _ = _; rw [HS.out, HT.out, quote_snoc, if_neg hq]; simp
        clear hown hown' hgrow c3 HBw hbel
        go_wp2
        go_roundw
        case rel => exact ⟨i + 1, _, by omega, by go_num, by simp; omega, hown2, hb2, HN⟩
        case measure => simp [intOf]; omega
    · have hcv := conv_own hown
      obtain ⟨s, hs⟩ := hide (⟨l.toArray⟩ : ByteArray)
      rw [hs.out] at hcv
      have hss : s.size ≤ 81 := by rw [size_len, ← hs.out, data_mk]; omega
      have HF : Hid (s ++ (⟨#[34]⟩ : ByteArray) = r) := by
        show _ = _; rw [← hr.out]; apply eq_mk; rw [data_add, ← hs.out, data_mk, HS.out, List.take_of_length_le (by have := HTL.out; omega)]; simp
      clear hown
      go_wp2
      go_ret
      exact ⟨ret_str HF.out, HBw.out⟩

theorem l03_text (k n : Int) (a : Option Addr) (cap : Nat) (zs : List Int) (t : ByteArray) (w : World) (hc : Codes w a zs) (hr : right k n zs t = true) :
    Calls Tryz.prog 61 #[av k n a zs.length cap t] w fun e w' => e = .returned (.string ⟨(textL k n zs t).toArray⟩) ∧ Below w.heap.size w w' := by
  rcases kinds hr with ⟨hk, _⟩ | ⟨rfl, h0, h1, _⟩ | ⟨rfl, h0, h1, _⟩ | ⟨rfl, _, h0, _⟩ | ⟨rfl, _, _, _, h0⟩
  · have e : textL k n zs t = if k = 5 then [68, 75] else if k = 6 then [82, 70] else [] := by unfold textL; rw [if_neg (by omega), if_neg (by omega), if_neg (by omega), if_neg (by omega)]
    rw [e]; exact text_word k n a zs.length cap t w hk
  · exact text_int n a zs.length cap t w h0 h1
  · exact text_code n a zs.length cap t w h0 h1
  · exact text_set n a cap zs t w hc h0
  · exact text_text n a zs.length cap t w h0
end Go.Proofs.YtphdkhdlgcglpaaGreatDoor.TxtS
/- The text of whatever answer, by the model. -/
namespace Go.Proofs.YtphdkhdlgcglpaaGreatDoor.TxtS
open Go.RowKit
open ValM ValW ValS ValI TxtM

theorem spec_text (k n : Int) (a : Option Addr) (cap : Nat) (zs : List Int) (t : ByteArray) (w : World) (hc : Codes w a zs) (ht : t.size ≤ maxLen) :
    Calls Tryz.prog 25 #[av k n a zs.length cap t] w fun e w' => e = .returned (.string (textB k n zs t)) ∧ Below w.heap.size w w' := by
  have HC : Hid (Codes w a zs) := hc
  have HT : Hid (t.size ≤ maxLen) := ht
  obtain ⟨r, hr⟩ := hide (textB k n zs t)
  obtain ⟨x, hx⟩ : ∃ x, Hid (right k n zs t = x) := ⟨_, rfl⟩
  rw [hr.out]
  clear hc ht
  go_enter Tryz.func25, Tryz.ntmps25
  go_wp2_with fail
  refine (spec_right k n a cap zs t _ (HC.out.alloc _) HT.out).mono ?_
  rintro e w1 ⟨rfl, hB1⟩
  rw [hx.out]
  have HA : Hid (At4 w1 w.heap.size (.int .i64 k) (.int .i64 n) (.slice a zs.length cap) (.string t)) := (At4.laid w _ _ _ _ _).on hB1
  have HB1 : Hid (Below w.heap.size w w1) := (below_one w _).trans (hB1.mono (by simp))
  clear hB1
  cases x with
  | false =>
    have HF : Hid (ByteArray.empty = r) := by show _ = _; rw [← hr.out]; unfold textB; rw [if_neg (by rw [hx.out]; simp)]
    go_wp2
    go_ret
    exact ⟨ret_str HF.out, HB1.out⟩
  | true =>
    have HF : Hid ((⟨(textL k n zs t).toArray⟩ : ByteArray) = r) := by show _ = _; rw [← hr.out]; unfold textB; rw [if_pos hx.out]
    obtain ⟨c0, c1, c2, c3, hsz⟩ := HA.out
    go_wp2_with fail
    refine (l03_text k n a cap zs t _ (HC.out.on HB1.out) hx.out).mono ?_
    rintro e w2 ⟨rfl, hB2⟩
    rw [HF.out]
    have HB2 : Hid (Below w.heap.size w w2) := HB1.out.trans (hB2.mono HB1.out.size)
    clear hB2 c0 c1 c2 c3 hsz
    go_wp2
    go_ret
    exact ⟨rfl, HB2.out⟩
end Go.Proofs.YtphdkhdlgcglpaaGreatDoor.TxtS
