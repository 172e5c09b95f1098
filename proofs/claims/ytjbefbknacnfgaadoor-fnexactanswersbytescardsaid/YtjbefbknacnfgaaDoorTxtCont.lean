/- The program's text of what an answer says, kind by kind; and its ValueText. -/
import Derived.Test.YtjbefbknacnfgaaDoorTxtImpl
namespace Go.Proofs.YtjbefbknacnfgaaDoor.TxtI
open Go.RowKit
open ValM ValW ValS ValI TxtM

theorem cont_silence (k : Int) (w : World) (hk : k = 0 ∨ k = 5 ∨ k = 6) :
    Calls Tryd.prog 32 #[.iface 69 (.agg #[.int .i64 k])] w fun e w' => e = .returned (.string ⟨(if k = 5 then [68, 75] else if k = 6 then [82, 70] else []).toArray⟩) ∧ Below w.heap.size w w' := by
  have q0 := ValT.silence_silence (.agg #[.int .i64 k])
  rcases hk with rfl | rfl | rfl <;>
  · go_enter Tryd.func32, Tryd.ntmps32
    go_wp2
    go_ret
    exact ⟨rfl, by go_grown⟩
theorem cont_integer (n : Int) (w : World) (h0 : -1000000000 ≤ n) (h1 : n ≤ 1000000000) (hE : Env w) :
    Calls Tryd.prog 32 #[.iface 71 (.agg #[.int .i64 n])] w fun e w' => e = .returned (.string ⟨(Lib.itoa n).toArray⟩) ∧ Below w.heap.size w w' := by
  have q0 := ValT.integer_silence (.agg #[.int .i64 n])
  have q1 := ValT.integer_integer (.agg #[.int .i64 n])
  have HE : Hid (Env w) := hE
  clear hE
  obtain ⟨r, hr⟩ := hide (⟨(Lib.itoa n).toArray⟩ : ByteArray)
  rw [hr.out]
  go_enter Tryd.func32, Tryd.ntmps32
  go_wp2_with fail
  refine (digits_in n _ (by omega) (by omega) (HE.out.on (below_one w _))).mono ?_
  rintro e w1 ⟨rfl, hB1⟩
  rw [hr.out]
  have HB : Hid (Below w.heap.size w w1) := (below_one w _).trans (hB1.mono (by simp))
  clear hB1
  go_wp2
  go_ret
  exact ⟨rfl, HB.out⟩
theorem cont_choice (n : Int) (w : World) (h0 : 1 ≤ n) (h1 : n ≤ 20) :
    Calls Tryd.prog 32 #[.iface 73 (.agg #[.int .i64 n])] w fun e w' => e = .returned (.string ⟨(35 :: Lib.decDigits n.toNat).toArray⟩) ∧ Below w.heap.size w w' := by
  have q0 := ValT.choice_silence (.agg #[.int .i64 n])
  have q1 := ValT.choice_integer (.agg #[.int .i64 n])
  have q2 := ValT.choice_choice (.agg #[.int .i64 n])
  obtain ⟨r, hr⟩ := hide (⟨(35 :: Lib.decDigits n.toNat).toArray⟩ : ByteArray)
  rw [hr.out]
  have hl := dec_len19 (m := n.toNat) (by omega)
  obtain ⟨s, hs⟩ := hide (⟨(Lib.decDigits n.toNat).toArray⟩ : ByteArray)
  have hsz : s.size ≤ 19 := by rw [size_len, ← hs.out, data_mk]; exact hl
  have HF : Hid ((⟨#[35]⟩ : ByteArray) ++ s = r) := by
    show _ = _; rw [← hr.out]; apply eq_mk; rw [data_add, ← hs.out, data_mk]; rfl
  clear hl
  go_enter Tryd.func32, Tryd.ntmps32
  go_wp2_with (go_at_call 42; refine (digits_small n _ (by omega) (by omega)).mono ?_; rintro e w' ⟨rfl, rfl⟩; rw [hs.out])
  go_ret
  exact ⟨ret_str HF.out, by go_grown⟩
theorem cont_choices (a : Option Addr) (cap : Nat) (zs : List Int) (w : World) (hc : Codes w a zs) (hr0 : risesB zs = true) :
    Calls Tryd.prog 32 #[.iface 75 (.agg #[.slice a zs.length cap])] w fun e w' => e = .returned (.string ⟨(123 :: (Lib.join (codesL zs) [44] ++ [125])).toArray⟩) ∧ Below w.heap.size w w' := by
  have q0 := ValT.choices_silence (.agg #[.slice a zs.length cap])
  have q1 := ValT.choices_integer (.agg #[.slice a zs.length cap])
  have q2 := ValT.choices_choice (.agg #[.slice a zs.length cap])
  have q3 := ValT.choices_choices (.agg #[.slice a zs.length cap])
  obtain ⟨r, hr⟩ := hide (⟨(123 :: (Lib.join (codesL zs) [44] ++ [125])).toArray⟩ : ByteArray)
  rw [hr.out]
  obtain ⟨s, hs⟩ := hide (⟨(Lib.join (codesL zs) [44]).toArray⟩ : ByteArray)
  have hsz : s.size ≤ 60 := by
    rw [size_len, ← hs.out, data_mk, ← upTo_all]
    have := upTo_len hr0 zs.length (Nat.le_refl _); have := rises_len hr0; omega
  have HF : Hid ((⟨#[123]⟩ : ByteArray) ++ s ++ (⟨#[125]⟩ : ByteArray) = r) := by
    show _ = _; rw [← hr.out]; apply eq_mk; rw [data_add, data_add, ← hs.out, data_mk]; rfl
  have HC : Hid (Codes w a zs) := hc
  have HR : Hid (risesB zs = true) := hr0
  clear hc hr0
  go_enter Tryd.func32, Tryd.ntmps32
  go_wp2_with fail
  refine (listed_in a cap zs _ (HC.out.alloc _) HR.out).mono ?_
  rintro e w1 ⟨rfl, hB1⟩
  rw [hs.out]
  have HB : Hid (Below w.heap.size w w1) := (below_one w _).trans (hB1.mono (by simp))
  clear hB1
  go_wp2
  go_ret
  exact ⟨ret_str HF.out, HB.out⟩
theorem cont_words (t : ByteArray) (w : World) (ht : t.size ≤ 40) (hE : Env w) :
    Calls Tryd.prog 32 #[.iface 78 (.agg #[.string t])] w fun e w' => e = .returned (.string ⟨(34 :: (quoteL t.data.toList ++ [34])).toArray⟩) ∧ Below w.heap.size w w' := by
  have q0 := ValT.words_silence (.agg #[.string t])
  have q1 := ValT.words_integer (.agg #[.string t])
  have q2 := ValT.words_choice (.agg #[.string t])
  have q3 := ValT.words_choices (.agg #[.string t])
  have q4 := ValT.words_words (.agg #[.string t])
  obtain ⟨r, hr⟩ := hide (⟨(34 :: (quoteL t.data.toList ++ [34])).toArray⟩ : ByteArray)
  rw [hr.out]
  obtain ⟨s, hs⟩ := hide (⟨(quoteL t.data.toList).toArray⟩ : ByteArray)
  have hsz : s.size ≤ 80 := by
    rw [size_len, ← hs.out, data_mk]
    have := quote_len t.data.toList; rw [← size_len] at this; omega
  have HF : Hid ((⟨#[34]⟩ : ByteArray) ++ s ++ (⟨#[34]⟩ : ByteArray) = r) := by
    show _ = _; rw [← hr.out]; apply eq_mk; rw [data_add, data_add, ← hs.out, data_mk]; rfl
  have HE : Hid (Env w) := hE
  have HC : Hid (t.size + Lib.countB t ⟨#[34]⟩ * (⟨#[34, 34]⟩ : ByteArray).size ≤ 140737488355328) := by
    have := Lib.countB_le ⟨#[34]⟩ (by decide) t.size t (Nat.le_refl _)
    have e : (⟨#[34, 34]⟩ : ByteArray).size = 2 := rfl
    show _ ≤ _; rw [e]; omega
  clear hE
  go_enter Tryd.func32, Tryd.ntmps32
  go_wp2_with fail
  obtain ⟨m, hm⟩ := (HE.out.on (below_one w (.cells #[.string t] 78))).2
  refine (Tryd.strings_ReplaceAll t ⟨#[34]⟩ ⟨#[34, 34]⟩ m _ (by omega) hm (by decide) HC.out).mono ?_
  rintro e w1 ⟨rfl, hB1⟩
  have e1 : (⟨(Lib.replaceAll t.data.toList (⟨#[34]⟩ : ByteArray).data.toList (⟨#[34, 34]⟩ : ByteArray).data.toList).toArray⟩ : ByteArray) = s := by
    rw [← hs.out, ← quote_replace]
  rw [e1]
  have HB : Hid (Below w.heap.size w w1) := (below_one w _).trans (hB1.mono (by simp))
  clear hB1 e1 hm
  go_wp2
  go_ret
  exact ⟨ret_str HF.out, HB.out⟩

/-- what an answer says, as the program holds it -/
def contV (k n : Int) (a : Option Addr) (len cap : Nat) (t : ByteArray) : Value :=
  if k = 1 then .iface 71 (.agg #[.int .i64 n]) else if k = 2 then .iface 73 (.agg #[.int .i64 n])
  else if k = 3 then .iface 75 (.agg #[.slice a len cap]) else if k = 4 then .iface 78 (.agg #[.string t]) else .iface 69 (.agg #[.int .i64 k])
theorem contV_none {k n : Int} {a : Option Addr} {len cap : Nat} {t : ByteArray} (hk : k = 0 ∨ k = 5 ∨ k = 6) : contV k n a len cap t = .iface 69 (.agg #[.int .i64 k]) := by
  unfold contV; rw [if_neg (by omega), if_neg (by omega), if_neg (by omega), if_neg (by omega)]
theorem content_any (k n : Int) (a : Option Addr) (cap : Nat) (zs : List Int) (t : ByteArray) (w : World) (hr : right k n zs t = true) :
    Calls Tryd.prog 33 #[av k n a zs.length cap t] w fun e w' => e = .returned (contV k n a zs.length cap t) ∧ Below w.heap.size w w' := by
  rcases kinds hr with ⟨hk, _⟩ | ⟨hk, _⟩ | ⟨hk, _⟩ | ⟨hk, _⟩ | ⟨hk, _⟩
  · rw [contV_none hk]; exact content_none k n a zs.length cap t w hk
  · subst hk; exact content_int 1 n a zs.length cap t w rfl
  · subst hk; exact content_code 2 n a zs.length cap t w rfl
  · subst hk; exact content_set 3 n a zs.length cap t w rfl
  · subst hk; exact content_text 4 n a zs.length cap t w rfl
theorem cont_any (k n : Int) (a : Option Addr) (cap : Nat) (zs : List Int) (t : ByteArray) (w : World) (hc : Codes w a zs) (hr : right k n zs t = true) (hE : Env w) :
    Calls Tryd.prog 32 #[contV k n a zs.length cap t] w fun e w' => e = .returned (.string ⟨(textL k n zs t).toArray⟩) ∧ Below w.heap.size w w' := by
  rcases kinds hr with ⟨hk, _⟩ | ⟨rfl, h0, h1, _⟩ | ⟨rfl, h0, h1, _⟩ | ⟨rfl, _, h0, _⟩ | ⟨rfl, _, _, _, h0⟩
  · have e : textL k n zs t = if k = 5 then [68, 75] else if k = 6 then [82, 70] else [] := by unfold textL; rw [if_neg (by omega), if_neg (by omega), if_neg (by omega), if_neg (by omega)]
    rw [contV_none hk, e]; exact cont_silence k w hk
  · exact cont_integer n w h0 h1 hE
  · exact cont_choice n w h0 h1
  · exact cont_choices a cap zs w hc h0
  · exact cont_words t w h0 hE

theorem impl_text (k n : Int) (a : Option Addr) (cap : Nat) (zs : List Int) (t : ByteArray) (w : World) (hc : Codes w a zs) (ht : t.size ≤ maxLen) (hE : Env w) :
    Calls Tryd.prog 19 #[av k n a zs.length cap t] w fun e w' => e = .returned (.string (textB k n zs t)) ∧ Below w.heap.size w w' := by
  have HC : Hid (Codes w a zs) := hc
  have HT : Hid (t.size ≤ maxLen) := ht
  have HE : Hid (Env w) := hE
  obtain ⟨r, hr⟩ := hide (textB k n zs t)
  obtain ⟨x, hx⟩ : ∃ x, Hid (right k n zs t = x) := ⟨_, rfl⟩
  obtain ⟨c, hcv⟩ : ∃ c, Hid (contV k n a zs.length cap t = c) := ⟨_, rfl⟩
  rw [hr.out]
  clear hc ht hE
  go_enter Tryd.func19, Tryd.ntmps19
  go_wp2_with fail
  refine (impl_right k n a cap zs t _ (HC.out.alloc _) HT.out).mono ?_
  rintro e w1 ⟨rfl, hB1⟩
  rw [hx.out]
  have HA : Hid (At4 w1 w.heap.size (.int .i64 k) (.int .i64 n) (.slice a zs.length cap) (.string t)) := (At4.laid w _ _ _ _ _).on hB1
  have HB1 : Hid (Below w.heap.size w w1) := (below_one w _).trans (hB1.mono (by simp))
  clear hB1
  cases x with
  | false =>
    have HF : Hid (ByteArray.empty = r) := by show _ = _; rw [← hr.out]; unfold textB; rw [if_neg (by rw [hx.out]; simp)]
    go_wp2
    go_ret
    exact ⟨ret_str HF.out, HB1.out⟩
  | true =>
    have HF : Hid ((⟨(textL k n zs t).toArray⟩ : ByteArray) = r) := by show _ = _; rw [← hr.out]; unfold textB; rw [if_pos hx.out]
    obtain ⟨c0, c1, c2, c3, hsz⟩ := HA.out
    go_wp2_with fail
    refine (content_any k n a cap zs t _ hx.out).mono ?_
    rintro e w2 ⟨rfl, hB2⟩
    have HB2 : Hid (Below w.heap.size w w2) := HB1.out.trans (hB2.mono HB1.out.size)
    clear hB2 c0 c1 c2 c3 hsz
    rw [hcv.out]
    have HK : Hid (Calls Tryd.prog 32 #[c] w2 fun e w' => e = .returned (.string r) ∧ Below w2.heap.size w2 w') := by
      have := cont_any k n a cap zs t w2 (HC.out.on HB2.out) hx.out (HE.out.on HB2.out)
      rw [hcv.out, HF.out] at this; exact this
    go_wp2_with fail
    refine HK.out.mono ?_
    rintro e w3 ⟨rfl, hB3⟩
    have HB3 : Hid (Below w.heap.size w w3) := HB2.out.trans (hB3.mono HB2.out.size)
    clear hB3
    go_wp2
    go_ret
    exact ⟨rfl, HB3.out⟩
end Go.Proofs.YtjbefbknacnfgaaDoor.TxtI
