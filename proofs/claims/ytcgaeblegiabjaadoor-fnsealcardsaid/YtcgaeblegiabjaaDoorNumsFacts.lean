/- What promise 1's calls come to: the readers at bytes that were laid. -/
import Derived.Test.YtcgaeblegiabjaaDoorDrawTexts
import Derived.Test.YtcgaeblegiabjaaDoorNumWalks
import Derived.Test.YtcgaeblegiabjaaDoorTextWalks
import Derived.Test.YtcgaeblegiabjaaDoorGetTextImpl
import Derived.Test.YtcgaeblegiabjaaDoorBackMath
namespace Go.Proofs.YtcgaeblegiabjaaDoor.NumsF
open Go.RowKit

theorem textL_of (l : List UInt8) : TextW.textL ⟨l.toArray⟩ = NumM.putL l.length ++ l := by
  unfold TextW.textL; rw [TextW.size_of]
theorem textL_data (U : ByteArray) : (⟨(TextW.textL U).toArray⟩ : ByteArray).data.toList = NumM.putL U.size ++ U.data.toList := rfl
theorem num_code (a b c : Int) (wx : World) : (Instr.field 26 (.agg #[.int .i64 a, .int .i64 b, .int .i64 c]) 2).run Tryd.prog wx = .ok (.int .i64 c) wx := by kernel_rfl
theorem text_code (t : ByteArray) (b c : Int) (wx : World) : (Instr.field 31 (.agg #[.string t, .int .i64 b, .int .i64 c]) 2).run Tryd.prog wx = .ok (.int .i64 c) wx := by kernel_rfl
theorem num_at (s : ByteArray) (m a b c : Int) (w : World) (hm : s.size ≤ 100000) (hg : GetNumW.Laid w) (h : GetM.readR s.data.toList m = (a, b, c)) :
    Calls Tryd.prog 11 #[.string s, .int .i64 m] w fun e w' => e = .returned (.agg #[.int .i64 a, .int .i64 b, .int .i64 c]) ∧ Below w.heap.size w w' := by
  refine (GetNumW.impl_any s m w (by unfold maxLen; omega) hg).mono ?_
  rintro e w' ⟨rfl, hB⟩
  rw [h]; exact ⟨rfl, hB⟩
theorem text_at (s t : ByteArray) (m b c : Int) (w : World) (hm : s.size ≤ 100000) (hg : GetNumW.Laid w) (h : GetTextW.textR s m = (t, b, c)) :
    Calls Tryd.prog 15 #[.string s, .int .i64 m] w fun e w' => e = .returned (.agg #[.string t, .int .i64 b, .int .i64 c]) ∧ Below w.heap.size w w' := by
  refine (GetTextW.impl_any s m w (by unfold maxLen; omega) hg).mono ?_
  rintro e w' ⟨rfl, hB⟩
  rw [h]; exact ⟨rfl, hB⟩
/-- between xy and z -/
theorem mid_data (l : List UInt8) : ((⟨#[120, 121]⟩ : ByteArray) ++ (⟨l.toArray⟩ : ByteArray) ++ (⟨#[122]⟩ : ByteArray)).data.toList = [120, 121] ++ (l ++ [122]) := by simp
theorem mid_size (l : List UInt8) : ((⟨#[120, 121]⟩ : ByteArray) ++ (⟨l.toArray⟩ : ByteArray) ++ (⟨#[122]⟩ : ByteArray)).size = l.length + 3 := by
  have h : ((⟨#[120, 121]⟩ : ByteArray) ++ (⟨l.toArray⟩ : ByteArray) ++ (⟨#[122]⟩ : ByteArray)).data.toList.length = l.length + 3 := by rw [mid_data]; simp
  exact h
theorem mid_read (n : Int) (h1 : -9223372036854775808 ≤ n) (h2 : n ≤ 9223372036854775807) :
    GetM.readR ((⟨#[120, 121]⟩ : ByteArray) ++ (⟨(NumM.putL n).toArray⟩ : ByteArray) ++ (⟨#[122]⟩ : ByteArray)).data.toList 2 = (n, 2 + ((NumM.putL n).length : Int), 0) := by
  rw [mid_data]
  have hl := NumM.putL_length n
  exact BackM.read_back [120, 121] [122] n h1 h2 (by simp; omega)
theorem ext0 (l : List UInt8) (k : Nat) : ((⟨l.toArray⟩ : ByteArray).extract 0 k).data.toList = l.take k := by simp
theorem cut_read (n : Int) (h1 : -9223372036854775808 ≤ n) (h2 : n ≤ 9223372036854775807) (k : Nat) (hk : k = (NumM.putL n).length - 1) :
    GetM.readR ((⟨(NumM.putL n).toArray⟩ : ByteArray).extract 0 k).data.toList 0 = (0, 0, 4) := by
  have e : ((⟨(NumM.putL n).toArray⟩ : ByteArray).extract 0 k).data.toList = (NumM.putL n).dropLast := by
    rw [ext0, hk, List.dropLast_eq_take]
  rw [e]; exact BackM.read_cut n h1 h2

/-- a text behind x -/
theorem x_data (l : List UInt8) : ((⟨#[120]⟩ : ByteArray) ++ (⟨l.toArray⟩ : ByteArray)).data.toList = [120] ++ l := by simp
theorem x_size (l : List UInt8) : ((⟨#[120]⟩ : ByteArray) ++ (⟨l.toArray⟩ : ByteArray)).size = l.length + 1 := by
  have h : ((⟨#[120]⟩ : ByteArray) ++ (⟨l.toArray⟩ : ByteArray)).data.toList.length = l.length + 1 := by rw [x_data]; simp
  exact h
theorem x_text (l : List UInt8) (hl : (NumM.putL l.length).length + l.length + 1 ≤ 8000) :
    GetTextW.textR ((⟨#[120]⟩ : ByteArray) ++ (⟨(NumM.putL l.length ++ l).toArray⟩ : ByteArray)) 1 = (⟨l.toArray⟩, ((NumM.putL l.length ++ l).length : Int) + 1, 0) := by
  unfold GetTextW.textR
  have hr := BackM.read_back [120] l (l.length : Int) (by omega) (by omega) (by simp; omega)
  rw [x_data]
  have hr2 : GetM.readR ([120] ++ (NumM.putL l.length ++ l)) 1 = ((l.length : Int), 1 + ((NumM.putL l.length).length : Int), 0) := hr
  rw [hr2]
  have e1 : (1 : Int) + ((NumM.putL l.length).length : Int) = ((1 + (NumM.putL l.length).length : Nat) : Int) := by omega
  rw [e1, GetTextW.cut_ok _ l.length (1 + (NumM.putL l.length).length) (by omega) (by rw [x_size]; simp; omega)]
  have e2 : ((⟨#[120]⟩ : ByteArray) ++ (⟨(NumM.putL l.length ++ l).toArray⟩ : ByteArray)).extract (1 + (NumM.putL l.length).length) (1 + (NumM.putL l.length).length + l.length) = ⟨l.toArray⟩ := by
    apply ByteArray.ext
    apply Array.toList_inj.1
    rw [ByteArray.data_extract, Array.toList_extract, x_data, List.extract_eq_take_drop]
    have e3 : ([120] ++ (NumM.putL l.length ++ l)).drop (1 + (NumM.putL l.length).length) = l := by
      rw [← List.append_assoc]; exact List.drop_left' (by simp; omega)
    rw [e3]; exact List.take_of_length_le (by omega)
  rw [e2]
  simp; omega
theorem cut_text (l : List UInt8) (k : Nat) (hk : k = (NumM.putL l.length ++ l).length - 1) (hl : (NumM.putL l.length).length + l.length ≤ 8000) :
    (GetTextW.textR ((⟨(NumM.putL l.length ++ l).toArray⟩ : ByteArray).extract 0 k) 0) = (⟨#[]⟩, 0, 4) := by
  unfold GetTextW.textR
  have hp := BackM.putL_pos (l.length : Int)
  have e : ((⟨(NumM.putL l.length ++ l).toArray⟩ : ByteArray).extract 0 k).data.toList = (NumM.putL l.length ++ l).dropLast := by
    rw [ext0, hk, List.dropLast_eq_take]
  have es : ((⟨(NumM.putL l.length ++ l).toArray⟩ : ByteArray).extract 0 k).size = (NumM.putL l.length ++ l).length - 1 := by
    have h : ((⟨(NumM.putL l.length ++ l).toArray⟩ : ByteArray).extract 0 k).data.toList.length = (NumM.putL l.length ++ l).length - 1 := by rw [e]; simp
    exact h
  rw [e]
  by_cases h0 : l = []
  · subst h0
    rw [List.append_nil]
    have := BackM.read_cut ((([] : List UInt8).length : Nat) : Int) (by simp) (by simp)
    rw [this, GetTextW.cut_code _ 0 0 4 (by decide)]
  · have hlp : 1 ≤ l.length := List.length_pos_iff.2 h0
    rw [List.dropLast_append_of_ne_nil h0]
    have hr := BackM.read_back [] l.dropLast (l.length : Int) (by omega) (by omega) (by simp; omega)
    have hr2 : GetM.readR (NumM.putL l.length ++ l.dropLast) 0 = ((l.length : Int), 0 + ((NumM.putL l.length).length : Int), 0) := hr
    rw [hr2, GetTextW.cut_short _ _ _ (by omega) (by rw [es]; simp; omega)]
theorem of_data (P : ByteArray) (l : List UInt8) (h : P.data.toList = l) : P = ⟨l.toArray⟩ := by
  apply ByteArray.ext; apply Array.toList_inj.1; rw [h]
theorem size_data (P : ByteArray) : P.data.toList.length = P.size := rfl
theorem x_sizeP (P : ByteArray) : ((⟨#[120]⟩ : ByteArray) ++ P).size = 1 + P.size := by simp; rfl
theorem x_textP (P U : ByteArray) (h : P.data.toList = NumM.putL U.size ++ U.data.toList) (hl : P.size + 1 ≤ 8000) :
    GetTextW.textR ((⟨#[120]⟩ : ByteArray) ++ P) 1 = (U, (P.size : Int) + 1, 0) := by
  have hs : P.size = (NumM.putL U.size).length + U.size := by rw [← size_data P, h, List.length_append, size_data]
  have e := x_text U.data.toList (by rw [size_data]; omega)
  rw [size_data, ← h] at e
  rw [← of_data P _ rfl, ← of_data U _ rfl, size_data] at e
  exact e
theorem cut_textP (P U : ByteArray) (k : Nat) (hk : k = P.size - 1) (h : P.data.toList = NumM.putL U.size ++ U.data.toList) (hl : P.size ≤ 8000) :
    GetTextW.textR (P.extract 0 k) 0 = (⟨#[]⟩, 0, 4) := by
  have hs : P.size = (NumM.putL U.size).length + U.size := by rw [← size_data P, h, List.length_append, size_data]
  have e := cut_text U.data.toList k (by rw [size_data, ← h, size_data]; exact hk) (by rw [size_data]; omega)
  rw [size_data, ← h, ← of_data P _ rfl] at e
  exact e
end Go.Proofs.YtcgaeblegiabjaaDoor.NumsF
