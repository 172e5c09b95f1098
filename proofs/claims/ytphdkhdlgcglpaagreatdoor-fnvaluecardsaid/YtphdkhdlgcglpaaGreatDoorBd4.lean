/- Texts of ours, laid together: TxtMath. -/
import Derived.Test.YtphdkhdlgcglpaaGreatDoorBd0
import Derived.Lib.ItoaNum
import Derived.Lib.Join
import Derived.Lib.Replace
import Derived.Laws.Strings
/- The text of a right answer, as one list of bytes; what stands between the library's own words for digits, joins and replacements and it. No program is named here. -/
namespace Go.Proofs.YtphdkhdlgcglpaaGreatDoor.TxtM
open ValM
set_option linter.unusedSimpArgs false

/-- a text with each quotation mark twice -/
def quoteL : List UInt8 → List UInt8
  | [] => []
  | c :: l => if c = 34 then 34 :: 34 :: quoteL l else c :: quoteL l
def codesL (zs : List Int) : List (List UInt8) := zs.map fun z => Lib.decDigits z.toNat
def textL (k n : Int) (zs : List Int) (t : ByteArray) : List UInt8 :=
  if k = 1 then Lib.itoa n else if k = 2 then 35 :: Lib.decDigits n.toNat
  else if k = 3 then 123 :: (Lib.join (codesL zs) [44] ++ [125]) else if k = 4 then 34 :: (quoteL t.data.toList ++ [34])
  else if k = 5 then [68, 75] else if k = 6 then [82, 70] else []
/-- the text of whatever answer: empty, if it is not right -/
def textB (k n : Int) (zs : List Int) (t : ByteArray) : ByteArray := if right k n zs t = true then ⟨(textL k n zs t).toArray⟩ else ByteArray.empty

theorem mk_data (s : ByteArray) : (⟨s.data.toList.toArray⟩ : ByteArray) = s := by cases s; simp
theorem eq_mk {s : ByteArray} {l : List UInt8} (h : s.data.toList = l) : s = ⟨l.toArray⟩ := by subst h; exact (mk_data s).symm
theorem data_mk (l : List UInt8) : (⟨l.toArray⟩ : ByteArray).data.toList = l := by simp
theorem data_add (a b : ByteArray) : (a ++ b).data.toList = a.data.toList ++ b.data.toList := by simp [ByteArray.data_append]
theorem size_len (s : ByteArray) : s.size = s.data.toList.length := (Array.length_toList).symm

theorem replace_ne (new : List UInt8) (b c : UInt8) (h : b ≠ c) : ∀ (k : Nat) (l : List UInt8), Lib.replaceK [c] new k (b :: l) = b :: Lib.replaceK [c] new k l
  | 0, _ => rfl
  | k + 1, l => by
    have hp : List.isPrefixOf [c] (b :: l) = false := by simp [List.isPrefixOf]; exact fun e => h e.symm
    have hge := Lib.index_ge l [c]
    by_cases hm : Lib.index l [c] = -1
    · simp [Lib.replaceK, Lib.index, hp, hm]
    · have e : (Lib.index l [c] + 1).toNat = (Lib.index l [c]).toNat + 1 := by omega
      have hm2 : ¬ (Lib.index l [c] + 1 = -1) := by omega
      simp only [Lib.replaceK, Lib.index, hp, Bool.false_eq_true, if_false, beq_iff_eq, hm, hm2, e, List.take_succ_cons, List.length_cons, List.length_nil, List.cons_append]
      congr 2
theorem replace_eq (new : List UInt8) (c : UInt8) (k : Nat) (l : List UInt8) : Lib.replaceK [c] new (k + 1) (c :: l) = new ++ Lib.replaceK [c] new k l := by
  have hi : Lib.index (c :: l) [c] = (0 : Nat) := by simp [Lib.index, List.isPrefixOf]
  rw [Lib.replaceK_hit _ _ _ _ 0 hi]
  simp
theorem quote_all : ∀ l : List UInt8, Lib.replaceK [34] [34, 34] (Lib.count l [34]) l = quoteL l
  | [] => by rw [show Lib.count [] [34] = 0 from by decide]; rfl
  | b :: l => by
    by_cases h : b = 34
    · subst h
      rw [Lib.count_cons_eq, Nat.add_comm, replace_eq, quote_all l]
      simp [quoteL]
    · rw [Lib.count_cons_ne b 34 l h, replace_ne _ b 34 h, quote_all l]
      simp [quoteL, h]
theorem quote_replace (l : List UInt8) : Lib.replaceAll l [34] [34, 34] = quoteL l := by
  unfold Lib.replaceAll Lib.replace Lib.replaceNum
  rw [if_neg (by decide), if_pos (.inl (by decide))]; exact quote_all l
theorem quote_len : ∀ l : List UInt8, (quoteL l).length ≤ 2 * l.length
  | [] => by simp [quoteL]
  | b :: l => by
    have := quote_len l
    unfold quoteL; split
    · simp; omega
    · simp; omega
theorem quote_snoc (x : UInt8) : ∀ l : List UInt8, quoteL (l ++ [x]) = quoteL l ++ (if x = 34 then [34, 34] else [x])
  | [] => by simp only [List.nil_append, quoteL]
  | b :: l => by
    have := quote_snoc x l
    simp only [List.cons_append, quoteL, this]; split <;> simp

/-! digits -/
def tail0 (m : Nat) : List UInt8 := if m = 0 then [] else Lib.decDigits m
theorem dec_step (m : Nat) (h : m ≠ 0) : tail0 m = tail0 (m / 10) ++ [UInt8.ofNat (48 + m % 10)] := by
  unfold tail0
  rw [if_neg h, Lib.decDigits]
  by_cases h1 : m < 10
  · rw [dif_pos h1, if_pos (by omega), Nat.mod_eq_of_lt h1]; rfl
  · rw [dif_neg h1, if_neg (by omega)]
theorem dec_len : ∀ (f m : Nat), m < 10 ^ (f + 1) → (Lib.decDigits m).length ≤ f + 1
  | 0, m, h => by rw [Lib.decDigits, dif_pos (by simpa using h)]; simp
  | f + 1, m, h => by
    rw [Lib.decDigits]
    by_cases h1 : m < 10
    · rw [dif_pos h1]; simp
    · rw [dif_neg h1]
      have := dec_len f (m / 10) (by rw [Nat.div_lt_iff_lt_mul (by omega)]; rw [Nat.pow_succ] at h; omega)
      simp; omega
theorem dec_len19 {m : Nat} (h : m < 10000000000000000000) : (Lib.decDigits m).length ≤ 19 := dec_len 18 m (by simpa using h)
theorem itoa_neg {n : Int} (h : n < 0) : Lib.itoa n = 45 :: Lib.decDigits (-n).toNat := by
  unfold Lib.itoa; rw [if_pos h, show n.natAbs = (-n).toNat by omega]
theorem itoa_pos {n : Int} (h : 0 ≤ n) : Lib.itoa n = Lib.decDigits n.toNat := by
  unfold Lib.itoa; rw [if_neg (by omega)]

/-! codes -/
theorem codes_at (zs : List Int) (j : Nat) (h : j < zs.length) : (codesL zs)[j]? = some (Lib.decDigits (zs.getD j 0).toNat) := by
  unfold codesL; simp [List.getD, List.getElem?_eq_getElem h]
/-- what the model has written behind the brace, ahead of code i -/
def upTo (zs : List Int) (i : Nat) : List UInt8 := Lib.join ((codesL zs).take i) [44]
theorem join_snoc (xs : List (List UInt8)) (x : List UInt8) (sep : List UInt8) : Lib.join (xs ++ [x]) sep = Lib.join xs sep ++ (if xs = [] then [] else sep) ++ x := by
  cases xs with
  | nil => simp [Lib.join_one, Lib.join_nil]
  | cons y r =>
    rw [List.cons_append, Lib.join_cons, Lib.join_cons]
    simp [Lib.joinTail, List.append_assoc]
theorem upTo_succ (zs : List Int) (i : Nat) (h : i < zs.length) : upTo zs (i + 1) = upTo zs i ++ (if i = 0 then [] else [44]) ++ Lib.decDigits (zs.getD i 0).toNat := by
  unfold upTo
  rw [List.take_add_one, codes_at zs i h]
  simp only [Option.toList_some]
  rw [join_snoc]
  have hl : (codesL zs).length = zs.length := by simp [codesL]
  by_cases h0 : i = 0
  · subst h0; simp
  · rw [if_neg h0, if_neg]
    intro e
    have := congrArg List.length e
    rw [List.length_take, hl, List.length_nil] at this; omega
theorem upTo_all (zs : List Int) : upTo zs zs.length = Lib.join (codesL zs) [44] := by
  unfold upTo; rw [List.take_of_length_le (by simp [codesL])]
theorem upTo_len {zs : List Int} (h : risesB zs = true) : ∀ i, i ≤ zs.length → (upTo zs i).length ≤ 3 * i
  | 0, _ => by simp [upTo, Lib.join_nil]
  | i + 1, hi => by
    have ih := upTo_len h i (by omega)
    have hr := rises_at h i (by omega)
    have hd := dec_len 1 (zs.getD i 0).toNat (by have := hr.2.1; omega)
    rw [upTo_succ zs i (by omega)]
    have : (if i = 0 then ([] : List UInt8) else [44]).length ≤ 1 := by split <;> simp
    simp only [List.length_append]; omega
end Go.Proofs.YtphdkhdlgcglpaaGreatDoor.TxtM
