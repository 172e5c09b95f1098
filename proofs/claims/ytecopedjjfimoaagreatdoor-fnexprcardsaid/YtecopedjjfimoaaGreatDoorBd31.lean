/- Texts of ours, laid together: PcsMath. -/
import Derived.Test.YtecopedjjfimoaaGreatDoorBd28
import Derived.Test.YtecopedjjfimoaaGreatDoorBd3
import Derived.Laws.RangeAny
/- The pieces of a text, as plain functions. No walk is here. -/
namespace Go.Proofs.YtecopedjjfimoaaGreatDoor.ErpI
open Go.RowKit
open StrW (Nm)
open DecM

/-- the pieces of a text of plain bytes -/
def pl : Nm → List UInt8 → List Nm
  | acc, [] => if acc = [] then [] else [acc]
  | acc, c :: T => if markB c.toNat = true then (if acc = [] then [] else [acc]) ++ [c] :: pl [] T else pl (acc ++ [c]) T
/-- a cut of a text -/
def sl (s : ByteArray) (i j : Nat) : Nm := (s.extract i j).data.toList
theorem sl_eq (s : ByteArray) (i j : Nat) : sl s i j = (s.data.toList.take j).drop i := by
  unfold sl
  simp [ByteArray.data_extract, Array.toList_extract, List.extract_eq_take_drop, List.drop_take]
def fin (s : ByteArray) (fr : Nat) (out : List Nm) : List Nm := if fr < s.size then out ++ [sl s fr s.size] else out
/-- the pieces of a text, as they are found: place, where a word began, what was found -/
def pcsF (s : ByteArray) : Nat → Nat → Nat → List Nm → List Nm
  | 0, _, fr, out => fin s fr out
  | f + 1, pos, fr, out =>
    if pos < s.size then
      if markB (Utf8.decode s pos).1 = true then pcsF s f (pos + (Utf8.decode s pos).2) (pos + 1) ((if fr < pos then out ++ [sl s fr pos] else out) ++ [sl s pos (pos + 1)])
      else pcsF s f (pos + (Utf8.decode s pos).2) fr out
    else fin s fr out
theorem sl_none (s : ByteArray) (i : Nat) : sl s i i = [] := by rw [sl_eq]; simp
theorem sl_snoc (s : ByteArray) (fr pos : Nat) (hf : fr ≤ pos) (hp : pos < s.size) : sl s fr (pos + 1) = sl s fr pos ++ [s[pos]] := by
  have hl : pos < s.data.toList.length := by rw [← size_len]; exact hp
  rw [sl_eq, sl_eq, List.take_succ_eq_append_getElem hl, List.drop_append_of_le_length (by simp; omega)]
  rfl
theorem sl_ne (s : ByteArray) (fr pos : Nat) (hf : fr < pos) (hp : pos ≤ s.size) : sl s fr pos ≠ [] := by
  have hl : s.data.toList.length = s.size := (size_len s).symm
  intro h
  have := congrArg List.length h
  rw [sl_eq] at this
  simp at this
  rw [Array.length_toList] at hl
  omega
theorem drop_cons (s : ByteArray) (pos : Nat) (hp : pos < s.size) : s.data.toList.drop pos = s[pos] :: s.data.toList.drop (pos + 1) := by
  have hl : pos < s.data.toList.length := by rw [← size_len]; exact hp
  rw [List.drop_eq_getElem_cons hl]; rfl
theorem sl_if (s : ByteArray) (fr pos : Nat) (hf : fr ≤ pos) (hp : pos ≤ s.size) (out : List Nm) : (if fr < pos then out ++ [sl s fr pos] else out) = out ++ (if sl s fr pos = [] then [] else [sl s fr pos]) := by
  by_cases h : fr < pos
  · rw [if_pos h, if_neg (sl_ne s fr pos h hp)]
  · have : fr = pos := by omega
    subst this
    rw [if_neg h, sl_none, if_pos rfl, List.append_nil]
theorem pcs_plain (s : ByteArray) (ha : ∀ c ∈ s.data.toList, c.toNat < 128) : ∀ (f pos fr : Nat) (out : List Nm), s.size ≤ pos + f → fr ≤ pos → pos ≤ s.size →
    pcsF s f pos fr out = out ++ pl (sl s fr pos) (s.data.toList.drop pos) := by
  have hfin : ∀ fr out, fr ≤ s.size → fin s fr out = out ++ pl (sl s fr s.size) (s.data.toList.drop s.size) := fun fr out h => by
    rw [List.drop_of_length_le (by rw [← size_len]; exact Nat.le_refl _), pl]
    exact sl_if s fr s.size h (Nat.le_refl _) out
  intro f
  induction f with
  | zero =>
    intro pos fr out h1 h2 h3
    obtain rfl : pos = s.size := by omega
    exact hfin fr out h2
  | succ f ih =>
    intro pos fr out h1 h2 h3
    rw [pcsF]
    by_cases hp : pos < s.size
    · have hd := decode_ascii s pos hp (ha _ (by rw [show s[pos] = s.data.toList[pos]'(by rw [← size_len]; exact hp) from rfl]; exact List.getElem_mem _))
      rw [if_pos hp, hd, drop_cons s pos hp, pl]
      simp only
      by_cases hm : markB s[pos].toNat = true
      · rw [if_pos hm, if_pos hm, ih _ _ _ (by omega) (Nat.le_refl _) (by omega), sl_none, sl_if s fr pos h2 h3, sl_snoc s pos pos (Nat.le_refl _) hp, sl_none]
        simp
      · rw [if_neg hm, if_neg hm, ih _ _ _ (by omega) (by omega) (by omega), sl_snoc s fr pos h2 hp]
    · rw [if_neg hp]
      obtain rfl : pos = s.size := by omega
      exact hfin fr out h2
theorem width_pos (s : ByteArray) (pos : Nat) (h : pos < s.size) : 1 ≤ (Utf8.decode s pos).2 := by
  by_cases ha : (s[pos]'h).toNat < 128
  · rw [decode_ascii s pos h ha]
    exact Nat.le_refl _
  · exact (decode_high s pos h (by omega)).2
theorem pcs_end (s : ByteArray) (f pos fr : Nat) (out : List Nm) (h : ¬ pos < s.size) : pcsF s f pos fr out = fin s fr out := by
  cases f with
  | zero => rfl
  | succ f => rw [pcsF, if_neg h]
theorem pcs_step (s : ByteArray) (f pos fr : Nat) (out : List Nm) (h : pos < s.size) : pcsF s (f + 1) pos fr out =
    if markB (Utf8.decode s pos).1 = true then pcsF s f (pos + (Utf8.decode s pos).2) (pos + 1) ((if fr < pos then out ++ [sl s fr pos] else out) ++ [sl s pos (pos + 1)])
      else pcsF s f (pos + (Utf8.decode s pos).2) fr out := by rw [pcsF, if_pos h]
theorem sl_enc (s : ByteArray) (i j : Nat) : StrW.encS (sl s i j) = .string (s.extract i j) := by unfold sl StrW.encS; rw [mk_data]
theorem sl_size (s : ByteArray) (i j : Nat) : (sl s i j).length ≤ s.size := by
  rw [sl_eq, size_len]; simp; omega
/-- no piece is longer than the text, and there are no more of them than that -/
theorem pcs_sizes (s : ByteArray) (n : Nat) (hn : s.size ≤ n) : ∀ (f pos fr : Nat) (out : List Nm), (∀ x ∈ out, x.length ≤ n) → ∀ x ∈ pcsF s f pos fr out, x.length ≤ n := by
  have hs : ∀ i j, (sl s i j).length ≤ n := fun i j => Nat.le_trans (sl_size s i j) hn
  have hsnoc : ∀ (out : List Nm) (i j : Nat), (∀ x ∈ out, x.length ≤ n) → ∀ x ∈ out ++ [sl s i j], x.length ≤ n := fun out i j h x hx => by
    rcases List.mem_append.1 hx with hx | hx
    · exact h x hx
    · rw [List.mem_singleton.1 hx]; exact hs i j
  have hfin : ∀ fr out, (∀ x ∈ out, x.length ≤ n) → ∀ x ∈ fin s fr out, x.length ≤ n := fun fr out h => by
    unfold fin
    split
    · exact hsnoc out _ _ h
    · exact h
  intro f
  induction f with
  | zero => intro pos fr out h; exact hfin fr out h
  | succ f ih =>
    intro pos fr out h
    rw [pcsF]
    split
    · split
      · refine ih _ _ _ (hsnoc _ _ _ ?_)
        split
        · exact hsnoc _ _ _ h
        · exact h
      · exact ih _ _ _ h
    · exact hfin fr out h
theorem pcs_many (s : ByteArray) : ∀ (f pos fr : Nat) (out : List Nm), fr ≤ pos → out.length ≤ 2 * fr → fr ≤ s.size → (pcsF s f pos fr out).length ≤ 2 * s.size + 1 := by
  have hfin : ∀ fr out, out.length ≤ 2 * fr → fr ≤ s.size → (fin s fr out).length ≤ 2 * s.size + 1 := fun fr out h1 h2 => by
    unfold fin
    split
    · simp; omega
    · omega
  intro f
  induction f with
  | zero => intro pos fr out h1 h2 h3; exact hfin fr out h2 h3
  | succ f ih =>
    intro pos fr out h1 h2 h3
    rw [pcsF]
    split
    · rename_i hp
      have hw := width_pos s pos hp
      split
      · refine ih _ _ _ (by omega) ?_ (by omega)
        split <;> simp <;> omega
      · exact ih _ _ _ (by omega) h2 h3
    · exact hfin fr out h2 h3
theorem pcs_count (s : ByteArray) (hs : s.size ≤ 8000) : (pcsF s s.size 0 0 []).length ≤ 16001 := by
  have := pcs_many s s.size 0 0 [] (Nat.le_refl _) (by simp) (Nat.zero_le _)
  omega
end Go.Proofs.YtecopedjjfimoaaGreatDoor.ErpI
