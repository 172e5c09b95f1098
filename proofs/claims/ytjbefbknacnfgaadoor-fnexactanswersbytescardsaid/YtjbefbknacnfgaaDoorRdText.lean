/- Quoted texts read back; how the text of a right answer begins; and that no two right answers have one text. No program is named here. -/
import Derived.Test.YtjbefbknacnfgaaDoorRdMath
namespace Go.Proofs.YtjbefbknacnfgaaDoor.RdM
open ValM TxtM
set_option linter.unusedSimpArgs false

/-! quotation marks -/
theorem ix_two (l : List UInt8) : Lib.index (34 :: 34 :: l) [34, 34] = ((0 : Nat) : Int) := by rw [Lib.index]; simp [List.isPrefixOf]
theorem ix_other (c : UInt8) (l : List UInt8) (h : c ≠ 34) : Lib.index (c :: l) [34, 34] = if Lib.index l [34, 34] == -1 then -1 else Lib.index l [34, 34] + 1 := by
  have hp : ([34, 34] : List UInt8).isPrefixOf (c :: l) = false := by simp [List.isPrefixOf, Ne.symm h]
  rw [Lib.index, hp]; simp
theorem count_two (l : List UInt8) : Lib.count (34 :: 34 :: l) [34, 34] = 1 + Lib.count l [34, 34] := by
  rw [Lib.count_hit (by simp) (ix_two l)]; simp
theorem count_other (c : UInt8) (l : List UInt8) (h : c ≠ 34) : Lib.count (c :: l) [34, 34] = Lib.count l [34, 34] := by
  have hix := ix_other c l h
  by_cases hm : Lib.index l [34, 34] = -1
  · rw [Lib.count_miss hm, Lib.count_miss (by rw [hix, if_pos (beq_iff_eq.2 hm)])]
  · have hge := Lib.index_ge l [34, 34]
    obtain ⟨j, hj⟩ : ∃ j : Nat, Lib.index l [34, 34] = j := ⟨(Lib.index l [34, 34]).toNat, by omega⟩
    have hix' : Lib.index (c :: l) [34, 34] = ((j + 1 : Nat) : Int) := by rw [hix, if_neg (fun e => hm (beq_iff_eq.1 e)), hj]; omega
    rw [Lib.count_hit (by simp) hj, Lib.count_hit (by simp) hix']
    have e : j + 1 + [(34 : UInt8), 34].length = j + [(34 : UInt8), 34].length + 1 := by omega
    rw [e, List.drop_succ_cons]
theorem rep_two (k : Nat) (l : List UInt8) : Lib.replaceK [34, 34] [34] (k + 1) (34 :: 34 :: l) = 34 :: Lib.replaceK [34, 34] [34] k l := by
  rw [Lib.replaceK_hit _ _ _ _ 0 (ix_two l)]; simp
theorem rep_other (c : UInt8) (h : c ≠ 34) : ∀ (k : Nat) (l : List UInt8), Lib.replaceK [34, 34] [34] k (c :: l) = c :: Lib.replaceK [34, 34] [34] k l
  | 0, _ => rfl
  | k + 1, l => by
    have hix := ix_other c l h
    have hge := Lib.index_ge l [34, 34]
    by_cases hm : Lib.index l [34, 34] = -1
    · rw [Lib.replaceK, Lib.replaceK, if_pos (by rw [hix, if_pos (beq_iff_eq.2 hm)]; rfl), if_pos (beq_iff_eq.2 hm)]
    · obtain ⟨j, hj⟩ : ∃ j : Nat, Lib.index l [34, 34] = j := ⟨(Lib.index l [34, 34]).toNat, by omega⟩
      have hix' : Lib.index (c :: l) [34, 34] = ((j + 1 : Nat) : Int) := by rw [hix, if_neg (fun e => hm (beq_iff_eq.1 e)), hj]; omega
      rw [Lib.replaceK_hit _ _ _ _ _ hix', Lib.replaceK_hit _ _ _ _ _ hj]
      have e : j + 1 + [(34 : UInt8), 34].length = j + [(34 : UInt8), 34].length + 1 := by omega
      rw [e, List.drop_succ_cons]; simp
theorem unquote : ∀ l : List UInt8, Lib.replaceK [34, 34] [34] (Lib.count (quoteL l) [34, 34]) (quoteL l) = l
  | [] => by
    rw [show quoteL [] = [] from rfl, Lib.count_miss (by simp [Lib.index])]; rfl
  | c :: l => by
    by_cases h : c = 34
    · subst h
      rw [show quoteL (34 :: l) = 34 :: 34 :: quoteL l by simp [quoteL], count_two, Nat.add_comm, rep_two, unquote l]
    · rw [show quoteL (c :: l) = c :: quoteL l by simp [quoteL, h], count_other c _ h, rep_other c h, unquote l]
theorem unquote_all (l : List UInt8) : Lib.replaceAll (quoteL l) [34, 34] [34] = l := by
  unfold Lib.replaceAll Lib.replace Lib.replaceNum
  rw [if_neg (by decide), if_pos (.inl (by decide))]; exact unquote l
theorem quote_inj {a b : List UInt8} (h : quoteL a = quoteL b) : a = b := by rw [← unquote_all a, ← unquote_all b, h]

/-! the end cut off -/
theorem trim_end (l : List UInt8) (c : UInt8) : Lib.trimSuffix (l ++ [c]) [c] = l := by
  unfold Lib.trimSuffix Lib.hasSuffix
  rw [if_pos (by simp)]; simp
theorem trim_len (l p : List UInt8) : (Lib.trimSuffix l p).length ≤ l.length := by
  unfold Lib.trimSuffix; split
  · simp
  · exact Nat.le_refl _

/-! how a text begins -/
theorem text_none {n : Int} {zs : List Int} {t : ByteArray} : textL 0 n zs t = [] := rfl
theorem text_dont {n : Int} {zs : List Int} {t : ByteArray} : textL 5 n zs t = [68, 75] := rfl
theorem text_refuse {n : Int} {zs : List Int} {t : ByteArray} : textL 6 n zs t = [82, 70] := rfl
theorem text_int {n : Int} {zs : List Int} {t : ByteArray} : textL 1 n zs t = Lib.itoa n := rfl
theorem text_code {n : Int} {zs : List Int} {t : ByteArray} : textL 2 n zs t = 35 :: Lib.decDigits n.toNat := rfl
theorem text_set {n : Int} {zs : List Int} {t : ByteArray} : textL 3 n zs t = 123 :: (Lib.join (codesL zs) [44] ++ [125]) := rfl
theorem text_text {n : Int} {zs : List Int} {t : ByteArray} : textL 4 n zs t = 34 :: (quoteL t.data.toList ++ [34]) := rfl
theorem itoa_cons (n : Int) : ∃ c r, Lib.itoa n = c :: r ∧ (c = 45 ∨ 48 ≤ c.toNat ∧ c.toNat ≤ 57) := by
  by_cases h : n < 0
  · exact ⟨45, _, itoa_neg h, .inl rfl⟩
  · obtain ⟨c, r, e, h1, h2⟩ := dec_cons n.toNat
    exact ⟨c, r, by rw [itoa_pos (by omega)]; exact e, .inr ⟨h1, h2⟩⟩
/-- the kinds by the first byte -/
theorem kind_of {k n : Int} {zs : List Int} {t : ByteArray} (h : right k n zs t = true) :
    (k = 0 ∧ textL k n zs t = []) ∨ ∃ c r, textL k n zs t = c :: r ∧ ((k = 5 ∧ c = 68) ∨ (k = 6 ∧ c = 82) ∨ (k = 2 ∧ c = 35) ∨ (k = 3 ∧ c = 123) ∨ (k = 4 ∧ c = 34) ∨ (k = 1 ∧ (c = 45 ∨ 48 ≤ c.toNat ∧ c.toNat ≤ 57))) := by
  rcases kinds h with ⟨hk, _⟩ | ⟨rfl, _⟩ | ⟨rfl, _⟩ | ⟨rfl, _⟩ | ⟨rfl, _⟩
  · rcases hk with rfl | rfl | rfl
    · exact .inl ⟨rfl, rfl⟩
    · exact .inr ⟨68, [75], rfl, by simp⟩
    · exact .inr ⟨82, [70], rfl, by simp⟩
  · obtain ⟨c, r, e, hc⟩ := itoa_cons n
    exact .inr ⟨c, r, e, by simp [hc]⟩
  · exact .inr ⟨35, _, text_code, by simp⟩
  · exact .inr ⟨123, _, text_set, by simp⟩
  · exact .inr ⟨34, _, text_text, by simp⟩
theorem codes_of {zs : List Int} (h : risesB zs = true) : ∀ z ∈ zs, 1 ≤ z ∧ z ≤ 20 := by
  intro z hz
  obtain ⟨i, hi, rfl⟩ := List.getElem_of_mem hz
  have := rises_at h i hi
  unfold okAt at this
  simp only [List.getD, List.getElem?_eq_getElem hi, Option.getD_some] at this
  exact ⟨this.1, this.2.1⟩
theorem join_inj {zs ys : List Int} (hz : risesB zs = true) (hy : risesB ys = true) (h : Lib.join (codesL zs) [44] = Lib.join (codesL ys) [44]) : zs = ys := by
  have hne : ∀ {a : List Int}, a ≠ [] → Lib.join (codesL a) [44] ≠ [] := by
    intro a ha e
    cases a with
    | nil => exact ha rfl
    | cons x r =>
      have : Lib.join (codesL (x :: r)) [44] = Lib.decDigits x.toNat ++ Lib.joinTail [44] (codesL r) := Lib.join_cons _ _ _
      rw [this] at e
      exact dec_ne _ (List.append_eq_nil_iff.1 e).1
  by_cases h1 : zs = []
  · by_cases h2 : ys = []
    · rw [h1, h2]
    · rw [h1] at h; exact absurd h.symm (hne h2)
  · by_cases h2 : ys = []
    · rw [h2] at h; exact absurd h (hne h1)
    · rw [← map_num_codes (codes_of hz), ← map_num_codes (codes_of hy), ← split_codes h1, ← split_codes h2, h]
/-- no two right answers have one text -/
theorem text_inj {k n : Int} {zs : List Int} {t : ByteArray} {k' n' : Int} {zs' : List Int} {t' : ByteArray} (h : right k n zs t = true) (h' : right k' n' zs' t' = true) (e : textL k n zs t = textL k' n' zs' t') :
    k = k' ∧ n = n' ∧ zs = zs' ∧ t = t' := by
  have hk : k = k' := by
    rcases kind_of h with ⟨a, b⟩ | ⟨c, r, a, b⟩ <;> rcases kind_of h' with ⟨a', b'⟩ | ⟨c', r', a', b'⟩
    · rw [a, a']
    · rw [b, a'] at e; cases e
    · rw [b', a] at e; cases e
    · rw [a, a'] at e
      obtain ⟨rfl, rfl⟩ := List.cons.inj e
      rcases b with ⟨x, y⟩ | ⟨x, y⟩ | ⟨x, y⟩ | ⟨x, y⟩ | ⟨x, y⟩ | ⟨x, y⟩ <;> rcases b' with ⟨x', y'⟩ | ⟨x', y'⟩ | ⟨x', y'⟩ | ⟨x', y'⟩ | ⟨x', y'⟩ | ⟨x', y'⟩ <;>
        first | (exact x.trans x'.symm) | (rw [y] at y'; exact absurd y' (by decide)) | (rw [y'] at y; exact absurd y (by decide))
  subst hk
  have nil_t : ∀ {a : ByteArray}, a.size = 0 → a = ByteArray.empty := fun ha => by
    have : _ = 0 := ha
    rw [size_len] at this
    have h0 := List.length_eq_zero_iff.1 this
    rw [eq_mk h0]; rfl
  have nil_z : ∀ {a : List Int}, a.length = 0 → a = [] := fun ha => List.length_eq_zero_iff.1 ha
  rcases kinds h with ⟨hk, a, b, c⟩ | ⟨hk, a, a1, b, c⟩ | ⟨hk, a, a1, b, c⟩ | ⟨hk, a, b, c⟩ | ⟨hk, a, b, c, c1⟩ <;>
  rcases kinds h' with ⟨hk', a', b', c'⟩ | ⟨hk', a', a1', b', c'⟩ | ⟨hk', a', a1', b', c'⟩ | ⟨hk', a', b', c'⟩ | ⟨hk', a', b', c', c1'⟩ <;> first | omega | skip
  · exact ⟨rfl, by omega, by rw [nil_z b, nil_z b'], by rw [nil_t c, nil_t c']⟩
  · subst hk
    refine ⟨rfl, ?_, by rw [nil_z b, nil_z b'], by rw [nil_t c, nil_t c']⟩
    rw [text_int, text_int] at e
    rw [← numM_itoa a a1, ← numM_itoa a' a1', e]
  · subst hk
    refine ⟨rfl, ?_, by rw [nil_z b, nil_z b'], by rw [nil_t c, nil_t c']⟩
    rw [text_code, text_code] at e
    have e2 := (List.cons.inj e).2
    have d1 := digs_dec n.toNat
    have d2 := digs_dec n'.toNat
    rw [e2] at d1; omega
  · subst hk
    refine ⟨rfl, by omega, ?_, by rw [nil_t c, nil_t c']⟩
    rw [text_set, text_set] at e
    exact join_inj b b' (List.append_inj_left' (List.cons.inj e).2 rfl)
  · subst hk
    refine ⟨rfl, by omega, by rw [nil_z b, nil_z b'], ?_⟩
    rw [text_text, text_text] at e
    have := quote_inj (List.append_inj_left' (List.cons.inj e).2 rfl)
    rw [eq_mk this, mk_data]
theorem text_len {k n : Int} {zs : List Int} {t : ByteArray} (h : right k n zs t = true) : (textL k n zs t).length ≤ 100 := by
  rcases kinds h with ⟨hk, _⟩ | ⟨rfl, h0, h1, _⟩ | ⟨rfl, h0, h1, _⟩ | ⟨rfl, _, h0, _⟩ | ⟨rfl, _, _, _, h0⟩
  · rcases hk with rfl | rfl | rfl
    · rw [text_none]; decide
    · rw [text_dont]; decide
    · rw [text_refuse]; decide
  · rw [text_int]
    by_cases hn : n < 0
    · rw [itoa_neg hn]; have := dec_len19 (m := (-n).toNat) (by omega); simp; omega
    · rw [itoa_pos (by omega)]; have := dec_len19 (m := n.toNat) (by omega); omega
  · rw [text_code]; have := dec_len19 (m := n.toNat) (by omega); simp; omega
  · rw [text_set, ← upTo_all]; have := upTo_len h0 zs.length (Nat.le_refl _); have := rises_len h0; simp; omega
  · rw [text_text]; have := quote_len t.data.toList; rw [← size_len] at this; simp; omega
end Go.Proofs.YtjbefbknacnfgaaDoor.RdM
