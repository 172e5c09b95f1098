/- Texts of ours, laid together: RdMath, RdText, RdIs. -/
import Derived.Test.YtphdkhdlgcglpaaGreatDoorBd4
import Derived.Lib.ParseIntB
import Derived.Lib.SplitLaws
import Derived.Lib.Strings
/- What reading a text of an answer gives back: digits, codes between commas, quoted texts; and that a text is the text of one right answer at most. No program is named here. -/
namespace Go.Proofs.YtphdkhdlgcglpaaGreatDoor.RdM
open ValM TxtM
set_option linter.unusedSimpArgs false

/-! digits -/
theorem dig_nat {d : Nat} (h : d < 10) : (UInt8.ofNat (48 + d)).toNat = 48 + d := by simp; omega
theorem dec_all : ∀ (m : Nat) (c : UInt8), c ∈ Lib.decDigits m → 48 ≤ c.toNat ∧ c.toNat ≤ 57 := by
  intro m
  induction m using Nat.strongRecOn with
  | _ m ih =>
    intro c hc
    rw [Lib.decDigits] at hc
    by_cases h : m < 10
    · rw [dif_pos h] at hc
      rw [List.mem_singleton.1 hc, dig_nat h]; omega
    · rw [dif_neg h] at hc
      rcases List.mem_append.1 hc with h1 | h1
      · exact ih (m / 10) (by omega) c h1
      · rw [List.mem_singleton.1 h1, dig_nat (by omega)]; omega
theorem dec_ne (m : Nat) : Lib.decDigits m ≠ [] := by
  rw [Lib.decDigits]; split <;> simp
theorem dec_cons (m : Nat) : ∃ c r, Lib.decDigits m = c :: r ∧ 48 ≤ c.toNat ∧ c.toNat ≤ 57 := by
  cases h : Lib.decDigits m with
  | nil => exact absurd h (dec_ne m)
  | cons c r => exact ⟨c, r, rfl, dec_all m c (by rw [h]; simp)⟩

theorem parse_app (M : Nat) : ∀ (l : List UInt8) (acc a : Nat) (r : List UInt8), Lib.parseUintM M acc l = .ok a → Lib.parseUintM M acc (l ++ r) = Lib.parseUintM M a r
  | [], acc, a, r, h => by simp [Lib.parseUintM] at h; simp [h]
  | c :: l, acc, a, r, h => by
    simp only [Lib.parseUintM, List.cons_append] at h ⊢
    by_cases h1 : 48 ≤ c.toNat ∧ c.toNat ≤ 57
    · rw [if_pos h1] at h ⊢
      by_cases h2 : 1844674407370955162 ≤ acc
      · rw [if_pos h2] at h; cases h
      · rw [if_neg h2] at h ⊢
        by_cases h3 : M < acc * 10 + (c.toNat - 48)
        · rw [if_pos h3] at h; cases h
        · rw [if_neg h3] at h ⊢; exact parse_app M l _ a r h
    · rw [if_neg h1] at h; cases h
theorem parse_one (M acc d : Nat) (hd : d < 10) (h1 : acc < 1844674407370955162) (h2 : acc * 10 + d ≤ M) : Lib.parseUintM M acc [UInt8.ofNat (48 + d)] = .ok (acc * 10 + d) := by
  simp only [Lib.parseUintM]
  rw [dig_nat hd, if_pos (by omega), if_neg (by omega), show 48 + d - 48 = d by omega, if_neg (by omega)]
theorem parse_dec (M : Nat) : ∀ m : Nat, m ≤ 1000000000 → m ≤ M → Lib.parseUintM M 0 (Lib.decDigits m) = .ok m := by
  intro m
  induction m using Nat.strongRecOn with
  | _ m ih =>
    intro h1 h2
    rw [Lib.decDigits]
    by_cases h : m < 10
    · rw [dif_pos h, parse_one M 0 m h (by omega) (by omega)]; simp
    · rw [dif_neg h, parse_app M _ 0 (m / 10) _ (ih (m / 10) (by omega) (by omega) (by omega)), parse_one M (m / 10) (m % 10) (by omega) (by omega) (by omega)]
      congr 1; omega
theorem parseB_dec (m : Nat) (h : m ≤ 1000000000) : Lib.parseUintB 64 (Lib.decDigits m) = .ok m := by
  unfold Lib.parseUintB; rw [if_neg (dec_ne m)]; exact parse_dec _ m h (by omega)
theorem parse_pos (m : Nat) (h : m ≤ 1000000000) : Lib.parseIntB 64 (Lib.decDigits m) = .ok (m : Int) := by
  obtain ⟨c, r, e, h1, h2⟩ := dec_cons m
  have hp := parseB_dec m h
  rw [e] at hp ⊢
  unfold Lib.parseIntB
  have q1 : ¬ c.toNat = 43 := by omega
  have q2 : ¬ c.toNat = 45 := by omega
  have q3 : ¬ (2 ^ (64 - 1) ≤ m) := by omega
  simp only [q1, q2, or_self, if_false, hp, q3, not_false_eq_true, true_and, false_and, and_false]
theorem parse_neg (m : Nat) (h : m ≤ 1000000000) : Lib.parseIntB 64 (45 :: Lib.decDigits m) = .ok (-(m : Int)) := by
  have hp := parseB_dec m h
  unfold Lib.parseIntB
  have q0 : (45 : UInt8).toNat = 45 := rfl
  have q3 : ¬ (2 ^ (64 - 1) < m) := by omega
  simp only [q0, or_true, if_true, hp, q3, not_true_eq_false, false_and, and_false, if_false]
theorem parse_itoa {n : Int} (h0 : -1000000000 ≤ n) (h1 : n ≤ 1000000000) : Lib.parseIntB 64 (Lib.itoa n) = .ok n := by
  by_cases h : n < 0
  · rw [itoa_neg h, parse_neg _ (by omega)]; congr 1; omega
  · rw [itoa_pos (by omega), parse_pos _ (by omega)]; congr 1; omega
theorem parse_code {z : Int} (h0 : 1 ≤ z) (h1 : z ≤ 20) : Lib.parseIntB 64 (Lib.decDigits z.toNat) = .ok z := by
  rw [parse_pos _ (by omega)]; congr 1; omega

/-! the model's digits: others are passed by, eleven at most -/
def stepD (n : Nat) (c : UInt8) : Nat := if 48 ≤ c.toNat ∧ c.toNat ≤ 57 then 10 * n + (c.toNat - 48) else n
def digs (l : List UInt8) : Nat := l.foldl stepD 0
theorem digs_snoc (l : List UInt8) (c : UInt8) : digs (l ++ [c]) = stepD (digs l) c := by unfold digs; simp
theorem digs_dec : ∀ m : Nat, digs (Lib.decDigits m) = m := by
  intro m
  induction m using Nat.strongRecOn with
  | _ m ih =>
    rw [Lib.decDigits]
    by_cases h : m < 10
    · rw [dif_pos h, show [UInt8.ofNat (48 + m)] = [] ++ [UInt8.ofNat (48 + m)] from rfl, digs_snoc]
      unfold stepD; rw [dig_nat h, if_pos (by omega)]; simp [digs]
    · rw [dif_neg h, digs_snoc, ih (m / 10) (by omega)]
      unfold stepD; rw [dig_nat (by omega), if_pos (by omega)]; omega
theorem digs_brace (m : Nat) : digs (Lib.decDigits m ++ [125]) = m := by
  rw [digs_snoc, digs_dec]; unfold stepD; rw [if_neg (by decide)]
theorem digs_lt : ∀ (i : Nat) (l : List UInt8), digs (l.take i) < 10 ^ i
  | 0, l => by simp [digs]
  | i + 1, l => by
    have ih := digs_lt i l
    by_cases h : i < l.length
    · rw [List.take_add_one, List.getElem?_eq_getElem h]
      simp only [Option.toList_some]
      rw [digs_snoc, Nat.pow_succ]
      unfold stepD; split <;> omega
    · rw [List.take_of_length_le (by omega)] at ih ⊢
      rw [Nat.pow_succ]; omega
def numM (l : List UInt8) : Int := if l.head? = some 45 then -(digs (l.tail.take 11) : Int) else (digs (l.take 11) : Int)
theorem numM_dec (m : Nat) (h : m < 10000000000) : numM (Lib.decDigits m) = m := by
  obtain ⟨c, r, e, h1, h2⟩ := dec_cons m
  have hl := dec_len 9 m (by simpa using h)
  have : ¬ (Lib.decDigits m).head? = some 45 := by
    rw [e]; simp; intro hc; rw [hc] at h1; exact absurd h1 (by decide)
  unfold numM; rw [if_neg this, List.take_of_length_le (by omega), digs_dec]
theorem numM_brace (m : Nat) (h : m < 10000000000) : numM (Lib.decDigits m ++ [125]) = m := by
  obtain ⟨c, r, e, h1, h2⟩ := dec_cons m
  have hl := dec_len 9 m (by simpa using h)
  have : ¬ (Lib.decDigits m ++ [125]).head? = some 45 := by
    rw [e]; simp; intro hc; rw [hc] at h1; exact absurd h1 (by decide)
  unfold numM; rw [if_neg this, List.take_of_length_le (by simp; omega), digs_brace]
theorem numM_itoa {n : Int} (h0 : -1000000000 ≤ n) (h1 : n ≤ 1000000000) : numM (Lib.itoa n) = n := by
  by_cases h : n < 0
  · have hl := dec_len 9 (-n).toNat (by omega)
    rw [itoa_neg h]; unfold numM; rw [if_pos (by rfl), List.tail_cons, List.take_of_length_le (by omega), digs_dec]; omega
  · rw [itoa_pos (by omega), numM_dec _ (by omega)]; omega

/-! commas -/
def splitC : List UInt8 → List (List UInt8)
  | [] => [[]]
  | c :: l => if c = 44 then [] :: splitC l else match splitC l with
    | [] => [[c]]
    | x :: r => (c :: x) :: r
theorem splitC_cons (c : UInt8) (l : List UInt8) (h : c ≠ 44) (x : List UInt8) (r : List (List UInt8)) (e : splitC l = x :: r) : splitC (c :: l) = (c :: x) :: r := by
  unfold splitC; rw [if_neg h, e]
theorem splitC_comma (l : List UInt8) : splitC (44 :: l) = [] :: splitC l := by
  rw [splitC, if_pos rfl]
theorem splitC_some (l : List UInt8) : ∃ x r, splitC l = x :: r := by
  induction l with
  | nil => exact ⟨[], [], rfl⟩
  | cons c l ih =>
    by_cases h : c = 44
    · subst h; exact ⟨_, _, splitC_comma l⟩
    · obtain ⟨x, r, e⟩ := ih; exact ⟨_, _, splitC_cons c l h x r e⟩
theorem splitC_cut : ∀ (x l : List UInt8), 44 ∉ x → splitC (x ++ 44 :: l) = x :: splitC l
  | [], l, _ => splitC_comma l
  | c :: x, l, h => by
    have hc : c ≠ 44 := fun e => h (by rw [e]; simp)
    rw [List.cons_append, splitC_cons c _ hc x (splitC l) (splitC_cut x l (fun e => h (by simp [e])))]
theorem splitC_plain : ∀ x : List UInt8, 44 ∉ x → splitC x = [x]
  | [], _ => rfl
  | c :: x, h => by
    have hc : c ≠ 44 := fun e => h (by rw [e]; simp)
    rw [splitC_cons c _ hc x [] (splitC_plain x (fun e => h (by simp [e])))]
theorem splitC_join : ∀ (xs : List (List UInt8)) (x : List UInt8), (∀ y ∈ x :: xs, 44 ∉ y) → splitC (Lib.join (x :: xs) [44]) = x :: xs
  | [], x, h => by rw [Lib.join_one]; exact splitC_plain x (h x (by simp))
  | y :: xs, x, h => by
    have e : Lib.join (x :: y :: xs) [44] = x ++ 44 :: Lib.join (y :: xs) [44] := by
      rw [Lib.join_cons, Lib.join_cons]; simp [Lib.joinTail, List.append_assoc]
    rw [e, splitC_cut x _ (h x (by simp)), splitC_join xs y (fun z hz => h z (by simp only [List.mem_cons] at hz ⊢; exact .inr hz))]
theorem code_plain (m : Nat) : (44 : UInt8) ∉ Lib.decDigits m := fun h => by
  have := dec_all m 44 h
  exact absurd this.1 (by decide)
theorem split_codes {zs : List Int} (h : zs ≠ []) : splitC (Lib.join (codesL zs) [44]) = codesL zs := by
  cases zs with
  | nil => exact absurd rfl h
  | cons z zs =>
    refine splitC_join (codesL zs) _ fun y hy => ?_
    have hy2 : y ∈ codesL (z :: zs) := hy
    unfold codesL at hy2
    obtain ⟨a, _, rfl⟩ := List.mem_map.1 hy2
    exact code_plain _
/-- the pieces behind the brace, as the model cuts them: the last one bears the other brace -/
theorem split_brace : ∀ (xs : List (List UInt8)) (x : List UInt8), (∀ y ∈ xs ++ [x], 44 ∉ y) → splitC (Lib.join (xs ++ [x]) [44] ++ [125]) = xs ++ [x ++ [125]]
  | [], x, h => by
    rw [List.nil_append, Lib.join_one]
    exact splitC_plain _ (fun e => by rcases List.mem_append.1 e with e | e; exact h x (by simp) e; simp at e)
  | y :: xs, x, h => by
    have hne : xs ++ [x] ≠ [] := by simp
    have e : Lib.join (y :: (xs ++ [x])) [44] = y ++ 44 :: Lib.join (xs ++ [x]) [44] := by
      cases hx : xs ++ [x] with
      | nil => exact absurd hx hne
      | cons a r => rw [Lib.join_cons, Lib.join_cons]; simp [Lib.joinTail, List.append_assoc]
    rw [List.cons_append, e, List.append_assoc, List.cons_append, splitC_cut y _ (h y (by simp)), split_brace xs x (fun z hz => h z (by simp only [List.cons_append, List.mem_cons]; exact .inr hz))]
    rfl
theorem map_num_codes {zs : List Int} (h : ∀ z ∈ zs, 1 ≤ z ∧ z ≤ 20) : (codesL zs).map numM = zs := by
  unfold codesL
  rw [List.map_map]
  conv => rhs; rw [← List.map_id zs]
  refine List.map_congr_left fun z hz => ?_
  have := h z hz
  simp only [Function.comp_apply, id_eq]
  rw [numM_dec _ (by omega)]; omega
theorem read_codes {zs : List Int} (hne : zs ≠ []) (h : ∀ z ∈ zs, 1 ≤ z ∧ z ≤ 20) : (splitC (Lib.join (codesL zs) [44] ++ [125])).map numM = zs := by
  obtain ⟨xs, x, rfl⟩ : ∃ xs x, zs = xs ++ [x] := ⟨zs.dropLast, zs.getLast hne, (List.dropLast_concat_getLast hne).symm⟩
  have e : codesL (xs ++ [x]) = codesL xs ++ [Lib.decDigits x.toNat] := by unfold codesL; simp
  have hx := h x (by simp)
  rw [e, split_brace]
  · rw [List.map_append, map_num_codes (fun z hz => h z (by simp [hz]))]
    simp only [List.map_cons, List.map_nil]
    rw [numM_brace _ (by omega)]
    congr 2; omega
  · intro y hy
    rw [← e] at hy; unfold codesL at hy
    obtain ⟨a, _, rfl⟩ := List.mem_map.1 hy
    exact code_plain _
theorem splitK_C : ∀ l : List UInt8, Lib.splitK [44] 0 (Lib.count l [44]) l = splitC l
  | [] => by rw [Lib.count_miss (by simp [Lib.index])]; rfl
  | c :: l => by
    have ih := splitK_C l
    by_cases h : c = 44
    · subst h
      have hix : Lib.index (44 :: l) [44] = ((0 : Nat) : Int) := by rw [Lib.index]; simp [List.isPrefixOf]
      rw [Lib.count_cons_eq, Nat.add_comm, Lib.splitK, hix, splitC_comma, ← ih]
      simp
    · have hp : ([44] : List UInt8).isPrefixOf (c :: l) = false := by simp [List.isPrefixOf, Ne.symm h]
      rw [Lib.count_cons_ne c 44 l h]
      have hge := Lib.index_ge l [44]
      cases hk : Lib.count l [44] with
      | zero =>
        rw [hk] at ih
        rw [splitC_cons c l h l [] (by rw [← ih]; rfl)]; rfl
      | succ k =>
        obtain ⟨j, hj⟩ := Lib.index_of_count (s := l) (old := [44]) (by omega)
        have hm : ¬ (Lib.index l [44] == -1) = true := fun e => by have := beq_iff_eq.1 e; omega
        have hix : Lib.index (c :: l) [44] = ((j + 1 : Nat) : Int) := by
          rw [Lib.index, hp]; simp only [Bool.false_eq_true, if_false]; rw [if_neg hm, hj]; omega
        rw [hk] at ih
        rw [Lib.splitK, hj, if_neg (by simp)] at ih
        simp only [Int.toNat_natCast, List.length_cons, List.length_nil, Nat.add_zero] at ih
        rw [splitC_cons c l h _ _ ih.symm, Lib.splitK, hix, if_neg (by simp; omega)]
        simp
end Go.Proofs.YtphdkhdlgcglpaaGreatDoor.RdM
/- Quoted texts read back; how the text of a right answer begins; and that no two right answers have one text. No program is named here. -/
namespace Go.Proofs.YtphdkhdlgcglpaaGreatDoor.RdM
open ValM TxtM
set_option linter.unusedSimpArgs false

/-! quotation marks -/
theorem ix_two (l : List UInt8) : Lib.index (34 :: 34 :: l) [34, 34] = ((0 : Nat) : Int) := by rw [Lib.index]; simp [List.isPrefixOf]
theorem ix_other (c : UInt8) (l : List UInt8) (h : c ≠ 34) : Lib.index (c :: l) [34, 34] = if Lib.index l [34, 34] == -1 then -1 else Lib.index l [34, 34] + 1 := by
  have hp : ([34, 34] : List UInt8).isPrefixOf (c :: l) = false := by simp [List.isPrefixOf, Ne.symm h]
  rw [Lib.index, hp]; simp
theorem count_two (l : List UInt8) : Lib.count (34 :: 34 :: l) [34, 34] = 1 + Lib.count l [34, 34] := by
  rw [Lib.count_hit (by simp) (ix_two l)]; simp
theorem count_other (c : UInt8) (l : List UInt8) (h : c ≠ 34) : Lib.count (c :: l) [34, 34] = Lib.count l [34, 34] := by
  have hix := ix_other c l h
  by_cases hm : Lib.index l [34, 34] = -1
  · rw [Lib.count_miss hm, Lib.count_miss (by rw [hix, if_pos (beq_iff_eq.2 hm)])]
  · have hge := Lib.index_ge l [34, 34]
    obtain ⟨j, hj⟩ : ∃ j : Nat, Lib.index l [34, 34] = j := ⟨(Lib.index l [34, 34]).toNat, by omega⟩
    have hix' : Lib.index (c :: l) [34, 34] = ((j + 1 : Nat) : Int) := by rw [hix, if_neg (fun e => hm (beq_iff_eq.1 e)), hj]; omega
    rw [Lib.count_hit (by simp) hj, Lib.count_hit (by simp) hix']
    have e : j + 1 + [(34 : UInt8), 34].length = j + [(34 : UInt8), 34].length + 1 := by omega
    rw [e, List.drop_succ_cons]
theorem rep_two (k : Nat) (l : List UInt8) : Lib.replaceK [34, 34] [34] (k + 1) (34 :: 34 :: l) = 34 :: Lib.replaceK [34, 34] [34] k l := by
  rw [Lib.replaceK_hit _ _ _ _ 0 (ix_two l)]; simp
theorem rep_other (c : UInt8) (h : c ≠ 34) : ∀ (k : Nat) (l : List UInt8), Lib.replaceK [34, 34] [34] k (c :: l) = c :: Lib.replaceK [34, 34] [34] k l
  | 0, _ => rfl
  | k + 1, l => by
    have hix := ix_other c l h
    have hge := Lib.index_ge l [34, 34]
    by_cases hm : Lib.index l [34, 34] = -1
    · rw [Lib.replaceK, Lib.replaceK, if_pos (by rw [hix, if_pos (beq_iff_eq.2 hm)]; rfl), if_pos (beq_iff_eq.2 hm)]
    · obtain ⟨j, hj⟩ : ∃ j : Nat, Lib.index l [34, 34] = j := ⟨(Lib.index l [34, 34]).toNat, by omega⟩
      have hix' : Lib.index (c :: l) [34, 34] = ((j + 1 : Nat) : Int) := by rw [hix, if_neg (fun e => hm (beq_iff_eq.1 e)), hj]; omega
      rw [Lib.replaceK_hit _ _ _ _ _ hix', Lib.replaceK_hit _ _ _ _ _ hj]
      have e : j + 1 + [(34 : UInt8), 34].length = j + [(34 : UInt8), 34].length + 1 := by omega
      rw [e, List.drop_succ_cons]; simp
theorem unquote : ∀ l : List UInt8, Lib.replaceK [34, 34] [34] (Lib.count (quoteL l) [34, 34]) (quoteL l) = l
  | [] => by
    rw [show quoteL [] = [] from rfl, Lib.count_miss (by simp [Lib.index])]; rfl
  | c :: l => by
    by_cases h : c = 34
    · subst h
      rw [show quoteL (34 :: l) = 34 :: 34 :: quoteL l by simp [quoteL], count_two, Nat.add_comm, rep_two, unquote l]
    · rw [show quoteL (c :: l) = c :: quoteL l by simp [quoteL, h], count_other c _ h, rep_other c h, unquote l]
theorem unquote_all (l : List UInt8) : Lib.replaceAll (quoteL l) [34, 34] [34] = l := by
  unfold Lib.replaceAll Lib.replace Lib.replaceNum
  rw [if_neg (by decide), if_pos (.inl (by decide))]; exact unquote l
theorem quote_inj {a b : List UInt8} (h : quoteL a = quoteL b) : a = b := by rw [← unquote_all a, ← unquote_all b, h]

/-! the end cut off -/
theorem trim_end (l : List UInt8) (c : UInt8) : Lib.trimSuffix (l ++ [c]) [c] = l := by
  unfold Lib.trimSuffix Lib.hasSuffix
  rw [if_pos (by simp)]; simp
theorem trim_len (l p : List UInt8) : (Lib.trimSuffix l p).length ≤ l.length := by
  unfold Lib.trimSuffix; split
  · simp
  · exact Nat.le_refl _

/-! how a text begins -/
theorem text_none {n : Int} {zs : List Int} {t : ByteArray} : textL 0 n zs t = [] := rfl
theorem text_dont {n : Int} {zs : List Int} {t : ByteArray} : textL 5 n zs t = [68, 75] := rfl
theorem text_refuse {n : Int} {zs : List Int} {t : ByteArray} : textL 6 n zs t = [82, 70] := rfl
theorem text_int {n : Int} {zs : List Int} {t : ByteArray} : textL 1 n zs t = Lib.itoa n := rfl
theorem text_code {n : Int} {zs : List Int} {t : ByteArray} : textL 2 n zs t = 35 :: Lib.decDigits n.toNat := rfl
theorem text_set {n : Int} {zs : List Int} {t : ByteArray} : textL 3 n zs t = 123 :: (Lib.join (codesL zs) [44] ++ [125]) := rfl
theorem text_text {n : Int} {zs : List Int} {t : ByteArray} : textL 4 n zs t = 34 :: (quoteL t.data.toList ++ [34]) := rfl
theorem itoa_cons (n : Int) : ∃ c r, Lib.itoa n = c :: r ∧ (c = 45 ∨ 48 ≤ c.toNat ∧ c.toNat ≤ 57) := by
  by_cases h : n < 0
  · exact ⟨45, _, itoa_neg h, .inl rfl⟩
  · obtain ⟨c, r, e, h1, h2⟩ := dec_cons n.toNat
    exact ⟨c, r, by rw [itoa_pos (by omega)]; exact e, .inr ⟨h1, h2⟩⟩
/-- the kinds by the first byte -/
theorem kind_of {k n : Int} {zs : List Int} {t : ByteArray} (h : right k n zs t = true) :
    (k = 0 ∧ textL k n zs t = []) ∨ ∃ c r, textL k n zs t = c :: r ∧ ((k = 5 ∧ c = 68) ∨ (k = 6 ∧ c = 82) ∨ (k = 2 ∧ c = 35) ∨ (k = 3 ∧ c = 123) ∨ (k = 4 ∧ c = 34) ∨ (k = 1 ∧ (c = 45 ∨ 48 ≤ c.toNat ∧ c.toNat ≤ 57))) := by
  rcases kinds h with ⟨hk, _⟩ | ⟨rfl, _⟩ | ⟨rfl, _⟩ | ⟨rfl, _⟩ | ⟨rfl, _⟩
  · rcases hk with rfl | rfl | rfl
    · exact .inl ⟨rfl, rfl⟩
    · exact .inr ⟨68, [75], rfl, by simp⟩
    · exact .inr ⟨82, [70], rfl, by simp⟩
  · obtain ⟨c, r, e, hc⟩ := itoa_cons n
    exact .inr ⟨c, r, e, by simp [hc]⟩
  · exact .inr ⟨35, _, text_code, by simp⟩
  · exact .inr ⟨123, _, text_set, by simp⟩
  · exact .inr ⟨34, _, text_text, by simp⟩
theorem codes_of {zs : List Int} (h : risesB zs = true) : ∀ z ∈ zs, 1 ≤ z ∧ z ≤ 20 := by
  intro z hz
  obtain ⟨i, hi, rfl⟩ := List.getElem_of_mem hz
  have := rises_at h i hi
  unfold okAt at this
  simp only [List.getD, List.getElem?_eq_getElem hi, Option.getD_some] at this
  exact ⟨this.1, this.2.1⟩
theorem join_inj {zs ys : List Int} (hz : risesB zs = true) (hy : risesB ys = true) (h : Lib.join (codesL zs) [44] = Lib.join (codesL ys) [44]) : zs = ys := by
  have hne : ∀ {a : List Int}, a ≠ [] → Lib.join (codesL a) [44] ≠ [] := by
    intro a ha e
    cases a with
    | nil => exact ha rfl
    | cons x r =>
      have : Lib.join (codesL (x :: r)) [44] = Lib.decDigits x.toNat ++ Lib.joinTail [44] (codesL r) := Lib.join_cons _ _ _
      rw [this] at e
      exact dec_ne _ (List.append_eq_nil_iff.1 e).1
  by_cases h1 : zs = []
  · by_cases h2 : ys = []
    · rw [h1, h2]
    · rw [h1] at h; exact absurd h.symm (hne h2)
  · by_cases h2 : ys = []
    · rw [h2] at h; exact absurd h (hne h1)
    · rw [← map_num_codes (codes_of hz), ← map_num_codes (codes_of hy), ← split_codes h1, ← split_codes h2, h]
/-- no two right answers have one text -/
theorem text_inj {k n : Int} {zs : List Int} {t : ByteArray} {k' n' : Int} {zs' : List Int} {t' : ByteArray} (h : right k n zs t = true) (h' : right k' n' zs' t' = true) (e : textL k n zs t = textL k' n' zs' t') :
    k = k' ∧ n = n' ∧ zs = zs' ∧ t = t' := by
  have hk : k = k' := by
    rcases kind_of h with ⟨a, b⟩ | ⟨c, r, a, b⟩ <;> rcases kind_of h' with ⟨a', b'⟩ | ⟨c', r', a', b'⟩
    · rw [a, a']
    · rw [b, a'] at e; cases e
    · rw [b', a] at e; cases e
    · rw [a, a'] at e
      obtain ⟨rfl, rfl⟩ := List.cons.inj e
      rcases b with ⟨x, y⟩ | ⟨x, y⟩ | ⟨x, y⟩ | ⟨x, y⟩ | ⟨x, y⟩ | ⟨x, y⟩ <;> rcases b' with ⟨x', y'⟩ | ⟨x', y'⟩ | ⟨x', y'⟩ | ⟨x', y'⟩ | ⟨x', y'⟩ | ⟨x', y'⟩ <;>
        first | (exact x.trans x'.symm) | (rw [y] at y'; exact absurd y' (by decide)) | (rw [y'] at y; exact absurd y (by decide))
  subst hk
  have nil_t : ∀ {a : ByteArray}, a.size = 0 → a = ByteArray.empty := fun ha => by
    have : _ = 0 := ha
    rw [size_len] at this
    have h0 := List.length_eq_zero_iff.1 this
    rw [eq_mk h0]; rfl
  have nil_z : ∀ {a : List Int}, a.length = 0 → a = [] := fun ha => List.length_eq_zero_iff.1 ha
  rcases kinds h with ⟨hk, a, b, c⟩ | ⟨hk, a, a1, b, c⟩ | ⟨hk, a, a1, b, c⟩ | ⟨hk, a, b, c⟩ | ⟨hk, a, b, c, c1⟩ <;>
  rcases kinds h' with ⟨hk', a', b', c'⟩ | ⟨hk', a', a1', b', c'⟩ | ⟨hk', a', a1', b', c'⟩ | ⟨hk', a', b', c'⟩ | ⟨hk', a', b', c', c1'⟩ <;> first | omega | skip
  · exact ⟨rfl, by omega, by rw [nil_z b, nil_z b'], by rw [nil_t c, nil_t c']⟩
  · subst hk
    refine ⟨rfl, ?_, by rw [nil_z b, nil_z b'], by rw [nil_t c, nil_t c']⟩
    rw [text_int, text_int] at e
    rw [← numM_itoa a a1, ← numM_itoa a' a1', e]
  · subst hk
    refine ⟨rfl, ?_, by rw [nil_z b, nil_z b'], by rw [nil_t c, nil_t c']⟩
    rw [text_code, text_code] at e
    have e2 := (List.cons.inj e).2
    have d1 := digs_dec n.toNat
    have d2 := digs_dec n'.toNat
    rw [e2] at d1; omega
  · subst hk
    refine ⟨rfl, by omega, ?_, by rw [nil_t c, nil_t c']⟩
    rw [text_set, text_set] at e
    exact join_inj b b' (List.append_inj_left' (List.cons.inj e).2 rfl)
  · subst hk
    refine ⟨rfl, by omega, by rw [nil_z b, nil_z b'], ?_⟩
    rw [text_text, text_text] at e
    have := quote_inj (List.append_inj_left' (List.cons.inj e).2 rfl)
    rw [eq_mk this, mk_data]
theorem text_len {k n : Int} {zs : List Int} {t : ByteArray} (h : right k n zs t = true) : (textL k n zs t).length ≤ 100 := by
  rcases kinds h with ⟨hk, _⟩ | ⟨rfl, h0, h1, _⟩ | ⟨rfl, h0, h1, _⟩ | ⟨rfl, _, h0, _⟩ | ⟨rfl, _, _, _, h0⟩
  · rcases hk with rfl | rfl | rfl
    · rw [text_none]; decide
    · rw [text_dont]; decide
    · rw [text_refuse]; decide
  · rw [text_int]
    by_cases hn : n < 0
    · rw [itoa_neg hn]; have := dec_len19 (m := (-n).toNat) (by omega); simp; omega
    · rw [itoa_pos (by omega)]; have := dec_len19 (m := n.toNat) (by omega); omega
  · rw [text_code]; have := dec_len19 (m := n.toNat) (by omega); simp; omega
  · rw [text_set, ← upTo_all]; have := upTo_len h0 zs.length (Nat.le_refl _); have := rises_len h0; simp; omega
  · rw [text_text]; have := quote_len t.data.toList; rw [← size_len] at this; simp; omega
end Go.Proofs.YtphdkhdlgcglpaaGreatDoor.RdM
/- Of a text that is the text of a right answer: which answer that is, by its first byte. No program is named here. -/
namespace Go.Proofs.YtphdkhdlgcglpaaGreatDoor.RdM
open ValM TxtM

/-- of a text that is a right answer's: this is the answer -/
def IsOf (s : ByteArray) (k n : Int) (zs : List Int) (t : ByteArray) : Prop := ∀ k0 n0 z0 t0, right k0 n0 z0 t0 = true → s.data.toList = textL k0 n0 z0 t0 → k = k0 ∧ n = n0 ∧ zs = z0 ∧ t = t0
theorem no_text {a : ByteArray} (ha : a.size = 0) : ByteArray.empty = a := by
  have h0 := List.length_eq_zero_iff.1 (by rw [← size_len]; exact ha : a.data.toList.length = 0)
  rw [eq_mk h0]; rfl
theorem no_codes {a : List Int} (ha : a.length = 0) : [] = a := (List.length_eq_zero_iff.1 ha).symm
theorem of_kind {k n : Int} {zs : List Int} {t : ByteArray} (h : right k n zs t = true) (c : UInt8) (r : List UInt8) (e : textL k n zs t = c :: r) :
    (k = 5 ∧ c = 68) ∨ (k = 6 ∧ c = 82) ∨ (k = 2 ∧ c = 35) ∨ (k = 3 ∧ c = 123) ∨ (k = 4 ∧ c = 34) ∨ (k = 1 ∧ (c = 45 ∨ 48 ≤ c.toNat ∧ c.toNat ≤ 57)) := by
  rcases kind_of h with ⟨_, e'⟩ | ⟨c', r', e', hk⟩
  · rw [e] at e'; cases e'
  · rw [e] at e'; obtain ⟨rfl, rfl⟩ := List.cons.inj e'; exact hk
theorem is_none {s : ByteArray} (h : s.data.toList = []) : IsOf s 0 0 [] ByteArray.empty := by
  intro k0 n0 z0 t0 hr e
  rw [h] at e
  rcases kind_of hr with ⟨hk, _⟩ | ⟨c, r, e', _⟩
  · subst hk
    rcases kinds hr with ⟨_, a, b, c⟩ | ⟨hk, _⟩ | ⟨hk, _⟩ | ⟨hk, _⟩ | ⟨hk, _⟩
    · exact ⟨rfl, a.symm, no_codes b, no_text c⟩
    all_goals omega
  · rw [e'] at e; cases e
theorem is_word {s : ByteArray} {k : Int} (c : UInt8) (r : List UInt8) (h : s.data.toList = c :: r) (hk : (k = 5 ∧ c = 68) ∨ (k = 6 ∧ c = 82)) : IsOf s k 0 [] ByteArray.empty := by
  intro k0 n0 z0 t0 hr e
  rw [h] at e
  have hk0 : k0 = k := by
    rcases of_kind hr c r e.symm with ⟨a, b⟩ | ⟨a, b⟩ | ⟨a, b⟩ | ⟨a, b⟩ | ⟨a, b⟩ | ⟨a, b⟩ <;> rcases hk with ⟨x, y⟩ | ⟨x, y⟩ <;>
      first | (exact a.trans x.symm) | (rw [y] at b; exact absurd b (by decide))
  subst hk0
  rcases kinds hr with ⟨_, a, b, c⟩ | ⟨hk', _⟩ | ⟨hk', _⟩ | ⟨hk', _⟩ | ⟨hk', _⟩
  · exact ⟨rfl, a.symm, no_codes b, no_text c⟩
  all_goals omega
theorem is_code {s : ByteArray} (r : List UInt8) (h : s.data.toList = 35 :: r) : IsOf s 2 (numM r) [] ByteArray.empty := by
  intro k0 n0 z0 t0 hr e
  rw [h] at e
  have hk0 : k0 = 2 := by
    rcases of_kind hr _ _ e.symm with ⟨a, b⟩ | ⟨a, b⟩ | ⟨a, b⟩ | ⟨a, b⟩ | ⟨a, b⟩ | ⟨a, b⟩ <;> first | exact a | exact absurd b (by decide)
  subst hk0
  rcases kinds hr with ⟨hk', _⟩ | ⟨hk', _⟩ | ⟨_, a, a1, b, c⟩ | ⟨hk', _⟩ | ⟨hk', _⟩
  · omega
  · omega
  · rw [text_code] at e
    rw [(List.cons.inj e).2, numM_dec _ (by omega)]
    exact ⟨rfl, by omega, no_codes b, no_text c⟩
  all_goals omega
theorem is_int {s : ByteArray} (c : UInt8) (r : List UInt8) (h : s.data.toList = c :: r) (hc : c ≠ 68 ∧ c ≠ 82 ∧ c ≠ 35 ∧ c ≠ 34 ∧ c ≠ 123) : IsOf s 1 (numM s.data.toList) [] ByteArray.empty := by
  intro k0 n0 z0 t0 hr e
  have hk0 : k0 = 1 := by
    rcases of_kind hr c r (by rw [← e]; exact h) with ⟨a, b⟩ | ⟨a, b⟩ | ⟨a, b⟩ | ⟨a, b⟩ | ⟨a, b⟩ | ⟨a, b⟩ <;> first | exact a | (exfalso; simp_all)
  subst hk0
  rcases kinds hr with ⟨hk', _⟩ | ⟨_, a, a1, b, c⟩ | ⟨hk', _⟩ | ⟨hk', _⟩ | ⟨hk', _⟩
  · omega
  · rw [e, text_int, numM_itoa a a1]; exact ⟨rfl, rfl, no_codes b, no_text c⟩
  all_goals omega
theorem is_text {s t : ByteArray} (r : List UInt8) (h : s.data.toList = 34 :: r) (ht : ∀ x, s.data.toList = 34 :: (quoteL x ++ [34]) → t.data.toList = x) : IsOf s 4 0 [] t := by
  intro k0 n0 z0 t0 hr e
  have hk0 : k0 = 4 := by
    rcases of_kind hr 34 r (by rw [← e]; exact h) with ⟨a, b⟩ | ⟨a, b⟩ | ⟨a, b⟩ | ⟨a, b⟩ | ⟨a, b⟩ | ⟨a, b⟩ <;> first | exact a | exact absurd b (by decide)
  subst hk0
  rcases kinds hr with ⟨hk', _⟩ | ⟨hk', _⟩ | ⟨hk', _⟩ | ⟨hk', _⟩ | ⟨_, a, b, _, _⟩
  · omega
  · omega
  · omega
  · omega
  · rw [text_text] at e
    exact ⟨rfl, a.symm, no_codes b, by rw [eq_mk (ht _ e), mk_data]⟩
theorem set_kind {s : ByteArray} {r : List UInt8} (h : s.data.toList = 123 :: r) {k0 n0 : Int} {z0 : List Int} {t0 : ByteArray} (hr : right k0 n0 z0 t0 = true) (e : s.data.toList = textL k0 n0 z0 t0) :
    k0 = 3 ∧ n0 = 0 ∧ risesB z0 = true ∧ ByteArray.empty = t0 ∧ r = Lib.join (codesL z0) [44] ++ [125] := by
  have hk0 : k0 = 3 := by
    rcases of_kind hr 123 r (by rw [← e]; exact h) with ⟨a, b⟩ | ⟨a, b⟩ | ⟨a, b⟩ | ⟨a, b⟩ | ⟨a, b⟩ | ⟨a, b⟩ <;> first | exact a | exact absurd b (by decide)
  subst hk0
  rcases kinds hr with ⟨hk', _⟩ | ⟨hk', _⟩ | ⟨hk', _⟩ | ⟨_, a, b, c⟩ | ⟨hk', _⟩
  · omega
  · omega
  · omega
  · rw [h, text_set] at e
    exact ⟨rfl, a, b, no_text c, (List.cons.inj e).2⟩
  · omega
theorem join_some {z0 : List Int} (h : z0 ≠ []) : Lib.join (codesL z0) [44] ≠ [] := by
  intro e
  cases z0 with
  | nil => exact h rfl
  | cons x r =>
    have : Lib.join (codesL (x :: r)) [44] = Lib.decDigits x.toNat ++ Lib.joinTail [44] (codesL r) := Lib.join_cons _ _ _
    rw [this] at e
    exact dec_ne _ (List.append_eq_nil_iff.1 e).1
theorem is_noset {s : ByteArray} (h : s.data.toList = [123, 125]) : IsOf s 3 0 [] ByteArray.empty := by
  intro k0 n0 z0 t0 hr e
  obtain ⟨hk, hn, _, ht, hj⟩ := set_kind h hr e
  have hz : z0 = [] := by
    by_cases hz : z0 = []
    · exact hz
    · have h2 : Lib.join (codesL z0) [44] = [] := List.append_inj_left' (t₁ := [125]) (s₁ := []) (by simpa using hj) rfl |>.symm
      exact absurd h2 (join_some hz)
  exact ⟨hk.symm, hn.symm, hz.symm, ht⟩
theorem is_set {s : ByteArray} (r : List UInt8) (h : s.data.toList = 123 :: r) (hne : s.data.toList ≠ [123, 125]) : IsOf s 3 0 ((splitC r).map numM) ByteArray.empty := by
  intro k0 n0 z0 t0 hr e
  obtain ⟨hk, hn, hz, ht, hj⟩ := set_kind h hr e
  refine ⟨hk.symm, hn.symm, ?_, ht⟩
  rw [hj]
  refine read_codes (fun h0 => hne ?_) (codes_of hz)
  rw [h, hj, h0]; rfl
end Go.Proofs.YtphdkhdlgcglpaaGreatDoor.RdM
