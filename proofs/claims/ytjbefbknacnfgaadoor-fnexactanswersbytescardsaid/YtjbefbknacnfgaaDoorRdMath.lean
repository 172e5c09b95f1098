/- What reading a text of an answer gives back: digits, codes between commas, quoted texts; and that a text is the text of one right answer at most. No program is named here. -/
import Derived.Test.YtjbefbknacnfgaaDoorTxtMath
import Derived.Lib.ParseIntB
import Derived.Lib.SplitLaws
import Derived.Lib.Strings
namespace Go.Proofs.YtjbefbknacnfgaaDoor.RdM
open ValM TxtM
set_option linter.unusedSimpArgs false

/-! digits -/
theorem dig_nat {d : Nat} (h : d < 10) : (UInt8.ofNat (48 + d)).toNat = 48 + d := by simp; omega
theorem dec_all : ∀ (m : Nat) (c : UInt8), c ∈ Lib.decDigits m → 48 ≤ c.toNat ∧ c.toNat ≤ 57 := by
  intro m
  induction m using Nat.strongRecOn with
  | _ m ih =>
    intro c hc
    rw [Lib.decDigits] at hc
    by_cases h : m < 10
    · rw [dif_pos h] at hc
      rw [List.mem_singleton.1 hc, dig_nat h]; omega
    · rw [dif_neg h] at hc
      rcases List.mem_append.1 hc with h1 | h1
      · exact ih (m / 10) (by omega) c h1
      · rw [List.mem_singleton.1 h1, dig_nat (by omega)]; omega
theorem dec_ne (m : Nat) : Lib.decDigits m ≠ [] := by
  rw [Lib.decDigits]; split <;> simp
theorem dec_cons (m : Nat) : ∃ c r, Lib.decDigits m = c :: r ∧ 48 ≤ c.toNat ∧ c.toNat ≤ 57 := by
  cases h : Lib.decDigits m with
  | nil => exact absurd h (dec_ne m)
  | cons c r => exact ⟨c, r, rfl, dec_all m c (by rw [h]; simp)⟩

theorem parse_app (M : Nat) : ∀ (l : List UInt8) (acc a : Nat) (r : List UInt8), Lib.parseUintM M acc l = .ok a → Lib.parseUintM M acc (l ++ r) = Lib.parseUintM M a r
  | [], acc, a, r, h => by simp [Lib.parseUintM] at h; simp [h]
  | c :: l, acc, a, r, h => by
    simp only [Lib.parseUintM, List.cons_append] at h ⊢
    by_cases h1 : 48 ≤ c.toNat ∧ c.toNat ≤ 57
    · rw [if_pos h1] at h ⊢
      by_cases h2 : 1844674407370955162 ≤ acc
      · rw [if_pos h2] at h; cases h
      · rw [if_neg h2] at h ⊢
        by_cases h3 : M < acc * 10 + (c.toNat - 48)
        · rw [if_pos h3] at h; cases h
        · rw [if_neg h3] at h ⊢; exact parse_app M l _ a r h
    · rw [if_neg h1] at h; cases h
theorem parse_one (M acc d : Nat) (hd : d < 10) (h1 : acc < 1844674407370955162) (h2 : acc * 10 + d ≤ M) : Lib.parseUintM M acc [UInt8.ofNat (48 + d)] = .ok (acc * 10 + d) := by
  simp only [Lib.parseUintM]
  rw [dig_nat hd, if_pos (by omega), if_neg (by omega), show 48 + d - 48 = d by omega, if_neg (by omega)]
theorem parse_dec (M : Nat) : ∀ m : Nat, m ≤ 1000000000 → m ≤ M → Lib.parseUintM M 0 (Lib.decDigits m) = .ok m := by
  intro m
  induction m using Nat.strongRecOn with
  | _ m ih =>
    intro h1 h2
    rw [Lib.decDigits]
    by_cases h : m < 10
    · rw [dif_pos h, parse_one M 0 m h (by omega) (by omega)]; simp
    · rw [dif_neg h, parse_app M _ 0 (m / 10) _ (ih (m / 10) (by omega) (by omega) (by omega)), parse_one M (m / 10) (m % 10) (by omega) (by omega) (by omega)]
      congr 1; omega
theorem parseB_dec (m : Nat) (h : m ≤ 1000000000) : Lib.parseUintB 64 (Lib.decDigits m) = .ok m := by
  unfold Lib.parseUintB; rw [if_neg (dec_ne m)]; exact parse_dec _ m h (by omega)
theorem parse_pos (m : Nat) (h : m ≤ 1000000000) : Lib.parseIntB 64 (Lib.decDigits m) = .ok (m : Int) := by
  obtain ⟨c, r, e, h1, h2⟩ := dec_cons m
  have hp := parseB_dec m h
  rw [e] at hp ⊢
  unfold Lib.parseIntB
  have q1 : ¬ c.toNat = 43 := by omega
  have q2 : ¬ c.toNat = 45 := by omega
  have q3 : ¬ (2 ^ (64 - 1) ≤ m) := by omega
  simp only [q1, q2, or_self, if_false, hp, q3, not_false_eq_true, true_and, false_and, and_false]
theorem parse_neg (m : Nat) (h : m ≤ 1000000000) : Lib.parseIntB 64 (45 :: Lib.decDigits m) = .ok (-(m : Int)) := by
  have hp := parseB_dec m h
  unfold Lib.parseIntB
  have q0 : (45 : UInt8).toNat = 45 := rfl
  have q3 : ¬ (2 ^ (64 - 1) < m) := by omega
  simp only [q0, or_true, if_true, hp, q3, not_true_eq_false, false_and, and_false, if_false]
theorem parse_itoa {n : Int} (h0 : -1000000000 ≤ n) (h1 : n ≤ 1000000000) : Lib.parseIntB 64 (Lib.itoa n) = .ok n := by
  by_cases h : n < 0
  · rw [itoa_neg h, parse_neg _ (by omega)]; congr 1; omega
  · rw [itoa_pos (by omega), parse_pos _ (by omega)]; congr 1; omega
theorem parse_code {z : Int} (h0 : 1 ≤ z) (h1 : z ≤ 20) : Lib.parseIntB 64 (Lib.decDigits z.toNat) = .ok z := by
  rw [parse_pos _ (by omega)]; congr 1; omega

/-! the model's digits: others are passed by, eleven at most -/
def stepD (n : Nat) (c : UInt8) : Nat := if 48 ≤ c.toNat ∧ c.toNat ≤ 57 then 10 * n + (c.toNat - 48) else n
def digs (l : List UInt8) : Nat := l.foldl stepD 0
theorem digs_snoc (l : List UInt8) (c : UInt8) : digs (l ++ [c]) = stepD (digs l) c := by unfold digs; simp
theorem digs_dec : ∀ m : Nat, digs (Lib.decDigits m) = m := by
  intro m
  induction m using Nat.strongRecOn with
  | _ m ih =>
    rw [Lib.decDigits]
    by_cases h : m < 10
    · rw [dif_pos h, show [UInt8.ofNat (48 + m)] = [] ++ [UInt8.ofNat (48 + m)] from rfl, digs_snoc]
      unfold stepD; rw [dig_nat h, if_pos (by omega)]; simp [digs]
    · rw [dif_neg h, digs_snoc, ih (m / 10) (by omega)]
      unfold stepD; rw [dig_nat (by omega), if_pos (by omega)]; omega
theorem digs_brace (m : Nat) : digs (Lib.decDigits m ++ [125]) = m := by
  rw [digs_snoc, digs_dec]; unfold stepD; rw [if_neg (by decide)]
theorem digs_lt : ∀ (i : Nat) (l : List UInt8), digs (l.take i) < 10 ^ i
  | 0, l => by simp [digs]
  | i + 1, l => by
    have ih := digs_lt i l
    by_cases h : i < l.length
    · rw [List.take_add_one, List.getElem?_eq_getElem h]
      simp only [Option.toList_some]
      rw [digs_snoc, Nat.pow_succ]
      unfold stepD; split <;> omega
    · rw [List.take_of_length_le (by omega)] at ih ⊢
      rw [Nat.pow_succ]; omega
def numM (l : List UInt8) : Int := if l.head? = some 45 then -(digs (l.tail.take 11) : Int) else (digs (l.take 11) : Int)
theorem numM_dec (m : Nat) (h : m < 10000000000) : numM (Lib.decDigits m) = m := by
  obtain ⟨c, r, e, h1, h2⟩ := dec_cons m
  have hl := dec_len 9 m (by simpa using h)
  have : ¬ (Lib.decDigits m).head? = some 45 := by
    rw [e]; simp; intro hc; rw [hc] at h1; exact absurd h1 (by decide)
  unfold numM; rw [if_neg this, List.take_of_length_le (by omega), digs_dec]
theorem numM_brace (m : Nat) (h : m < 10000000000) : numM (Lib.decDigits m ++ [125]) = m := by
  obtain ⟨c, r, e, h1, h2⟩ := dec_cons m
  have hl := dec_len 9 m (by simpa using h)
  have : ¬ (Lib.decDigits m ++ [125]).head? = some 45 := by
    rw [e]; simp; intro hc; rw [hc] at h1; exact absurd h1 (by decide)
  unfold numM; rw [if_neg this, List.take_of_length_le (by simp; omega), digs_brace]
theorem numM_itoa {n : Int} (h0 : -1000000000 ≤ n) (h1 : n ≤ 1000000000) : numM (Lib.itoa n) = n := by
  by_cases h : n < 0
  · have hl := dec_len 9 (-n).toNat (by omega)
    rw [itoa_neg h]; unfold numM; rw [if_pos (by rfl), List.tail_cons, List.take_of_length_le (by omega), digs_dec]; omega
  · rw [itoa_pos (by omega), numM_dec _ (by omega)]; omega

/-! commas -/
def splitC : List UInt8 → List (List UInt8)
  | [] => [[]]
  | c :: l => if c = 44 then [] :: splitC l else match splitC l with
    | [] => [[c]]
    | x :: r => (c :: x) :: r
theorem splitC_cons (c : UInt8) (l : List UInt8) (h : c ≠ 44) (x : List UInt8) (r : List (List UInt8)) (e : splitC l = x :: r) : splitC (c :: l) = (c :: x) :: r := by
  unfold splitC; rw [if_neg h, e]
theorem splitC_comma (l : List UInt8) : splitC (44 :: l) = [] :: splitC l := by
  rw [splitC, if_pos rfl]
theorem splitC_some (l : List UInt8) : ∃ x r, splitC l = x :: r := by
  induction l with
  | nil => exact ⟨[], [], rfl⟩
  | cons c l ih =>
    by_cases h : c = 44
    · subst h; exact ⟨_, _, splitC_comma l⟩
    · obtain ⟨x, r, e⟩ := ih; exact ⟨_, _, splitC_cons c l h x r e⟩
theorem splitC_cut : ∀ (x l : List UInt8), 44 ∉ x → splitC (x ++ 44 :: l) = x :: splitC l
  | [], l, _ => splitC_comma l
  | c :: x, l, h => by
    have hc : c ≠ 44 := fun e => h (by rw [e]; simp)
    rw [List.cons_append, splitC_cons c _ hc x (splitC l) (splitC_cut x l (fun e => h (by simp [e])))]
theorem splitC_plain : ∀ x : List UInt8, 44 ∉ x → splitC x = [x]
  | [], _ => rfl
  | c :: x, h => by
    have hc : c ≠ 44 := fun e => h (by rw [e]; simp)
    rw [splitC_cons c _ hc x [] (splitC_plain x (fun e => h (by simp [e])))]
theorem splitC_join : ∀ (xs : List (List UInt8)) (x : List UInt8), (∀ y ∈ x :: xs, 44 ∉ y) → splitC (Lib.join (x :: xs) [44]) = x :: xs
  | [], x, h => by rw [Lib.join_one]; exact splitC_plain x (h x (by simp))
  | y :: xs, x, h => by
    have e : Lib.join (x :: y :: xs) [44] = x ++ 44 :: Lib.join (y :: xs) [44] := by
      rw [Lib.join_cons, Lib.join_cons]; simp [Lib.joinTail, List.append_assoc]
    rw [e, splitC_cut x _ (h x (by simp)), splitC_join xs y (fun z hz => h z (by simp only [List.mem_cons] at hz ⊢; exact .inr hz))]
theorem code_plain (m : Nat) : (44 : UInt8) ∉ Lib.decDigits m := fun h => by
  have := dec_all m 44 h
  exact absurd this.1 (by decide)
theorem split_codes {zs : List Int} (h : zs ≠ []) : splitC (Lib.join (codesL zs) [44]) = codesL zs := by
  cases zs with
  | nil => exact absurd rfl h
  | cons z zs =>
    refine splitC_join (codesL zs) _ fun y hy => ?_
    have hy2 : y ∈ codesL (z :: zs) := hy
    unfold codesL at hy2
    obtain ⟨a, _, rfl⟩ := List.mem_map.1 hy2
    exact code_plain _
/-- the pieces behind the brace, as the model cuts them: the last one bears the other brace -/
theorem split_brace : ∀ (xs : List (List UInt8)) (x : List UInt8), (∀ y ∈ xs ++ [x], 44 ∉ y) → splitC (Lib.join (xs ++ [x]) [44] ++ [125]) = xs ++ [x ++ [125]]
  | [], x, h => by
    rw [List.nil_append, Lib.join_one]
    exact splitC_plain _ (fun e => by rcases List.mem_append.1 e with e | e; exact h x (by simp) e; simp at e)
  | y :: xs, x, h => by
    have hne : xs ++ [x] ≠ [] := by simp
    have e : Lib.join (y :: (xs ++ [x])) [44] = y ++ 44 :: Lib.join (xs ++ [x]) [44] := by
      cases hx : xs ++ [x] with
      | nil => exact absurd hx hne
      | cons a r => rw [Lib.join_cons, Lib.join_cons]; simp [Lib.joinTail, List.append_assoc]
    rw [List.cons_append, e, List.append_assoc, List.cons_append, splitC_cut y _ (h y (by simp)), split_brace xs x (fun z hz => h z (by simp only [List.cons_append, List.mem_cons]; exact .inr hz))]
    rfl
theorem map_num_codes {zs : List Int} (h : ∀ z ∈ zs, 1 ≤ z ∧ z ≤ 20) : (codesL zs).map numM = zs := by
  unfold codesL
  rw [List.map_map]
  conv => rhs; rw [← List.map_id zs]
  refine List.map_congr_left fun z hz => ?_
  have := h z hz
  simp only [Function.comp_apply, id_eq]
  rw [numM_dec _ (by omega)]; omega
theorem read_codes {zs : List Int} (hne : zs ≠ []) (h : ∀ z ∈ zs, 1 ≤ z ∧ z ≤ 20) : (splitC (Lib.join (codesL zs) [44] ++ [125])).map numM = zs := by
  obtain ⟨xs, x, rfl⟩ : ∃ xs x, zs = xs ++ [x] := ⟨zs.dropLast, zs.getLast hne, (List.dropLast_concat_getLast hne).symm⟩
  have e : codesL (xs ++ [x]) = codesL xs ++ [Lib.decDigits x.toNat] := by unfold codesL; simp
  have hx := h x (by simp)
  rw [e, split_brace]
  · rw [List.map_append, map_num_codes (fun z hz => h z (by simp [hz]))]
    simp only [List.map_cons, List.map_nil]
    rw [numM_brace _ (by omega)]
    congr 2; omega
  · intro y hy
    rw [← e] at hy; unfold codesL at hy
    obtain ⟨a, _, rfl⟩ := List.mem_map.1 hy
    exact code_plain _
theorem splitK_C : ∀ l : List UInt8, Lib.splitK [44] 0 (Lib.count l [44]) l = splitC l
  | [] => by rw [Lib.count_miss (by simp [Lib.index])]; rfl
  | c :: l => by
    have ih := splitK_C l
    by_cases h : c = 44
    · subst h
      have hix : Lib.index (44 :: l) [44] = ((0 : Nat) : Int) := by rw [Lib.index]; simp [List.isPrefixOf]
      rw [Lib.count_cons_eq, Nat.add_comm, Lib.splitK, hix, splitC_comma, ← ih]
      simp
    · have hp : ([44] : List UInt8).isPrefixOf (c :: l) = false := by simp [List.isPrefixOf, Ne.symm h]
      rw [Lib.count_cons_ne c 44 l h]
      have hge := Lib.index_ge l [44]
      cases hk : Lib.count l [44] with
      | zero =>
        rw [hk] at ih
        rw [splitC_cons c l h l [] (by rw [← ih]; rfl)]; rfl
      | succ k =>
        obtain ⟨j, hj⟩ := Lib.index_of_count (s := l) (old := [44]) (by omega)
        have hm : ¬ (Lib.index l [44] == -1) = true := fun e => by have := beq_iff_eq.1 e; omega
        have hix : Lib.index (c :: l) [44] = ((j + 1 : Nat) : Int) := by
          rw [Lib.index, hp]; simp only [Bool.false_eq_true, if_false]; rw [if_neg hm, hj]; omega
        rw [hk] at ih
        rw [Lib.splitK, hj, if_neg (by simp)] at ih
        simp only [Int.toNat_natCast, List.length_cons, List.length_nil, Nat.add_zero] at ih
        rw [splitC_cons c l h _ _ ih.symm, Lib.splitK, hix, if_neg (by simp; omega)]
        simp
end Go.Proofs.YtjbefbknacnfgaaDoor.RdM
