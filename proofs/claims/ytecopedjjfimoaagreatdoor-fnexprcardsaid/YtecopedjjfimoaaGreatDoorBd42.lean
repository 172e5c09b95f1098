/- Texts of ours, laid together: ErpMath, ErpCall. -/
import Derived.Test.YtecopedjjfimoaaGreatDoorBd41
import Derived.Test.YtecopedjjfimoaaGreatDoorBd39
import Derived.Test.YtecopedjjfimoaaGreatDoorBd31
/- The program's reader as plain functions: pieces of a text, and what is made of them; of a right expression's text just that expression. No walk is here. -/
namespace Go.Proofs.YtecopedjjfimoaaGreatDoor.ErpI
open Go.RowKit
open StrW (Nm)
open PrtW PrtM PrtI TexM DecM NameW
open RdI (numV)

def bs (l : Nm) : ByteArray := ⟨l.toArray⟩
theorem bs_data (l : Nm) : (bs l).data.toList = l := by unfold bs; simp
theorem bs_back (t : ByteArray) : bs t.data.toList = t := mk_data t
/-- the part of a word ahead of an opening bracket, and the pieces left behind it -/
def callM (word : ByteArray) (L : List Nm) : Pt × List Nm :=
  if word.data.toList = [107, 110, 111, 119, 110] then ((13, 0, bs (L.tail.headD [])), L.tail.tail.tail)
  else if word.data.toList = [104, 97, 115] then ((12, numV (bs (L.tail.tail.tail.headD [])), bs (L.tail.headD [])), L.tail.tail.tail.tail.tail)
  else ((0, 0, bs (L.tail.headD [])), L.tail.tail.tail)
theorem call_len (u : ByteArray) (L : List Nm) : (callM u L).2.length ≤ L.length := by
  unfold callM
  split
  · simp; omega
  · split <;> simp <;> omega
/-- what is made of pieces, so many steps: true: an operand is looked for; false: what follows one -/
def runF : Nat → Bool → List Nm → List Pt → List Nat → List Pt
  | 0, _, _, out, _ => out
  | f + 1, true, [], out, op => runF f false [] (out ++ [leafM (bs [])]) op
  | f + 1, true, u :: L, out, op => if u = [33] then runF f true L (out ++ [(11, 0, ByteArray.empty)]) op
    else if u = [40] then runF f true L (out ++ [pt0]) (out.length :: op)
    else if nextB L [40] = true then runF f false (callM (bs u) L).2 (out ++ [(callM (bs u) L).1]) op
    else runF f false L (out ++ [leafM (bs u)]) op
  | _ + 1, false, [], out, _ => out
  | f + 1, false, u :: L, out, op => if u = [] then out else
    match op with
    | [] => out
    | k :: op' => if u = [41] then runF f false L out op' else runF f true L.tail.tail (out.modify k fun p => ((opM (L.headD []) : Int), p.2)) (k :: op')
/-- how many steps are enough -/
def steps (st : Bool) (L : List Nm) : Nat := 2 * L.length + (if st = true then 1 else 0) + 1
theorem runF_enough : ∀ (n : Nat) (st : Bool) (L : List Nm) (out : List Pt) (op : List Nat) (f g : Nat), steps st L ≤ n → steps st L ≤ f → steps st L ≤ g → runF f st L out op = runF g st L out op := by
  intro n
  induction n with
  | zero => intro st L out op f g h; unfold steps at h; omega
  | succ n ih =>
    intro st L out op f g h hf hg
    obtain ⟨f, rfl⟩ : ∃ k, f = k + 1 := ⟨f - 1, by unfold steps at hf; omega⟩
    obtain ⟨g, rfl⟩ : ∃ k, g = k + 1 := ⟨g - 1, by unfold steps at hg; omega⟩
    cases st with
    | true =>
      cases L with
      | nil => rw [runF, runF]; exact ih _ _ _ _ _ _ (by simp [steps] at h ⊢; omega) (by simp [steps] at hf ⊢; omega) (by simp [steps] at hg ⊢; omega)
      | cons u L =>
        have hc := call_len (bs u) L
        rw [runF, runF]
        split
        · exact ih _ _ _ _ _ _ (by simp [steps] at h ⊢; omega) (by simp [steps] at hf ⊢; omega) (by simp [steps] at hg ⊢; omega)
        · split
          · exact ih _ _ _ _ _ _ (by simp [steps] at h ⊢; omega) (by simp [steps] at hf ⊢; omega) (by simp [steps] at hg ⊢; omega)
          · split
            · exact ih _ _ _ _ _ _ (by simp [steps] at h ⊢; omega) (by simp [steps] at hf ⊢; omega) (by simp [steps] at hg ⊢; omega)
            · exact ih _ _ _ _ _ _ (by simp [steps] at h ⊢; omega) (by simp [steps] at hf ⊢; omega) (by simp [steps] at hg ⊢; omega)
    | false =>
      cases L with
      | nil => rw [runF, runF]
      | cons u L =>
        cases op with
        | nil => rw [runF, runF]
        | cons k op =>
          rw [runF, runF]
          split
          · rfl
          · split
            · exact ih _ _ _ _ _ _ (by simp [steps] at h ⊢; omega) (by simp [steps] at hf ⊢; omega) (by simp [steps] at hg ⊢; omega)
            · exact ih _ _ _ _ _ _ (by simp [steps] at h ⊢; omega) (by simp [steps] at hf ⊢; omega) (by simp [steps] at hg ⊢; omega)
def run (st : Bool) (L : List Nm) (out : List Pt) (op : List Nat) : List Pt := runF (steps st L) st L out op
theorem run_of {f : Nat} {st : Bool} {L : List Nm} (out : List Pt) (op : List Nat) (h : steps st L ≤ f) : runF f st L out op = run st L out op := runF_enough _ st L out op _ _ (Nat.le_refl _) h (Nat.le_refl _)
theorem run_t0 (out : List Pt) (op : List Nat) : run true [] out op = run false [] (out ++ [leafM (bs [])]) op := by
  show runF (1 + 1) true [] out op = _
  rw [runF]; exact run_of _ _ (by simp [steps])
theorem run_t1 (u : Nm) (L : List Nm) (out : List Pt) (op : List Nat) : run true (u :: L) out op = if u = [33] then run true L (out ++ [(11, 0, ByteArray.empty)]) op
    else if u = [40] then run true L (out ++ [pt0]) (out.length :: op)
    else if nextB L [40] = true then run false (callM (bs u) L).2 (out ++ [(callM (bs u) L).1]) op
    else run false L (out ++ [leafM (bs u)]) op := by
  have hc := call_len (bs u) L
  have e : run true (u :: L) out op = runF (2 * L.length + 3 + 1) true (u :: L) out op := by unfold run steps; congr 1
  rw [e, runF]
  rw [run_of _ _ (by simp [steps] <;> omega), run_of _ _ (by simp [steps] <;> omega), run_of _ _ (by simp [steps] <;> omega), run_of _ _ (by simp [steps] <;> omega)]
theorem run_f0 (out : List Pt) (op : List Nat) : run false [] out op = out := rfl
theorem run_fe (L : List Nm) (out : List Pt) (op : List Nat) : run false ([] :: L) out op = out := rfl
theorem run_fn (L : List Nm) (out : List Pt) : run false L out [] = out := by
  cases L with
  | nil => rfl
  | cons u L =>
    have e : run false (u :: L) out [] = runF (2 * L.length + 2 + 1) false (u :: L) out [] := by unfold run steps; congr 1
    rw [e, runF]; split <;> rfl
theorem run_f1 (u : Nm) (L : List Nm) (out : List Pt) (k : Nat) (op : List Nat) (h : u ≠ []) : run false (u :: L) out (k :: op) = if u = [41] then run false L out op else run true L.tail.tail (out.modify k fun p => ((opM (L.headD []) : Int), p.2)) (k :: op) := by
  have e : run false (u :: L) out (k :: op) = runF (2 * L.length + 2 + 1) false (u :: L) out (k :: op) := by unfold run steps; congr 1
  rw [e, runF, if_neg h]
  rw [run_of _ _ (by simp [steps] <;> omega), run_of _ _ (by simp [steps] <;> omega)]

/-- the pieces of a leaf's text -/
def leafP (p : Pt) : List Nm :=
  if p.1 = 1 then [Lib.itoa p.2.1]
  else if p.1 = 12 then [[104, 97, 115], [40], p.2.2.data.toList, [44], Lib.decDigits p.2.1.toNat, [41]]
  else if p.1 = 13 then [[107, 110, 111, 119, 110], [40], p.2.2.data.toList, [41]]
  else [p.2.2.data.toList]
/-- the pieces of an expression's text -/
def pcE : Nat → List Pt → List Nm
  | 0, _ => []
  | _ + 1, [] => []
  | d + 1, p :: r => if many p.1 = 0 then leafP p else if many p.1 = 1 then [33] :: pcE d r else [40] :: (pcE d r ++ [32] :: signL p.1.toNat :: [32] :: (pcE d (rest d r) ++ [[41]]))
theorem pcE_succ (d : Nat) (p : Pt) (r : List Pt) : pcE (d + 1) (p :: r) = if many p.1 = 0 then leafP p else if many p.1 = 1 then [33] :: pcE d r else [40] :: (pcE d r ++ [32] :: signL p.1.toNat :: [32] :: (pcE d (rest d r) ++ [[41]])) := rfl

theorem parse_letter {c : UInt8} {r : Nm} (h1 : 97 ≤ c.toNat) (v : Int) : Lib.parseIntB 64 (c :: r) ≠ .ok v := by
  intro h
  unfold Lib.parseIntB at h
  have q1 : ¬ c.toNat = 43 := by omega
  have q2 : ¬ c.toNat = 45 := by omega
  simp only [q1, q2, or_self, if_false] at h
  unfold Lib.parseUintB at h
  rw [if_neg (by simp), Lib.parseUintM, if_neg (by omega)] at h
  cases h
theorem leaf_name {t : ByteArray} (h : nameB t = true) : leafM t = (2, 0, t) := by
  obtain ⟨_, c, r, e, h1, _⟩ := ErdM.name_bytes h
  unfold leafM
  rw [e]
  split
  · rename_i v hv
    exact absurd hv (parse_letter h1 v)
  · rfl
theorem leaf_num {n : Int} (h0 : -1000000 ≤ n) (h1 : n ≤ 1000000) : leafM (bs (Lib.itoa n)) = (1, n, ByteArray.empty) := by
  unfold leafM
  rw [bs_data, RdM.parse_itoa (by omega) (by omega)]
theorem op_sign (x : Nat) (h1 : 3 ≤ x) (h2 : x ≤ 10) : opM (signL x) = x := by
  rcases (by omega : x = 3 ∨ x = 4 ∨ x = 5 ∨ x = 6 ∨ x = 7 ∨ x = 8 ∨ x = 9 ∨ x = 10) with rfl | rfl | rfl | rfl | rfl | rfl | rfl | rfl <;> decide
theorem modify_at (a b : List Pt) (p : Pt) (f : Pt → Pt) : (a ++ p :: b).modify a.length f = a ++ f p :: b := by
  induction a with
  | nil => rfl
  | cons x a ih => simpa using ih
theorem itoa_ne {n : Int} {b : UInt8} (h1 : b.toNat ≠ 45) (h2 : b.toNat < 48 ∨ 57 < b.toNat) : Lib.itoa n ≠ [b] := by
  obtain ⟨c, r, e, hc⟩ := RdM.itoa_cons n
  intro h
  rw [e] at h
  have : c = b := by injection h
  subst this
  rcases hc with rfl | hc
  · exact h1 rfl
  · omega
theorem name_ne {t : ByteArray} {b : UInt8} (h : nameB t = true) (h1 : b.toNat < 97) : t.data.toList ≠ [b] := by
  obtain ⟨_, c, r, e, h2, _⟩ := ErdM.name_bytes h
  intro h
  rw [e] at h
  have : c = b := by injection h
  subst this
  omega

set_option maxHeartbeats 1000000 in
/-- what is made of the pieces of an expression's text is that expression -/
theorem run_back : ∀ (d : Nat) (l r : List Pt), behind d l = some r → ∀ (R : List Nm) (out : List Pt) (op : List Nat), nextB R [40] = false →
    ∃ ps, l = ps ++ r ∧ run true (pcE d l ++ R) out op = run false R (out ++ ps) op := by
  intro d
  induction d with
  | zero => intro l r h; cases h
  | succ d ih =>
    intro l r h R out op hR
    cases l with
    | nil => cases h
    | cons q l =>
      obtain ⟨x, m, t⟩ := q
      obtain ⟨hp, hc⟩ := behind_cases h
      have hcut := ErdM.part_cut hp
      rw [pcE_succ]
      simp only
      rcases hc with ⟨hm, rfl⟩ | ⟨hm, h1⟩ | ⟨hm, r1, h1, h2⟩
      · have hop := leaf_op hp hm
        simp only at hop hm
        rw [if_pos hm]
        rcases hop with rfl | rfl | rfl | rfl
        · have ht : t = ByteArray.empty := by rcases hcut with h | h | h | h <;> simp_all
          subst ht
          have hb := part_num hp
          refine ⟨[(1, m, ByteArray.empty)], rfl, ?_⟩
          rw [show leafP (1, m, ByteArray.empty) = [Lib.itoa m] from rfl, List.singleton_append, run_t1, if_neg (itoa_ne (by decide) (by decide)), if_neg (itoa_ne (by decide) (by decide)), hR, if_neg (by decide), leaf_num hb.1 hb.2]
        · have ht : m = 0 ∧ nameB t = true := by rcases hcut with h | h | h | h <;> simp_all
          obtain ⟨rfl, ht⟩ := ht
          refine ⟨[(2, 0, t)], rfl, ?_⟩
          rw [show leafP (2, 0, t) = [t.data.toList] from rfl, List.singleton_append, run_t1, if_neg (name_ne ht (by decide)), if_neg (name_ne ht (by decide)), hR, if_neg (by decide), bs_back, leaf_name ht]
        · have ht : 1 ≤ m ∧ m ≤ 20 ∧ nameB t = true := by rcases hcut with h | h | h | h <;> simp_all
          obtain ⟨hm1, hm2, ht⟩ := ht
          refine ⟨[(12, m, t)], rfl, ?_⟩
          have e : callM (bs [104, 97, 115]) ([40] :: t.data.toList :: [44] :: Lib.decDigits m.toNat :: [41] :: R) = ((12, m, t), R) := by
            unfold callM
            rw [bs_data, if_neg (by decide), if_pos rfl]
            simp only [List.tail_cons, List.headD_cons, bs_back]
            rw [show numV (bs (Lib.decDigits m.toNat)) = m by unfold numV; rw [bs_data, RdM.parse_code hm1 hm2]]
          rw [show leafP (12, m, t) = [[104, 97, 115], [40], t.data.toList, [44], Lib.decDigits m.toNat, [41]] from rfl]
          simp only [List.cons_append, List.nil_append]
          rw [run_t1, if_neg (by decide), if_neg (by decide), if_pos (by simp [nextB]), e]
        · have ht : m = 0 ∧ nameB t = true := by rcases hcut with h | h | h | h <;> simp_all
          obtain ⟨rfl, ht⟩ := ht
          refine ⟨[(13, 0, t)], rfl, ?_⟩
          have e : callM (bs [107, 110, 111, 119, 110]) ([40] :: t.data.toList :: [41] :: R) = ((13, 0, t), R) := by
            unfold callM
            rw [bs_data, if_pos rfl]
            simp only [List.tail_cons, List.headD_cons, bs_back]
          rw [show leafP (13, 0, t) = [[107, 110, 111, 119, 110], [40], t.data.toList, [41]] from rfl]
          simp only [List.cons_append, List.nil_append]
          rw [run_t1, if_neg (by decide), if_neg (by decide), if_pos (by simp [nextB]), e]
      · simp only at hm
        obtain rfl := many_one hm
        have ht : m = 0 ∧ t = ByteArray.empty := by rcases hcut with h | h | h | h <;> simp_all
        obtain ⟨rfl, rfl⟩ := ht
        rw [if_neg (by rw [hm]; decide), if_pos hm]
        obtain ⟨ps, e, ho⟩ := ih l r h1 R (out ++ [(11, 0, ByteArray.empty)]) op hR
        refine ⟨(11, 0, ByteArray.empty) :: ps, by rw [e]; rfl, ?_⟩
        rw [List.cons_append, run_t1, if_pos rfl, ho]
        simp
      · simp only at hm
        have hx := many_two hm
        have ht : m = 0 ∧ t = ByteArray.empty := by
          rcases hcut with h | h | h | h
          · omega
          · omega
          · omega
          · exact h.2.2
        obtain ⟨rfl, rfl⟩ := ht
        rw [if_neg (by rw [hm]; decide), if_neg (by rw [hm]; decide)]
        have er : rest d l = r1 := by unfold rest; rw [h1]; rfl
        rw [er]
        obtain ⟨ps1, e1, ho1⟩ := ih l r1 h1 ([32] :: signL x.toNat :: [32] :: (pcE d r1 ++ [41] :: R)) (out ++ [pt0]) (out.length :: op) rfl
        obtain ⟨ps2, e2, ho2⟩ := ih r1 r h2 ([41] :: R) (out ++ (x, 0, ByteArray.empty) :: ps1) (out.length :: op) rfl
        refine ⟨(x, 0, ByteArray.empty) :: (ps1 ++ ps2), by rw [e1, e2]; simp, ?_⟩
        have e : [40] :: (pcE d l ++ [32] :: signL x.toNat :: [32] :: (pcE d r1 ++ [[41]])) ++ R = [40] :: (pcE d l ++ [32] :: signL x.toNat :: [32] :: (pcE d r1 ++ [41] :: R)) := by simp
        rw [e, run_t1, if_neg (by decide), if_pos rfl, ho1, run_f1 _ _ _ _ _ (by decide), if_neg (by decide)]
        simp only [List.tail_cons, List.headD_cons]
        rw [List.append_assoc, List.singleton_append, modify_at, op_sign x.toNat (by omega) (by omega), show ((x.toNat : Nat) : Int) = x by omega]
        rw [show ((x, pt0.2) : Pt) = (x, 0, ByteArray.empty) from rfl, ho2, run_f1 _ _ _ _ _ (by decide), if_pos rfl]
        simp

theorem pl_word : ∀ (w acc T : List UInt8), (∀ c ∈ w, markB c.toNat = false) → pl acc (w ++ T) = pl (acc ++ w) T := by
  intro w
  induction w with
  | nil => intro acc T _; simp
  | cons c w ih =>
    intro acc T h
    rw [List.cons_append, pl, h c (by simp), if_neg (by decide), ih _ _ (fun c hc => h c (List.mem_cons_of_mem _ hc))]
    simp
/-- what may stand behind an expression -/
def stopM (U : List UInt8) : Prop := U = [] ∨ ∃ c X, U = c :: X ∧ markB c.toNat = true
theorem pl_stop {acc U : List UInt8} (h : acc ≠ []) (hU : stopM U) : pl acc U = acc :: pl [] U := by
  rcases hU with rfl | ⟨c, X, rfl, hc⟩
  · simp [pl, h]
  · rw [pl, pl, if_pos hc, if_pos hc, if_neg h]; rfl
theorem pl_one {w U : List UInt8} (h : w ≠ []) (hw : ∀ c ∈ w, markB c.toNat = false) (hU : stopM U) : pl [] (w ++ U) = w :: pl [] U := by
  rw [pl_word _ _ _ hw, List.nil_append, pl_stop h hU]
theorem pl_mark {c : UInt8} (h : markB c.toNat = true) (U : List UInt8) : pl [] (c :: U) = [c] :: pl [] U := by
  rw [pl, if_pos h]; rfl
theorem word_plain {c : UInt8} (h : ErdM.wordC c = true) : markB c.toNat = false ∧ c.toNat < 128 := by
  unfold ErdM.wordC at h
  rw [decide_eq_true_iff] at h
  unfold markB
  exact ⟨decide_eq_false (by omega), by omega⟩
theorem sign_plain (x : Nat) (h1 : 3 ≤ x) (h2 : x ≤ 10) : signL x ≠ [] ∧ ∀ c ∈ signL x, markB c.toNat = false ∧ c.toNat < 128 := by
  rcases (by omega : x = 3 ∨ x = 4 ∨ x = 5 ∨ x = 6 ∨ x = 7 ∨ x = 8 ∨ x = 9 ∨ x = 10) with rfl | rfl | rfl | rfl | rfl | rfl | rfl | rfl <;> decide
theorem dec_nonempty (m : Nat) : Lib.decDigits m ≠ [] := by
  obtain ⟨c, r, e, _⟩ := RdM.dec_cons m
  rw [e]; simp
theorem itoa_nonempty (n : Int) : Lib.itoa n ≠ [] := by
  obtain ⟨c, r, e, _⟩ := RdM.itoa_cons n
  rw [e]; simp
theorem name_nonempty {t : ByteArray} (h : nameB t = true) : t.data.toList ≠ [] := by
  obtain ⟨_, c, r, e, _⟩ := ErdM.name_bytes h
  rw [e]; simp

set_option maxHeartbeats 1000000 in
theorem pl_txt : ∀ (d : Nat) (l r : List Pt), behind d l = some r → ∀ U, stopM U → pl [] (txt d l ++ U) = pcE d l ++ pl [] U := by
  intro d
  induction d with
  | zero => intro l r h; cases h
  | succ d ih =>
    intro l r h U hU
    cases l with
    | nil => cases h
    | cons q l =>
      obtain ⟨x, m, t⟩ := q
      obtain ⟨hp, hc⟩ := behind_cases h
      have hcut := ErdM.part_cut hp
      rw [pcE_succ, txt_succ]
      simp only
      rcases hc with ⟨hm, rfl⟩ | ⟨hm, h1⟩ | ⟨hm, r1, h1, h2⟩
      · have hop := leaf_op hp hm
        simp only at hop hm
        rw [if_pos hm, if_pos hm]
        rcases hop with rfl | rfl | rfl | rfl
        · rw [show leafP (1, m, t) = [Lib.itoa m] from rfl, show leafL (1, m, t) = Lib.itoa m from rfl, pl_one (itoa_nonempty m) (fun c hc => (word_plain (ErdM.itoa_word m c hc)).1) hU]; rfl
        · have ht : m = 0 ∧ nameB t = true := by rcases hcut with h | h | h | h <;> simp_all
          rw [show leafP (2, m, t) = [t.data.toList] from rfl, show leafL (2, m, t) = t.data.toList from rfl, pl_one (name_nonempty ht.2) (fun c hc => (word_plain ((ErdM.name_bytes ht.2).1 c hc)).1) hU]; rfl
        · have ht : 1 ≤ m ∧ m ≤ 20 ∧ nameB t = true := by rcases hcut with h | h | h | h <;> simp_all
          have e : leafL (12, m, t) ++ U = [104, 97, 115] ++ 40 :: (t.data.toList ++ 44 :: (Lib.decDigits m.toNat ++ 41 :: U)) := by
            show [104, 97, 115, 40] ++ (t.data.toList ++ 44 :: (Lib.decDigits m.toNat ++ [41])) ++ U = _
            simp
          rw [e, pl_one (by decide) (by decide) (.inr ⟨_, _, rfl, by decide⟩), pl_mark (by decide), pl_one (name_nonempty ht.2.2) (fun c hc => (word_plain ((ErdM.name_bytes ht.2.2).1 c hc)).1) (.inr ⟨_, _, rfl, by decide⟩), pl_mark (by decide),
            pl_one (dec_nonempty _) (fun c hc => (word_plain (ErdM.dec_word _ c hc)).1) (.inr ⟨_, _, rfl, by decide⟩), pl_mark (by decide)]
          rfl
        · have ht : m = 0 ∧ nameB t = true := by rcases hcut with h | h | h | h <;> simp_all
          have e : leafL (13, m, t) ++ U = [107, 110, 111, 119, 110] ++ 40 :: (t.data.toList ++ 41 :: U) := by
            show [107, 110, 111, 119, 110, 40] ++ (t.data.toList ++ [41]) ++ U = _
            simp
          rw [e, pl_one (by decide) (by decide) (.inr ⟨_, _, rfl, by decide⟩), pl_mark (by decide), pl_one (name_nonempty ht.2) (fun c hc => (word_plain ((ErdM.name_bytes ht.2).1 c hc)).1) (.inr ⟨_, _, rfl, by decide⟩), pl_mark (by decide)]
          rfl
      · simp only at hm
        rw [if_neg (by rw [hm]; decide), if_pos hm, if_neg (by rw [hm]; decide), if_pos hm, List.cons_append, pl_mark (by decide), ih l r h1 U hU]; rfl
      · simp only at hm
        have hx := many_two hm
        rw [if_neg (by rw [hm]; decide), if_neg (by rw [hm]; decide), if_neg (by rw [hm]; decide), if_neg (by rw [hm]; decide)]
        have er : rest d l = r1 := by unfold rest; rw [h1]; rfl
        have hsg := sign_plain x.toNat (by omega) (by omega)
        rw [er]
        have e : 40 :: (txt d l ++ 32 :: (signL x.toNat ++ 32 :: (txt d r1 ++ [41]))) ++ U = 40 :: (txt d l ++ 32 :: (signL x.toNat ++ 32 :: (txt d r1 ++ 41 :: U))) := by simp
        rw [e, pl_mark (by decide), ih l r1 h1 _ (.inr ⟨_, _, rfl, by decide⟩), pl_mark (by decide), pl_one hsg.1 (fun c hc => (hsg.2 c hc).1) (.inr ⟨_, _, rfl, by decide⟩), pl_mark (by decide), ih r1 r h2 _ (.inr ⟨_, _, rfl, by decide⟩), pl_mark (by decide)]
        simp
theorem txt_plain : ∀ (d : Nat) (l r : List Pt), behind d l = some r → ∀ c ∈ txt d l, c.toNat < 128 := by
  intro d
  induction d with
  | zero => intro l r h; cases h
  | succ d ih =>
    intro l r h
    cases l with
    | nil => cases h
    | cons q l =>
      obtain ⟨x, m, t⟩ := q
      obtain ⟨hp, hc⟩ := behind_cases h
      have hcut := ErdM.part_cut hp
      rw [txt_succ]
      simp only
      rcases hc with ⟨hm, rfl⟩ | ⟨hm, h1⟩ | ⟨hm, r1, h1, h2⟩
      · have hop := leaf_op hp hm
        simp only at hop hm
        rw [if_pos hm]
        rcases hop with rfl | rfl | rfl | rfl
        · exact fun c hc => (word_plain (ErdM.itoa_word m c hc)).2
        · have ht : m = 0 ∧ nameB t = true := by rcases hcut with h | h | h | h <;> simp_all
          exact fun c hc => (word_plain ((ErdM.name_bytes ht.2).1 c hc)).2
        · have ht : 1 ≤ m ∧ m ≤ 20 ∧ nameB t = true := by rcases hcut with h | h | h | h <;> simp_all
          intro c hc
          have hc : c ∈ [104, 97, 115, 40] ++ (t.data.toList ++ 44 :: (Lib.decDigits m.toNat ++ [41])) := hc
          rcases List.mem_append.1 hc with hc | hc
          · exact (show ∀ c ∈ ([104, 97, 115, 40, 107, 110, 111, 119] : List UInt8), c.toNat < 128 by decide) c (by simp at hc ⊢; rcases hc with h | h | h | h <;> simp [h])
          · rcases List.mem_append.1 hc with hc | hc
            · exact (word_plain ((ErdM.name_bytes ht.2.2).1 c hc)).2
            · rcases List.mem_cons.1 hc with rfl | hc
              · decide
              · rcases List.mem_append.1 hc with hc | hc
                · exact (word_plain (ErdM.dec_word _ c hc)).2
                · rw [List.mem_singleton.1 hc]; decide
        · have ht : m = 0 ∧ nameB t = true := by rcases hcut with h | h | h | h <;> simp_all
          intro c hc
          have hc : c ∈ [107, 110, 111, 119, 110, 40] ++ (t.data.toList ++ [41]) := hc
          rcases List.mem_append.1 hc with hc | hc
          · exact (show ∀ c ∈ ([104, 97, 115, 40, 107, 110, 111, 119] : List UInt8), c.toNat < 128 by decide) c (by simp at hc ⊢; rcases hc with h | h | h | h | h | h <;> simp [h])
          · rcases List.mem_append.1 hc with hc | hc
            · exact (word_plain ((ErdM.name_bytes ht.2).1 c hc)).2
            · rw [List.mem_singleton.1 hc]; decide
      · simp only at hm
        rw [if_neg (by rw [hm]; decide), if_pos hm]
        intro c hc
        rcases List.mem_cons.1 hc with rfl | hc
        · decide
        · exact ih l r h1 c hc
      · simp only at hm
        have hx := many_two hm
        rw [if_neg (by rw [hm]; decide), if_neg (by rw [hm]; decide)]
        have er : rest d l = r1 := by unfold rest; rw [h1]; rfl
        rw [er]
        intro c hc
        rcases List.mem_cons.1 hc with rfl | hc
        · decide
        · rcases List.mem_append.1 hc with hc | hc
          · exact ih l r1 h1 c hc
          · rcases List.mem_cons.1 hc with rfl | hc
            · decide
            · rcases List.mem_append.1 hc with hc | hc
              · exact ((sign_plain x.toNat (by omega) (by omega)).2 c hc).2
              · rcases List.mem_cons.1 hc with rfl | hc
                · decide
                · rcases List.mem_append.1 hc with hc | hc
                  · exact ih r1 r h2 c hc
                  · rw [List.mem_singleton.1 hc]; decide

def likelyM (s : ByteArray) : List Pt := run true (pcsF s s.size 0 0 []) [] []
theorem likely_back {qs : List Pt} (h : rightB qs = true) : likelyM (textB qs) = qs := by
  obtain ⟨_, hb⟩ := right_behind h
  have hT : (textB qs).data.toList = txt 6 qs := by unfold textB; rw [if_pos h, data_mk]
  have hp := pcs_plain (textB qs) (by rw [hT]; exact txt_plain 6 qs [] hb) (textB qs).size 0 0 [] (by omega) (by omega) (by omega)
  rw [List.nil_append, sl_none, List.drop_zero, hT] at hp
  have hq := pl_txt 6 qs [] hb [] (.inl rfl)
  rw [List.append_nil] at hq
  obtain ⟨ps, e, ho⟩ := run_back 6 qs [] hb [] [] [] rfl
  unfold likelyM
  rw [hp, hq, show pl [] [] = [] from rfl, ho, run_f0, e]
  simp
end Go.Proofs.YtecopedjjfimoaaGreatDoor.ErpI
/- The program's reader: a word ahead of an opening bracket. -/
namespace Go.Proofs.YtecopedjjfimoaaGreatDoor.ErpI
open Go.RowKit
open StrW (Nm)
open PrtI PrtW
open RdI (EnvR numV)
open FldK (Only only_trans)

theorem only_off {w w' : World} {g m : Nat} (h : Only w w' g) (hm : w.heap.size ≤ m) (j : Nat) (v : Value) : Only w (w'.setCell ⟨m, j, none⟩ v) g :=
  ⟨h.os, h.tape, h.output, by have := h.size; simpa using this, fun k hk hne => by
    rw [Below.heap_setCell _ _ _ _ (show k ≠ m by omega)]; exact h.block k hk hne⟩
theorem only_alloc {w w' : World} {g : Nat} (h : Only w w' g) (o : Obj) : Only w (w'.alloc o) g := FldK.Only.on h (StrW.below_one w' o)
theorem bs_enc (l : Nm) : StrW.encS l = .string (bs l) := rfl
theorem bs_size (l : Nm) : (bs l).size = l.length := by rw [DecM.size_len, bs_data]
theorem head_size {L : List Nm} {n : Nat} (h : ∀ x ∈ L, x.length ≤ n) : (bs (L.headD [])).size ≤ n := by
  rw [bs_size]
  cases L with
  | nil => simp
  | cons x L => exact h x (by simp)
theorem tail_sizes {L : List Nm} {n : Nat} (h : ∀ x ∈ L, x.length ≤ n) : ∀ x ∈ L.tail, x.length ≤ n := fun x hx => h x (List.mem_of_mem_tail hx)
theorem pcs_lt {w : World} {P B : Nat} {L : List Nm} (h : Pcs w P B L) : P < w.heap.size := by
  obtain ⟨a, cap, h1, _⟩ := h
  exact (pcs_cells h1).2.2
theorem eq_word (u : ByteArray) (l : Nm) : (u.toList == (bs l).toList) = decide (u.data.toList = l) := by
  rw [BytM.toList_eq, BytM.toList_eq, bs_data]; exact Bool.eq_iff_iff.2 (by simp)
/-- three cells of a part that lie at m -/
def Pc (w : World) (m : Nat) (p : Pt) : Prop := w.heap[m]? = some (.cells #[.int .i64 p.1, .int .i64 p.2.1, .string p.2.2] 99 (0, 0))
theorem Pc.laid (w : World) (p : Pt) : Pc (w.alloc (.cells #[.int .i64 p.1, .int .i64 p.2.1, .string p.2.2] 99)) w.heap.size p := heap_alloc_new w _
theorem Pc.lt {w : World} {m : Nat} {p : Pt} (h : Pc w m p) : m < w.heap.size := (Array.getElem?_eq_some_iff.1 h).1
theorem Pc.on {w w' : World} {m : Nat} {p : Pt} (h : Pc w m p) (hB : Below w.heap.size w w') : Pc w' m p := (hB.block m h.lt).trans h
theorem Pc.only {w w' : World} {m g : Nat} {p : Pt} (h : Pc w m p) (hO : Only w w' g) (hne : m ≠ g) : Pc w' m p := (hO.block m h.lt (fun e => hne (Option.some.inj e))).trans h
theorem Pc.cells {w : World} {m : Nat} {p : Pt} (h : Pc w m p) : w.cell? ⟨m, 0, none⟩ = some (.int .i64 p.1) ∧ w.cell? ⟨m, 1, none⟩ = some (.int .i64 p.2.1) ∧ w.cell? ⟨m, 2, none⟩ = some (.string p.2.2) ∧ ∀ j, w.frozen? ⟨m, j, none⟩ = false := by
  unfold Pc at h
  exact ⟨by simp [World.cell?, h], by simp [World.cell?, h], by simp [World.cell?, h], fun j => by simp [World.frozen?, h]⟩
theorem Pc.set0 {w : World} {m : Nat} {p : Pt} (h : Pc w m p) (x : Int) : Pc (w.setCell ⟨m, 0, none⟩ (.int .i64 x)) m (x, p.2) := by
  unfold Pc at h ⊢
  rw [blk_set _ _ _ _ _ _ h]; simp
theorem Pc.set1 {w : World} {m : Nat} {p : Pt} (h : Pc w m p) (x : Int) : Pc (w.setCell ⟨m, 1, none⟩ (.int .i64 x)) m (p.1, x, p.2.2) := by
  unfold Pc at h ⊢
  rw [blk_set _ _ _ _ _ _ h]; simp
theorem Pc.off {w : World} {m k : Nat} {p : Pt} (h : Pc w m p) (hne : m ≠ k) (j : Nat) (v : Value) : Pc (w.setCell ⟨k, j, none⟩ v) m p := (Below.heap_setCell _ _ _ _ hne).trans h

set_option maxRecDepth 10000 in
set_option maxHeartbeats 1600000 in
theorem called_in (P B : Nat) (u : ByteArray) (L : List Nm) (w0 w : World) (h : Pcs w P B L) (hB : B ≤ w.heap.size) (hL : ∀ x ∈ L, x.length ≤ 8000) (hE : EnvR w0) (hB0 : Below w0.heap.size w0 w) (hPE : w0.heap.size ≤ P) :
    Calls Tryz.prog 135 #[.pointer (some ⟨P, 0, none⟩), .string u] w fun e w' => e = .returned (pv (callM u L).1) ∧ Pcs w' P B (callM u L).2 ∧ Only w w' P := by
  have HE := hid hE
  have HB0 := hid hB0
  have hPl := pcs_lt h
  have hw0 := hB0.size
  have hL1 := tail_sizes hL
  have hL2 := tail_sizes (tail_sizes hL1)
  have hz1 := head_size hL1
  have hz3 := head_size hL2
  obtain ⟨t, ht⟩ : ∃ t, Hid (bs (L.tail.headD []) = t) := ⟨_, rfl⟩
  obtain ⟨d, hd⟩ : ∃ d, Hid (bs (L.tail.tail.tail.headD []) = d) := ⟨_, rfl⟩
  rw [ht.out] at hz1
  rw [hd.out] at hz3
  have HP := hid (h.on (StrW.below_one w (.cells #[.int .i64 0, .int .i64 0, .string ByteArray.empty] 99)))
  have HR := hid (Pc.laid w (0, 0, ByteArray.empty))
  have HO := hid (only_alloc (FldK.Only.refl w P) (.cells #[.int .i64 0, .int .i64 0, .string ByteArray.empty] 99))
  clear hE hB0 h hL hL1 hL2
  go_enter Tryz.func135, Tryz.ntmps135
  go_wp2_with fail
  refine (take_in P B L _ HP.out).mono ?_
  rintro e w1 ⟨rfl, hP1, hO1⟩
  have HP1 := hid hP1
  have HO1 := hid (only_trans HO.out hO1 (by simp; omega))
  have HR1 := hid (HR.out.only hO1 (by omega))
  clear hP1 hO1 HP HO HR
  unfold StrW.encS
  go_wp2_with fail
  refine (take_in P B L.tail w1 HP1.out).mono ?_
  rintro e w2 ⟨rfl, hP2, hO2⟩
  have HP2 := hid hP2
  have HO2 := hid (only_trans HO1.out hO2 (pcs_lt HP1.out))
  have HR2 := hid (HR1.out.only hO2 (by omega))
  rw [bs_enc, ht.out]
  clear hP2 hO2 HP1 HO1 HR1
  go_wp2_with fail
  refine (TexI.laid_1 t w2 w2.heap.size rfl (by omega)).mono ?_
  rintro e w3 ⟨rfl, hB3⟩
  rw [DecM.mk_data]
  have HP3 := hid (HP2.out.on hB3)
  have HO3 := hid (FldK.Only.on HO2.out hB3)
  have HR3 := hid (HR2.out.on hB3)
  clear hB3 HP2 HO2 HR2
  have hsz3 : w.heap.size < w3.heap.size := HR3.out.lt
  have hq : ∀ l : Nm, (u.toList == l) = decide (u.data.toList = l) := fun l => by rw [BytM.toList_eq]; exact Bool.eq_iff_iff.2 (by simp)
  by_cases hk : u.data.toList = [107, 110, 111, 119, 110]
  · have HC : Hid (callM u L = ((13, 0, t), L.tail.tail.tail)) := by show _ = _; unfold callM; rw [if_pos hk, ht.out]
    have q1 := hq [107, 110, 111, 119, 110]
    rw [decide_eq_true hk] at q1
    clear hq hk
    have HP4 := hid (HP3.out.on (StrW.below_one w3 (.cells #[.int .i64 13, .int .i64 0, .string t] 99)))
    have HR4 := hid (HR3.out.on (StrW.below_one w3 (.cells #[.int .i64 13, .int .i64 0, .string t] 99)))
    have HX4 := hid (Pc.laid w3 (13, 0, t))
    have HO4 := hid (only_alloc HO3.out (.cells #[.int .i64 13, .int .i64 0, .string t] 99))
    clear HP3 HR3 HO3
    go_wp2_with fail
    refine (take_in P B L.tail.tail _ HP4.out).mono ?_
    rintro e w4 ⟨rfl, hP5, hO5⟩
    have HP5 := hid hP5
    have HO5 := hid (only_trans HO4.out hO5 (pcs_lt HP4.out))
    have HR5 := hid (HR4.out.only hO5 (by omega))
    have HX5 := hid (HX4.out.only hO5 (by omega))
    clear hP5 hO5 HP4 HO4 HR4 HX4
    obtain ⟨y0, y1, y2, -⟩ := HX5.out.cells
    obtain ⟨z0, z1, z2, zf⟩ := HR5.out.cells
    have zf0 := zf 0
    have zf1 := zf 1
    have zf2 := zf 2
    simp only at y0 y1 y2 z0 z1 z2
    have hl5 := HX5.out.lt
    clear zf
    go_wp2_with fail
    refine bodyPost_ret (v := pv (13, 0, t)) (by simp [results, Tryz.results135, go_sem, z0, z1, z2]) rfl ⟨by rw [HC.out], ?_, ?_⟩
    · rw [HC.out]
      exact ((HP5.out.set (by omega) (by omega) _ _).set (by omega) (by omega) _ _).set (by omega) (by omega) _ _
    · exact only_off (only_off (only_off HO5.out (Nat.le_refl _) _ _) (Nat.le_refl _) _ _) (Nat.le_refl _) _ _
  · have q1 := hq [107, 110, 111, 119, 110]
    rw [decide_eq_false hk] at q1
    by_cases hh : u.data.toList = [104, 97, 115]
    · have HC : Hid (callM u L = ((12, numV d, t), L.tail.tail.tail.tail.tail)) := by show _ = _; unfold callM; rw [if_neg hk, if_pos hh, ht.out, hd.out]
      have q2 := hq [104, 97, 115]
      rw [decide_eq_true hh] at q2
      clear hq hk hh
      have HP4 := hid (HP3.out.on (StrW.below_one w3 (.cells #[.int .i64 12, .int .i64 0, .string t] 99)))
      have HR4 := hid (HR3.out.on (StrW.below_one w3 (.cells #[.int .i64 12, .int .i64 0, .string t] 99)))
      have HX4 := hid (Pc.laid w3 (12, 0, t))
      have HO4 := hid (only_alloc HO3.out (.cells #[.int .i64 12, .int .i64 0, .string t] 99))
      clear HP3 HR3 HO3
      go_wp2_with fail
      refine (take_in P B L.tail.tail _ HP4.out).mono ?_
      rintro e w4 ⟨rfl, hP5, hO5⟩
      have HP5 := hid hP5
      have HO5 := hid (only_trans HO4.out hO5 (pcs_lt HP4.out))
      have HR5 := hid (HR4.out.only hO5 (by omega))
      have HX5 := hid (HX4.out.only hO5 (by omega))
      clear hP5 hO5 HP4 HO4 HR4 HX4
      go_wp2_with fail
      refine (take_in P B L.tail.tail.tail w4 HP5.out).mono ?_
      rintro e w5 ⟨rfl, hP6, hO6⟩
      have HP6 := hid hP6
      have HO6 := hid (only_trans HO5.out hO6 (pcs_lt HP5.out))
      have HR6 := hid (HR5.out.only hO6 (by omega))
      have HX6 := hid (HX5.out.only hO6 (by omega))
      rw [bs_enc, hd.out]
      clear hP6 hO6 HP5 HO5 HR5 HX5
      have HE6 : Hid (EnvR w5) := HE.out.on (HB0.out.trans (HO6.out.below hPE hw0))
      go_wp2_with fail
      refine (RdI.number_all d w5 hz3 HE6.out).mono ?_
      rintro e w6 ⟨⟨x, rfl, -⟩, hB6⟩
      have HP7 := hid (HP6.out.on hB6)
      have HO7 := hid (FldK.Only.on HO6.out hB6)
      have HR7 := hid (HR6.out.on hB6)
      have HX7 := hid (HX6.out.on hB6)
      obtain ⟨x0, x1, x2, xf⟩ := HX7.out.cells
      have xf1 := xf 1
      have hx7 := HX7.out.lt
      clear hB6 HP6 HO6 HR6 HX6 xf HE6
      obtain ⟨N, hN⟩ : ∃ N, Hid (numV d = N) := ⟨_, rfl⟩
      rw [hN.out] at HC ⊢
      have HP8 : ∀ v, Hid (Pcs (w6.setCell ⟨w3.heap.size, 1, none⟩ v) P B L.tail.tail.tail.tail) := fun v => HP7.out.set (by omega) (by omega) 1 v
      have HX8 := hid (HX7.out.set1 N)
      have HO8 : ∀ v, Hid (Only w (w6.setCell ⟨w3.heap.size, 1, none⟩ v) P) := fun v => only_off HO7.out (by omega) 1 v
      have HR8 : ∀ v, Hid (Pc (w6.setCell ⟨w3.heap.size, 1, none⟩ v) w.heap.size (0, 0, ByteArray.empty)) := fun v => HR7.out.off (by omega) 1 v
      clear HP7 HX7 HO7 HR7
      go_wp2_with fail
      refine (take_in P B L.tail.tail.tail.tail _ (HP8 _).out).mono ?_
      rintro e w8 ⟨rfl, hP9, hO9⟩
      have HP9 := hid hP9
      have HO9 := hid (only_trans (HO8 _).out hO9 (pcs_lt (HP8 _).out))
      have HR9 := hid ((HR8 _).out.only hO9 (by omega))
      have HX9 := hid (HX8.out.only hO9 (by omega))
      clear hP9 hO9 HP8 HO8 HR8 HX8 x0 x1 x2 xf1
      obtain ⟨y0, y1, y2, -⟩ := HX9.out.cells
      obtain ⟨z0, z1, z2, zf⟩ := HR9.out.cells
      have zf0 := zf 0
      have zf1 := zf 1
      have zf2 := zf 2
      simp only at y0 y1 y2 z0 z1 z2
      have hl9 := HX9.out.lt
      clear zf
      go_wp2_with fail
      refine bodyPost_ret (v := pv (12, N, t)) (by simp [results, Tryz.results135, go_sem, z0, z1, z2]) rfl ⟨by rw [HC.out], ?_, ?_⟩
      · rw [HC.out]
        exact ((HP9.out.set (by omega) (by omega) _ _).set (by omega) (by omega) _ _).set (by omega) (by omega) _ _
      · exact only_off (only_off (only_off HO9.out (Nat.le_refl _) _ _) (Nat.le_refl _) _ _) (Nat.le_refl _) _ _
    · have HC : Hid (callM u L = ((0, 0, t), L.tail.tail.tail)) := by show _ = _; unfold callM; rw [if_neg hk, if_neg hh, ht.out]
      have q2 := hq [104, 97, 115]
      rw [decide_eq_false hh] at q2
      clear hq hk hh
      have HP4 := hid (HP3.out.on (StrW.below_one w3 (.cells #[.int .i64 0, .int .i64 0, .string t] 99)))
      have HR4 := hid (HR3.out.on (StrW.below_one w3 (.cells #[.int .i64 0, .int .i64 0, .string t] 99)))
      have HX4 := hid (Pc.laid w3 (0, 0, t))
      have HO4 := hid (only_alloc HO3.out (.cells #[.int .i64 0, .int .i64 0, .string t] 99))
      clear HP3 HR3 HO3
      go_wp2_with fail
      refine (take_in P B L.tail.tail _ HP4.out).mono ?_
      rintro e w4 ⟨rfl, hP5, hO5⟩
      have HP5 := hid hP5
      have HO5 := hid (only_trans HO4.out hO5 (pcs_lt HP4.out))
      have HR5 := hid (HR4.out.only hO5 (by omega))
      have HX5 := hid (HX4.out.only hO5 (by omega))
      clear hP5 hO5 HP4 HO4 HR4 HX4
      obtain ⟨y0, y1, y2, -⟩ := HX5.out.cells
      obtain ⟨z0, z1, z2, zf⟩ := HR5.out.cells
      have zf0 := zf 0
      have zf1 := zf 1
      have zf2 := zf 2
      simp only at y0 y1 y2 z0 z1 z2
      have hl5 := HX5.out.lt
      clear zf
      go_wp2_with fail
      refine bodyPost_ret (v := pv (0, 0, t)) (by simp [results, Tryz.results135, go_sem, z0, z1, z2]) rfl ⟨by rw [HC.out], ?_, ?_⟩
      · rw [HC.out]
        exact ((HP5.out.set (by omega) (by omega) _ _).set (by omega) (by omega) _ _).set (by omega) (by omega) _ _
      · exact only_off (only_off (only_off HO5.out (Nat.le_refl _) _ _) (Nat.le_refl _) _ _) (Nat.le_refl _) _ _
end Go.Proofs.YtecopedjjfimoaaGreatDoor.ErpI
