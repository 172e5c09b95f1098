/- Texts of ours, laid together: FldMath. -/
import Derived.Lib.SlicesCompact
import Derived.Test.YtecopedjjfimoaaGreatDoorBd23
/- Names put among others in their places; and names sorted, each kept once: the same list. -/
namespace Go.Proofs.YtecopedjjfimoaaGreatDoor.FldM
open PrtW PrtM PrtI TexM

abbrev Nm := List UInt8
theorem lt_of {a b : Nm} (h : ¬ a < b) (k : a ≠ b) : b < a := by
  by_cases h1 : b < a
  · exact h1
  · exact absurd (List.le_antisymm (List.not_lt.1 h1) (List.not_lt.1 h)) k
/-- a name put among others, in its place -/
def ins : List Nm → Nm → List Nm
  | [], t => [t]
  | x :: r, t => if x < t then x :: ins r t else if x = t then x :: r else t :: x :: r
def SS (l : List Nm) : Prop := l.Pairwise (· < ·)
theorem mem_ins (t : Nm) : ∀ (l : List Nm) (y : Nm), y ∈ ins l t ↔ y = t ∨ y ∈ l := by
  intro l
  induction l with
  | nil => intro y; simp [ins]
  | cons x r ih =>
    intro y
    unfold ins
    split
    · simp only [List.mem_cons, ih]
      constructor
      · rintro (h | h | h) <;> simp [h]
      · rintro (h | h | h) <;> simp [h]
    · split
      · rename_i h1 h2
        subst h2
        simp
      · simp
theorem ss_ins (t : Nm) : ∀ l : List Nm, SS l → SS (ins l t) := by
  intro l
  induction l with
  | nil => intro _; exact List.pairwise_singleton _ _
  | cons x r ih =>
    intro h
    obtain ⟨h1, h2⟩ := List.pairwise_cons.1 h
    unfold ins
    split
    · rename_i hx
      refine List.pairwise_cons.2 ⟨fun y hy => ?_, ih h2⟩
      rcases (mem_ins t r y).1 hy with rfl | hy
      · exact hx
      · exact h1 y hy
    · split
      · exact h
      · rename_i hx hne
        have hlt := lt_of hx hne
        refine List.pairwise_cons.2 ⟨fun y hy => ?_, h⟩
        rcases List.mem_cons.1 hy with rfl | hy
        · exact hlt
        · exact List.lt_trans hlt (h1 y hy)
/-- two rising lists with the same names are the same -/
theorem ss_eq : ∀ (l k : List Nm), SS l → SS k → (∀ y, y ∈ l ↔ y ∈ k) → l = k := by
  intro l
  induction l with
  | nil =>
    intro k _ _ h
    cases k with
    | nil => rfl
    | cons x r => exact absurd ((h x).2 (by simp)) (by simp)
  | cons x r ih =>
    intro k hl hk h
    cases k with
    | nil => exact absurd ((h x).1 (by simp)) (by simp)
    | cons y s =>
      obtain ⟨h1, h2⟩ := List.pairwise_cons.1 hl
      obtain ⟨k1, k2⟩ := List.pairwise_cons.1 hk
      have hxy : x = y := by
        by_cases hlt : x < y
        · rcases List.mem_cons.1 ((h x).1 (by simp)) with e | e
          · exact e
          · exact absurd (List.lt_trans hlt (k1 x e)) (List.lt_irrefl _)
        · by_cases he : x = y
          · exact he
          · have hgt := lt_of hlt he
            rcases List.mem_cons.1 ((h y).2 (by simp)) with e | e
            · exact e.symm
            · exact absurd (List.lt_trans hgt (h1 y e)) (List.lt_irrefl _)
      subst hxy
      congr 1
      refine ih s h2 k2 fun z => ⟨fun hz => ?_, fun hz => ?_⟩
      · rcases List.mem_cons.1 ((h z).1 (List.mem_cons_of_mem _ hz)) with e | e
        · subst e; exact absurd (h1 _ hz) (List.lt_irrefl _)
        · exact e
      · rcases List.mem_cons.1 ((h z).2 (List.mem_cons_of_mem _ hz)) with e | e
        · subst e; exact absurd (k1 _ hz) (List.lt_irrefl _)
        · exact e

/-- what is kept of a sorted list rises, and has its names -/
theorem compact_ss (d : Array Nm) (hs : ∀ i j, i < j → j < d.size → d[i]! ≤ d[j]!) : ∀ m, m ≤ d.size →
    SS (Lib.compactUpTo d m) ∧ (∀ y, y ∈ Lib.compactUpTo d m ↔ ∃ i, i < m ∧ d[i]! = y) := by
  intro m
  induction m with
  | zero => intro _; exact ⟨List.Pairwise.nil, fun y => by simp [Lib.compactUpTo]⟩
  | succ m ih =>
    intro hm
    obtain ⟨h1, h2⟩ := ih (by omega)
    rw [Lib.compactUpTo_succ]
    by_cases hk : Lib.keeps d m = true
    · rw [if_pos hk]
      have hk' : m = 0 ∨ d[m]! ≠ d[m - 1]! := by unfold Lib.keeps at hk; simpa using hk
      refine ⟨List.pairwise_append.2 ⟨h1, List.pairwise_singleton _ _, fun a ha b hb => ?_⟩, fun y => ?_⟩
      · obtain rfl := List.mem_singleton.1 hb
        obtain ⟨i, hi, rfl⟩ := (h2 a).1 ha
        have hm0 : m ≠ 0 := by omega
        have hne := hk'.resolve_left hm0
        have hle : d[m - 1]! ≤ d[m]! := hs (m - 1) m (by omega) (by omega)
        have hlt : d[m - 1]! < d[m]! := lt_of (List.not_lt.2 hle) hne
        rcases Nat.lt_or_ge i (m - 1) with h | h
        · exact List.lt_of_le_of_lt (hs i (m - 1) h (by omega)) hlt
        · rw [show i = m - 1 by omega]; exact hlt
      · rw [List.mem_append, h2, List.mem_singleton]
        constructor
        · rintro (⟨i, hi, e⟩ | e)
          · exact ⟨i, by omega, e⟩
          · exact ⟨m, by omega, e.symm⟩
        · rintro ⟨i, hi, e⟩
          rcases Nat.lt_or_ge i m with h | h
          · exact .inl ⟨i, h, e⟩
          · rw [show i = m by omega] at e; exact .inr e.symm
    · have hk' : m ≠ 0 ∧ d[m]! = d[m - 1]! := by
        unfold Lib.keeps at hk
        rw [decide_eq_true_iff] at hk
        refine ⟨fun h => hk (.inl h), ?_⟩
        by_cases e : d[m]! = d[m - 1]!
        · exact e
        · exact absurd (.inr e) hk
      rw [if_neg hk, List.append_nil]
      refine ⟨h1, fun y => ?_⟩
      rw [h2]
      constructor
      · rintro ⟨i, hi, e⟩; exact ⟨i, by omega, e⟩
      · rintro ⟨i, hi, e⟩
        rcases Nat.lt_or_ge i m with h | h
        · exact ⟨i, h, e⟩
        · rw [show i = m by omega, hk'.2] at e; exact ⟨m - 1, by omega, e⟩

def le (x y : Nm) : Bool := decide (x ≤ y)
theorem sort_compact (names : List Nm) : SS (Lib.compact (names.mergeSort le)) ∧ ∀ y, y ∈ Lib.compact (names.mergeSort le) ↔ y ∈ names := by
  have hp : (names.mergeSort le).Pairwise (fun a b => le a b = true) := List.pairwise_mergeSort
    (fun a b c h k => by unfold le at *; rw [decide_eq_true_iff] at *; exact List.le_trans h k)
    (fun a b => by unfold le; rcases List.le_total a b with h | h <;> simp [h]) names
  generalize hq : names.mergeSort le = q at hp ⊢
  have hmem : ∀ y, y ∈ q ↔ y ∈ names := fun y => by rw [← hq]; exact List.mem_mergeSort
  have hs : ∀ i j, i < j → j < q.toArray.size → q.toArray[i]! ≤ q.toArray[j]! := fun i j hij hj => by
    have hj' : j < q.length := by simpa using hj
    have := List.pairwise_iff_getElem.1 hp i j (by omega) hj' hij
    unfold le at this
    rw [decide_eq_true_iff] at this
    rw [getElem!_pos q.toArray i (by simp; omega), getElem!_pos q.toArray j hj]
    simpa using this
  obtain ⟨h1, h2⟩ := compact_ss q.toArray hs q.length (by simp)
  refine ⟨h1, fun y => ?_⟩
  unfold Lib.compact
  rw [h2, ← hmem, List.mem_iff_getElem]
  constructor
  · rintro ⟨i, hi, e⟩
    rw [getElem!_pos q.toArray i (by simpa using hi)] at e
    exact ⟨i, hi, by simpa using e⟩
  · rintro ⟨i, hi, e⟩
    exact ⟨i, hi, by rw [getElem!_pos q.toArray i (by simpa using hi)]; simpa using e⟩

/-- the names that stand in parts -/
def nameL (p : Pt) : Nm := p.2.2.data.toList
def namesL (ps : List Pt) : List Nm := (ps.map nameL).filter (fun n => !n.isEmpty)
/-- as the model puts them -/
def fold (ps : List Pt) : List Nm := ps.foldl (fun acc p => if (nameL p).isEmpty = true then acc else ins acc (nameL p)) []
theorem fold_snoc (l : List Pt) (p : Pt) : fold (l ++ [p]) = if (nameL p).isEmpty = true then fold l else ins (fold l) (nameL p) := by
  unfold fold; rw [List.foldl_append]; rfl
theorem snoc_rec {α : Type} {P : List α → Prop} (h0 : P []) (h1 : ∀ l x, P l → P (l ++ [x])) (l : List α) : P l := by
  have h : ∀ l : List α, P l.reverse := by
    intro l
    induction l with
    | nil => exact h0
    | cons x r ih => rw [List.reverse_cons]; exact h1 _ _ ih
  have := h l.reverse
  rwa [List.reverse_reverse] at this
theorem fold_ss (ps : List Pt) : SS (fold ps) ∧ ∀ y, y ∈ fold ps ↔ y ∈ namesL ps := by
  refine snoc_rec (P := fun ps => SS (fold ps) ∧ ∀ y, y ∈ fold ps ↔ y ∈ namesL ps) ⟨List.Pairwise.nil, fun y => Iff.rfl⟩ ?_ ps
  intro l p ⟨h1, h2⟩
  rw [fold_snoc]
  have hn : namesL (l ++ [p]) = namesL l ++ (if (nameL p).isEmpty = true then [] else [nameL p]) := by
    unfold namesL
    rw [List.map_append, List.filter_append]
    congr 1
    cases h : (nameL p).isEmpty <;> simp [h]
  rw [hn]
  by_cases h : (nameL p).isEmpty = true
  · rw [if_pos h, if_pos h, List.append_nil]; exact ⟨h1, h2⟩
  · rw [if_neg h, if_neg h]
    refine ⟨ss_ins _ _ h1, fun y => ?_⟩
    rw [mem_ins, h2, List.mem_append, List.mem_singleton]
    exact Or.comm
theorem fold_eq (ps : List Pt) : Lib.compact ((namesL ps).mergeSort le) = fold ps := by
  obtain ⟨h1, h2⟩ := sort_compact (namesL ps)
  obtain ⟨k1, k2⟩ := fold_ss ps
  exact ss_eq _ _ h1 k1 fun y => by rw [h2, k2]
end Go.Proofs.YtecopedjjfimoaaGreatDoor.FldM
