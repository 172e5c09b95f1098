/- What right answers are, as one Bool of them. -/
import Derived.Test.YtfnimiimplphkaaAnsSz
import Derived.Test.YtfnimiimplphkaaNameWalks
import Derived.Test.YtfnimiimplphkaaValAns
import Derived.Laws.Cover1
namespace Go.Proofs.Ytfnimiimplphkaa.AnsW
open Go.RowKit
open ValW ValK NameW

def lessB (x y : ByteArray) : Bool := Op.bytesLess x.toList y.toList
theorem less_or : ∀ (x y : List UInt8), (Op.bytesLess x y || x == y) = !Op.bytesLess y x
  | [], [] => by simp [Op.bytesLess]
  | [], b :: y => by simp [Op.bytesLess]
  | a :: x, [] => by simp [Op.bytesLess]
  | a :: x, b :: y => by
    have ih := less_or x y
    simp only [Op.bytesLess]
    by_cases hab : a = b
    · subst hab
      have : ¬ a < a := UInt8.lt_irrefl a
      simp only [decide_eq_false this, Bool.false_or, BEq.rfl, Bool.true_and]
      rw [← ih]
      simp
    · have hba : ¬ b = a := fun h => hab h.symm
      by_cases hl : a < b
      · have : ¬ b < a := fun h => UInt8.lt_irrefl a (UInt8.lt_trans hl h)
        simp [hl, this, hba]
      · have : b < a := by
          rcases UInt8.lt_or_lt_of_ne hab with h | h
          · exact absurd h hl
          · exact h
        simp [hl, this, hab]
theorem less_nil (x : List UInt8) : Op.bytesLess x [] = false := by cases x <;> simp [Op.bytesLess]

def okA (ls : List An) (i : Nat) : Bool :=
  nameB (nm (ls.getD i an0)) && (decide (i = 0) || lessB (nm (ls.getD (i - 1) an0)) (nm (ls.getD i an0))) && answeredB (kd (ls.getD i an0)) (nu (ls.getD i an0)) (cd (ls.getD i an0)) (tx (ls.getD i an0))
def rightA (ls : List An) : Bool := decide (ls.length ≤ 30 ∧ ∀ i, i < ls.length → okA ls i = true)
theorem rightA_yes {ls : List An} (h : ls.length ≤ 30) (ha : ∀ i, i < ls.length → okA ls i = true) : rightA ls = true := decide_eq_true ⟨h, ha⟩
theorem rightA_long {ls : List An} (h : ¬ ls.length ≤ 30) : rightA ls = false := decide_eq_false fun a => h a.1
theorem rightA_no {ls : List An} {i : Nat} (hi : i < ls.length) (h : okA ls i = false) : rightA ls = false := decide_eq_false fun a => by rw [a.2 i hi] at h; cases h
theorem rightA_all {ls : List An} (h : ∀ i, i < ls.length → okA ls i = true) : rightA ls = decide (ls.length ≤ 30) := by
  by_cases hl : ls.length ≤ 30
  · rw [rightA_yes hl h, decide_eq_true hl]
  · rw [rightA_long hl, decide_eq_false hl]
theorem rightA_at {ls : List An} (h : rightA ls = true) : ls.length ≤ 30 ∧ ∀ i, i < ls.length → okA ls i = true := of_decide_eq_true h
theorem okA_parts {ls : List An} {i : Nat} (h : okA ls i = true) : nameB (nm (ls.getD i an0)) = true ∧ (0 < i → lessB (nm (ls.getD (i - 1) an0)) (nm (ls.getD i an0)) = true) ∧ answeredB (kd (ls.getD i an0)) (nu (ls.getD i an0)) (cd (ls.getD i an0)) (tx (ls.getD i an0)) = true := by
  unfold okA at h
  simp only [Bool.and_eq_true, Bool.or_eq_true, decide_eq_true_eq] at h
  refine ⟨h.1.1, fun hi => ?_, h.2⟩
  rcases h.1.2 with h0 | h0
  · omega
  · exact h0
theorem okA_zero (ls : List An) : okA ls 0 = (nameB (nm (ls.getD 0 an0)) && answeredB (kd (ls.getD 0 an0)) (nu (ls.getD 0 an0)) (cd (ls.getD 0 an0)) (tx (ls.getD 0 an0))) := by simp [okA]
theorem okA_succ (ls : List An) (j : Nat) : okA ls (j + 1) = (nameB (nm (ls.getD (j + 1) an0)) && lessB (nm (ls.getD j an0)) (nm (ls.getD (j + 1) an0)) && answeredB (kd (ls.getD (j + 1) an0)) (nu (ls.getD (j + 1) an0)) (cd (ls.getD (j + 1) an0)) (tx (ls.getD (j + 1) an0))) := by simp [okA]

theorem keep5 {wr w' : World} {b o : Nat} {p : An} {a : Option Addr} {c : Nat} (hb : b < wr.heap.size) (h : Five wr b o p a c) (hB : Below wr.heap.size wr w') :
    Below wr.heap.size wr w' ∧ w'.cell? ⟨b, o, none⟩ = some (.string (nm p)) ∧ w'.cell? ⟨b, o + 1, none⟩ = some (.int .i64 (kd p)) ∧ w'.cell? ⟨b, o + 2, none⟩ = some (.int .i64 (nu p)) ∧ w'.cell? ⟨b, o + 3, none⟩ = some (.slice a (cd p).length c) ∧ w'.cell? ⟨b, o + 4, none⟩ = some (.string (tx p)) := ⟨hB, h.on hb hB⟩
theorem keep6 {wr w' : World} {b o o1 : Nat} {p : An} {a : Option Addr} {c : Nat} {v : Value} (hb : b < wr.heap.size) (h : Five wr b o p a c) (d0 : wr.cell? ⟨b, o1, none⟩ = some v) (hB : Below wr.heap.size wr w') :
    Below wr.heap.size wr w' ∧ w'.cell? ⟨b, o, none⟩ = some (.string (nm p)) ∧ w'.cell? ⟨b, o + 1, none⟩ = some (.int .i64 (kd p)) ∧ w'.cell? ⟨b, o + 2, none⟩ = some (.int .i64 (nu p)) ∧ w'.cell? ⟨b, o + 3, none⟩ = some (.slice a (cd p).length c) ∧ w'.cell? ⟨b, o + 4, none⟩ = some (.string (tx p)) ∧ w'.cell? ⟨b, o1, none⟩ = some v := by
  obtain ⟨h0, h1, h2, h3, h4⟩ := h.on hb hB
  exact ⟨hB, h0, h1, h2, h3, h4, by rw [hB.cell (p := ⟨b, _, none⟩) hb]; exact d0⟩
end Go.Proofs.Ytfnimiimplphkaa.AnsW
