/- Of a text that is the text of a right answer: which answer that is, by its first byte. No program is named here. -/
import Derived.Test.YtmmijhpeinobbaaGreatDoorRdText
namespace Go.Proofs.YtmmijhpeinobbaaGreatDoor.RdM
open ValM TxtM

/-- of a text that is a right answer's: this is the answer -/
def IsOf (s : ByteArray) (k n : Int) (zs : List Int) (t : ByteArray) : Prop := ∀ k0 n0 z0 t0, right k0 n0 z0 t0 = true → s.data.toList = textL k0 n0 z0 t0 → k = k0 ∧ n = n0 ∧ zs = z0 ∧ t = t0
theorem no_text {a : ByteArray} (ha : a.size = 0) : ByteArray.empty = a := by
  have h0 := List.length_eq_zero_iff.1 (by rw [← size_len]; exact ha : a.data.toList.length = 0)
  rw [eq_mk h0]; rfl
theorem no_codes {a : List Int} (ha : a.length = 0) : [] = a := (List.length_eq_zero_iff.1 ha).symm
theorem of_kind {k n : Int} {zs : List Int} {t : ByteArray} (h : right k n zs t = true) (c : UInt8) (r : List UInt8) (e : textL k n zs t = c :: r) :
    (k = 5 ∧ c = 68) ∨ (k = 6 ∧ c = 82) ∨ (k = 2 ∧ c = 35) ∨ (k = 3 ∧ c = 123) ∨ (k = 4 ∧ c = 34) ∨ (k = 1 ∧ (c = 45 ∨ 48 ≤ c.toNat ∧ c.toNat ≤ 57)) := by
  rcases kind_of h with ⟨_, e'⟩ | ⟨c', r', e', hk⟩
  · rw [e] at e'; cases e'
  · rw [e] at e'; obtain ⟨rfl, rfl⟩ := List.cons.inj e'; exact hk
theorem is_none {s : ByteArray} (h : s.data.toList = []) : IsOf s 0 0 [] ByteArray.empty := by
  intro k0 n0 z0 t0 hr e
  rw [h] at e
  rcases kind_of hr with ⟨hk, _⟩ | ⟨c, r, e', _⟩
  · subst hk
    rcases kinds hr with ⟨_, a, b, c⟩ | ⟨hk, _⟩ | ⟨hk, _⟩ | ⟨hk, _⟩ | ⟨hk, _⟩
    · exact ⟨rfl, a.symm, no_codes b, no_text c⟩
    all_goals omega
  · rw [e'] at e; cases e
theorem is_word {s : ByteArray} {k : Int} (c : UInt8) (r : List UInt8) (h : s.data.toList = c :: r) (hk : (k = 5 ∧ c = 68) ∨ (k = 6 ∧ c = 82)) : IsOf s k 0 [] ByteArray.empty := by
  intro k0 n0 z0 t0 hr e
  rw [h] at e
  have hk0 : k0 = k := by
    rcases of_kind hr c r e.symm with ⟨a, b⟩ | ⟨a, b⟩ | ⟨a, b⟩ | ⟨a, b⟩ | ⟨a, b⟩ | ⟨a, b⟩ <;> rcases hk with ⟨x, y⟩ | ⟨x, y⟩ <;>
      first | (exact a.trans x.symm) | (rw [y] at b; exact absurd b (by decide))
  subst hk0
  rcases kinds hr with ⟨_, a, b, c⟩ | ⟨hk', _⟩ | ⟨hk', _⟩ | ⟨hk', _⟩ | ⟨hk', _⟩
  · exact ⟨rfl, a.symm, no_codes b, no_text c⟩
  all_goals omega
theorem is_code {s : ByteArray} (r : List UInt8) (h : s.data.toList = 35 :: r) : IsOf s 2 (numM r) [] ByteArray.empty := by
  intro k0 n0 z0 t0 hr e
  rw [h] at e
  have hk0 : k0 = 2 := by
    rcases of_kind hr _ _ e.symm with ⟨a, b⟩ | ⟨a, b⟩ | ⟨a, b⟩ | ⟨a, b⟩ | ⟨a, b⟩ | ⟨a, b⟩ <;> first | exact a | exact absurd b (by decide)
  subst hk0
  rcases kinds hr with ⟨hk', _⟩ | ⟨hk', _⟩ | ⟨_, a, a1, b, c⟩ | ⟨hk', _⟩ | ⟨hk', _⟩
  · omega
  · omega
  · rw [text_code] at e
    rw [(List.cons.inj e).2, numM_dec _ (by omega)]
    exact ⟨rfl, by omega, no_codes b, no_text c⟩
  all_goals omega
theorem is_int {s : ByteArray} (c : UInt8) (r : List UInt8) (h : s.data.toList = c :: r) (hc : c ≠ 68 ∧ c ≠ 82 ∧ c ≠ 35 ∧ c ≠ 34 ∧ c ≠ 123) : IsOf s 1 (numM s.data.toList) [] ByteArray.empty := by
  intro k0 n0 z0 t0 hr e
  have hk0 : k0 = 1 := by
    rcases of_kind hr c r (by rw [← e]; exact h) with ⟨a, b⟩ | ⟨a, b⟩ | ⟨a, b⟩ | ⟨a, b⟩ | ⟨a, b⟩ | ⟨a, b⟩ <;> first | exact a | (exfalso; simp_all)
  subst hk0
  rcases kinds hr with ⟨hk', _⟩ | ⟨_, a, a1, b, c⟩ | ⟨hk', _⟩ | ⟨hk', _⟩ | ⟨hk', _⟩
  · omega
  · rw [e, text_int, numM_itoa a a1]; exact ⟨rfl, rfl, no_codes b, no_text c⟩
  all_goals omega
theorem is_text {s t : ByteArray} (r : List UInt8) (h : s.data.toList = 34 :: r) (ht : ∀ x, s.data.toList = 34 :: (quoteL x ++ [34]) → t.data.toList = x) : IsOf s 4 0 [] t := by
  intro k0 n0 z0 t0 hr e
  have hk0 : k0 = 4 := by
    rcases of_kind hr 34 r (by rw [← e]; exact h) with ⟨a, b⟩ | ⟨a, b⟩ | ⟨a, b⟩ | ⟨a, b⟩ | ⟨a, b⟩ | ⟨a, b⟩ <;> first | exact a | exact absurd b (by decide)
  subst hk0
  rcases kinds hr with ⟨hk', _⟩ | ⟨hk', _⟩ | ⟨hk', _⟩ | ⟨hk', _⟩ | ⟨_, a, b, _, _⟩
  · omega
  · omega
  · omega
  · omega
  · rw [text_text] at e
    exact ⟨rfl, a.symm, no_codes b, by rw [eq_mk (ht _ e), mk_data]⟩
theorem set_kind {s : ByteArray} {r : List UInt8} (h : s.data.toList = 123 :: r) {k0 n0 : Int} {z0 : List Int} {t0 : ByteArray} (hr : right k0 n0 z0 t0 = true) (e : s.data.toList = textL k0 n0 z0 t0) :
    k0 = 3 ∧ n0 = 0 ∧ risesB z0 = true ∧ ByteArray.empty = t0 ∧ r = Lib.join (codesL z0) [44] ++ [125] := by
  have hk0 : k0 = 3 := by
    rcases of_kind hr 123 r (by rw [← e]; exact h) with ⟨a, b⟩ | ⟨a, b⟩ | ⟨a, b⟩ | ⟨a, b⟩ | ⟨a, b⟩ | ⟨a, b⟩ <;> first | exact a | exact absurd b (by decide)
  subst hk0
  rcases kinds hr with ⟨hk', _⟩ | ⟨hk', _⟩ | ⟨hk', _⟩ | ⟨_, a, b, c⟩ | ⟨hk', _⟩
  · omega
  · omega
  · omega
  · rw [h, text_set] at e
    exact ⟨rfl, a, b, no_text c, (List.cons.inj e).2⟩
  · omega
theorem join_some {z0 : List Int} (h : z0 ≠ []) : Lib.join (codesL z0) [44] ≠ [] := by
  intro e
  cases z0 with
  | nil => exact h rfl
  | cons x r =>
    have : Lib.join (codesL (x :: r)) [44] = Lib.decDigits x.toNat ++ Lib.joinTail [44] (codesL r) := Lib.join_cons _ _ _
    rw [this] at e
    exact dec_ne _ (List.append_eq_nil_iff.1 e).1
theorem is_noset {s : ByteArray} (h : s.data.toList = [123, 125]) : IsOf s 3 0 [] ByteArray.empty := by
  intro k0 n0 z0 t0 hr e
  obtain ⟨hk, hn, _, ht, hj⟩ := set_kind h hr e
  have hz : z0 = [] := by
    by_cases hz : z0 = []
    · exact hz
    · have h2 : Lib.join (codesL z0) [44] = [] := List.append_inj_left' (t₁ := [125]) (s₁ := []) (by simpa using hj) rfl |>.symm
      exact absurd h2 (join_some hz)
  exact ⟨hk.symm, hn.symm, hz.symm, ht⟩
theorem is_set {s : ByteArray} (r : List UInt8) (h : s.data.toList = 123 :: r) (hne : s.data.toList ≠ [123, 125]) : IsOf s 3 0 ((splitC r).map numM) ByteArray.empty := by
  intro k0 n0 z0 t0 hr e
  obtain ⟨hk, hn, hz, ht, hj⟩ := set_kind h hr e
  refine ⟨hk.symm, hn.symm, ?_, ht⟩
  rw [hj]
  refine read_codes (fun h0 => hne ?_) (codes_of hz)
  rw [h, hj, h0]; rfl
end Go.Proofs.YtmmijhpeinobbaaGreatDoor.RdM
