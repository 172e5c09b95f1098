/- Plain mathematics of promise 2: a CRC goes on from text to text; two texts that differ in one byte have two CRCs; so a seal with one byte turned is no seal. -/
import Derived.Test.YtcgaeblegiabjaaDoorCrcMath
namespace Go.Proofs.YtcgaeblegiabjaaDoor.TurnM
open CrcM

theorem xor_cancel (a b p : Nat) (h : a ^^^ p = b ^^^ p) : a = b := by
  have := congrArg (fun x => x ^^^ p) h
  simpa [Nat.xor_assoc] using this
theorem top_bit (x : Nat) (h : x < 2147483648) : (x ^^^ 3988292384).testBit 31 = true := by
  rw [Nat.testBit_xor, Nat.testBit_lt_two_pow (show x < 2 ^ 31 from h)]; decide
theorem stepC_inj (a b : Nat) (ha : a < 4294967296) (hb : b < 4294967296) (h : stepC a = stepC b) : a = b := by
  unfold stepC at h
  by_cases pa : a % 2 = 1
  · by_cases pb : b % 2 = 1
    · rw [if_pos pa, if_pos pb] at h
      have := xor_cancel _ _ _ h; omega
    · rw [if_pos pa, if_neg pb] at h
      have h1 := top_bit (a / 2) (by omega)
      rw [h, Nat.testBit_lt_two_pow (show b / 2 < 2 ^ 31 by omega)] at h1
      cases h1
  · by_cases pb : b % 2 = 1
    · rw [if_neg pa, if_pos pb] at h
      have h1 := top_bit (b / 2) (by omega)
      rw [← h, Nat.testBit_lt_two_pow (show a / 2 < 2 ^ 31 by omega)] at h1
      cases h1
    · rw [if_neg pa, if_neg pb] at h; omega
theorem stepsC_inj (k : Nat) : ∀ a b, a < 4294967296 → b < 4294967296 → stepsC k a = stepsC k b → a = b := by
  induction k with
  | zero => intro a b _ _ h; exact h
  | succ k ih => intro a b ha hb h; exact ih a b ha hb (stepC_inj _ _ (stepsC_lt k a ha) (stepsC_lt k b hb) h)
theorem byteC_inj_r (r r' b : Nat) (h1 : r < 4294967296) (h2 : r' < 4294967296) (hb : b < 256) (h : byteC r b = byteC r' b) : r = r' :=
  xor_cancel _ _ _ (stepsC_inj 8 _ _ (xor_lt _ _ h1 (by omega)) (xor_lt _ _ h2 (by omega)) h)
theorem byteC_inj_b (r b b' : Nat) (h1 : r < 4294967296) (hb : b < 256) (hb' : b' < 256) (h : byteC r b = byteC r b') : b = b' := by
  have := stepsC_inj 8 _ _ (xor_lt r b h1 (by omega)) (xor_lt r b' h1 (by omega)) h
  rw [Nat.xor_comm r b, Nat.xor_comm r b'] at this
  exact xor_cancel _ _ _ this
theorem fromC_inj (l : List UInt8) : ∀ r r', r < 4294967296 → r' < 4294967296 → fromC r l = fromC r' l → r = r' := by
  induction l with
  | nil => intro r r' _ _ h; exact h
  | cons c l ih =>
    intro r r' h1 h2 h
    exact byteC_inj_r r r' c.toNat h1 h2 c.toNat_lt (ih _ _ (byteC_lt _ _ h1 c.toNat_lt) (byteC_lt _ _ h2 c.toNat_lt) h)
theorem fromC_append (r : Nat) (a b : List UInt8) : fromC r (a ++ b) = fromC (fromC r a) b := by unfold fromC; rw [List.foldl_append]
theorem crc_turn (t : List UInt8) (j : Nat) (hj : j < t.length) (c : UInt8) (hc : t[j] ≠ c) : crcC 0 (t.set j c) ≠ crcC 0 t := by
  intro h
  have hl1 := fromC_lt (t.set j c) (4294967295 - 0) (by omega)
  have hl2 := fromC_lt t (4294967295 - 0) (by omega)
  have hf : fromC (4294967295 - 0) (t.set j c) = fromC (4294967295 - 0) t := by unfold crcC at h; omega
  have e1 : t.set j c = t.take j ++ (c :: t.drop (j + 1)) := List.set_eq_take_append_cons_drop (l := t) (i := j) (a := c) |>.trans (by rw [if_pos hj])
  have e2 : t = t.take j ++ (t[j] :: t.drop (j + 1)) := by rw [← List.drop_eq_getElem_cons hj, List.take_append_drop]
  rw [e1] at hf
  have hf2 : fromC (4294967295 - 0) (t.take j ++ (c :: t.drop (j + 1))) = fromC (4294967295 - 0) (t.take j ++ (t[j] :: t.drop (j + 1))) := by rw [← e2]; exact hf
  rw [fromC_append, fromC_append] at hf2
  have hr := fromC_lt (t.take j) (4294967295 - 0) (by omega)
  have h3 := fromC_inj (t.drop (j + 1)) _ _ (byteC_lt _ _ hr c.toNat_lt) (byteC_lt _ _ hr t[j].toNat_lt) hf2
  have h4 := byteC_inj_b _ _ _ hr c.toNat_lt t[j].toNat_lt h3
  exact hc (UInt8.toNat_inj.1 h4).symm
theorem crc_more (a b : List UInt8) : crcC (crcC 0 a) b = crcC 0 (a ++ b) := by
  have hl := fromC_lt a (4294967295 - 0) (by omega)
  unfold crcC
  rw [fromC_append]
  have e : 4294967295 - (4294967295 - fromC (4294967295 - 0) a) = fromC (4294967295 - 0) a := by omega
  rw [e]
end Go.Proofs.YtcgaeblegiabjaaDoor.TurnM
