/- Texts of ours, laid together. -/
import Derived.Test.YtmbhmknfipdadaaGreatDoorProg
import Derived.Lib.ItoaNum
import Derived.Laws.Strings
namespace Go.Proofs.YtmbhmknfipdadaaGreatDoor.DecM
theorem mk_data (s : ByteArray) : (⟨s.data.toList.toArray⟩ : ByteArray) = s := by cases s; simp
theorem eq_mk {s : ByteArray} {l : List UInt8} (h : s.data.toList = l) : s = ⟨l.toArray⟩ := by subst h; exact (mk_data s).symm
theorem data_add (a b : ByteArray) : (a ++ b).data.toList = a.data.toList ++ b.data.toList := by simp [ByteArray.data_append]
theorem size_len (s : ByteArray) : s.size = s.data.toList.length := (Array.length_toList).symm
def tail0 (m : Nat) : List UInt8 := if m = 0 then [] else Lib.decDigits m
theorem dec_step (m : Nat) (h : m ≠ 0) : tail0 m = tail0 (m / 10) ++ [UInt8.ofNat (48 + m % 10)] := by
 unfold tail0
 rw [if_neg h, Lib.decDigits]
 by_cases h1 : m < 10
 ·rw [dif_pos h1, if_pos (by omega), Nat.mod_eq_of_lt h1]; rfl
 ·rw [dif_neg h1, if_neg (by omega)]
theorem dec_len : ∀ (f m : Nat), m < 10 ^ (f + 1) → (Lib.decDigits m).length ≤ f + 1
 | 0, m, h => by rw [Lib.decDigits, dif_pos (by simpa using h)]; simp
 | f + 1, m, h => by
  rw [Lib.decDigits]
  by_cases h1 : m < 10
  ·rw [dif_pos h1]; simp
  ·rw [dif_neg h1]
   have := dec_len f (m / 10) (by rw [Nat.div_lt_iff_lt_mul (by omega)]; rw [Nat.pow_succ] at h; omega)
   simp; omega
theorem dec_len19 {m : Nat} (h : m < 10000000000000000000) : (Lib.decDigits m).length ≤ 19 := dec_len 18 m (by simpa using h)
theorem itoa_neg {n : Int} (h : n < 0) : Lib.itoa n = 45 :: Lib.decDigits (-n).toNat := by
 unfold Lib.itoa; rw [if_pos h, show n.natAbs = (-n).toNat by omega]
theorem itoa_pos {n : Int} (h : 0 ≤ n) : Lib.itoa n = Lib.decDigits n.toNat := by
 unfold Lib.itoa; rw [if_neg (by omega)]
end Go.Proofs.YtmbhmknfipdadaaGreatDoor.DecM
