/- Plain mathematics of the CRC: one bit's step, eight of them, a whole text. Nothing of the program is imported here. -/
namespace Go.Proofs.YtcgaeblegiabjaaDoor.CrcM

def stepC (r : Nat) : Nat := if r % 2 = 1 then (r / 2) ^^^ 3988292384 else r / 2
def stepsC : Nat → Nat → Nat
  | 0, r => r
  | k + 1, r => stepC (stepsC k r)
def byteC (r : Nat) (b : Nat) : Nat := stepsC 8 (r ^^^ b)
def fromC (r : Nat) (l : List UInt8) : Nat := l.foldl (fun q c => byteC q c.toNat) r
def crcC (crc : Nat) (l : List UInt8) : Nat := 4294967295 - fromC (4294967295 - crc) l

theorem xor_lt (a b : Nat) (ha : a < 4294967296) (hb : b < 4294967296) : a ^^^ b < 4294967296 :=
  Nat.xor_lt_two_pow (n := 32) ha hb
theorem stepC_lt (r : Nat) (h : r < 4294967296) : stepC r < 4294967296 := by
  unfold stepC; split
  · exact xor_lt _ _ (by omega) (by omega)
  · omega
theorem stepsC_lt (k r : Nat) (h : r < 4294967296) : stepsC k r < 4294967296 := by
  induction k with
  | zero => exact h
  | succ k ih => exact stepC_lt _ ih
theorem byteC_lt (r b : Nat) (h : r < 4294967296) (hb : b < 256) : byteC r b < 4294967296 :=
  stepsC_lt 8 _ (xor_lt _ _ h (by omega))
theorem fromC_lt (l : List UInt8) : ∀ r, r < 4294967296 → fromC r l < 4294967296 := by
  induction l with
  | nil => intro r h; exact h
  | cons c l ih => intro r h; exact ih _ (byteC_lt _ _ h c.toNat_lt)
theorem fromC_snoc (r : Nat) (l : List UInt8) (c : UInt8) : fromC r (l ++ [c]) = byteC (fromC r l) c.toNat := by
  unfold fromC; rw [List.foldl_append]; rfl
theorem crcC_lt (crc : Nat) (l : List UInt8) : crcC crc l < 4294967296 := by unfold crcC; omega
theorem xor_ones (r : Nat) (h : r < 4294967296) : r ^^^ 4294967295 = 4294967295 - r := by
  have e : 4294967295 - r = ((~~~ (BitVec.ofNat 32 r)).toNat) := by
    rw [BitVec.toNat_not, BitVec.toNat_ofNat, Nat.mod_eq_of_lt h]
  have e2 : r ^^^ 4294967295 = ((BitVec.ofNat 32 r) ^^^ (BitVec.allOnes 32)).toNat := by
    rw [BitVec.toNat_xor, BitVec.toNat_ofNat, BitVec.toNat_allOnes, Nat.mod_eq_of_lt h]
  rw [e, e2, BitVec.xor_allOnes]
theorem take_snoc (s : ByteArray) (k : Nat) (h : k < s.size) : s.data.toList.take (k + 1) = s.data.toList.take k ++ [s[k]] := by
  rw [List.take_succ_eq_append_getElem (by simpa using h)]; rfl
end Go.Proofs.YtcgaeblegiabjaaDoor.CrcM
