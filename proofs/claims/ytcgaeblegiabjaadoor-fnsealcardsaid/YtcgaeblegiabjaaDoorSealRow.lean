/- Bytes of a text as a row of their own, and one of them turned. -/
import Derived.Test.YtcgaeblegiabjaaDoorSealDraws
import Derived.Test.YtcgaeblegiabjaaDoorSealTop
import Derived.Test.YtcgaeblegiabjaaDoorSealTurn
import Derived.Test.YtcgaeblegiabjaaDoorNumsFacts
import Derived.Deep.RegionWith
namespace Go.Proofs.YtcgaeblegiabjaaDoor.SealR
open Go.RowKit

/-- a row's own bytes, which may be written -/
def Row (w : World) (B : Nat) (l : List UInt8) : Prop :=
  B < w.heap.size ∧ ∀ j (hj : j < l.length), w.cell? ⟨B, j, none⟩ = some (.int .u8 (l[j].toNat : Int)) ∧ w.frozen? ⟨B, j, none⟩ = false
theorem bytes_of (w : World) (P : ByteArray) :
    ∃ cap w', (convert 9 22 (.string P)).run Tryd.prog w = .ok (.slice (some ⟨w.heap.size, 0, none⟩) P.size cap) w' ∧ Row w' w.heap.size P.data.toList ∧ Below w.heap.size w w' := by
  refine ⟨_, _, run_bytes_of_string w 9 22 5 P Tryd.underlying9 Tryd.underlying22 Tryd.underlying5, ?_, ?_⟩
  · generalize grownCap w P.size 0 5 = cap
    have hz : P.size ≤ (bytesRow P cap).size := by unfold bytesRow; simp
    have hh : (w.drew.alloc (.cells (bytesRow P cap) 5 ((bytesRow P cap).size, (bytesRow P cap).size + 1))).heap[w.heap.size]? = some (.cells (bytesRow P cap) 5 ((bytesRow P cap).size, (bytesRow P cap).size + 1)) := heap_alloc_new w.drew _
    refine ⟨(Array.getElem?_eq_some_iff.1 hh).1, fun j hj => ⟨?_, ?_⟩⟩
    · have hj2 : j < P.data.size := by simpa using hj
      have hcell : (bytesRow P cap)[j]? = some (.int .u8 (P.data.toList[j].toNat : Int)) := by
        unfold bytesRow
        rw [Array.getElem?_append_left (by simpa using hj2)]
        simp [Array.getElem?_eq_getElem hj2]
      simp only [World.cell?, hh]
      exact hcell
    · have hj2 : j < P.size := hj
      simp only [World.frozen?, hh]
      simp; omega
  · exact ((Below.refl w.heap.size w).drew).alloc (Nat.le_refl _) _
theorem Row.kept {w w' : World} {B : Nat} {l : List UInt8} (h : Row w B l) (hB : Below w.heap.size w w') : Row w' B l :=
  ⟨Nat.lt_of_lt_of_le h.1 hB.size, fun j hj => ⟨by rw [hB.cell (p := ⟨B, j, none⟩) h.1]; exact (h.2 j hj).1, by rw [hB.frozen (p := ⟨B, j, none⟩) h.1]; exact (h.2 j hj).2⟩⟩
theorem Row.conv {w : World} {B n cap : Nat} {l : List UInt8} (h : Row w B l) (hn : n = l.length) :
    (convert 22 9 (.slice (some ⟨B, 0, none⟩) n cap)).run Tryd.prog w = .ok (.string ⟨l.toArray⟩) w := by
  subst hn
  refine run_convert_bytes_back w 22 9 5 _ cap l Tryd.underlying22 Tryd.underlying5 Tryd.underlying9 ?_
  intro j hj
  have hplain : (⟨B, 0, none⟩ : Addr).add j = ⟨B, j, none⟩ := by unfold Addr.add; split <;> simp_all
  rw [hplain]; exact (h.2 j hj).1
theorem Row.set {w : World} {B : Nat} {l : List UInt8} (h : Row w B l) (k : Nat) (c : UInt8) : Row (w.setCell ⟨B, k, none⟩ (.int .u8 (c.toNat : Int))) B (l.set k c) := by
  refine ⟨by simpa using h.1, fun j hj => ⟨?_, ?_⟩⟩
  · have hj2 : j < l.length := by simpa using hj
    by_cases hjk : k = j
    · subst hjk
      have := World.cell?_setCell_same w ⟨B, k, none⟩ (.int .u8 (c.toNat : Int)) (h.2 k hj2).1
      simp [this]
    · rw [World.cell?_setCell_other w ⟨B, k, none⟩ ⟨B, j, none⟩ _ (by intro e; injection e; omega)]
      rw [List.getElem_set_ne hjk]
      exact (h.2 j hj2).1
  · have hj2 : j < l.length := by simpa using hj
    have := (h.2 j hj2).2
    simpa using this

theorem turn_byte (z : UInt8) (r : Nat) (hr : r < 255) : ∃ c : UInt8, bits .xor .u8 (z.toNat : Int) (1 + (r : Int)) = (c.toNat : Int) ∧ z ≠ c := by
  have hz := z.toNat_lt
  have hx := u8_xor_nat z.toNat (1 + r) hz (by omega)
  have e : ((1 + r : Nat) : Int) = 1 + (r : Int) := by omega
  rw [e] at hx
  have hlt : z.toNat ^^^ (1 + r) < 256 := Nat.xor_lt_two_pow (n := 8) hz (show 1 + r < 2 ^ 8 by omega)
  have hc : (UInt8.ofNat (z.toNat ^^^ (1 + r))).toNat = z.toNat ^^^ (1 + r) := by rw [UInt8.toNat_ofNat']; exact Nat.mod_eq_of_lt hlt
  refine ⟨UInt8.ofNat (z.toNat ^^^ (1 + r)), by rw [hx, hc], fun h => ?_⟩
  have h2 := congrArg UInt8.toNat h
  rw [hc] at h2
  have h3 := congrArg (fun x => z.toNat ^^^ x) h2
  simp [← Nat.xor_assoc] at h3
  omega
theorem unseal_at (s t : ByteArray) (b c : Int) (w : World) (hm : s.size ≤ 100000) (hg : GetNumW.Laid w) (h : UnsealW.openR s = (t, b, c)) :
    Calls Tryd.prog 20 #[.string s] w fun e w' => e = .returned (.agg #[.string t, .int .i64 b, .int .i64 c]) ∧ Below w.heap.size w w' := by
  refine (UnsealW.impl_any s w (by unfold maxLen; omega) hg).mono ?_
  rintro e w' ⟨rfl, hB⟩
  rw [h]
  exact ⟨rfl, hB⟩
theorem more_any (v : Int) (V : ByteArray) (hV : V.size ≤ 8000) :
    ∃ q : Int, (∀ w : World, Calls Tryd.prog 22 #[.int .i64 v, .string V] w fun e w' => e = .returned (.int .i64 q) ∧ w = w') ∧
      ∀ w : World, Calls Tryd.prog 23 #[.int .i64 v, .string V] w fun e w' => e = .returned (.int .i64 q) ∧ w = w' := by
  have hm : V.size ≤ maxLen := by unfold maxLen; omega
  by_cases h : v < 0 ∨ 4294967295 < v
  · exact ⟨0, fun w => CrcW.impl_CrcMore_no v V w hm (Or.inr h), fun w => CrcW.spec_CrcMore_no v V w hm (Or.inr h)⟩
  · obtain ⟨n, rfl⟩ : ∃ n : Nat, v = n := ⟨v.toNat, by omega⟩
    exact ⟨_, fun w => CrcW.impl_CrcMore n V w (by omega) hV, fun w => CrcW.spec_CrcMore n V w (by omega) hV⟩
theorem crc_cat (U V : ByteArray) : CrcM.crcC 0 (U ++ V).data.toList = CrcM.crcC (CrcM.crcC 0 U.data.toList) V.data.toList := by
  rw [TurnM.crc_more]; congr 1
theorem open_at (P Bt U : ByteArray) (k : Nat) (c z : UInt8) (hP : P.data.toList = SealW.sealL U) (hk : k < P.data.toList.length) (hz : P.data.toList[k] = z) (hc : z ≠ c) (hb : Bt.data.toList = P.data.toList.set k c) (h8 : P.size ≤ 8000) :
    UnsealW.openR Bt = (⟨#[]⟩, 0, 5) :=
  SealT.open_turned P Bt U.data.toList k c hP hk (fun e => hc (hz.symm.trans e)) hb h8
end Go.Proofs.YtcgaeblegiabjaaDoor.SealR
