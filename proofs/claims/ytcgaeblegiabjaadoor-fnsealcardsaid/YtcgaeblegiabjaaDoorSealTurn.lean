/- A seal with one byte turned is no seal of all but its last four bytes. -/
import Derived.Test.YtcgaeblegiabjaaDoorTurnMath
import Derived.Test.YtcgaeblegiabjaaDoorUnsealImpl
namespace Go.Proofs.YtcgaeblegiabjaaDoor.SealT
open Go.RowKit

theorem four_inj (a b : Nat) (ha : a < 4294967296) (hb : b < 4294967296) (h : SealW.fourL a = SealW.fourL b) : a = b := by
  unfold SealW.fourL at h
  simp only [List.cons.injEq, and_true] at h
  obtain ⟨h0, h1, h2, h3⟩ := h
  have e : ∀ x y : Nat, UInt8.ofNat (x % 256) = UInt8.ofNat (y % 256) → x % 256 = y % 256 := fun x y hxy => by
    have := congrArg UInt8.toNat hxy; simpa using this
  have g0 := e _ _ h0
  have g1 := e _ _ h1
  have g2 := e _ _ h2
  have g3 := e _ _ h3
  omega
theorem app_left (a b : List UInt8) (j : Nat) (h : j < a.length) (h' : j < (a ++ b).length) : (a ++ b)[j] = a[j] := by rw [List.getElem_append_left h]
theorem app_right (a b : List UInt8) (j : Nat) (h : a.length ≤ j) (h' : j < (a ++ b).length) (h2 : j - a.length < b.length) : (a ++ b)[j] = b[j - a.length] := by rw [List.getElem_append_right h]
def sealT (t : List UInt8) : List UInt8 := t ++ SealW.fourL (CrcM.crcC 0 t)
theorem seal_len (t : List UInt8) : (sealT t).length = t.length + 4 := by unfold sealT; rw [List.length_append]; rfl
theorem turned (t : List UInt8) (j : Nat) (c : UInt8) (hj : j < (sealT t).length) (hc : (sealT t)[j] ≠ c) :
    sealT (((sealT t).set j c).take ((sealT t).length - 4)) ≠ (sealT t).set j c := by
  intro h
  have hl := seal_len t
  rw [hl] at h hj
  rw [show t.length + 4 - 4 = t.length by omega] at h
  by_cases hi : j < t.length
  · have e1 : (sealT t).set j c = t.set j c ++ SealW.fourL (CrcM.crcC 0 t) := by unfold sealT; rw [List.set_append_left _ _ hi]
    have e2 : (t.set j c ++ SealW.fourL (CrcM.crcC 0 t)).take t.length = t.set j c := by
      rw [List.take_append_of_le_length (by simp)]; exact List.take_of_length_le (by simp)
    rw [e1, e2] at h
    unfold sealT at h
    have h4 := four_inj _ _ (CrcM.crcC_lt _ _) (CrcM.crcC_lt _ _) (List.append_cancel_left h)
    have hcc : t[j] ≠ c := by
      intro e; apply hc
      exact (app_left t (SealW.fourL (CrcM.crcC 0 t)) j hi _).trans e
    exact TurnM.crc_turn t j hi c hcc h4
  · have hj2 : j - t.length < (SealW.fourL (CrcM.crcC 0 t)).length := by show j - t.length < 4; omega
    have e1 : (sealT t).set j c = t ++ (SealW.fourL (CrcM.crcC 0 t)).set (j - t.length) c := by unfold sealT; rw [List.set_append_right _ _ (by omega)]
    have e2 : (t ++ (SealW.fourL (CrcM.crcC 0 t)).set (j - t.length) c).take t.length = t := List.take_left
    rw [e1, e2] at h
    unfold sealT at h
    have h4 := List.append_cancel_left h
    apply hc
    have h5 : (SealW.fourL (CrcM.crcC 0 t))[j - t.length]'hj2 = c := by
      have : ((SealW.fourL (CrcM.crcC 0 t)).set (j - t.length) c)[j - t.length]'(by simpa using hj2) = c := List.getElem_set_self _
      rw [← this]; congr 1
    exact (app_right t (SealW.fourL (CrcM.crcC 0 t)) j (Nat.le_of_not_lt hi) _ hj2).trans h5
/-- of a turned seal Unseal tells the fault in the sum -/
theorem open_turned (s b : ByteArray) (t : List UInt8) (j : Nat) (c : UInt8) (hs : s.data.toList = sealT t) (hj : j < s.size) (hc : s[j] ≠ c) (hb : b.data.toList = s.data.toList.set j c) (h8 : s.size ≤ 8000) :
    UnsealW.openR b = (⟨#[]⟩, 0, 5) := by
  have hsz : s.data.toList.length = s.size := rfl
  have hbz : b.size = s.size := by
    have : b.data.toList.length = s.size := by rw [hb, List.length_set, hsz]
    exact this
  have hl := seal_len t
  rw [← hs, hsz] at hl
  refine UnsealW.open_sum b (by omega) (by omega) ?_
  unfold UnsealW.okB
  rw [beq_eq_false_iff_ne, ByteArray.toList_eq]
  have e : SealW.sealL (b.extract 0 (b.size - 4)) = sealT (b.data.toList.take (b.size - 4)) := by
    unfold SealW.sealL sealT
    have e1 : (b.extract 0 (b.size - 4)).data.toList = b.data.toList.take (b.size - 4) := by simp
    rw [e1]
  rw [e, hb, hbz]
  have hj2 : j < (sealT t).length := by rw [← hs, hsz]; exact hj
  have hc2 : (sealT t)[j]'hj2 ≠ c := by
    have : (sealT t)[j]'hj2 = s[j] := by
      have : s.data.toList[j]'(by rw [hsz]; exact hj) = s[j] := rfl
      rw [← this]; congr 1; exact hs.symm
    rw [this]; exact hc
  have := turned t j c hj2 hc2
  have hst : (sealT t).length = s.size := by rw [← hs, hsz]
  rw [hst] at this
  rw [hs]; exact this
theorem open_seal (s u : ByteArray) (hs : s.data.toList = SealW.sealL u) (h8 : s.size ≤ 8000) : UnsealW.openR s = (u, 0, 0) := by
  have hsz : s.data.toList.length = s.size := rfl
  have hl : s.size = u.size + 4 := by
    rw [← hsz, hs]; unfold SealW.sealL; rw [List.length_append]; rfl
  have e1 : (s.extract 0 (s.size - 4)).data.toList = u.data.toList := by
    have e2 : (s.extract 0 (s.size - 4)).data.toList = s.data.toList.take (s.size - 4) := by simp
    rw [e2, hs, hl]
    unfold SealW.sealL
    rw [show u.size + 4 - 4 = u.data.toList.length by show _ = u.size; omega]
    exact List.take_left
  have e3 : s.extract 0 (s.size - 4) = u := by apply ByteArray.ext; apply Array.toList_inj.1; exact e1
  have := UnsealW.open_ok s (by omega) (by omega) (by unfold UnsealW.okB; rw [e3, beq_iff_eq, ByteArray.toList_eq, hs])
  rw [this]; unfold UnsealW.inner; rw [e3]
end Go.Proofs.YtcgaeblegiabjaaDoor.SealT
