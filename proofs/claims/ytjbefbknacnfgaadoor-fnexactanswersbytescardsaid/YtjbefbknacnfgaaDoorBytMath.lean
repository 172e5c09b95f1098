/- The bytes of answers. -/
import Derived.Test.YtjbefbknacnfgaaDoorAnsMath
import Derived.Test.YtjbefbknacnfgaaDoorRdText
import Derived.Test.YtjbefbknacnfgaaDoorTextWalks
namespace Go.Proofs.YtjbefbknacnfgaaDoor.AnsW
open Go.RowKit
open ValW ValK NameW

/-- the bytes of one answer -/
def ansL (p : An) : List UInt8 := TextW.textL (nm p) ++ TextW.textL ⟨(TxtM.textL (kd p) (nu p) (cd p) (tx p)).toArray⟩
/-- the bytes up to the k-th answer -/
def bytesTo (ls : List An) (k : Nat) : List UInt8 := NumM.putL ls.length ++ (ls.take k).flatMap ansL
def bytesB (ls : List An) : ByteArray := if rightA ls = true then ⟨(bytesTo ls ls.length).toArray⟩ else ByteArray.empty
theorem bytesTo_zero (ls : List An) : bytesTo ls 0 = NumM.putL ls.length := by simp [bytesTo]
theorem bytesTo_succ (ls : List An) (k : Nat) (h : k < ls.length) : bytesTo ls (k + 1) = bytesTo ls k ++ ansL (ls.getD k an0) := by
  have e : ls.take (k + 1) = ls.take k ++ [ls.getD k an0] := by
    rw [List.take_succ_eq_append_getElem h]; simp [List.getD, List.getElem?_eq_getElem h]
  unfold bytesTo
  rw [e, List.flatMap_append]
  simp
theorem bytesB_no {ls : List An} (h : rightA ls = false) : bytesB ls = ByteArray.empty := by unfold bytesB; rw [h]; rfl
theorem bytesB_yes {ls : List An} (h : rightA ls = true) : bytesB ls = ⟨(bytesTo ls ls.length).toArray⟩ := by unfold bytesB; rw [if_pos h]
theorem textL_len (s : ByteArray) : (TextW.textL s).length ≤ 10 + s.size := by
  have := NumM.putL_length s.size
  unfold TextW.textL
  simp
  omega
theorem answered_right {k n : Int} {zs : List Int} {t : ByteArray} (h : answeredB k n zs t = true) : ValM.right k n zs t = true := by
  unfold answeredB at h; simp at h; exact h.1
theorem name_size {s : ByteArray} (h : nameB s = true) : s.size ≤ 20 := (of_decide_eq_true h).2.1
theorem ansL_len {ls : List An} (h : rightA ls = true) {k : Nat} (hk : k < ls.length) : (ansL (ls.getD k an0)).length ≤ 140 := by
  obtain ⟨h1, _, h3⟩ := okA_parts ((rightA_at h).2 k hk)
  have a := textL_len (nm (ls.getD k an0))
  have b := textL_len ⟨(TxtM.textL (kd (ls.getD k an0)) (nu (ls.getD k an0)) (cd (ls.getD k an0)) (tx (ls.getD k an0))).toArray⟩
  have c := name_size h1
  have d := RdM.text_len (answered_right h3)
  have e : (⟨(TxtM.textL (kd (ls.getD k an0)) (nu (ls.getD k an0)) (cd (ls.getD k an0)) (tx (ls.getD k an0))).toArray⟩ : ByteArray).size = (TxtM.textL (kd (ls.getD k an0)) (nu (ls.getD k an0)) (cd (ls.getD k an0)) (tx (ls.getD k an0))).length := rfl
  unfold ansL
  rw [List.length_append]
  omega
theorem bytesTo_len {ls : List An} (h : rightA ls = true) : ∀ k, k ≤ ls.length → (bytesTo ls k).length ≤ 10 + 140 * k
  | 0, _ => by rw [bytesTo_zero]; exact NumM.putL_length _
  | k + 1, hk => by
    have a := bytesTo_len h k (by omega)
    have b := ansL_len h (k := k) (by omega)
    rw [bytesTo_succ ls k (by omega), List.length_append]
    omega
end Go.Proofs.YtjbefbknacnfgaaDoor.AnsW
