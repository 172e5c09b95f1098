/- Texts of ours, laid together. -/
import Derived.Test.YtmbhmknfipdadaaGreatDoorProg
namespace Go.Proofs.YtmbhmknfipdadaaGreatDoor.BytM
theorem loop_eq (bs : ByteArray) : ∀ (n i : Nat) (r : List UInt8), bs.size - i = n → ByteArray.toList.loop bs i r = r.reverse ++ bs.data.toList.drop i := by
 intro n
 induction n with
 | zero =>
  intro i r h
  have hs : bs.data.size = bs.size := rfl
  rw [ByteArray.toList.loop.eq_1, if_neg (by omega), List.drop_of_length_le (by simp; omega), List.append_nil]
 | succ n ih =>
  intro i r h
  have hs : bs.data.size = bs.size := rfl
  have hi : i < bs.data.toList.length := by simp; omega
  rw [ByteArray.toList.loop.eq_1, if_pos (by omega), ih (i + 1) _ (by omega), List.drop_eq_getElem_cons hi]
  have hg : bs.get! i = bs.data.toList[i] := by
   have h1 : i < bs.data.size := by omega
   simp only [ByteArray.get!]
   rw [getElem!_pos bs.data i h1, Array.getElem_toList]
  simp [hg]
theorem toList_eq (bs : ByteArray) : bs.toList = bs.data.toList := by
 unfold ByteArray.toList
 rw [loop_eq bs _ 0 [] rfl]
 simp
theorem toList_inj {a b : ByteArray} (h : a.toList = b.toList) : a = b := by
 rw [toList_eq, toList_eq] at h
 cases a; cases b
 simp only at h
 rw [Array.toList_inj.1 h]
theorem isEmpty_iff (t : ByteArray) : t.toList.isEmpty = true ↔ t = ByteArray.empty := by
 constructor
 ·intro h
  exact toList_inj (by rw [List.isEmpty_iff.1 h, toList_eq]; rfl)
 ·intro h; subst h; rw [toList_eq]; rfl
end Go.Proofs.YtmbhmknfipdadaaGreatDoor.BytM
