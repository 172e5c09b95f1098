/- Texts of ours, laid together: DecImpl. -/
import Derived.Test.YtecopedjjfimoaaGreatDoorBd3
import Derived.Test.YtecopedjjfimoaaGreatDoorShelf
import Derived.WalkKit
import Derived.WalkSpells
import Derived.WalkLawsBesides
import Derived.RegionTactic
import Derived.BigRegion
import Derived.OpenShut
import Derived.Handy
import Derived.Lib.AppendIntMem
import Derived.Lib.SmallJoins
import Derived.Laws.Concat
/- The program writes the digits of a number. -/
namespace Go.Proofs.YtecopedjjfimoaaGreatDoor.DecI
open Go.RowKit
open DecM

theorem hide (x : ByteArray) : ∃ r : ByteArray, Hid (x = r) := ⟨x, show x = x from rfl⟩
theorem ret_str {a b : ByteArray} (h : a = b) : Ending.returned (.string a) = .returned (.string b) := by rw [h]
/-- the library's table of powers -/
def Env (w : World) : Prop := Lib.TabIs Tryz.prog w "internal/strconv.uint64pow10" .u64 Lib.pow10Tab
theorem Env.on {w w' : World} (h : Env w) (hB : Below w.heap.size w w') : Env w' :=
  Joins.tab_stays (g := 2) (by kernel_rfl) h hB (Nat.le_refl _)

theorem digits_small (n : Int) (w : World) (h0 : 0 ≤ n) (h1 : n < 100) :
    Calls Tryz.prog 88 #[.int .i64 n] w fun e w' => e = .returned (.string ⟨(Lib.decDigits n.toNat).toArray⟩) ∧ w' = w := by
  obtain ⟨m, rfl⟩ : ∃ m : Nat, n = m := ⟨n.toNat, by omega⟩
  rw [Int.toNat_natCast]
  obtain ⟨r, hr⟩ := hide (⟨(Lib.decDigits m).toArray⟩ : ByteArray)
  rw [hr.out]
  go_enter Tryz.func88, Tryz.ntmps88
  go_wp2_with (go_at_call 122; refine (Tryz.strconv_FormatInt_10_small m (by omega) _).mono ?_; rintro e w' ⟨rfl, rfl⟩; rw [hr.out])
  go_ret
  exact ⟨rfl, rfl⟩
theorem digits_in (n : Int) (w : World) (h0 : -9223372036854775808 ≤ n) (h1 : n ≤ 9223372036854775807) (hE : Env w) :
    Calls Tryz.prog 88 #[.int .i64 n] w fun e w' => e = .returned (.string ⟨(Lib.itoa n).toArray⟩) ∧ Below w.heap.size w w' := by
  obtain ⟨r, hr⟩ := hide (⟨(Lib.itoa n).toArray⟩ : ByteArray)
  rw [hr.out]
  have HE : Hid (Env w) := hE
  clear hE
  go_enter Tryz.func88, Tryz.ntmps88
  go_wp2_with fail
  refine (Tryz.strconv_FormatInt_10 n h0 h1 _ HE.out).mono ?_
  rintro e w1 ⟨rfl, k, os, hw⟩
  rw [hr.out]
  have HB : Hid (Below w.heap.size w w1) := by rw [hw]; exact Lib.below_grow _ w (Nat.le_refl _) k os
  clear hw
  go_wp2
  go_ret
  exact ⟨rfl, HB.out⟩
end Go.Proofs.YtecopedjjfimoaaGreatDoor.DecI
