/- Texts of ours, laid together: ItmIZ. -/
import Derived.Test.YtaofdckdmffaiaaGreatDoorBd28
import Derived.Test.YtaofdckdmffaiaaGreatDoorBd29
import Derived.Test.YtaofdckdmffaiaaGreatDoorBd30
import Derived.Test.YtaofdckdmffaiaaGreatDoorBd31
/- impl_item, put together. -/
namespace Go.Proofs.YtaofdckdmffaiaaGreatDoor.ItmI
open Go.RowKit
open PrtW PrtM NameW ItmW ValM ItmM
open PrtI (EnvS between_any)

set_option maxHeartbeats 1600000 in
theorem impl_item (k : Int) (s : ByteArray) (ty lo hi : Int) (t : ByteArray) (a : Option Addr) (cap : Nat) (ps : List Pt) (hd : Bool) (w : World) (hP : Parts w a ps) (hcap : ps.length ≤ cap) (hs : s.size ≤ maxLen) (ht : t.size ≤ maxLen) (hE : EnvI w) :
    Calls Tryz.prog 76 #[.agg #[.int .i64 k, .string s, .int .i64 ty, .int .i64 lo, .int .i64 hi, .string t, .slice a ps.length cap, .bool hd]] w fun e w' => e = .returned (.bool (itemB (k, s, ty, lo, hi, t, ps, hd))) ∧ Below w.heap.size w w' := by
  by_cases hk : 1 ≤ k ∧ k ≤ 6
  case neg =>
    rw [item_out hk]
    have hin : Hid (inB k 1 6 = false) := decide_eq_false hk
    clear hk hP hcap hs ht hE
    go_enter Tryz.func76, Tryz.ntmps76
    go_wp2_with (first | (go_at_call 90; refine (between_any _ _ _ _).mono ?_; rintro e w' ⟨rfl, rfl⟩; rw [hin.out]))
    go_ret
    exact ⟨rfl, by go_grown⟩
  obtain ⟨j, rfl⟩ : ∃ j : Nat, k = j := ⟨k.toNat, by omega⟩
  have hj : 1 ≤ j ∧ j ≤ 6 := by omega
  rw [tab_item j hj.1 hj.2]
  cases hr : asF (namedO j) (nameB s) s.toList.isEmpty
  · exact item_A j hj s ty lo hi t a cap ps hd w hP hcap hs ht hE hr
  · cases e1 : (ty == 0)
    · exact item_B j hj s ty lo hi t a cap ps hd w hP hcap hs ht hE e1 hr
    · cases e2 : (lo == 0)
      · exact item_C j hj s ty lo hi t a cap ps hd w hP hcap hs ht hE e1 e2 hr
      · exact item_D j hj s ty lo hi t a cap ps hd w hP hcap hs ht hE e1 e2 hr
end Go.Proofs.YtaofdckdmffaiaaGreatDoor.ItmI
