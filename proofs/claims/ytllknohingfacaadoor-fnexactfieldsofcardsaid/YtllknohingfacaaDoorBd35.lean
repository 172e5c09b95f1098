/- Texts of ours, laid together: ItmMk. -/
import Derived.Test.YtllknohingfacaaDoorBd28
import Derived.Test.YtllknohingfacaaDoorBd29
/- Marks that the laws write into an item's own parts, and look for. -/
namespace Go.Proofs.YtllknohingfacaaDoor.CpyL
open Go.RowKit
open PrtW ItmW FldK

theorem boxed (w : World) (k : Int) (s : ByteArray) (ty lo hi : Int) (t : ByteArray) (a : Option Addr) (n cap : Nat) (hd : Bool) :
    Below w.heap.size w (w.alloc (.cells #[.int .i64 k, .string s, .int .i64 ty, .int .i64 lo, .int .i64 hi, .string t, .slice a n cap, .bool hd] 26)) := (Below.refl _ _).alloc (Nat.le_refl _) _
set_option maxHeartbeats 1000000 in
theorem mark_item (k : Int) (s : ByteArray) (ty lo hi : Int) (t : ByteArray) (a : Option Addr) (n cap base : Nat) (hd : Bool) (xs : List Value) (w : World) (hown : w.ownsRow base 61 3 (.slice a n cap) n xs) (hl : n ≤ 1048576) :
    Calls Tryd.prog 12 #[.agg #[.int .i64 k, .string s, .int .i64 ty, .int .i64 lo, .int .i64 hi, .string t, .slice a n cap, .bool hd], .int .i64 1] w fun e w' => e = .returned (.int .i64 (1 + 3 * (n : Int))) ∧ w.grownBy w' (Value.slice a n cap).ownBlock ∧ Mkd w' a n := by
  have HO := hid (hown.alloc (.cells #[.int .i64 k, .string s, .int .i64 ty, .int .i64 lo, .int .i64 hi, .string t, .slice a n cap, .bool hd] 26))
  clear hown
  go_enter Tryd.func12, Tryd.ntmps12
  go_wp2_with fail
  refine (mark_row base (.slice a n cap) n xs _ HO.out hl).mono ?_
  rintro e w1 ⟨rfl, hg1, hm1⟩
  have HG : Hid (w.grownBy w1 (Value.slice a n cap).ownBlock) := ⟨hg1.os, hg1.tape, hg1.output, by have := hg1.size; simp at this; omega, fun k hk hne => (hg1.block k (by simp; omega) hne).trans (Below.heap_alloc _ _ _ hk)⟩
  have HM := hid (hm1 _ _ _ rfl)
  clear hg1 hm1 HO
  go_wp2_with fail
  go_ret
  exact ⟨rfl, HG.out, HM.out⟩
set_option maxHeartbeats 1000000 in
theorem held_item (k : Int) (s : ByteArray) (ty lo hi : Int) (t : ByteArray) (a : Option Addr) (n cap : Nat) (hd : Bool) (w : World) (hM : Mkd w a n) :
    Calls Tryd.prog 13 #[.agg #[.int .i64 k, .string s, .int .i64 ty, .int .i64 lo, .int .i64 hi, .string t, .slice a n cap, .bool hd], .int .i64 1] w fun e w' => e = .returned (.int .i64 (1 + 3 * (n : Int))) ∧ Below w.heap.size w w' := by
  have HM := hid (hM.on (boxed w k s ty lo hi t a n cap hd))
  have hl := hM.1
  clear hM
  go_enter Tryd.func13, Tryd.ntmps13
  go_wp2_with fail
  refine (held_row a n cap _ HM.out).mono ?_
  rintro e w1 ⟨rfl, hB1⟩
  have HB1 : Hid (Below w.heap.size w w1) := (boxed w k s ty lo hi t a n cap hd).trans (hB1.mono (by simp))
  clear hB1 HM
  have hm0 : ¬ (1 + 3 * (n : Int)) < 0 := by omega
  go_wp2_with fail
  go_ret
  exact ⟨rfl, HB1.out⟩
end Go.Proofs.YtllknohingfacaaDoor.CpyL
