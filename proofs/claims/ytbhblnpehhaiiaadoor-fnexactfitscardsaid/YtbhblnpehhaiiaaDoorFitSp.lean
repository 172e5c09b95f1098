/- Which values fit, by the model. -/
import Derived.Test.YtbhblnpehhaiiaaDoorFitMath
import Derived.Test.YtbhblnpehhaiiaaDoorValRightS
import Derived.RegionTactic
namespace Go.Proofs.YtbhblnpehhaiiaaDoor.FitS
open Go.RowKit
open PrtW PrtM ItmW ItmM ValW FitW

set_option maxRecDepth 10000 in
set_option maxHeartbeats 3200000 in
theorem spec_fits_in (k : Int) (s : ByteArray) (ty lo hi : Int) (t : ByteArray) (a : Option Addr) (len cap : Nat) (hd : Bool) (vk vn : Int) (va : Option Addr) (vc : Nat) (zs : List Int) (vt : ByteArray) (w : World) (hc : Codes w va zs) :
    Calls Tryd.prog 46 #[.agg #[.int .i64 k, .string s, .int .i64 ty, .int .i64 lo, .int .i64 hi, .string t, .slice a len cap, .bool hd], av vk vn va zs.length vc vt] w fun e w' => e = .returned (.bool (fitB ty lo hi vk vn zs vt)) ∧ Below w.heap.size w w' := by
  have HC := hid hc
  have hzl := hc.1
  clear hc
  by_cases h5 : vk = 5
  · subst h5
    have e : fitB ty lo hi 5 vn zs vt = true := rfl
    rw [e]
    go_enter Tryd.func46, Tryd.ntmps46
    go_wp2
    go_ret
    exact ⟨rfl, by go_grown⟩
  have e5 : (vk == 5) = false := by simp [h5]
  by_cases h6 : vk = 6
  · subst h6
    have e : fitB ty lo hi 6 vn zs vt = true := rfl
    rw [e]
    go_enter Tryd.func46, Tryd.ntmps46
    go_wp2
    go_ret
    exact ⟨rfl, by go_grown⟩
  have e6 : (vk == 6) = false := by simp [h6]
  by_cases h1 : vk = 1
  · subst h1
    have e : fitB ty lo hi 1 vn zs vt = ((ty == 1) && inB vn lo hi) := rfl
    rw [e]
    cases et : (ty == 1)
    · go_enter Tryd.func46, Tryd.ntmps46
      go_wp2
      go_ret
      exact ⟨rfl, by go_grown⟩
    · rw [Bool.true_and]
      go_enter Tryd.func46, Tryd.ntmps46
      go_wp2_with (first | (go_at_call 64; refine (PrtS.is_any _ _ _ _).mono ?_; rintro e w' ⟨rfl, rfl⟩))
      go_ret
      exact ⟨rfl, by go_grown⟩
  have e1 : (vk == 1) = false := by simp [h1]
  by_cases h2 : vk = 2
  · subst h2
    have e : fitB ty lo hi 2 vn zs vt = ((ty == 2) && decide (vn ≤ hi)) := rfl
    rw [e]
    cases et : (ty == 2)
    all_goals
      go_enter Tryd.func46, Tryd.ntmps46
      go_wp2
      go_ret
      exact ⟨rfl, by go_grown⟩
  have e2 : (vk == 2) = false := by simp [h2]
  by_cases h3 : vk = 3
  · subst h3
    have e : fitB ty lo hi 3 vn zs vt = ((ty == 3) && ((((zs.length : Nat) : Int) == 0) || decide (lastI zs ≤ hi))) := rfl
    rw [e]
    cases et : (ty == 3)
    · go_enter Tryd.func46, Tryd.ntmps46
      go_wp2_with fail
      go_region
      all_goals
        go_wp2_with fail
        go_ret
        exact ⟨rfl, by go_grown⟩
    · rw [Bool.true_and]
      rcases Nat.eq_zero_or_pos zs.length with hz | hz
      · obtain rfl := List.length_eq_zero_iff.1 hz
        go_enter Tryd.func46, Tryd.ntmps46
        go_wp2_with fail
        go_region
        all_goals
          go_wp2_with fail
          go_ret
          exact ⟨rfl, by go_grown⟩
      · obtain ⟨b, o, rfl, hb, hcs⟩ := HC.out.2 hz
        obtain ⟨m, hm⟩ : ∃ m, zs.length = m + 1 := ⟨zs.length - 1, by omega⟩
        have hcm := hcs m (by omega)
        have el : lastI zs = zs.getD m 0 := by unfold lastI; rw [hm]; rfl
        rw [el, hm]
        rw [hm] at hzl
        generalize zs.getD m 0 = lz at hcm
        have en : ((((m + 1 : Nat) : Int)) == 0) = false := by simp; omega
        have en2 : ((m : Int) + 1 == 0) = false := by simp; omega
        rw [en, Bool.false_or]
        clear hcs hz el HC
        go_enter Tryd.func46, Tryd.ntmps46
        go_wp2_with fail
        go_region
        all_goals
          go_wp2_with fail
          go_ret
          exact ⟨rfl, by go_grown⟩
  have e3 : (vk == 3) = false := by simp [h3]
  by_cases h4 : vk = 4
  · subst h4
    have e : fitB ty lo hi 4 vn zs vt = ((ty == 4) && decide ((vt.size : Int) ≤ hi)) := rfl
    rw [e]
    cases et : (ty == 4)
    all_goals
      go_enter Tryd.func46, Tryd.ntmps46
      go_wp2
      go_ret
      exact ⟨rfl, by go_grown⟩
  have e4 : (vk == 4) = false := by simp [h4]
  have e : fitB ty lo hi vk vn zs vt = false := by unfold fitB; simp only [h1, h2, h3, h4, h5, h6, if_false, or_self]
  rw [e]
  go_enter Tryd.func46, Tryd.ntmps46
  go_wp2
  go_ret
  exact ⟨rfl, by go_grown⟩
end Go.Proofs.YtbhblnpehhaiiaaDoor.FitS
