/- What Parts of the program and of the model reckon, inside their faces; the world stays as it is, but for what was drawn. -/
import Derived.Test.YthplmgjnlhcapaaFixTop
import Derived.Test.YthplmgjnlhcapaaFixMath
import Derived.Deep.QuietTactic
import Derived.BigQuiet
namespace Go.Proofs.Ythplmgjnlhcapaa.FixP
open Go.RowKit
open FixS FixF FixH FixC FixM

set_option maxRecDepth 10000 in
set_option maxHeartbeats 1600000 in
theorem rounded_any (down left b mode : Int) (w : World) (h1 : -10000000000000000 ≤ down ∧ down ≤ 10000000000000000) (h2 : 0 ≤ left ∧ left ≤ 10000000000000000) (h3 : 0 ≤ b ∧ b ≤ 10000000000000000) (hm : 0 ≤ mode ∧ mode ≤ 2) :
    Calls Try.prog 80 #[.int .i64 down, .int .i64 left, .int .i64 b, .int .i64 mode] w fun e w' => e = .returned (.int .i64 (roundR down left b mode)) ∧ w' = w := by
  rcases (by omega : mode = 0 ∨ mode = 1 ∨ mode = 2) with rfl | rfl | rfl
  · rw [round_no (by omega)]
    go_enter Try.func80, Try.ntmps80
    go_wp2
    go_ret
    exact ⟨rfl, rfl⟩
  · by_cases hl : 0 < left
    · rw [round_up (by omega)]
      go_enter Try.func80, Try.ntmps80
      go_wp2
      go_ret
      exact ⟨rfl, rfl⟩
    · rw [round_no (by omega)]
      go_enter Try.func80, Try.ntmps80
      go_wp2
      go_ret
      exact ⟨rfl, rfl⟩
  · by_cases hl : b - left ≤ left
    · rw [round_up (by omega)]
      go_enter Try.func80, Try.ntmps80
      go_wp2
      go_ret
      exact ⟨rfl, rfl⟩
    · rw [round_no (by omega)]
      go_enter Try.func80, Try.ntmps80
      go_wp2
      go_ret
      exact ⟨rfl, rfl⟩

set_option maxRecDepth 10000 in
set_option maxHeartbeats 1600000 in
theorem quotient_any (a b mode : Int) (w : World) (ha : -1000000000000000 ≤ a ∧ a ≤ 1000000000000000) (hb : 1 ≤ b ∧ b ≤ 1000000000000000) (hm : 0 ≤ mode ∧ mode ≤ 2) :
    Calls Try.prog 55 #[.int .i64 a, .int .i64 b, .int .i64 mode] w fun e w' => e = .returned (.int .i64 (partsQ a b mode)) ∧ Below w.heap.size w w' := by
  have hQ := quot_bounds a b 1000000000000000 hb.1 (by omega) ha.1 ha.2
  have r0 := Int.emod_nonneg a (b := b) (by omega)
  have r1 := Int.emod_lt_of_pos a (b := b) (by omega)
  have hf := floor_of a b hb.1
  unfold partsQ
  have hb0 : ¬ b = 0 := by omega
  generalize a / b = q at *
  generalize a % b = r at *
  by_cases h : a.tmod b < 0
  · obtain ⟨e1, e2⟩ := hf.1 h
    have hd : a.tdiv b = q + 1 := by omega
    have hl : a.tmod b = r - b := by omega
    have hwd : IntKind.i64.wrap (q + 1) = q + 1 := by rw [IntKind.wrap_i64]; omega
    have hwl : IntKind.i64.wrap (r - b) = r - b := by rw [IntKind.wrap_i64]; omega
    have hlt : r - b < 0 := by omega
    clear hf h e1 e2
    go_enter Try.func55, Try.ntmps55
    go_wp2_with fail
    go_quiet (fail)
    clear hd hl hwd hwl
    go_wp2_with (first | (go_at_call 80; (try simp only [Int.add_sub_cancel, Int.sub_add_cancel]); refine (rounded_any q r b mode _ (by omega) (by omega) (by omega) hm).mono ?_; rintro e w' ⟨rfl, rfl⟩))
    go_ret
    exact ⟨rfl, below_drewN' _ _ _⟩
  · obtain ⟨hd, hl⟩ := hf.2 h
    have hwd : IntKind.i64.wrap q = q := by rw [IntKind.wrap_i64]; omega
    have hwl : IntKind.i64.wrap r = r := by rw [IntKind.wrap_i64]; omega
    have hlt : ¬ r < 0 := by omega
    clear hf h
    go_enter Try.func55, Try.ntmps55
    go_wp2_with fail
    go_quiet (fail)
    clear hd hl hwd hwl
    go_wp2_with (first | (go_at_call 80; refine (rounded_any q r b mode _ (by omega) (by omega) (by omega) hm).mono ?_; rintro e w' ⟨rfl, rfl⟩))
    go_ret
    exact ⟨rfl, below_drewN' _ _ _⟩

set_option maxRecDepth 10000 in
set_option maxHeartbeats 1600000 in
theorem sparts_any (a b mode : Int) (w : World) (ha : -1000000000000000 ≤ a ∧ a ≤ 1000000000000000) (hb : 1 ≤ b ∧ b ≤ 1000000000000000) (hm : 0 ≤ mode ∧ mode ≤ 2) :
    Calls Try.prog 63 #[.int .i64 a, .int .i64 b, .int .i64 mode] w fun e w' => e = .returned (.int .i64 (partsQ a b mode)) ∧ w' = w := by
  have hQ := quot_bounds a b 1000000000000000 hb.1 (by omega) ha.1 ha.2
  have r0 := Int.emod_nonneg a (b := b) (by omega)
  have r1 := Int.emod_lt_of_pos a (b := b) (by omega)
  have hf := floor_of a b hb.1
  unfold partsQ
  have hb0 : ¬ b = 0 := by omega
  generalize a / b = q at *
  generalize a % b = r at *
  by_cases h : a.tmod b < 0
  · obtain ⟨e1, e2⟩ := hf.1 h
    have hd : a.tdiv b = q + 1 := by omega
    have hl : a.tmod b = r - b := by omega
    have hwd : IntKind.i64.wrap (q + 1) = q + 1 := by rw [IntKind.wrap_i64]; omega
    have hwl : IntKind.i64.wrap (r - b) = r - b := by rw [IntKind.wrap_i64]; omega
    have hlt : r - b < 0 := by omega
    clear hf h e1 e2
    rcases (by omega : mode = 0 ∨ mode = 1 ∨ mode = 2) with rfl | rfl | rfl
    · rw [round_no (by omega)]
      go_enter Try.func63, Try.ntmps63
      go_wp2
      go_ret
      exact ⟨by first | rfl | go_num, rfl⟩
    · by_cases hp : 0 < r
      · rw [round_up (by omega)]
        go_enter Try.func63, Try.ntmps63
        go_wp2
        go_ret
        exact ⟨by first | rfl | go_num, rfl⟩
      · rw [round_no (by omega)]
        go_enter Try.func63, Try.ntmps63
        go_wp2
        go_ret
        exact ⟨by first | rfl | go_num, rfl⟩
    · by_cases hp : b - r ≤ r
      · rw [round_up (by omega)]
        go_enter Try.func63, Try.ntmps63
        go_wp2
        go_ret
        exact ⟨by first | rfl | go_num, rfl⟩
      · rw [round_no (by omega)]
        go_enter Try.func63, Try.ntmps63
        go_wp2
        go_ret
        exact ⟨by first | rfl | go_num, rfl⟩
  · obtain ⟨hd, hl⟩ := hf.2 h
    have hwd : IntKind.i64.wrap q = q := by rw [IntKind.wrap_i64]; omega
    have hwl : IntKind.i64.wrap r = r := by rw [IntKind.wrap_i64]; omega
    have hlt : ¬ r < 0 := by omega
    clear hf h
    rcases (by omega : mode = 0 ∨ mode = 1 ∨ mode = 2) with rfl | rfl | rfl
    · rw [round_no (by omega)]
      go_enter Try.func63, Try.ntmps63
      go_wp2
      go_ret
      exact ⟨rfl, rfl⟩
    · by_cases hp : 0 < r
      · rw [round_up (by omega)]
        go_enter Try.func63, Try.ntmps63
        go_wp2
        go_ret
        exact ⟨rfl, rfl⟩
      · rw [round_no (by omega)]
        go_enter Try.func63, Try.ntmps63
        go_wp2
        go_ret
        exact ⟨rfl, rfl⟩
    · by_cases hp : b - r ≤ r
      · rw [round_up (by omega)]
        go_enter Try.func63, Try.ntmps63
        go_wp2
        go_ret
        exact ⟨rfl, rfl⟩
      · rw [round_no (by omega)]
        go_enter Try.func63, Try.ntmps63
        go_wp2
        go_ret
        exact ⟨rfl, rfl⟩

theorem mode_any (n : Int) (w : World) :
    Calls Try.prog 62 #[.int .i64 n] w fun e w' => e = .returned (.bool (inB n 0 2)) ∧ w' = w := by
  go_enter Try.func62, Try.ntmps62
  go_wp2_with (first | (go_at_call 69; refine (is_any _ _ _ _).mono ?_; rintro e w' ⟨rfl, rfl⟩))
  go_ret
  exact ⟨rfl, rfl⟩
end Go.Proofs.Ythplmgjnlhcapaa.FixP
