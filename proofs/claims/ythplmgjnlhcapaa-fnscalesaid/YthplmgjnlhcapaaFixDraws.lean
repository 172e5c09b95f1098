/- The draws of promises 3, 4 and 5: bounds alone. -/
import Derived.Test.YthplmgjnlhcapaaDrawCore
import Derived.Deep.RegionWith
namespace Go.Proofs.Ythplmgjnlhcapaa.DrawW
open Go.RowKit

def somes : List Int := [-1000000000000000, 1000000000000000, 1000000000000001, -1000000000000001, 0]
theorem somes_in : ∀ v ∈ somes, -9223372036854775808 ≤ v ∧ v ≤ 9223372036854775807 := by decide
theorem somes_mem : ∀ r, r < 5 → somes.getD r 0 ∈ somes := by decide
theorem some_cell (r : Nat) (h : r < 5) : (#[Value.int IntKind.i64 (-1000000000000000), Value.int IntKind.i64 1000000000000000, Value.int IntKind.i64 1000000000000001, Value.int IntKind.i64 (-1000000000000001), Value.int IntKind.i64 0] : Array Value)[r]? =
    some (.int .i64 (somes.getD r 0)) := by
  match r, h with
  | 0, _ => rfl
  | 1, _ => rfl
  | 2, _ => rfl
  | 3, _ => rfl
  | 4, _ => rfl

set_option maxRecDepth 10000 in
set_option maxHeartbeats 1000000 in
theorem some_any (B : Nat) (w : World) (a : Option Addr) (len cap : Nat) (hd : Dr w B a len cap) :
    Calls Try.prog 44 #[.pointer (some ⟨B, 0, none⟩)] w fun e w' =>
      ∃ v : Int, e = .returned (.int .i64 v) ∧ (-9223372036854775808 ≤ v ∧ v ≤ 9223372036854775807) ∧ Dr w' B a len cap ∧ w.grownBy w' (some B) := by
  have HD : Hid (Dr w B a len cap) := hd
  clear hd
  go_enter Try.func44, Try.ntmps44
  go_wp2_with fail
  refine (n_any B 6 _ a len cap HD.out (by omega)).mono ?_
  rintro e w1 ⟨r, rfl, hr, hd1, hg1⟩
  have HD1 : Hid (Dr w1 B a len cap) := hd1
  have HG1 : Hid (w.grownBy w1 (some B)) := hg1
  clear hd1 hg1
  rcases (by omega : r = 0 ∨ r = 1 ∨ r = 2 ∨ r = 3 ∨ 4 ≤ r) with rfl | rfl | rfl | rfl | hr4
  · clear hr
    go_wp2_with fail
    refine (n_any B 5 _ a len cap (HD1.out.alloc _) (by omega)).mono ?_
    rintro e w2 ⟨k, rfl, hk, hd2, hg2⟩
    have hk5 : k < 5 := by omega
    have hlt := HD1.out.lt
    have hcell : w2.cell? ⟨w1.heap.size, k, none⟩ = some (.int .i64 (somes.getD k 0)) := by
      rw [hg2.cell (a := ⟨w1.heap.size, k, none⟩) (v := .int .i64 (somes.getD k 0)) ?_ (by intro e; exact absurd (Option.some.inj e : w1.heap.size = B) (by omega))]
      rw [World.cell?_alloc_at _ _ _ _ rfl]
      exact some_cell k hk5
    have hb := somes_in (somes.getD k 0) (somes_mem k hk5)
    have HD2 : Hid (Dr w2 B a len cap) := hd2
    have HG2 : Hid (w.grownBy w2 (some B)) := grown_trans HG1.out (grown_trans (World.grownBy_alloc _ _ _) hg2)
    generalize somes.getD k 0 = v at *
    clear hd2 hg2 hk
    go_wp2
    go_ret
    exact ⟨v, rfl, hb, HD2.out, HG2.out⟩
  · clear hr
    go_wp2_with fail
    refine (edge_any B _ a len cap HD1.out).mono ?_
    rintro e w2 ⟨v, rfl, hv1, hv2, hd2, hg2⟩
    have HD2 : Hid (Dr w2 B a len cap) := hd2
    have HG2 : Hid (w.grownBy w2 (some B)) := grown_trans HG1.out hg2
    clear hd2 hg2
    go_wp2
    go_ret
    exact ⟨v, rfl, ⟨hv1, hv2⟩, HD2.out, HG2.out⟩
  · clear hr
    go_wp2_with fail
    refine (n_any B 2000000 _ a len cap HD1.out (by omega)).mono ?_
    rintro e w2 ⟨x, rfl, hx, hd2, hg2⟩
    have HD2 : Hid (Dr w2 B a len cap) := hd2
    have HG2 : Hid (w.grownBy w2 (some B)) := grown_trans HG1.out hg2
    clear hd2 hg2
    go_wp2_with fail
    refine (n_any B 1000000 _ a len cap HD2.out (by omega)).mono ?_
    rintro e w3 ⟨y, rfl, hy, hd3, hg3⟩
    have HD3 : Hid (Dr w3 B a len cap) := hd3
    have HG3 : Hid (w.grownBy w3 (some B)) := grown_trans HG2.out hg3
    have hp : x * y ≤ 2000000 * 1000000 := Nat.mul_le_mul (by omega) (by omega)
    have hwm : IntKind.i64.wrap ((x : Int) * (y : Int)) = ((x * y : Nat) : Int) := by rw [← Int.natCast_mul, IntKind.wrap_i64]; omega
    generalize x * y = z at *
    clear hd3 hg3 hx hy
    go_wp2
    go_ret
    exact ⟨z, rfl, by omega, HD3.out, HG3.out⟩
  · clear hr
    go_wp2_with fail
    refine (n_any B 1000 _ a len cap HD1.out (by omega)).mono ?_
    rintro e w2 ⟨x, rfl, hx, hd2, hg2⟩
    have HD2 : Hid (Dr w2 B a len cap) := hd2
    have HG2 : Hid (w.grownBy w2 (some B)) := grown_trans HG1.out hg2
    have hx2 : x < 1000 := by omega
    clear hd2 hg2 hx
    go_wp2
    go_ret
    exact ⟨_, rfl, by omega, HD2.out, HG2.out⟩
  · have e0 : ((r : Int) == 0) = false := by simp; omega
    have e1 : ((r : Int) == 1) = false := by simp; omega
    have e2 : ((r : Int) == 2) = false := by simp; omega
    have e3 : ((r : Int) == 3) = false := by simp; omega
    clear hr
    go_wp2_with fail
    refine (n_any B 1000 _ a len cap HD1.out (by omega)).mono ?_
    rintro e w2 ⟨x, rfl, hx, hd2, hg2⟩
    have HD2 : Hid (Dr w2 B a len cap) := hd2
    have HG2 : Hid (w.grownBy w2 (some B)) := grown_trans HG1.out hg2
    have hx2 : x < 1000 := by omega
    clear hd2 hg2 hx
    go_wp2
    go_ret
    exact ⟨_, rfl, by omega, HD2.out, HG2.out⟩
/-! the draws, one by one -/

set_option maxRecDepth 10000 in
set_option maxHeartbeats 1600000 in
theorem drawPlus_any (w : World) (a : Option Addr) (len cap : Nat) (hc : CodeAt w w.heap.size a len) :
    Calls Try.prog 15 #[.slice a len cap] w fun e w' => ∃ v0 v1 : Int, e = .returned (.tuple #[.int .i64 v0, .int .i64 v1]) ∧ (-9223372036854775808 ≤ v0 ∧ v0 ≤ 9223372036854775807) ∧ (-9223372036854775808 ≤ v1 ∧ v1 ≤ 9223372036854775807) ∧ Below w.heap.size w w' := by
  have HC : Hid (CodeAt w w.heap.size a len) := hc
  clear hc
  go_enter Try.func15, Try.ntmps15
  go_wp2_with fail
  refine (source_any w a len cap HC.out).mono ?_
  rintro e w1 ⟨rfl, hd1, hB1⟩
  have HD1 : Hid (Dr w1 w.heap.size a len cap) := hd1
  have HB1 : Hid (Below w.heap.size w w1) := hB1
  clear hd1 hB1
  go_wp2_with fail
  refine (some_any w.heap.size _ a len cap HD1.out).mono ?_
  rintro e w2 ⟨x, rfl, bnd_x, hd2, hg2⟩
  have HD2 : Hid (Dr w2 w.heap.size a len cap) := hd2
  have HB2 : Hid (Below w.heap.size w w2) := HB1.out.trans (grown_below hg2 (Nat.le_refl _) HB1.out.size)
  clear hd2 hg2
  go_wp2_with fail
  refine (some_any w.heap.size _ a len cap HD2.out).mono ?_
  rintro e w3 ⟨y, rfl, bnd_y, hd3, hg3⟩
  have HD3 : Hid (Dr w3 w.heap.size a len cap) := hd3
  have HB3 : Hid (Below w.heap.size w w3) := HB2.out.trans (grown_below hg3 (Nat.le_refl _) HB2.out.size)
  clear hd3 hg3
  go_wp2
  go_ret2
  exact ⟨_, _, rfl, by omega, by omega, HB3.out⟩

set_option maxRecDepth 10000 in
set_option maxHeartbeats 1600000 in
theorem drawParts_any (w : World) (a : Option Addr) (len cap : Nat) (hc : CodeAt w w.heap.size a len) :
    Calls Try.prog 19 #[.slice a len cap] w fun e w' => ∃ v0 v1 v2 : Int, e = .returned (.tuple #[.int .i64 v0, .int .i64 v1, .int .i64 v2]) ∧ (-9223372036854775808 ≤ v0 ∧ v0 ≤ 9223372036854775807) ∧ (-9223372036854775808 ≤ v1 ∧ v1 ≤ 9223372036854775807) ∧ (-9223372036854775808 ≤ v2 ∧ v2 ≤ 9223372036854775807) ∧ Below w.heap.size w w' := by
  have HC : Hid (CodeAt w w.heap.size a len) := hc
  clear hc
  go_enter Try.func19, Try.ntmps19
  go_wp2_with fail
  refine (source_any w a len cap HC.out).mono ?_
  rintro e w1 ⟨rfl, hd1, hB1⟩
  have HD1 : Hid (Dr w1 w.heap.size a len cap) := hd1
  have HB1 : Hid (Below w.heap.size w w1) := hB1
  clear hd1 hB1
  go_wp2_with fail
  refine (some_any w.heap.size _ a len cap HD1.out).mono ?_
  rintro e w2 ⟨x, rfl, bnd_x, hd2, hg2⟩
  have HD2 : Hid (Dr w2 w.heap.size a len cap) := hd2
  have HB2 : Hid (Below w.heap.size w w2) := HB1.out.trans (grown_below hg2 (Nat.le_refl _) HB1.out.size)
  clear hd2 hg2
  go_wp2_with fail
  refine (n_any w.heap.size 12 _ a len cap HD2.out (by omega)).mono ?_
  rintro e w3 ⟨y, rfl, hy, hd3, hg3⟩
  have bnd_y : (y : Int) < 12 := by omega
  clear hy
  have HD3 : Hid (Dr w3 w.heap.size a len cap) := hd3
  have HB3 : Hid (Below w.heap.size w w3) := HB2.out.trans (grown_below hg3 (Nat.le_refl _) HB2.out.size)
  clear hd3 hg3
  go_wp2_with fail
  refine (one_any w.heap.size 3 _ a len cap HD3.out (by omega)).mono ?_
  rintro e w4 ⟨yes4, rfl, hd4, hg4⟩
  have HD4 : Hid (Dr w4 w.heap.size a len cap) := hd4
  have HB4 : Hid (Below w.heap.size w w4) := HB3.out.trans (grown_below hg4 (Nat.le_refl _) HB3.out.size)
  clear hd4 hg4
  cases yes4
  · go_wp2_with fail
    refine (n_any w.heap.size 4 _ a len cap HD4.out (by omega)).mono ?_
    rintro e w5 ⟨m, rfl, hm, hd5, hg5⟩
    have bnd_m : (m : Int) < 4 := by omega
    clear hm
    have HD5 : Hid (Dr w5 w.heap.size a len cap) := hd5
    have HB5 : Hid (Below w.heap.size w w5) := HB4.out.trans (grown_below hg5 (Nat.le_refl _) HB4.out.size)
    clear hd5 hg5
    go_wp2
    go_ret3
    exact ⟨_, _, _, rfl, by omega, by omega, by omega, HB5.out⟩
  · go_wp2_with fail
    refine (some_any w.heap.size _ a len cap HD4.out).mono ?_
    rintro e w5 ⟨z, rfl, bnd_z, hd5, hg5⟩
    have HD5 : Hid (Dr w5 w.heap.size a len cap) := hd5
    have HB5 : Hid (Below w.heap.size w w5) := HB4.out.trans (grown_below hg5 (Nat.le_refl _) HB4.out.size)
    clear hd5 hg5
    go_wp2_with fail
    refine (n_any w.heap.size 4 _ a len cap HD5.out (by omega)).mono ?_
    rintro e w6 ⟨m, rfl, hm, hd6, hg6⟩
    have bnd_m : (m : Int) < 4 := by omega
    clear hm
    have HD6 : Hid (Dr w6 w.heap.size a len cap) := hd6
    have HB6 : Hid (Below w.heap.size w w6) := HB5.out.trans (grown_below hg6 (Nat.le_refl _) HB5.out.size)
    clear hd6 hg6
    go_wp2
    go_ret3
    exact ⟨_, _, _, rfl, by omega, by omega, by omega, HB6.out⟩

set_option maxRecDepth 10000 in
set_option maxHeartbeats 1600000 in
theorem drawTimesParts_any (w : World) (a : Option Addr) (len cap : Nat) (hc : CodeAt w w.heap.size a len) :
    Calls Try.prog 25 #[.slice a len cap] w fun e w' => ∃ v0 v1 v2 v3 : Int, e = .returned (.tuple #[.int .i64 v0, .int .i64 v1, .int .i64 v2, .int .i64 v3]) ∧ (-9223372036854775808 ≤ v0 ∧ v0 ≤ 9223372036854775807) ∧ (-9223372036854775808 ≤ v1 ∧ v1 ≤ 9223372036854775807) ∧ (-9223372036854775808 ≤ v2 ∧ v2 ≤ 9223372036854775807) ∧ (-9223372036854775808 ≤ v3 ∧ v3 ≤ 9223372036854775807) ∧ Below w.heap.size w w' := by
  have HC : Hid (CodeAt w w.heap.size a len) := hc
  clear hc
  go_enter Try.func25, Try.ntmps25
  go_wp2_with fail
  refine (source_any w a len cap HC.out).mono ?_
  rintro e w1 ⟨rfl, hd1, hB1⟩
  have HD1 : Hid (Dr w1 w.heap.size a len cap) := hd1
  have HB1 : Hid (Below w.heap.size w w1) := hB1
  clear hd1 hB1
  go_wp2_with fail
  refine (some_any w.heap.size _ a len cap HD1.out).mono ?_
  rintro e w2 ⟨x, rfl, bnd_x, hd2, hg2⟩
  have HD2 : Hid (Dr w2 w.heap.size a len cap) := hd2
  have HB2 : Hid (Below w.heap.size w w2) := HB1.out.trans (grown_below hg2 (Nat.le_refl _) HB1.out.size)
  clear hd2 hg2
  go_wp2_with fail
  refine (some_any w.heap.size _ a len cap HD2.out).mono ?_
  rintro e w3 ⟨u, rfl, bnd_u, hd3, hg3⟩
  have HD3 : Hid (Dr w3 w.heap.size a len cap) := hd3
  have HB3 : Hid (Below w.heap.size w w3) := HB2.out.trans (grown_below hg3 (Nat.le_refl _) HB2.out.size)
  clear hd3 hg3
  go_wp2_with fail
  refine (n_any w.heap.size 900 _ a len cap HD3.out (by omega)).mono ?_
  rintro e w4 ⟨y, rfl, hy, hd4, hg4⟩
  have bnd_y : (y : Int) < 900 := by omega
  clear hy
  have HD4 : Hid (Dr w4 w.heap.size a len cap) := hd4
  have HB4 : Hid (Below w.heap.size w w4) := HB3.out.trans (grown_below hg4 (Nat.le_refl _) HB3.out.size)
  clear hd4 hg4
  go_wp2_with fail
  refine (one_any w.heap.size 3 _ a len cap HD4.out (by omega)).mono ?_
  rintro e w5 ⟨yes5, rfl, hd5, hg5⟩
  have HD5 : Hid (Dr w5 w.heap.size a len cap) := hd5
  have HB5 : Hid (Below w.heap.size w w5) := HB4.out.trans (grown_below hg5 (Nat.le_refl _) HB4.out.size)
  clear hd5 hg5
  cases yes5
  · go_wp2_with fail
    refine (n_any w.heap.size 4 _ a len cap HD5.out (by omega)).mono ?_
    rintro e w6 ⟨m, rfl, hm, hd6, hg6⟩
    have bnd_m : (m : Int) < 4 := by omega
    clear hm
    have HD6 : Hid (Dr w6 w.heap.size a len cap) := hd6
    have HB6 : Hid (Below w.heap.size w w6) := HB5.out.trans (grown_below hg6 (Nat.le_refl _) HB5.out.size)
    clear hd6 hg6
    go_wp2
    refine bodyPost_ret (by simp [results, Try.results25, go_sem]; rfl) rfl ?_
    exact ⟨_, _, _, _, rfl, by omega, by omega, by omega, by omega, HB6.out⟩
  · go_wp2_with fail
    refine (some_any w.heap.size _ a len cap HD5.out).mono ?_
    rintro e w6 ⟨z, rfl, bnd_z, hd6, hg6⟩
    have HD6 : Hid (Dr w6 w.heap.size a len cap) := hd6
    have HB6 : Hid (Below w.heap.size w w6) := HB5.out.trans (grown_below hg6 (Nat.le_refl _) HB5.out.size)
    clear hd6 hg6
    go_wp2_with fail
    refine (n_any w.heap.size 4 _ a len cap HD6.out (by omega)).mono ?_
    rintro e w7 ⟨m, rfl, hm, hd7, hg7⟩
    have bnd_m : (m : Int) < 4 := by omega
    clear hm
    have HD7 : Hid (Dr w7 w.heap.size a len cap) := hd7
    have HB7 : Hid (Below w.heap.size w w7) := HB6.out.trans (grown_below hg7 (Nat.le_refl _) HB6.out.size)
    clear hd7 hg7
    go_wp2
    refine bodyPost_ret (by simp [results, Try.results25, go_sem]; rfl) rfl ?_
    exact ⟨_, _, _, _, rfl, by omega, by omega, by omega, by omega, HB7.out⟩

set_option maxRecDepth 10000 in
set_option maxHeartbeats 1600000 in
theorem drawRoot_any (w : World) (a : Option Addr) (len cap : Nat) (hc : CodeAt w w.heap.size a len) :
    Calls Try.prog 27 #[.slice a len cap] w fun e w' => ∃ v0 : Int, e = .returned (.int .i64 v0) ∧ (-9223372036854775808 ≤ v0 ∧ v0 ≤ 9223372036854775807) ∧ Below w.heap.size w w' := by
  have HC : Hid (CodeAt w w.heap.size a len) := hc
  clear hc
  go_enter Try.func27, Try.ntmps27
  go_wp2_with fail
  refine (source_any w a len cap HC.out).mono ?_
  rintro e w1 ⟨rfl, hd1, hB1⟩
  have HD1 : Hid (Dr w1 w.heap.size a len cap) := hd1
  have HB1 : Hid (Below w.heap.size w w1) := hB1
  clear hd1 hB1
  go_wp2_with fail
  refine (some_any w.heap.size _ a len cap HD1.out).mono ?_
  rintro e w2 ⟨x, rfl, bnd_x, hd2, hg2⟩
  have HD2 : Hid (Dr w2 w.heap.size a len cap) := hd2
  have HB2 : Hid (Below w.heap.size w w2) := HB1.out.trans (grown_below hg2 (Nat.le_refl _) HB1.out.size)
  clear hd2 hg2
  go_wp2
  go_ret
  exact ⟨_, rfl, by omega, HB2.out⟩

set_option maxRecDepth 10000 in
set_option maxHeartbeats 1600000 in
theorem drawRatio_any (w : World) (a : Option Addr) (len cap : Nat) (hc : CodeAt w w.heap.size a len) :
    Calls Try.prog 34 #[.slice a len cap] w fun e w' => ∃ v0 v1 v2 v3 : Int, e = .returned (.tuple #[.int .i64 v0, .int .i64 v1, .int .i64 v2, .int .i64 v3]) ∧ (-9223372036854775808 ≤ v0 ∧ v0 ≤ 9223372036854775807) ∧ (-9223372036854775808 ≤ v1 ∧ v1 ≤ 9223372036854775807) ∧ (-9223372036854775808 ≤ v2 ∧ v2 ≤ 9223372036854775807) ∧ (-9223372036854775808 ≤ v3 ∧ v3 ≤ 9223372036854775807) ∧ Below w.heap.size w w' := by
  have HC : Hid (CodeAt w w.heap.size a len) := hc
  clear hc
  go_enter Try.func34, Try.ntmps34
  go_wp2_with fail
  refine (source_any w a len cap HC.out).mono ?_
  rintro e w1 ⟨rfl, hd1, hB1⟩
  have HD1 : Hid (Dr w1 w.heap.size a len cap) := hd1
  have HB1 : Hid (Below w.heap.size w w1) := hB1
  clear hd1 hB1
  go_wp2_with fail
  refine (some_any w.heap.size _ a len cap HD1.out).mono ?_
  rintro e w2 ⟨x, rfl, bnd_x, hd2, hg2⟩
  have HD2 : Hid (Dr w2 w.heap.size a len cap) := hd2
  have HB2 : Hid (Below w.heap.size w w2) := HB1.out.trans (grown_below hg2 (Nat.le_refl _) HB1.out.size)
  clear hd2 hg2
  go_wp2_with fail
  refine (some_any w.heap.size _ a len cap HD2.out).mono ?_
  rintro e w3 ⟨y, rfl, bnd_y, hd3, hg3⟩
  have HD3 : Hid (Dr w3 w.heap.size a len cap) := hd3
  have HB3 : Hid (Below w.heap.size w w3) := HB2.out.trans (grown_below hg3 (Nat.le_refl _) HB2.out.size)
  clear hd3 hg3
  go_wp2_with fail
  refine (some_any w.heap.size _ a len cap HD3.out).mono ?_
  rintro e w4 ⟨z, rfl, bnd_z, hd4, hg4⟩
  have HD4 : Hid (Dr w4 w.heap.size a len cap) := hd4
  have HB4 : Hid (Below w.heap.size w w4) := HB3.out.trans (grown_below hg4 (Nat.le_refl _) HB3.out.size)
  clear hd4 hg4
  go_wp2_with fail
  refine (some_any w.heap.size _ a len cap HD4.out).mono ?_
  rintro e w5 ⟨u, rfl, bnd_u, hd5, hg5⟩
  have HD5 : Hid (Dr w5 w.heap.size a len cap) := hd5
  have HB5 : Hid (Below w.heap.size w w5) := HB4.out.trans (grown_below hg5 (Nat.le_refl _) HB4.out.size)
  clear hd5 hg5
  go_wp2_with fail
  refine (one_any w.heap.size 2 _ a len cap HD5.out (by omega)).mono ?_
  rintro e w6 ⟨yes6, rfl, hd6, hg6⟩
  have HD6 : Hid (Dr w6 w.heap.size a len cap) := hd6
  have HB6 : Hid (Below w.heap.size w w6) := HB5.out.trans (grown_below hg6 (Nat.le_refl _) HB5.out.size)
  clear hd6 hg6
  cases yes6
  · go_wp2
    refine bodyPost_ret (by simp [results, Try.results34, go_sem]; rfl) rfl ?_
    exact ⟨_, _, _, _, rfl, by omega, by omega, by omega, by omega, HB6.out⟩
  · go_wp2_with fail
    refine (n_any w.heap.size 9 _ a len cap HD6.out (by omega)).mono ?_
    rintro e w7 ⟨k, rfl, hk, hd7, hg7⟩
    have bnd_k : (k : Int) < 9 := by omega
    clear hk
    have HD7 : Hid (Dr w7 w.heap.size a len cap) := hd7
    have HB7 : Hid (Below w.heap.size w w7) := HB6.out.trans (grown_below hg7 (Nat.le_refl _) HB6.out.size)
    clear hd7 hg7
    go_wp2_with fail
    refine (n_any w.heap.size 9 _ a len cap HD7.out (by omega)).mono ?_
    rintro e w8 ⟨l, rfl, hl, hd8, hg8⟩
    have bnd_l : (l : Int) < 9 := by omega
    clear hl
    have HD8 : Hid (Dr w8 w.heap.size a len cap) := hd8
    have HB8 : Hid (Below w.heap.size w w8) := HB7.out.trans (grown_below hg8 (Nat.le_refl _) HB7.out.size)
    clear hd8 hg8
    go_wp2_with fail
    refine (n_any w.heap.size 9 _ a len cap HD8.out (by omega)).mono ?_
    rintro e w9 ⟨m, rfl, hm, hd9, hg9⟩
    have bnd_m : (m : Int) < 9 := by omega
    clear hm
    have HD9 : Hid (Dr w9 w.heap.size a len cap) := hd9
    have HB9 : Hid (Below w.heap.size w w9) := HB8.out.trans (grown_below hg9 (Nat.le_refl _) HB8.out.size)
    clear hd9 hg9
    go_wp2_with fail
    refine (n_any w.heap.size 9 _ a len cap HD9.out (by omega)).mono ?_
    rintro e w10 ⟨o, rfl, ho, hd10, hg10⟩
    have bnd_o : (o : Int) < 9 := by omega
    clear ho
    have HD10 : Hid (Dr w10 w.heap.size a len cap) := hd10
    have HB10 : Hid (Below w.heap.size w w10) := HB9.out.trans (grown_below hg10 (Nat.le_refl _) HB9.out.size)
    clear hd10 hg10
    go_wp2
    refine bodyPost_ret (by simp [results, Try.results34, go_sem]; rfl) rfl ?_
    exact ⟨_, _, _, _, rfl, by omega, by omega, by omega, by omega, HB10.out⟩

set_option maxRecDepth 10000 in
set_option maxHeartbeats 1600000 in
theorem drawClamp_any (w : World) (a : Option Addr) (len cap : Nat) (hc : CodeAt w w.heap.size a len) :
    Calls Try.prog 36 #[.slice a len cap] w fun e w' => ∃ v0 v1 v2 : Int, e = .returned (.tuple #[.int .i64 v0, .int .i64 v1, .int .i64 v2]) ∧ (-9223372036854775808 ≤ v0 ∧ v0 ≤ 9223372036854775807) ∧ (-9223372036854775808 ≤ v1 ∧ v1 ≤ 9223372036854775807) ∧ (-9223372036854775808 ≤ v2 ∧ v2 ≤ 9223372036854775807) ∧ Below w.heap.size w w' := by
  have HC : Hid (CodeAt w w.heap.size a len) := hc
  clear hc
  go_enter Try.func36, Try.ntmps36
  go_wp2_with fail
  refine (source_any w a len cap HC.out).mono ?_
  rintro e w1 ⟨rfl, hd1, hB1⟩
  have HD1 : Hid (Dr w1 w.heap.size a len cap) := hd1
  have HB1 : Hid (Below w.heap.size w w1) := hB1
  clear hd1 hB1
  go_wp2_with fail
  refine (some_any w.heap.size _ a len cap HD1.out).mono ?_
  rintro e w2 ⟨x, rfl, bnd_x, hd2, hg2⟩
  have HD2 : Hid (Dr w2 w.heap.size a len cap) := hd2
  have HB2 : Hid (Below w.heap.size w w2) := HB1.out.trans (grown_below hg2 (Nat.le_refl _) HB1.out.size)
  clear hd2 hg2
  go_wp2_with fail
  refine (some_any w.heap.size _ a len cap HD2.out).mono ?_
  rintro e w3 ⟨y, rfl, bnd_y, hd3, hg3⟩
  have HD3 : Hid (Dr w3 w.heap.size a len cap) := hd3
  have HB3 : Hid (Below w.heap.size w w3) := HB2.out.trans (grown_below hg3 (Nat.le_refl _) HB2.out.size)
  clear hd3 hg3
  go_wp2_with fail
  refine (some_any w.heap.size _ a len cap HD3.out).mono ?_
  rintro e w4 ⟨z, rfl, bnd_z, hd4, hg4⟩
  have HD4 : Hid (Dr w4 w.heap.size a len cap) := hd4
  have HB4 : Hid (Below w.heap.size w w4) := HB3.out.trans (grown_below hg4 (Nat.le_refl _) HB3.out.size)
  clear hd4 hg4
  go_wp2
  go_ret3
  exact ⟨_, _, _, rfl, by omega, by omega, by omega, HB4.out⟩
end Go.Proofs.Ythplmgjnlhcapaa.DrawW
