/- What math/bits.Div64 answers at this program, of a divisor up to Most: the quotient and what is left; nothing is written. -/
import Derived.Test.YthplmgjnlhcapaaFixLen
import Derived.Test.YthplmgjnlhcapaaDivMath
import Derived.Deep.QuietTactic
import Derived.BigQuiet
namespace Go.Proofs.Ythplmgjnlhcapaa.FixD
open Go.RowKit

set_option maxHeartbeats 8000000 in
set_option maxRecDepth 100000 in
theorem div_core (hi lo y s Y y1 y0 H L U V v1 v0 Q q r m R Q0 g t n S quo rem : Nat) (w : World) (h1 : 1 ≤ hi) (h2 : hi < y) (h3 : y ≤ 1000000000000000) (hs : Hid (64 - bitLen y = s)) (hs1 : 14 ≤ s ∧ s ≤ 63)
    (hY : IntKind.u64.wrap ((y : Int) * 2 ^ s) = (Y : Int)) (hy1 : (Y : Int) / 4294967296 = (y1 : Int)) (hy0 : bits .and .u64 (Y : Int) 4294967295 = (y0 : Int))
    (hH : IntKind.u64.wrap ((hi : Int) * 2 ^ s) = (H : Int)) (hL : (lo : Int) / 2 ^ (64 - s) = (L : Int)) (hU : bits .or .u64 (H : Int) (L : Int) = (U : Int))
    (hV : IntKind.u64.wrap ((lo : Int) * 2 ^ s) = (V : Int)) (hv1 : (V : Int) / 4294967296 = (v1 : Int)) (hv0 : bits .and .u64 (V : Int) 4294967295 = (v0 : Int))
    (b1 : 2147483648 ≤ y1 ∧ y1 < 4294967296) (b0 : y0 < 4294967296) (bU : U < Y) (bY : Y < 18446744073709551616) (c1 : v1 < 4294967296) (c0 : v0 < 4294967296)
    (hYd : Hid (Y = y1 * 4294967296 + y0)) (hQ : Hid ((U * 4294967296 + v1) / Y = Q)) (hq : (U : Int) / (y1 : Int) = (q : Int)) (hm : IntKind.u64.wrap ((q : Int) * (y1 : Int)) = (m : Int)) (hr : (U : Int) - (m : Int) = (r : Int))
    (bq : q ≤ 4294967297) (br : r < y1) (hqr : Hid (q * y1 + r = U)) (hQq : Hid (Q ≤ q))
    (hR' : Hid (IntKind.u64.wrap (IntKind.u64.wrap (IntKind.u64.wrap ((U : Int) * 4294967296) + (v1 : Int)) - IntKind.u64.wrap ((Q : Int) * (Y : Int))) = (R : Int))) (bR : Hid (R < Y))
    (hQ0 : Hid ((R * 4294967296 + v0) / Y = Q0)) (hg' : Hid ((R : Int) / (y1 : Int) = (g : Int))) (hn' : Hid (IntKind.u64.wrap ((g : Int) * (y1 : Int)) = (n : Int))) (ht' : Hid ((R : Int) - (n : Int) = (t : Int)))
    (bg : Hid (g ≤ 4294967297)) (bt : Hid (t < y1)) (hgt : Hid (g * y1 + t = R)) (hQg : Hid (Q0 ≤ g))
    (hS' : Hid (IntKind.u64.wrap (IntKind.u64.wrap (IntKind.u64.wrap ((R : Int) * 4294967296) + (v0 : Int)) - IntKind.u64.wrap ((Q0 : Int) * (Y : Int))) = (S : Int))) (bS : Hid (S < Y)) (hrem' : Hid ((S : Int) / 2 ^ s = (rem : Int)))
    (bQ : Hid (Q < 4294967296)) (bQ0 : Hid (Q0 < 4294967296)) (hquo : Hid (Q * 4294967296 + Q0 = quo)) :
    Calls Try.prog 81 #[.int .u64 hi, .int .u64 lo, .int .u64 y] w fun e w' => e = .returned (.tuple #[.int .u64 quo, .int .u64 rem]) ∧ w' = w := by
  have n1 : ((y : Int) == 0) = false := by simp; omega
  have n2 : ((hi : Int) == 0) = false := by simp; omega
  have n3 : ¬ (y1 : Int) = 0 := by omega
  have hYp : 0 < Y := by omega
  go_enter Try.func81, Try.ntmps81
  go_wp2_with (first | (go_at_call 84; refine (FixL.zeros_any _ _ (by omega) (by omega)).mono ?_; rintro e w' ⟨rfl, rfl⟩; rw [Int.toNat_natCast, hs.out]))
  have dq : (q : Int) ≤ 4294967297 := by omega
  have dr : (r : Int) < 4294967296 := by omega
  have dg : (g : Int) ≤ 4294967297 := by have := bg.out; omega
  have dt : (t : Int) < 4294967296 := by have := bt.out; omega
  have d1 : (2147483648 : Int) ≤ (y1 : Int) ∧ (y1 : Int) < 4294967296 := by omega
  have d0 : (y0 : Int) < 4294967296 := by omega
  have e1 : (v1 : Int) < 4294967296 := by omega
  have e0 : (v0 : Int) < 4294967296 := by omega
  have dQ : (Q : Int) < 4294967296 := by have := bQ.out; omega
  have dQ0 : (Q0 : Int) < 4294967296 := by have := bQ0.out; omega
  have dR : (R : Int) < 18446744073709551616 := by have := bR.out; omega
  have dU : (U : Int) < 18446744073709551616 := by omega
  have dS : (S : Int) < 18446744073709551616 := by have := bS.out; omega
  have dY : (Y : Int) < 18446744073709551616 := by omega
  have hb0 : Hid (y0 < 4294967296) := b0
  have HUY : Hid (U < Y) := bU
  have HRY : Hid (R < Y) := bR
  have HC1 : Hid (v1 < 4294967296) := c1
  have HC0 : Hid (v0 < 4294967296) := c0
  clear n1 n2 hY hy1 hy0 hH hL hU hV hv1 hv0 hq hm hr
  clear b1 b0 c1 c0 bq bU h3 br bY
  go_loop [15, 16] (fun a b => ∃ x z : Nat, a = .int .u64 x ∧ b = .int .u64 z ∧ Hid (x * y1 + z = U) ∧ (z : Int) < 4294967296 ∧ Hid (Q ≤ x) ∧ (x : Int) ≤ 4294967297) (fun a _ => (intOf a).toNat)
  case atStart => exact ⟨q, r, rfl, rfl, hqr, dr, hQq, dq⟩
  case round =>
    obtain ⟨x, z, rfl, rfl, hxzx, bz, hQxx, bx⟩ := hrel
    by_cases hb : (4294967296 : Int) ≤ (x : Int)
    · have hltx : Hid (Q < x) := by
        show Q < x
        have := DivM.digit_lt (v := v1) HUY.out HC1.out
        rw [hQ.out] at this; omega
      by_cases hz : (4294967296 : Int) ≤ (z : Int) + (y1 : Int)
      · have ex : Q + 1 = x := by
          have hl := hltx.out
          have := DivM.is_digit_broke (v := v1) hYd.out hYp hb0.out (DivM.dec_eq hl hxzx.out) (by omega) (by omega) (by rw [hQ.out]; omega)
          rw [hQ.out] at this; omega
        have hxQx : (x : Int) - 1 = (Q : Int) := by omega
        clear ex hltx hQxx hxzx
        have hR := hR'.out
        have hg := hg'.out
        have hn := hn'.out
        have ht0 := ht'.out
        have hS := hS'.out
        have hrem := hrem'.out
        go_wp2
        go_loop [18, 16] (fun a b => ∃ p k : Nat, a = .int .u64 p ∧ b = .int .u64 k ∧ Hid (p * y1 + k = R) ∧ (k : Int) < 4294967296 ∧ Hid (Q0 ≤ p) ∧ (p : Int) ≤ 4294967297) (fun a _ => (intOf a).toNat)
        case atStart => exact ⟨g, t, rfl, rfl, hgt, dt, hQg, dg⟩
        case round =>
          obtain ⟨p, k, rfl, rfl, hxzp, bk, hQxp, bp⟩ := hrel
          by_cases hb : (4294967296 : Int) ≤ (p : Int)
          · have hltp : Hid (Q0 < p) := by
              show Q0 < p
              have := DivM.digit_lt (v := v0) HRY.out HC0.out
              rw [hQ0.out] at this; omega
            by_cases hz : (4294967296 : Int) ≤ (k : Int) + (y1 : Int)
            · have ep : Q0 + 1 = p := by
                have hl := hltp.out
                have := DivM.is_digit_broke (v := v0) hYd.out hYp hb0.out (DivM.dec_eq hl hxzp.out) (by omega) (by omega) (by rw [hQ0.out]; omega)
                rw [hQ0.out] at this; omega
              have hxQp : (p : Int) - 1 = (Q0 : Int) := by omega
              clear ep hltp hQxp hxzp
              have hR := hR'.out
              have hg := hg'.out
              have hn := hn'.out
              have ht0 := ht'.out
              have hS := hS'.out
              have hrem := hrem'.out
              go_wp2
              have hqq : (Q : Int) * 4294967296 + (Q0 : Int) = (quo : Int) := by have := hquo.out; omega
              rw [hqq]
              go_ret2
              exact ⟨rfl, rfl⟩
            · have hx1 : (1 : Int) ≤ (p : Int) := by have := hltp.out; omega
              go_wp2
              refine ⟨⟨p - 1, k + y1, by go_num, by go_num, ?_, by omega, ?_, by omega⟩, by simp [intOf]; omega⟩
              · exact DivM.dec_eq hltp.out hxzp.out
              · show Q0 ≤ p - 1
                have := hltp.out; omega
          · obtain ⟨b, hb⟩ : ∃ n : Nat, Hid (p * y0 = n) := ⟨_, rfl⟩
            have hmb : IntKind.u64.wrap ((p : Int) * (y0 : Int)) = (b : Int) := DivM.wrap_prod hb.out (by omega) (by omega)
            by_cases ht : (4294967296 : Int) * (k : Int) + (v0 : Int) < (b : Int)
            · have hltp : Hid (Q0 < p) := by
                show Q0 < p
                have := DivM.less_of_test (v := v0) hYd.out hYp hxzp.out (by rw [hb.out]; omega)
                rw [hQ0.out] at this; exact this
              by_cases hz : (4294967296 : Int) ≤ (k : Int) + (y1 : Int)
              · have ep : Q0 + 1 = p := by
                  have hl := hltp.out
                  have := DivM.is_digit_broke (v := v0) hYd.out hYp hb0.out (DivM.dec_eq hl hxzp.out) (by omega) (by omega) (by rw [hQ0.out]; omega)
                  rw [hQ0.out] at this; omega
                have hxQp : (p : Int) - 1 = (Q0 : Int) := by omega
                clear ep hltp hQxp hxzp
                have hR := hR'.out
                have hg := hg'.out
                have hn := hn'.out
                have ht0 := ht'.out
                have hS := hS'.out
                have hrem := hrem'.out
                go_wp2
                have hqq : (Q : Int) * 4294967296 + (Q0 : Int) = (quo : Int) := by have := hquo.out; omega
                rw [hqq]
                go_ret2
                exact ⟨rfl, rfl⟩
              · have hx1 : (1 : Int) ≤ (p : Int) := by have := hltp.out; omega
                go_wp2
                refine ⟨⟨p - 1, k + y1, by go_num, by go_num, ?_, by omega, ?_, by omega⟩, by simp [intOf]; omega⟩
                · exact DivM.dec_eq hltp.out hxzp.out
                · show Q0 ≤ p - 1
                  have := hltp.out; omega
            · have ep : Q0 = p := by
                have := DivM.is_digit (v := v0) hYd.out hYp hxzp.out (by rw [hb.out]; omega) (by rw [hQ0.out]; exact hQxp.out)
                rw [hQ0.out] at this; exact this
              clear hQxp
              subst ep
              clear hxzp
              have hR := hR'.out
              have hg := hg'.out
              have hn := hn'.out
              have ht0 := ht'.out
              have hS := hS'.out
              have hrem := hrem'.out
              go_wp2
              have hqq : (Q : Int) * 4294967296 + (Q0 : Int) = (quo : Int) := by have := hquo.out; omega
              rw [hqq]
              go_ret2
              exact ⟨rfl, rfl⟩
      · have hx1 : (1 : Int) ≤ (x : Int) := by have := hltx.out; omega
        go_wp2
        refine ⟨⟨x - 1, z + y1, by go_num, by go_num, ?_, by omega, ?_, by omega⟩, by simp [intOf]; omega⟩
        · exact DivM.dec_eq hltx.out hxzx.out
        · show Q ≤ x - 1
          have := hltx.out; omega
    · obtain ⟨a, ha⟩ : ∃ n : Nat, Hid (x * y0 = n) := ⟨_, rfl⟩
      have hma : IntKind.u64.wrap ((x : Int) * (y0 : Int)) = (a : Int) := DivM.wrap_prod ha.out (by omega) (by omega)
      by_cases ht : (4294967296 : Int) * (z : Int) + (v1 : Int) < (a : Int)
      · have hltx : Hid (Q < x) := by
          show Q < x
          have := DivM.less_of_test (v := v1) hYd.out hYp hxzx.out (by rw [ha.out]; omega)
          rw [hQ.out] at this; exact this
        by_cases hz : (4294967296 : Int) ≤ (z : Int) + (y1 : Int)
        · have ex : Q + 1 = x := by
            have hl := hltx.out
            have := DivM.is_digit_broke (v := v1) hYd.out hYp hb0.out (DivM.dec_eq hl hxzx.out) (by omega) (by omega) (by rw [hQ.out]; omega)
            rw [hQ.out] at this; omega
          have hxQx : (x : Int) - 1 = (Q : Int) := by omega
          clear ex hltx hQxx hxzx
          have hR := hR'.out
          have hg := hg'.out
          have hn := hn'.out
          have ht0 := ht'.out
          have hS := hS'.out
          have hrem := hrem'.out
          go_wp2
          go_loop [18, 16] (fun a b => ∃ p k : Nat, a = .int .u64 p ∧ b = .int .u64 k ∧ Hid (p * y1 + k = R) ∧ (k : Int) < 4294967296 ∧ Hid (Q0 ≤ p) ∧ (p : Int) ≤ 4294967297) (fun a _ => (intOf a).toNat)
          case atStart => exact ⟨g, t, rfl, rfl, hgt, dt, hQg, dg⟩
          case round =>
            obtain ⟨p, k, rfl, rfl, hxzp, bk, hQxp, bp⟩ := hrel
            by_cases hb : (4294967296 : Int) ≤ (p : Int)
            · have hltp : Hid (Q0 < p) := by
                show Q0 < p
                have := DivM.digit_lt (v := v0) HRY.out HC0.out
                rw [hQ0.out] at this; omega
              by_cases hz : (4294967296 : Int) ≤ (k : Int) + (y1 : Int)
              · have ep : Q0 + 1 = p := by
                  have hl := hltp.out
                  have := DivM.is_digit_broke (v := v0) hYd.out hYp hb0.out (DivM.dec_eq hl hxzp.out) (by omega) (by omega) (by rw [hQ0.out]; omega)
                  rw [hQ0.out] at this; omega
                have hxQp : (p : Int) - 1 = (Q0 : Int) := by omega
                clear ep hltp hQxp hxzp
                have hR := hR'.out
                have hg := hg'.out
                have hn := hn'.out
                have ht0 := ht'.out
                have hS := hS'.out
                have hrem := hrem'.out
                go_wp2
                have hqq : (Q : Int) * 4294967296 + (Q0 : Int) = (quo : Int) := by have := hquo.out; omega
                rw [hqq]
                go_ret2
                exact ⟨rfl, rfl⟩
              · have hx1 : (1 : Int) ≤ (p : Int) := by have := hltp.out; omega
                go_wp2
                refine ⟨⟨p - 1, k + y1, by go_num, by go_num, ?_, by omega, ?_, by omega⟩, by simp [intOf]; omega⟩
                · exact DivM.dec_eq hltp.out hxzp.out
                · show Q0 ≤ p - 1
                  have := hltp.out; omega
            · obtain ⟨b, hb⟩ : ∃ n : Nat, Hid (p * y0 = n) := ⟨_, rfl⟩
              have hmb : IntKind.u64.wrap ((p : Int) * (y0 : Int)) = (b : Int) := DivM.wrap_prod hb.out (by omega) (by omega)
              by_cases ht : (4294967296 : Int) * (k : Int) + (v0 : Int) < (b : Int)
              · have hltp : Hid (Q0 < p) := by
                  show Q0 < p
                  have := DivM.less_of_test (v := v0) hYd.out hYp hxzp.out (by rw [hb.out]; omega)
                  rw [hQ0.out] at this; exact this
                by_cases hz : (4294967296 : Int) ≤ (k : Int) + (y1 : Int)
                · have ep : Q0 + 1 = p := by
                    have hl := hltp.out
                    have := DivM.is_digit_broke (v := v0) hYd.out hYp hb0.out (DivM.dec_eq hl hxzp.out) (by omega) (by omega) (by rw [hQ0.out]; omega)
                    rw [hQ0.out] at this; omega
                  have hxQp : (p : Int) - 1 = (Q0 : Int) := by omega
                  clear ep hltp hQxp hxzp
                  have hR := hR'.out
                  have hg := hg'.out
                  have hn := hn'.out
                  have ht0 := ht'.out
                  have hS := hS'.out
                  have hrem := hrem'.out
                  go_wp2
                  have hqq : (Q : Int) * 4294967296 + (Q0 : Int) = (quo : Int) := by have := hquo.out; omega
                  rw [hqq]
                  go_ret2
                  exact ⟨rfl, rfl⟩
                · have hx1 : (1 : Int) ≤ (p : Int) := by have := hltp.out; omega
                  go_wp2
                  refine ⟨⟨p - 1, k + y1, by go_num, by go_num, ?_, by omega, ?_, by omega⟩, by simp [intOf]; omega⟩
                  · exact DivM.dec_eq hltp.out hxzp.out
                  · show Q0 ≤ p - 1
                    have := hltp.out; omega
              · have ep : Q0 = p := by
                  have := DivM.is_digit (v := v0) hYd.out hYp hxzp.out (by rw [hb.out]; omega) (by rw [hQ0.out]; exact hQxp.out)
                  rw [hQ0.out] at this; exact this
                clear hQxp
                subst ep
                clear hxzp
                have hR := hR'.out
                have hg := hg'.out
                have hn := hn'.out
                have ht0 := ht'.out
                have hS := hS'.out
                have hrem := hrem'.out
                go_wp2
                have hqq : (Q : Int) * 4294967296 + (Q0 : Int) = (quo : Int) := by have := hquo.out; omega
                rw [hqq]
                go_ret2
                exact ⟨rfl, rfl⟩
        · have hx1 : (1 : Int) ≤ (x : Int) := by have := hltx.out; omega
          go_wp2
          refine ⟨⟨x - 1, z + y1, by go_num, by go_num, ?_, by omega, ?_, by omega⟩, by simp [intOf]; omega⟩
          · exact DivM.dec_eq hltx.out hxzx.out
          · show Q ≤ x - 1
            have := hltx.out; omega
      · have ex : Q = x := by
          have := DivM.is_digit (v := v1) hYd.out hYp hxzx.out (by rw [ha.out]; omega) (by rw [hQ.out]; exact hQxx.out)
          rw [hQ.out] at this; exact this
        clear hQxx
        subst ex
        clear hxzx
        have hR := hR'.out
        have hg := hg'.out
        have hn := hn'.out
        have ht0 := ht'.out
        have hS := hS'.out
        have hrem := hrem'.out
        go_wp2
        go_loop [18, 16] (fun a b => ∃ p k : Nat, a = .int .u64 p ∧ b = .int .u64 k ∧ Hid (p * y1 + k = R) ∧ (k : Int) < 4294967296 ∧ Hid (Q0 ≤ p) ∧ (p : Int) ≤ 4294967297) (fun a _ => (intOf a).toNat)
        case atStart => exact ⟨g, t, rfl, rfl, hgt, dt, hQg, dg⟩
        case round =>
          obtain ⟨p, k, rfl, rfl, hxzp, bk, hQxp, bp⟩ := hrel
          by_cases hb : (4294967296 : Int) ≤ (p : Int)
          · have hltp : Hid (Q0 < p) := by
              show Q0 < p
              have := DivM.digit_lt (v := v0) HRY.out HC0.out
              rw [hQ0.out] at this; omega
            by_cases hz : (4294967296 : Int) ≤ (k : Int) + (y1 : Int)
            · have ep : Q0 + 1 = p := by
                have hl := hltp.out
                have := DivM.is_digit_broke (v := v0) hYd.out hYp hb0.out (DivM.dec_eq hl hxzp.out) (by omega) (by omega) (by rw [hQ0.out]; omega)
                rw [hQ0.out] at this; omega
              have hxQp : (p : Int) - 1 = (Q0 : Int) := by omega
              clear ep hltp hQxp hxzp
              have hR := hR'.out
              have hg := hg'.out
              have hn := hn'.out
              have ht0 := ht'.out
              have hS := hS'.out
              have hrem := hrem'.out
              go_wp2
              have hqq : (Q : Int) * 4294967296 + (Q0 : Int) = (quo : Int) := by have := hquo.out; omega
              rw [hqq]
              go_ret2
              exact ⟨rfl, rfl⟩
            · have hx1 : (1 : Int) ≤ (p : Int) := by have := hltp.out; omega
              go_wp2
              refine ⟨⟨p - 1, k + y1, by go_num, by go_num, ?_, by omega, ?_, by omega⟩, by simp [intOf]; omega⟩
              · exact DivM.dec_eq hltp.out hxzp.out
              · show Q0 ≤ p - 1
                have := hltp.out; omega
          · obtain ⟨b, hb⟩ : ∃ n : Nat, Hid (p * y0 = n) := ⟨_, rfl⟩
            have hmb : IntKind.u64.wrap ((p : Int) * (y0 : Int)) = (b : Int) := DivM.wrap_prod hb.out (by omega) (by omega)
            by_cases ht : (4294967296 : Int) * (k : Int) + (v0 : Int) < (b : Int)
            · have hltp : Hid (Q0 < p) := by
                show Q0 < p
                have := DivM.less_of_test (v := v0) hYd.out hYp hxzp.out (by rw [hb.out]; omega)
                rw [hQ0.out] at this; exact this
              by_cases hz : (4294967296 : Int) ≤ (k : Int) + (y1 : Int)
              · have ep : Q0 + 1 = p := by
                  have hl := hltp.out
                  have := DivM.is_digit_broke (v := v0) hYd.out hYp hb0.out (DivM.dec_eq hl hxzp.out) (by omega) (by omega) (by rw [hQ0.out]; omega)
                  rw [hQ0.out] at this; omega
                have hxQp : (p : Int) - 1 = (Q0 : Int) := by omega
                clear ep hltp hQxp hxzp
                have hR := hR'.out
                have hg := hg'.out
                have hn := hn'.out
                have ht0 := ht'.out
                have hS := hS'.out
                have hrem := hrem'.out
                go_wp2
                have hqq : (Q : Int) * 4294967296 + (Q0 : Int) = (quo : Int) := by have := hquo.out; omega
                rw [hqq]
                go_ret2
                exact ⟨rfl, rfl⟩
              · have hx1 : (1 : Int) ≤ (p : Int) := by have := hltp.out; omega
                go_wp2
                refine ⟨⟨p - 1, k + y1, by go_num, by go_num, ?_, by omega, ?_, by omega⟩, by simp [intOf]; omega⟩
                · exact DivM.dec_eq hltp.out hxzp.out
                · show Q0 ≤ p - 1
                  have := hltp.out; omega
            · have ep : Q0 = p := by
                have := DivM.is_digit (v := v0) hYd.out hYp hxzp.out (by rw [hb.out]; omega) (by rw [hQ0.out]; exact hQxp.out)
                rw [hQ0.out] at this; exact this
              clear hQxp
              subst ep
              clear hxzp
              have hR := hR'.out
              have hg := hg'.out
              have hn := hn'.out
              have ht0 := ht'.out
              have hS := hS'.out
              have hrem := hrem'.out
              go_wp2
              have hqq : (Q : Int) * 4294967296 + (Q0 : Int) = (quo : Int) := by have := hquo.out; omega
              rw [hqq]
              go_ret2
              exact ⟨rfl, rfl⟩
end Go.Proofs.Ythplmgjnlhcapaa.FixD
