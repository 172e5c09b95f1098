/- The laws' own small helper that tells a place below a bound, of bytes that came in. -/
import Derived.Test.YtcgaeblegiabjaaDoorDrawCore
namespace Go.Proofs.YtcgaeblegiabjaaDoor.DrawW
open Go.RowKit

set_option maxRecDepth 10000 in
set_option maxHeartbeats 400000 in
/-- a place that is told of a byte that came in, below a bound -/
theorem at_any (w : World) (B : Nat) (a : Option Addr) (len cap k : Nat) (most : Int) (hc : CodeAt w B a len) (hk : k ≤ 1) (hm : 1 < most) (hm2 : most ≤ 100000) :
    Calls Tryd.prog 19 #[.slice a len cap, .int .i64 k, .int .i64 most] w fun e w' => ∃ r : Nat, e = .returned (.int .i64 r) ∧ (r : Int) < most ∧ w = w' := by
  obtain ⟨hlen, hb⟩ := hc
  by_cases h0 : len = 0
  · subst h0
    clear hb
    go_enter Tryd.func19, Tryd.ntmps19
    go_wp2
    go_ret
    exact ⟨0, rfl, by omega, rfl⟩
  · have hp : 0 < len := by omega
    obtain ⟨b, off, rfl, hbB, hz⟩ := hb hp
    have hkl : k % len < len := Nat.mod_lt _ hp
    obtain ⟨z, hz256, hzc⟩ := hz (k % len) hkl
    clear hz hb
    have e1 : (k : Int).tmod (len : Int) = ((k % len : Nat) : Int) := by
      rw [Int.tmod_eq_emod_of_nonneg (by omega)]; simp
    have e2 : (z : Int).tmod most = (z : Int) % most := Int.tmod_eq_emod_of_nonneg (by omega)
    have h1 := Int.emod_nonneg (z : Int) (show most ≠ 0 by omega)
    have h3 := Int.emod_lt_of_pos (z : Int) (show 0 < most by omega)
    generalize k % len = j at *
    have hl0 : ((len : Int) == 0) = false := by simp; omega
    have hm0 : decide (most ≤ 1) = false := by simp; omega
    have hn0 : ¬ (most ≤ 1 ∨ ((len : Int) == 0) = true) := by simp; omega
    go_enter Tryd.func19, Tryd.ntmps19
    go_wp2
    go_ret
    exact ⟨((z : Int) % most).toNat, by rw [show (((z : Int) % most).toNat : Int) = (z : Int) % most by omega]; rfl, by omega, rfl⟩
end Go.Proofs.YtcgaeblegiabjaaDoor.DrawW
