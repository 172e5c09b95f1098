/- What the program's readers of numbers answer: by labels and gotos, a number, how many bytes it has, and an error. -/
import Derived.Test.YtcgaeblegiabjaaDoorProg
import Derived.Test.YtcgaeblegiabjaaDoorScopeMany
import Derived.Test.YtcgaeblegiabjaaDoorGetMath
import Derived.WalkKit
import Derived.WalkSpells
import Derived.WalkLawsBesides
import Derived.WalkMore
namespace Go.Proofs.YtcgaeblegiabjaaDoor.GetW
open Go.RowKit

/-- an error as the program has it -/
def errV (c : Int) : Value := if c = 0 then .nilIface else .iface 69 (.agg #[.int .i64 c])
theorem ret_int {k : IntKind} {a b : Int} (h : a = b) : Ending.returned (.int k a) = .returned (.int k b) := by rw [h]

theorem wrap_u64 (n : Int) : IntKind.u64.wrap n = n % 18446744073709551616 := by simp [IntKind.wrap, IntKind.bits, IntKind.signed]
theorem or_step (x k c : Nat) (hx : x < 128 ^ k) (hk : k ≤ 9) (hc : c < 256) (h9 : ¬ (k = 9 ∧ 1 < c)) :
    bits BinOp.or IntKind.u64 (x : Int) (IntKind.u64.wrap (IntKind.u64.wrap (bits BinOp.and IntKind.u8 (c : Int) 127) * 2 ^ (7 * k))) = ((x + c % 128 * 128 ^ k : Nat) : Int) := by
  have e1 : bits BinOp.and IntKind.u8 (c : Int) 127 = ((c % 128 : Nat) : Int) := by
    have := u8_and_nat c 127 hc (by omega)
    rw [nat_mask7] at this; exact this
  have e2 : (2 : Int) ^ (7 * k) = ((128 ^ k : Nat) : Int) := by
    rw [Int.natCast_pow]
    show (2 : Int) ^ (7 * k) = (128 : Int) ^ k
    rw [Int.pow_mul]; rfl
  have hsum := GetM.at_sum_lt k x c hk hx h9
  rw [e1, e2, wrap_u64, wrap_u64]
  have e3 : ((c % 128 : Nat) : Int) % 18446744073709551616 = ((c % 128 : Nat) : Int) := by omega
  rw [e3, ← Int.natCast_mul]
  have e4 : ((c % 128 * 128 ^ k : Nat) : Int) % 18446744073709551616 = ((c % 128 * 128 ^ k : Nat) : Int) := by omega
  rw [e4, u64_or_nat x _ (by omega) (by omega)]
  have e5 : 128 ^ k = 2 ^ (7 * k) := by rw [Nat.pow_mul]
  have := nat_join (7 * k) (c % 128 * 128 ^ k) x (by rw [e5]; exact Nat.mul_mod_left _ _) (by rw [← e5]; exact hx)
  rw [Nat.or_comm, this, Nat.add_comm]
theorem or_nine (x c : Nat) (hx : x < 128 ^ 9) (h9 : ¬ 1 < c) :
    bits BinOp.or IntKind.u64 (x : Int) (IntKind.u64.wrap (IntKind.u64.wrap (bits BinOp.and IntKind.u8 (c : Int) 127) * 9223372036854775808)) = ((x + c % 128 * 128 ^ 9 : Nat) : Int) := by
  have := or_step x 9 c hx (by omega) (by omega) (by omega)
  rw [← this]
  rfl

theorem or_zero (c : Nat) (hc : c < 256) :
    bits BinOp.or IntKind.u64 0 (IntKind.u64.wrap (IntKind.u64.wrap (bits BinOp.and IntKind.u8 (c : Int) 127))) = ((0 + c % 128 * 128 ^ 0 : Nat) : Int) := by
  have := or_step 0 0 c (by decide) (by omega) hc (by omega)
  rw [Nat.mul_zero, Int.pow_zero, Int.mul_one] at this
  exact this

theorem and_one (x : Nat) (hx : x < 18446744073709551616) : bits .and .u64 (x : Int) 1 = ((x % 2 : Nat) : Int) := by
  have := u64_and_nat x 1 hx (by omega)
  rw [nat_mask1] at this; exact this
theorem xor_ones64 (r : Nat) (h : r < 18446744073709551616) : 18446744073709551615 ^^^ r = 18446744073709551615 - r := by
  have e : 18446744073709551615 - r = ((~~~ (BitVec.ofNat 64 r)).toNat) := by
    rw [BitVec.toNat_not, BitVec.toNat_ofNat, Nat.mod_eq_of_lt h]
  have e2 : 18446744073709551615 ^^^ r = ((BitVec.ofNat 64 r) ^^^ (BitVec.allOnes 64)).toNat := by
    rw [BitVec.toNat_xor, BitVec.toNat_ofNat, BitVec.toNat_allOnes, Nat.mod_eq_of_lt h, Nat.xor_comm]
  rw [e, e2, BitVec.xor_allOnes]
theorem back_odd (u : Nat) (hu : u < 18446744073709551616) (h : u % 2 = 1) : wrap64 (bits BinOp.xor IntKind.u64 IntKind.u64.max ((u : Int) / 2)) = GetM.backN u := by
  have e : ((u : Int) / 2) = ((u / 2 : Nat) : Int) := by omega
  have := u64_xor_nat 18446744073709551615 (u / 2) (by omega) (by omega)
  rw [xor_ones64 _ (by omega)] at this
  have e2 : IntKind.u64.max = ((18446744073709551615 : Nat) : Int) := by decide
  rw [e, e2, this]
  unfold GetM.backN wrap64; rw [if_pos h]; omega

set_option maxHeartbeats 400000 in
theorem unfolded_any (u : Nat) (w : World) (hu : u < 18446744073709551616) :
    Calls Tryd.prog 51 #[.int .u64 u] w fun e w' => e = .returned (.int .i64 (GetM.backN u)) ∧ w = w' := by
  by_cases h : u % 2 = 1
  · have hm : (bits .and .u64 (u : Int) 1 == 1) = true := by rw [and_one u hu, beq_iff_eq]; omega
    have HO : Hid (u % 2 = 1) := h
    clear h
    go_enter Tryd.func51, Tryd.ntmps51
    go_wp2
    go_ret
    exact ⟨ret_int (back_odd u hu HO.out), rfl⟩
  · have hm : (bits .and .u64 (u : Int) 1 == 1) = false := by rw [and_one u hu, beq_eq_false_iff_ne]; omega
    go_enter Tryd.func51, Tryd.ntmps51
    go_wp2
    go_ret
    exact ⟨ret_int (by unfold GetM.backN; rw [if_neg h]; omega), rfl⟩

set_option maxRecDepth 10000 in
set_option maxHeartbeats 1000000 in
theorem first_any (s : ByteArray) (w : World) (hs : s.size ≤ 8000) :
    Calls Tryd.prog 49 #[.string s] w fun e w' => e = .returned (.tuple #[.int .i64 (GetM.getN s.data.toList).1, .int .i64 (GetM.getN s.data.toList).2.1, errV (GetM.getN s.data.toList).2.2]) ∧ w = w' := by
  go_enter Tryd.func49, Tryd.ntmps49
  go_wp2
  refine ScopeM.wp_scope_three
    (fun a' w' => w' = w ∧ ∃ (u5 u6 u7 : Value) (code : Int) (u9 u10 u11 u12 u13 u14 u15 u16 u17 u18 u19 u20 u21 u22 u23 u24 u25 u26 u27 u28 u29 u30 u31 u32 u33 u34 u35 u36 u37 u38 u39 u40 u41 u42 u43 u44 u45 : Value), a' = { tmps := #[.string s, undef, .int .i64 0, .int .i64 0, .nilIface, u5, u6, u7, .int .i64 code, u9, u10, u11, u12, u13, u14, u15, u16, u17, u18, u19, u20, u21, u22, u23, u24, u25, u26, u27, u28, u29, u30, u31, u32, u33, u34, u35, u36, u37, u38, u39, u40, u41, u42, u43, u44, u45], defers := [] } ∧ GetM.getN s.data.toList = (0, 0, code) ∧ ¬ code = 0)
    (fun a' w' => w' = w ∧ ∃ (x k : Nat) (u6 u9 u10 u11 u12 u13 u14 u15 u16 u17 u18 u19 u20 u21 u22 u23 u24 u25 u26 u27 u28 u29 u30 u31 u32 u33 u34 u35 u36 u37 u38 u39 u40 u41 u42 u43 u44 u45 : Value), a' = { tmps := #[.string s, undef, .int .i64 0, .int .i64 0, .nilIface, .int .u64 x, u6, .int .i64 k, .int .i64 4, u9, u10, u11, u12, u13, u14, u15, u16, u17, u18, u19, u20, u21, u22, u23, u24, u25, u26, u27, u28, u29, u30, u31, u32, u33, u34, u35, u36, u37, u38, u39, u40, u41, u42, u43, u44, u45], defers := [] } ∧ GetM.At s.data.toList k x)
    (fun a' w' => w' = w ∧ ∃ (x k b : Nat) (u9 u10 u11 u12 u13 u14 u15 u16 u17 u18 u19 u20 u21 u22 u23 u24 u25 u26 u27 u28 u29 u30 u31 u32 u33 u34 u35 u36 u37 u38 u39 u40 u41 u42 u43 u44 u45 : Value), a' = { tmps := #[.string s, undef, .int .i64 0, .int .i64 0, .nilIface, .int .u64 x, .int .u8 b, .int .i64 k, .int .i64 4, u9, u10, u11, u12, u13, u14, u15, u16, u17, u18, u19, u20, u21, u22, u23, u24, u25, u26, u27, u28, u29, u30, u31, u32, u33, u34, u35, u36, u37, u38, u39, u40, u41, u42, u43, u44, u45], defers := [] } ∧ x < 18446744073709551616 ∧ b < 128 ∧ k ≤ 10 ∧ Hid (b = 0 ∧ 1 < k → GetM.getN s.data.toList = (0, 0, 3)) ∧ Hid (¬ (b = 0 ∧ 1 < k) → GetM.getN s.data.toList = (GetM.backN x, k, 0)))
    (fun _ _ => 0) (fun a' _ => 12 - (intOf (a'.tmps.getD 7 undef)).toNat) (fun _ _ => 1) rfl rfl rfl ?_ ?_ ?_ ?_
  · by_cases h0 : s.size = 0
    · have HZ : Hid (s.data.toList.length ≤ 0) := Nat.le_of_eq h0
      go_wp2
      go_step3
      go_wp2
      go_step3
      exact ⟨rfl, _, _, _, _, _, _, _, _, _, _, _, _, _, _, _, _, _, _, _, _, _, _, _, _, _, _, _, _, _, _, _, _, _, _, _, _, _, _, _, _, _, rfl, GetM.at_short _ 0 0 (GetM.at_start _) HZ.out, by decide⟩
    · have h0' : 0 < s.size := by omega
      by_cases hc : s[0].toNat < 128
      · go_wp2
        go_step3
        go_wp2
        go_step3
        rw [or_zero s[0].toNat (by omega)]
        refine ⟨rfl, 0 + s[0].toNat % 128 * 128 ^ 0, 1, s[0].toNat, _, _, _, _, _, _, _, _, _, _, _, _, _, _, _, _, _, _, _, _, _, _, _, _, _, _, _, _, _, _, _, _, _, _, _, _, _, rfl, GetM.at_sum_lt 0 0 _ (by omega) (by decide) (by omega), hc, by omega, ?_, ?_⟩
        · intro hh; omega
        · intro hh; exact GetM.at_done _ 0 0 (GetM.at_start _) h0' (by omega) hc (by omega)
      · go_wp2
        go_step3
        go_wp2
        go_step3
        rw [or_zero s[0].toNat (by have := s[0].toNat_lt; omega)]
        exact ⟨rfl, 0 + s[0].toNat % 128 * 128 ^ 0, 1, _, _, _, _, _, _, _, _, _, _, _, _, _, _, _, _, _, _, _, _, _, _, _, _, _, _, _, _, _, _, _, _, _, _, _, _, _, _, rfl, GetM.at_more _ 0 0 (GetM.at_start _) h0' (by omega) hc⟩
  · rintro a' w' ⟨rfl, u5, u6, u7, code, u9, u10, u11, u12, u13, u14, u15, u16, u17, u18, u19, u20, u21, u22, u23, u24, u25, u26, u27, u28, u29, u30, u31, u32, u33, u34, u35, u36, u37, u38, u39, u40, u41, u42, u43, u44, u45, rfl, hN, hc0⟩
    have HN : Hid (GetM.getN s.data.toList = (0, 0, code)) := hN
    have HC : Hid (¬ code = 0) := hc0
    clear hN hc0
    go_wp2
    rw [ScopeM.jumps_ret]
    go_ret3
    exact ⟨by rw [HN.out]; unfold errV; rw [if_neg HC.out]; rfl, rfl⟩
  · rintro a' w' ⟨rfl, x, k, u6, u9, u10, u11, u12, u13, u14, u15, u16, u17, u18, u19, u20, u21, u22, u23, u24, u25, u26, u27, u28, u29, u30, u31, u32, u33, u34, u35, u36, u37, u38, u39, u40, u41, u42, u43, u44, u45, rfl, hA⟩
    have hk9 := hA.1
    have hkl : k ≤ s.size := hA.2.1
    have hx : x < 128 ^ k := hA.2.2.1
    have HA : Hid (GetM.At s.data.toList k x) := hA
    have HX : Hid (x < 128 ^ k) := hx
    clear hA hx
    by_cases hlt : k < s.size
    · by_cases h9 : k < 9
      · have hs9 : ((k : Int) == 9) = false := by simp; omega
        by_cases hc : s[k].toNat < 128
        · go_wp2
          go_step3
          rw [or_step x k s[k].toNat HX.out (by omega) (by omega) (by omega)]
          refine ⟨⟨rfl, x + s[k].toNat % 128 * 128 ^ k, k + 1, s[k].toNat, _, _, _, _, _, _, _, _, _, _, _, _, _, _, _, _, _, _, _, _, _, _, _, _, _, _, _, _, _, _, _, _, _, _, _, _, _, rfl, GetM.at_sum_lt k x _ hk9 HX.out (by omega), hc, by omega, ?_, ?_⟩, ?_⟩
          · intro hh; exact GetM.at_nought _ k x HA.out (by simpa using hlt) hh.1 (by omega)
          · intro hh; exact GetM.at_done _ k x HA.out (by simpa using hlt) (by omega) hc (by intro h; exact hh ⟨h.1, by omega⟩)
          · simp [intOf]; omega
        · go_wp2
          go_step3
          rw [or_step x k s[k].toNat HX.out (by omega) (by have := s[k].toNat_lt; omega) (by omega)]
          refine ⟨⟨rfl, x + s[k].toNat % 128 * 128 ^ k, k + 1, _, _, _, _, _, _, _, _, _, _, _, _, _, _, _, _, _, _, _, _, _, _, _, _, _, _, _, _, _, _, _, _, _, _, _, _, _, _, rfl, GetM.at_more _ k x HA.out (by simpa using hlt) h9 hc⟩, ?_⟩
          simp [intOf]; omega
      · have hk : k = 9 := by omega
        subst hk
        by_cases hc : 1 < s[9].toNat
        · go_wp2
          go_step3
          exact ⟨⟨rfl, _, _, _, _, _, _, _, _, _, _, _, _, _, _, _, _, _, _, _, _, _, _, _, _, _, _, _, _, _, _, _, _, _, _, _, _, _, _, _, _, _, rfl, GetM.at_tenth _ x HA.out (by simpa using hlt) hc, by decide⟩, by simp [intOf]⟩
        · go_wp2
          go_step3
          rw [or_nine x s[9].toNat HX.out (by omega)]
          refine ⟨⟨rfl, x + s[9].toNat % 128 * 128 ^ 9, 10, s[9].toNat, _, _, _, _, _, _, _, _, _, _, _, _, _, _, _, _, _, _, _, _, _, _, _, _, _, _, _, _, _, _, _, _, _, _, _, _, _, rfl, GetM.at_sum_lt 9 x _ hk9 HX.out (by omega), by omega, by omega, ?_, ?_⟩, ?_⟩
          · intro hh; exact GetM.at_nought _ 9 x HA.out (by simpa using hlt) hh.1 (by omega)
          · intro hh; exact GetM.at_done _ 9 x HA.out (by simpa using hlt) (by intro h; exact hc h.2) (show s[9].toNat < 128 by omega) (by intro h; exact hh ⟨h.1, by omega⟩)
          · simp [intOf]
    · go_wp2
      go_step3
      exact ⟨⟨rfl, _, _, _, _, _, _, _, _, _, _, _, _, _, _, _, _, _, _, _, _, _, _, _, _, _, _, _, _, _, _, _, _, _, _, _, _, _, _, _, _, _, rfl, GetM.at_short _ k x HA.out (by simp; omega), by decide⟩, by simp [intOf]; omega⟩
  · rintro a' w' ⟨rfl, x, k, b, u9, u10, u11, u12, u13, u14, u15, u16, u17, u18, u19, u20, u21, u22, u23, u24, u25, u26, u27, u28, u29, u30, u31, u32, u33, u34, u35, u36, u37, u38, u39, u40, u41, u42, u43, u44, u45, rfl, hx, hb, hk, H1, H2⟩
    by_cases hz : b = 0 ∧ 1 < k
    · have HN : Hid (GetM.getN s.data.toList = (0, 0, 3)) := H1.out hz
      obtain ⟨hz1, hz2⟩ := hz
      subst hz1
      clear H1 H2
      go_wp2
      go_step3
      exact ⟨⟨rfl, _, _, _, _, _, _, _, _, _, _, _, _, _, _, _, _, _, _, _, _, _, _, _, _, _, _, _, _, _, _, _, _, _, _, _, _, _, _, _, _, _, rfl, HN.out, by decide⟩, by simp⟩
    · have HN : Hid (GetM.getN s.data.toList = (GetM.backN x, k, 0)) := H2.out hz
      clear H1 H2
      by_cases hb0 : b = 0
      · subst hb0
        have hk1 : ¬ 1 < k := by omega
        clear hz
        go_wp2_with (go_at_call 51; refine (unfolded_any _ _ hx).mono ?_; rintro e w1 ⟨rfl, rfl⟩)
        rw [ScopeM.jumps_ret]
        go_ret3
        exact ⟨by rw [HN.out]; rfl, rfl⟩
      · clear hz
        go_wp2_with (go_at_call 51; refine (unfolded_any _ _ hx).mono ?_; rintro e w1 ⟨rfl, rfl⟩)
        rw [ScopeM.jumps_ret]
        go_ret3
        exact ⟨by rw [HN.out]; rfl, rfl⟩
end Go.Proofs.YtcgaeblegiabjaaDoor.GetW
