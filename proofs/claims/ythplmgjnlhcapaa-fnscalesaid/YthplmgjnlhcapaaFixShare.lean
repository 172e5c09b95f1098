/- What the program's share reckons, and what the model's own way (bit by bit) reckons: a times b divided by c, rounded. -/
import Derived.Test.YthplmgjnlhcapaaFixDivTop
import Derived.Test.YthplmgjnlhcapaaFixParts
namespace Go.Proofs.Ythplmgjnlhcapaa.FixSh
open Go.RowKit
open FixS FixF FixH FixC FixM FixP FixMu

/-- a times b divided by c, rounded; beyond Most: a fault -/
def shareF (a b c : Nat) (m : Int) : Int × Int := if a * b / c ≤ 1000000000000000 then outR (roundR (a * b / c : Nat) (a * b % c : Nat) c m) else (0, 12)
theorem share_ok {a b c : Nat} {m : Int} (h : a * b / c ≤ 1000000000000000) : shareF a b c m = outR (roundR (a * b / c : Nat) (a * b % c : Nat) c m) := by unfold shareF; rw [if_pos h]
theorem share_no {a b c : Nat} {m : Int} (h : ¬ a * b / c ≤ 1000000000000000) : shareF a b c m = (0, 12) := by unfold shareF; rw [if_neg h]

set_option maxRecDepth 10000 in
set_option maxHeartbeats 1600000 in
theorem share_any (a b c : Nat) (m : Int) (w : World) (ha : a ≤ 1000000000000000) (hb : b ≤ 1000000000000000) (hc : 1 ≤ c ∧ c ≤ 1000000000000000) (hm : 0 ≤ m ∧ m ≤ 2) :
    Calls Try.prog 65 #[.int .i64 a, .int .i64 b, .int .i64 c, .int .i64 m] w fun e w' => e = endE (shareF a b c m) ∧ Below w.heap.size w w' := by
  have hmul := mul_any a b (by omega) (by omega)
  have hdm := Nat.div_add_mod (a * b) 18446744073709551616
  have hlo := Nat.mod_lt (a * b) (show 0 < 18446744073709551616 by omega)
  have hl := Nat.mod_lt (a * b) (show 0 < c by omega)
  by_cases hh : a * b / 18446744073709551616 < c
  · have hdiv := fun w => FixD.div_any (a * b / 18446744073709551616) (a * b % 18446744073709551616) c w hh hc.2 hlo
    rw [show a * b / 18446744073709551616 * 18446744073709551616 + a * b % 18446744073709551616 = a * b by omega] at hdiv
    by_cases hd : a * b / c ≤ 1000000000000000
    · rw [share_ok hd]
      generalize a * b / 18446744073709551616 = xh at *
      generalize a * b % 18446744073709551616 = xl at *
      generalize a * b / c = d at *
      generalize a * b % c = l at *
      clear hdm
      obtain ⟨r, hr⟩ : ∃ r, Hid (roundR (d : Int) (l : Int) (c : Int) m = r) := ⟨_, rfl⟩
      rw [hr.out]
      go_enter Try.func65, Try.ntmps65
      go_wp2_with (first
        | (go_at_call 77; refine (hmul _).mono ?_; rintro e w' ⟨rfl, rfl⟩)
        | (go_at_call 79; refine (heldU_in _ _ _ _ _ (by omega)).mono ?_; rintro e w' ⟨rfl, rfl⟩))
      refine (hdiv _).mono ?_
      rintro e w1 ⟨rfl, hB⟩
      clear hmul hdiv hlo hh
      go_wp2_with (first
        | (go_at_call 79; refine (heldU_in _ _ _ _ _ (by omega)).mono ?_; rintro e w' ⟨rfl, rfl⟩)
        | (go_at_call 80; refine (rounded_any _ _ _ _ _ (by omega) (by omega) (by omega) hm).mono ?_; rintro e w' ⟨rfl, rfl⟩; rw [hr.out]))
      refine (reckoned_end r _).mono ?_
      rintro e w2 ⟨he, hB2⟩
      have hB3 := hB.trans (hB2.mono hB.size)
      by_cases hz : (outR r).2 = 0
      · rw [endE_ok hz] at he
        subst he
        obtain ⟨f, hf⟩ : ∃ f, Hid ((outR r).1 = f) := ⟨_, rfl⟩
        rw [hf.out]
        have HZ : Hid ((outR r).2 = 0) := hz
        clear hz hB hB2
        go_wp2
        go_ret
        exact ⟨by rw [endE_ok HZ.out, hf.out]; rfl, hB3⟩
      · rw [endE_no hz] at he
        subst he
        exact ⟨rfl, (endE_no hz).symm, hB3⟩
    · rw [share_no hd, endE_no (by decide)]
      generalize a * b / 18446744073709551616 = xh at *
      generalize a * b % 18446744073709551616 = xl at *
      generalize a * b / c = d at *
      generalize a * b % c = l at *
      clear hdm
      go_enter Try.func65, Try.ntmps65
      go_wp2_with (first
        | (go_at_call 77; refine (hmul _).mono ?_; rintro e w' ⟨rfl, rfl⟩)
        | (go_at_call 79; refine (heldU_in _ _ _ _ _ (by omega)).mono ?_; rintro e w' ⟨rfl, rfl⟩))
      refine (hdiv _).mono ?_
      rintro e w1 ⟨rfl, hB⟩
      clear hmul hdiv hlo hh
      go_wp2_with (first
        | (go_at_call 79; refine (heldU_out _ _ _ _ _ (by omega)).mono ?_; rintro e w' ⟨rfl, rfl⟩))
      exact ⟨rfl, rfl, hB⟩
  · have hd : ¬ a * b / c ≤ 1000000000000000 := by
      have h1 : c * 18446744073709551616 ≤ a * b := by
        have : c * 18446744073709551616 ≤ a * b / 18446744073709551616 * 18446744073709551616 := Nat.mul_le_mul_right _ (by omega)
        omega
      have h2 : 18446744073709551616 ≤ a * b / c := by rw [Nat.le_div_iff_mul_le (by omega), Nat.mul_comm]; exact h1
      omega
    rw [share_no hd, endE_no (by decide)]
    clear hd
    generalize a * b / 18446744073709551616 = xh at *
    generalize a * b % 18446744073709551616 = xl at *
    clear hdm hl
    go_enter Try.func65, Try.ntmps65
    go_wp2_with (first
      | (go_at_call 77; refine (hmul _).mono ?_; rintro e w' ⟨rfl, rfl⟩)
      | (go_at_call 79; refine (heldU_out _ _ _ _ _ (by omega)).mono ?_; rintro e w' ⟨rfl, rfl⟩))
    exact ⟨rfl, rfl, Below.refl _ _⟩

/-- one bit more of b -/
theorem bit_step {a c x y u k : Nat} (h : a * u = x * c + y) (hk : k < 2) :
    a * (2 * u + k) = (2 * x + k * (a / c) + (2 * y + k * (a % c)) / c) * c + (2 * y + k * (a % c)) % c := by
  have h1 := Nat.div_add_mod (2 * y + k * (a % c)) c
  have h2 := Nat.div_add_mod a c
  obtain ⟨z, hz⟩ : ∃ z, (2 * y + k * (a % c)) / c = z := ⟨_, rfl⟩
  obtain ⟨m, hm⟩ : ∃ z, (2 * y + k * (a % c)) % c = z := ⟨_, rfl⟩
  rw [hz, hm] at h1 ⊢
  clear hz hm
  rw [Nat.mul_add, Nat.add_mul, Nat.add_mul, Nat.mul_comm z c, ← Nat.mul_assoc, Nat.mul_right_comm, h]
  rcases (by omega : k = 0 ∨ k = 1) with rfl | rfl
  · simp only [Nat.mul_zero, Nat.zero_mul, Nat.add_zero] at h1 ⊢
    rw [Nat.mul_assoc 2 x c]
    generalize x * c = p at *
    generalize c * z = e at *
    omega
  · simp only [Nat.mul_one, Nat.one_mul] at h1 ⊢
    rw [Nat.mul_assoc 2 x c]
    rw [Nat.mul_comm (a / c) c]
    generalize x * c = p at *
    generalize c * z = e at *
    generalize c * (a / c) = d at *
    omega
theorem prefix_bit (b k : Nat) : b / 2 ^ k = 2 * (b / 2 ^ (k + 1)) + b / 2 ^ k % 2 := by
  rw [Nat.pow_succ, ← Nat.div_div_eq_div_mul]; omega

theorem and_one (i : Nat) (hi : i < 9223372036854775808) : bits .and .i64 (i : Int) 1 = ((i % 2 : Nat) : Int) := by
  have h1 : (BitVec.ofInt 64 (i : Int)).toNat = i := by
    rw [BitVec.ofInt_natCast, BitVec.toNat_ofNat]; exact Nat.mod_eq_of_lt (by omega)
  show IntKind.i64.wrap ((BitVec.ofInt 64 (i : Int) &&& BitVec.ofInt 64 1).toNat : Int) = _
  rw [BitVec.toNat_and, h1, show (BitVec.ofInt 64 1).toNat = 1 by decide, Nat.and_one_is_mod, IntKind.wrap_i64]
  omega
/-- what the model's own way answers -/
def mulV (a b c : Nat) : Value := if a * b / c ≤ 1000000000000000 then .tuple #[.int .i64 (a * b / c : Nat), .int .i64 (a * b % c : Nat), .bool true] else .tuple #[.int .i64 0, .int .i64 0, .bool false]
theorem mulV_ok {a b c x y : Nat} (hc : 0 < c) (h : a * b = x * c + y) (hy : y < c) (hx : x ≤ 1000000000000000) : mulV a b c = .tuple #[.int .i64 (x : Int), .int .i64 (y : Int), .bool true] := by
  have := (Nat.div_mod_unique (a := a * b) (b := c) (c := y) (d := x) hc).2 ⟨by rw [Nat.mul_comm c x]; omega, hy⟩
  unfold mulV; rw [this.1, this.2, if_pos hx]
theorem mulV_no {a b c x y j : Nat} (hc : 0 < c) (h : a * (b / 2 ^ j) = x * c + y) (hx : ¬ x ≤ 1000000000000000) : mulV a b c = .tuple #[.int .i64 0, .int .i64 0, .bool false] := by
  have h1 : b / 2 ^ j ≤ b := Nat.div_le_self _ _
  have h2 : a * (b / 2 ^ j) ≤ a * b := Nat.mul_le_mul_left _ h1
  have h3 : x ≤ a * b / c := by rw [Nat.le_div_iff_mul_le hc]; omega
  unfold mulV; rw [if_neg (by omega)]

set_option maxRecDepth 10000 in
set_option maxHeartbeats 3200000 in
theorem smul_any (a b c : Nat) (w : World) (ha : a ≤ 1000000000000000) (hb : b ≤ 1000000000000000) (hc : 1 ≤ c ∧ c ≤ 1000000000000000) :
    Calls Try.prog 70 #[.int .i64 a, .int .i64 b, .int .i64 c] w fun e w' => e = .returned (mulV a b c) ∧ w' = w := by
  have hstart : Hid (a * (b / 2 ^ 51) = 0 * c + 0) := by
    show _ = _
    have e : (2 : Nat) ^ 51 = 2251799813685248 := by decide
    rw [Nat.div_eq_of_lt (by omega)]; simp
  obtain ⟨d, hd⟩ : ∃ d, Hid (a / c = d) := ⟨_, rfl⟩
  obtain ⟨l, hl⟩ : ∃ d, Hid (a % c = d) := ⟨_, rfl⟩
  have bd : d ≤ 1000000000000000 := by rw [← hd.out]; exact Nat.le_trans (Nat.div_le_self _ _) ha
  have bl : l < c := by rw [← hl.out]; exact Nat.mod_lt _ (by omega)
  have td : (a : Int).tdiv (c : Int) = (d : Int) := by rw [← hd.out]; exact (Int.ofNat_tdiv a c).symm
  have tl : (a : Int).tmod (c : Int) = (l : Int) := by rw [← hl.out]; exact (Int.ofNat_tmod a c).symm
  have c0 : ¬ (c : Int) = 0 := by omega
  go_enter Try.func70, Try.ntmps70
  go_wp2
  go_loop [9, 10, 11] (fun q r i => ∃ x y j : Nat, q = .int .i64 x ∧ r = .int .i64 y ∧ x ≤ 1000000000000000 ∧ y < c ∧ Hid (a * (b / 2 ^ j) = x * c + y) ∧
    ((∃ k : Nat, j = k + 1 ∧ k ≤ 50 ∧ i = .int .i64 k) ∨ (j = 0 ∧ i = .int .i64 (-1)))) (fun _ _ i => (intOf i + 1).toNat)
  case atStart => exact ⟨0, 0, 51, rfl, rfl, by omega, by omega, hstart, Or.inl ⟨50, rfl, by omega, rfl⟩⟩
  case round =>
    obtain ⟨x, y, j, rfl, rfl, hx, hy, HI, hj⟩ := hrel
    clear hstart
    rcases hj with ⟨k, rfl, hk, rfl⟩ | ⟨rfl, rfl⟩
    · obtain ⟨u, hu⟩ : ∃ u, Hid (b / 2 ^ k = u) := ⟨_, rfl⟩
      have tu : (b : Int) / 2 ^ k = (u : Int) := DivM.shr_of hu.out
      have bu : u ≤ 1000000000000000 := by rw [← hu.out]; exact Nat.le_trans (Nat.div_le_self _ _) hb
      by_cases hbit : u % 2 = 1
      · have hand : bits .and .i64 (u : Int) 1 = 1 := by rw [and_one u (by omega)]; omega
        obtain ⟨z, hz⟩ : ∃ z : Nat, Hid ((2 * y + l) / c = z) := ⟨_, rfl⟩
        obtain ⟨m, hm⟩ : ∃ z : Nat, Hid ((2 * y + l) % c = z) := ⟨_, rfl⟩
        have tz : (2 * (y : Int) + (l : Int)) / (c : Int) = (z : Int) := by rw [← hz.out, Int.natCast_ediv]; rfl
        have tm : (2 * (y : Int) + (l : Int)) % (c : Int) = (m : Int) := by rw [← hm.out, Int.natCast_emod]; rfl
        have bm : m < c := by rw [← hm.out]; exact Nat.mod_lt _ (by omega)
        have bz : z ≤ 3000000000000000 := by rw [← hz.out]; exact Nat.le_trans (Nat.div_le_self _ _) (by omega)
        have HN : Hid (a * (b / 2 ^ k) = (2 * x + d + z) * c + m) := by
          show _ = _
          have h1 := bit_step (k := 1) HI.out (by omega)
          have h2 := prefix_bit b k
          rw [hu.out] at h2 ⊢
          rw [show 2 * (b / 2 ^ (k + 1)) + 1 = u by omega, hd.out, hl.out] at h1
          simp only [Nat.one_mul] at h1
          rw [hz.out, hm.out] at h1
          exact h1
        clear hbit
        by_cases hbig : 2 * x + d + z ≤ 1000000000000000
        · have hbi : ¬ (1000000000000000 : Int) < 2 * (x : Int) + (d : Int) + (z : Int) := by omega
          go_wp2
          refine ⟨⟨2 * x + d + z, m, k, by go_num, by rw [tm], hbig, bm, HN, ?_⟩, by simp [intOf]; try omega⟩
          cases k with
          | zero => right; exact ⟨rfl, rfl⟩
          | succ k => left; exact ⟨k, rfl, by omega, by go_num⟩
        · have hbi : (1000000000000000 : Int) < 2 * (x : Int) + (d : Int) + (z : Int) := by omega
          have HR : Hid (mulV a b c = .tuple #[.int .i64 0, .int .i64 0, .bool false]) := mulV_no (by omega) HN.out hbig
          go_wp2
          go_ret3
          exact ⟨by rw [HR.out]; rfl, rfl⟩
      · have hand : bits .and .i64 (u : Int) 1 = 0 := by rw [and_one u (by omega)]; omega
        obtain ⟨z, hz⟩ : ∃ z : Nat, Hid ((2 * y) / c = z) := ⟨_, rfl⟩
        obtain ⟨m, hm⟩ : ∃ z : Nat, Hid ((2 * y) % c = z) := ⟨_, rfl⟩
        have tz : (2 * (y : Int)) / (c : Int) = (z : Int) := by rw [← hz.out, Int.natCast_ediv]; rfl
        have tm : (2 * (y : Int)) % (c : Int) = (m : Int) := by rw [← hm.out, Int.natCast_emod]; rfl
        have bm : m < c := by rw [← hm.out]; exact Nat.mod_lt _ (by omega)
        have bz : z ≤ 3000000000000000 := by rw [← hz.out]; exact Nat.le_trans (Nat.div_le_self _ _) (by omega)
        have HN : Hid (a * (b / 2 ^ k) = (2 * x + z) * c + m) := by
          show _ = _
          have h1 := bit_step (k := 0) HI.out (by omega)
          have h2 := prefix_bit b k
          rw [hu.out] at h2 ⊢
          rw [show 2 * (b / 2 ^ (k + 1)) + 0 = u by omega, hd.out, hl.out] at h1
          simp only [Nat.zero_mul, Nat.add_zero] at h1
          rw [hz.out, hm.out] at h1
          exact h1
        clear hbit
        by_cases hbig : 2 * x + z ≤ 1000000000000000
        · have hbi : ¬ (1000000000000000 : Int) < 2 * (x : Int) + (z : Int) := by omega
          go_wp2
          refine ⟨⟨2 * x + z, m, k, by go_num, by rw [tm], hbig, bm, HN, ?_⟩, by simp [intOf]; try omega⟩
          cases k with
          | zero => right; exact ⟨rfl, rfl⟩
          | succ k => left; exact ⟨k, rfl, by omega, by go_num⟩
        · have hbi : (1000000000000000 : Int) < 2 * (x : Int) + (z : Int) := by omega
          have HR : Hid (mulV a b c = .tuple #[.int .i64 0, .int .i64 0, .bool false]) := mulV_no (by omega) HN.out hbig
          go_wp2
          go_ret3
          exact ⟨by rw [HR.out]; rfl, rfl⟩
    · have HR : Hid (mulV a b c = .tuple #[.int .i64 (x : Int), .int .i64 (y : Int), .bool true]) := mulV_ok (by omega) (by have := HI.out; simpa using this) hy hx
      go_wp2
      go_ret3
      exact ⟨by rw [HR.out]; rfl, rfl⟩
end Go.Proofs.Ythplmgjnlhcapaa.FixSh
