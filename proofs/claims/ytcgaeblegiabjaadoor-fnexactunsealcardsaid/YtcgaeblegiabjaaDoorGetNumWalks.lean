/- What GetNum of the model answers; and that two that are alike are found so. -/
import Derived.Test.YtcgaeblegiabjaaDoorGetNumImpl
namespace Go.Proofs.YtcgaeblegiabjaaDoor.GetNumW
open Go.RowKit

theorem spec_size (s : ByteArray) (n : Int) (w : World) (hm : s.size ≤ maxLen) (h : 8000 < s.size) :
    Calls Tryd.prog 25 #[.string s, .int .i64 n] w fun e w' => e = .returned (numV (0, 0, 2)) ∧ Below w.heap.size w w' := by
  unfold maxLen at hm
  go_enter Tryd.func25, Tryd.ntmps25
  go_wp2
  exact bodyPost_ret (v := numV (0, 0, 2)) (by simp [results, Tryd.results25, go_sem, numV]) rfl ⟨rfl, (Below.refl _ _).alloc (Nat.le_refl _) _⟩
theorem spec_form (s : ByteArray) (n : Int) (w : World) (h : ¬ 8000 < s.size) (h1 : n < 0) :
    Calls Tryd.prog 25 #[.string s, .int .i64 n] w fun e w' => e = .returned (numV (0, 0, 1)) ∧ Below w.heap.size w w' := by
  go_enter Tryd.func25, Tryd.ntmps25
  go_wp2
  exact bodyPost_ret (v := numV (0, 0, 1)) (by simp [results, Tryd.results25, go_sem, numV]) rfl ⟨rfl, (Below.refl _ _).alloc (Nat.le_refl _) _⟩
set_option maxHeartbeats 400000 in
theorem spec_past (s : ByteArray) (n : Int) (w : World) (h : ¬ 8000 < s.size) (h1 : ¬ n < 0) (h2 : (s.size : Int) < n) :
    Calls Tryd.prog 25 #[.string s, .int .i64 n] w fun e w' => e = .returned (numV (0, 0, 4)) ∧ Below w.heap.size w w' := by
  go_enter Tryd.func25, Tryd.ntmps25
  go_wp2
  refine wp_loop_rounds 1 ?_
  rw [rounds_succ]
  go_wp2
  exact bodyPost_ret (v := numV (0, 0, 4)) (by simp [results, Tryd.results25, go_sem, numV]) rfl ⟨rfl, (Below.refl _ _).alloc (Nat.le_refl _) _⟩

theorem ret_num {a b a' b' : Int} (h1 : a = a') (h2 : b = b') : Ending.returned (.agg #[.int .i64 a, .int .i64 b, .int .i64 0]) = .returned (numV (a', b', 0)) := by
  subst h1; subst h2; rfl
theorem byte_at (s : ByteArray) (m k : Nat) (l : List UInt8) (hl : l = s.data.toList.drop m) (h : m + k < s.size) : ∃ hh : k < l.length, l[k] = s[m + k] := by
  subst hl
  refine ⟨by simp; omega, ?_⟩
  rw [List.getElem_drop]; rfl
theorem add_step (x k c : Nat) (h : x + c % 128 * 128 ^ k < 18446744073709551616) :
    IntKind.u64.wrap ((x : Int) + IntKind.u64.wrap ((c : Int) % 128 * 2 ^ (7 * k))) = ((x + c % 128 * 128 ^ k : Nat) : Int) := by
  have e2 : (2 : Int) ^ (7 * k) = ((128 ^ k : Nat) : Int) := by
    rw [Int.natCast_pow]
    show (2 : Int) ^ (7 * k) = (128 : Int) ^ k
    rw [Int.pow_mul]; rfl
  have e3 : (c : Int) % 128 = ((c % 128 : Nat) : Int) := by omega
  rw [e2, e3, GetW.wrap_u64, GetW.wrap_u64, ← Int.natCast_mul]
  generalize c % 128 * 128 ^ k = z at *
  omega

set_option maxRecDepth 10000 in
set_option maxHeartbeats 1000000 in
theorem spec_in (s : ByteArray) (m : Nat) (w : World) (h : s.size ≤ 8000) (hml : m ≤ s.size) :
    Calls Tryd.prog 25 #[.string s, .int .i64 m] w fun e w' => e = .returned (numV (GetM.readR s.data.toList m)) ∧ Below w.heap.size w w' := by
  obtain ⟨l, hl⟩ : ∃ l, l = s.data.toList.drop m := ⟨_, rfl⟩
  have hll : l.length = s.size - m := by rw [hl]; simp
  have HL : Hid (l = s.data.toList.drop m) := hl
  have HLL : Hid (l.length = s.size - m) := hll
  have hA0 := GetM.at_start l
  clear hl hll
  go_enter Tryd.func25, Tryd.ntmps25
  go_wp2
  go_loop [5, 6, 7, 8] (fun u i _ _ => ∃ (x k : Nat), u = .int .u64 x ∧ i = .int .i64 k ∧ Hid (GetM.At l k x)) (fun _ i _ _ => 10 - (intOf i).toNat)
  case atStart => exact ⟨0, 0, rfl, rfl, hA0⟩
  case round =>
    obtain ⟨x, k, rfl, rfl, HA⟩ := hrel
    have hk9 : k ≤ 9 := HA.out.1
    have hkl : k ≤ s.size - m := by have := HA.out.2.1; have := HLL.out; omega
    have HX : Hid (x < 128 ^ k) := HA.out.2.2.1
    by_cases hlt : m + k < s.size
    · have hcl : s[m + k].toNat < 256 := s[m + k].toNat_lt
      have HI : Hid (∃ hh : k < l.length, l[k] = s[m + k]) := byte_at s m k l HL.out hlt
      by_cases h9 : k = 9 ∧ 1 < s[m + k].toNat
      · obtain ⟨h91, h92⟩ := h9
        subst h91
        have HR : Hid (GetM.readR s.data.toList m = (0, 0, 3)) := by
          obtain ⟨hh, he⟩ := HI.out
          have e := GetM.at_tenth l x HA.out hh (by rw [he]; exact h92)
          have := GetM.read_bad s.data.toList m (show ¬ 8000 < s.size by omega) hml (by rw [← HL.out, e]; decide)
          rw [← HL.out, e] at this; exact this
        go_wp2
        exact bodyPost_ret (v := numV (0, 0, 3)) (by simp [results, Tryd.results25, go_sem, numV]) rfl ⟨by rw [HR.out], (Below.refl _ _).alloc (Nat.le_refl _) _⟩
      · have hlt2 := GetM.at_sum_lt k x s[m + k].toNat hk9 HX.out h9
        have hstep := add_step x k s[m + k].toNat hlt2
        obtain ⟨y, hy⟩ : ∃ y, y = x + s[m + k].toNat % 128 * 128 ^ k := ⟨_, rfl⟩
        rw [← hy] at hlt2 hstep
        have HY : Hid (y = x + s[m + k].toNat % 128 * 128 ^ k) := hy
        have H9 : Hid (¬ (k = 9 ∧ 1 < s[m + k].toNat)) := h9
        clear hy
        have hg9 : ((k : Int) == 9 && decide (1 < (s[m + k].toNat : Int))) = false := by
          rw [Bool.and_eq_false_iff]
          by_cases h : k = 9
          · right; simp; omega
          · left; simp; omega
        by_cases hc : s[m + k].toNat < 128
        · by_cases hz : s[m + k].toNat = 0 ∧ 0 < k
          · have HR : Hid (GetM.readR s.data.toList m = (0, 0, 3)) := by
              obtain ⟨hh, he⟩ := HI.out
              have e := GetM.at_nought l k x HA.out hh (by rw [he]; exact hz.1) hz.2
              have := GetM.read_bad s.data.toList m (show ¬ 8000 < s.size by omega) hml (by rw [← HL.out, e]; decide)
              rw [← HL.out, e] at this; exact this
            obtain ⟨hz1, hz2⟩ := hz
            have hcz : ((s[m + k].toNat : Int) == 0) = true := by rw [hz1]; rfl
            have hc1 : ¬ 1 < s[m + k].toNat := by omega
            clear hz1 h9 hg9
            by_cases h9k : k = 9
            · have hs9 : ((k : Int) == 9) = true := by simp; omega
              clear h9k
              go_wp2
              exact bodyPost_ret (v := numV (0, 0, 3)) (by simp [results, Tryd.results25, go_sem, numV]) rfl ⟨by rw [HR.out], (Below.refl _ _).alloc (Nat.le_refl _) _⟩
            · have hs9 : ((k : Int) == 9) = false := by simp; omega
              clear h9k
              go_wp2
              exact bodyPost_ret (v := numV (0, 0, 3)) (by simp [results, Tryd.results25, go_sem, numV]) rfl ⟨by rw [HR.out], (Below.refl _ _).alloc (Nat.le_refl _) _⟩
          · have HR : Hid (GetM.readR s.data.toList m = (GetM.backN y, (m : Int) + ((k + 1 : Nat) : Int), 0)) := by
              obtain ⟨hh, he⟩ := HI.out
              have e := GetM.at_done l k x HA.out hh (by rw [he]; exact H9.out) (by rw [he]; exact hc) (by rw [he]; exact hz)
              rw [he, ← HY.out] at e
              have := GetM.read_ok s.data.toList m (show ¬ 8000 < s.size by omega) hml (by rw [← HL.out, e])
              rw [← HL.out, e] at this; exact this
            have hz2 : ¬ (((s[m + k].toNat : Int) == 0) = true ∧ 0 < k) := by intro hq; apply hz; refine ⟨?_, hq.2⟩; have := hq.1; simp at this; omega
            have HZ : Hid (¬ (((s[m + k].toNat : Int) == 0) = true ∧ 0 < k)) := hz2
            clear h9 hg9 hz hz2
            by_cases h9k : k = 9
            all_goals
              first
                | (have hs9 : ((k : Int) == 9) = true := by simp; omega
                   have hc1 : ¬ 1 < s[m + k].toNat := by have := H9.out; omega)
                | (have hs9 : ((k : Int) == 9) = false := by simp; omega)
              clear h9k
              cases hcz : ((s[m + k].toNat : Int) == 0)
              all_goals
                first
                  | (have hk0 : ¬ 0 < k := fun hq => HZ.out ⟨hcz, hq⟩)
                  | skip
                by_cases hp : y % 2 = 1
                all_goals
                  first
                    | (have hpp : ((y : Int) % 2 == 1) = true := by simp; omega)
                    | (have hpp : ((y : Int) % 2 == 1) = false := by simp; omega)
                  have HP : Hid (GetM.backN y = if y % 2 = 1 then -((y / 2 : Nat) : Int) - 1 else ((y / 2 : Nat) : Int)) := rfl
                  first
                    | rw [if_pos hp] at HP
                    | rw [if_neg hp] at HP
                  clear hp
                  go_wp2
                  first
                    | exact bodyPost_ret (v := .agg #[.int .i64 (-((y : Int) / 2) - 1), .int .i64 ((m : Int) + k + 1), .int .i64 0]) (by simp [results, Tryd.results25, go_sem]; done) rfl ⟨by rw [HR.out, HP.out]; exact ret_num (by omega) (by omega), (Below.refl _ _).alloc (Nat.le_refl _) _⟩
                    | exact bodyPost_ret (v := .agg #[.int .i64 ((y : Int) / 2), .int .i64 ((m : Int) + k + 1), .int .i64 0]) (by simp [results, Tryd.results25, go_sem]; done) rfl ⟨by rw [HR.out, HP.out]; exact ret_num (by omega) (by omega), (Below.refl _ _).alloc (Nat.le_refl _) _⟩
        · by_cases h9k : k = 9
          · omega
          · have hs9 : ((k : Int) == 9) = false := by simp; omega
            have HN : Hid (GetM.At l (k + 1) y) := by
              obtain ⟨hh, he⟩ := HI.out
              have e := GetM.at_more l k x HA.out hh (by omega) (by rw [he]; exact hc)
              rw [he, ← HY.out] at e; exact e
            clear h9 hg9
            go_wp2
            exact ⟨⟨y, k + 1, rfl, by go_num, HN⟩, by simp [intOf]; omega⟩
    · have HR : Hid (GetM.readR s.data.toList m = (0, 0, 4)) := by
        have e := GetM.at_short l k x HA.out (by have := HLL.out; omega)
        have := GetM.read_bad s.data.toList m (show ¬ 8000 < s.size by omega) hml (by rw [← HL.out, e]; decide)
        rw [← HL.out, e] at this; exact this
      go_wp2
      exact bodyPost_ret (v := numV (0, 0, 4)) (by simp [results, Tryd.results25, go_sem, numV]) rfl ⟨by rw [HR.out], (Below.refl _ _).alloc (Nat.le_refl _) _⟩

theorem spec_any (s : ByteArray) (n : Int) (w : World) (hm : s.size ≤ maxLen) :
    Calls Tryd.prog 25 #[.string s, .int .i64 n] w fun e w' => e = .returned (numV (GetM.readR s.data.toList n)) ∧ Below w.heap.size w w' := by
  by_cases h : 8000 < s.size
  · rw [GetM.read_size _ n (show 8000 < s.data.toList.length from h)]; exact spec_size s n w hm h
  by_cases h1 : n < 0
  · rw [GetM.read_form _ n (show ¬ 8000 < s.data.toList.length from h) h1]; exact spec_form s n w h h1
  by_cases h2 : (s.size : Int) < n
  · rw [GetM.read_past _ n (show ¬ 8000 < s.data.toList.length from h) h1 h2]; exact spec_past s n w h h1 h2
  obtain ⟨m, rfl⟩ := Int.eq_ofNat_of_zero_le (show 0 ≤ n by omega)
  exact spec_in s m w (by omega) (by omega)

set_option maxHeartbeats 400000 in
theorem eq_same (r : Int × Int × Int) (w : World) :
    Calls Tryd.prog 26 #[numV r, numV r] w fun e w' => e = .returned (.bool true) ∧ Below w.heap.size w w' := by
  unfold numV
  go_enter Tryd.func26, Tryd.ntmps26
  go_wp2
  go_ret
  exact ⟨rfl, ((Below.refl _ _).alloc (Nat.le_refl _) _).alloc (by simp) _⟩
end Go.Proofs.YtcgaeblegiabjaaDoor.GetNumW
