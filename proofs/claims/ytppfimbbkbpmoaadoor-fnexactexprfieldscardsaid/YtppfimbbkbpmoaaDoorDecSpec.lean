/- The model writes the digits of a number. -/
import Derived.Test.YtppfimbbkbpmoaaDoorDecDig
namespace Go.Proofs.YtppfimbbkbpmoaaDoor.DecS
open Go.RowKit
open DecM

set_option maxRecDepth 10000 in
set_option maxHeartbeats 1000000 in
theorem dec_in (n : Int) (w : World) (h0 : 0 ≤ n) (h1 : n ≤ 9223372036854775807) :
    Calls Tryd.prog 40 #[.int .i64 n] w fun e w' => e = .returned (.string ⟨(Lib.decDigits n.toNat).toArray⟩) ∧ Below w.heap.size w w' := by
  by_cases hz : n = 0
  · subst hz
    go_enter Tryd.func40, Tryd.ntmps40
    go_wp2
    go_ret
    exact ⟨ret_str (by rw [Lib.decDigits]; rfl), Below.refl _ _⟩
  obtain ⟨r, hr⟩ : ∃ r : ByteArray, Hid ((⟨(Lib.decDigits n.toNat).toArray⟩ : ByteArray) = r) := ⟨_, rfl⟩
  rw [hr.out]
  have hneg : ¬ n < 0 := by omega
  have HZ : Hid (¬ n = 0) := hz
  have HD : Hid ((Lib.decDigits n.toNat).length ≤ 19) := dec_len19 (by omega)
  go_enter Tryd.func40, Tryd.ntmps40
  go_wp2
  go_loopw [0, 4] (fun u v wr => ∃ (m : Nat) (out : ByteArray), u = .int .i64 m ∧ m ≤ 9223372036854775807 ∧ v = .string out ∧ Below w.heap.size w wr ∧ Hid (Lib.decDigits n.toNat = tail0 m ++ out.data.toList)) (fun u _ _ => (intOf u).toNat)
  case atStart => exact ⟨n.toNat, ByteArray.empty, by rw [Int.toNat_of_nonneg h0], by omega, rfl, Below.refl _ _, show Lib.decDigits n.toNat = _ by unfold tail0; rw [if_neg (by have := HZ.out; omega)]; simp⟩
  case round =>
    obtain ⟨m, out, rfl, hm, rfl, hbel, hA⟩ := hrel
    by_cases hm0 : m = 0
    · subst hm0
      have HF : Hid (out = r) := show out = r by
        have e : tail0 0 ++ out.data.toList = out.data.toList := rfl
        rw [← hr.out, hA.out, e, mk_data]
      go_wp2
      go_ret
      exact ⟨ret_str HF.out, hbel⟩
    · have hlen : out.size ≤ 19 := by
        have := HD.out; rw [hA.out, List.length_append, ← size_len] at this; omega
      obtain ⟨d, hd⟩ : ∃ d : Nat, m % 10 = d := ⟨_, rfl⟩
      obtain ⟨q, hq⟩ : ∃ q : Nat, m / 10 = q := ⟨_, rfl⟩
      have hdi : (m : Int) % 10 = d := by omega
      have hqi : (m : Int) / 10 = q := by omega
      have hdl : d < 10 := by omega
      have hql : q < m := by omega
      have HN : Hid (Lib.decDigits n.toNat = tail0 q ++ (dig d ++ out).data.toList) := by
        show _ = _; rw [hA.out, dec_step m hm0, data_add, dig_data, hq, hd]; simp
      have hcv := conv_dig wr d hdl
      have hds := dig_size d
      have hB2 := hbel.alloc hbel.size (Obj.cells #[Value.int IntKind.u8 (48 + (d : Int))] 5)
      clear hd hq
      go_wp2
      go_roundw
      case rel => exact ⟨q, _, by go_num, by omega, rfl, hB2, HN⟩
      case measure => simp [intOf]; omega

theorem dec3_in (n : Int) (w : World) (h0 : -1000000000 ≤ n) (h1 : n ≤ 1000000000) :
    Calls Tryd.prog 39 #[.int .i64 n] w fun e w' => e = .returned (.string ⟨(Lib.itoa n).toArray⟩) ∧ Below w.heap.size w w' := by
  obtain ⟨r, hr⟩ : ∃ r : ByteArray, Hid ((⟨(Lib.itoa n).toArray⟩ : ByteArray) = r) := ⟨_, rfl⟩
  rw [hr.out]
  by_cases h : n < 0
  · obtain ⟨m, hm⟩ : ∃ m : Int, -n = m := ⟨_, rfl⟩
    go_enter Tryd.func39, Tryd.ntmps39
    go_wp2_with fail
    refine (dec_in m _ (by omega) (by omega)).mono ?_
    rintro e w1 ⟨rfl, hB1⟩
    have hl := dec_len19 (m := m.toNat) (by omega)
    obtain ⟨s, hs⟩ : ∃ s : ByteArray, Hid ((⟨(Lib.decDigits m.toNat).toArray⟩ : ByteArray) = s) := ⟨_, rfl⟩
    have hsz : s.size ≤ 19 := by rw [size_len, ← hs.out, data_mk]; exact hl
    have HF : Hid ((⟨#[45]⟩ : ByteArray) ++ s = r) := by
      show _ = _; rw [← hr.out, itoa_neg h, hm]; apply eq_mk; rw [data_add, ← hs.out, data_mk]; rfl
    rw [hs.out]
    clear hl
    go_wp2
    go_ret
    exact ⟨ret_str HF.out, hB1⟩
  · go_enter Tryd.func39, Tryd.ntmps39
    go_wp2_with fail
    refine (dec_in n _ (by omega) (by omega)).mono ?_
    rintro e w1 ⟨rfl, hB1⟩
    obtain ⟨s, hs⟩ : ∃ s : ByteArray, Hid ((⟨(Lib.decDigits n.toNat).toArray⟩ : ByteArray) = s) := ⟨_, rfl⟩
    have HF : Hid (s = r) := show s = r by rw [← hr.out, ← hs.out, itoa_pos (by omega)]
    rw [hs.out]
    go_wp2
    go_ret
    exact ⟨ret_str HF.out, hB1⟩
end Go.Proofs.YtppfimbbkbpmoaaDoor.DecS
