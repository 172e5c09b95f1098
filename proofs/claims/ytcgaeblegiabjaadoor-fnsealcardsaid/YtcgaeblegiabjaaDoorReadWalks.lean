/- What restAt, readNum and GetNum of the program answer. -/
import Derived.Test.YtcgaeblegiabjaaDoorGetWalks
import Derived.Test.YtcgaeblegiabjaaDoorAsWalks
namespace Go.Proofs.YtcgaeblegiabjaaDoor.ReadW
open Go.RowKit

theorem rest_size (s : ByteArray) (n : Int) (w : World) (hm : s.size ≤ maxLen) (h : 8000 < s.size) :
    Calls Tryd.prog 48 #[.string s, .int .i64 n] w fun e w' => e = .returned (.tuple #[.string ⟨#[]⟩, .iface 69 (.agg #[.int .i64 2])]) ∧ w = w' := by
  unfold maxLen at hm
  go_enter Tryd.func48, Tryd.ntmps48
  go_wp2
  go_ret2
  exact ⟨rfl, rfl⟩
theorem rest_form (s : ByteArray) (n : Int) (w : World) (h : ¬ 8000 < s.size) (h1 : n < 0) :
    Calls Tryd.prog 48 #[.string s, .int .i64 n] w fun e w' => e = .returned (.tuple #[.string ⟨#[]⟩, .iface 69 (.agg #[.int .i64 1])]) ∧ w = w' := by
  go_enter Tryd.func48, Tryd.ntmps48
  go_wp2
  go_ret2
  exact ⟨rfl, rfl⟩
theorem rest_past (s : ByteArray) (n : Int) (w : World) (h : ¬ 8000 < s.size) (h1 : ¬ n < 0) (h2 : (s.size : Int) < n) :
    Calls Tryd.prog 48 #[.string s, .int .i64 n] w fun e w' => e = .returned (.tuple #[.string ⟨#[]⟩, .iface 69 (.agg #[.int .i64 4])]) ∧ w = w' := by
  go_enter Tryd.func48, Tryd.ntmps48
  go_wp2
  go_ret2
  exact ⟨rfl, rfl⟩
theorem rest_ok (s : ByteArray) (n : Nat) (w : World) (h : ¬ 8000 < s.size) (h2 : n ≤ s.size) :
    Calls Tryd.prog 48 #[.string s, .int .i64 n] w fun e w' => e = .returned (.tuple #[.string (s.extract n s.size), .nilIface]) ∧ w = w' := by
  go_enter Tryd.func48, Tryd.ntmps48
  go_wp2
  go_ret2
  exact ⟨rfl, rfl⟩
theorem rest_data (s : ByteArray) (n : Nat) : (s.extract n s.size).data.toList = s.data.toList.drop n := by
  simp only [ByteArray.data_extract, Array.toList_extract, List.extract_eq_take_drop]
  exact List.take_of_length_le (by simp)
theorem rest_len (s : ByteArray) (n : Nat) : (s.extract n s.size).size ≤ s.size := by
  simp

theorem first_ok (s : ByteArray) (w : World) (hs : s.size ≤ 8000) (l : List UInt8) (hl : s.data.toList = l) (h : (GetM.getN l).2.2 = 0) :
    Calls Tryd.prog 49 #[.string s] w fun e w' => e = .returned (.tuple #[.int .i64 (GetM.getN l).1, .int .i64 (GetM.getN l).2.1, .nilIface]) ∧ w = w' := by
  refine (GetW.first_any s w hs).mono ?_
  rintro e w' ⟨rfl, rfl⟩
  rw [hl, h]; exact ⟨rfl, rfl⟩
theorem first_bad (s : ByteArray) (w : World) (hs : s.size ≤ 8000) (l : List UInt8) (hl : s.data.toList = l) (h : ¬ (GetM.getN l).2.2 = 0) :
    Calls Tryd.prog 49 #[.string s] w fun e w' => e = .returned (.tuple #[.int .i64 (GetM.getN l).1, .int .i64 (GetM.getN l).2.1, .iface 69 (.agg #[.int .i64 (GetM.getN l).2.2])]) ∧ w = w' := by
  refine (GetW.first_any s w hs).mono ?_
  rintro e w' ⟨rfl, rfl⟩
  rw [hl]; unfold GetW.errV; rw [if_neg h]; exact ⟨rfl, rfl⟩

/-- what readNum tells, as a value -/
def readV (r : Int × Int × Int) : Value := .tuple #[.int .i64 r.1, .int .i64 r.2.1, GetW.errV r.2.2]
theorem readV_bad (c : Int) (h : ¬ c = 0) : readV (0, 0, c) = .tuple #[.int .i64 0, .int .i64 0, .iface 69 (.agg #[.int .i64 c])] := by
  unfold readV GetW.errV; rw [if_neg h]
theorem readV_ok (a b : Int) : readV (a, b, 0) = .tuple #[.int .i64 a, .int .i64 b, .nilIface] := rfl

set_option maxRecDepth 10000 in
set_option maxHeartbeats 400000 in
theorem read_any (s : ByteArray) (n : Int) (w : World) (hm : s.size ≤ maxLen) :
    Calls Tryd.prog 34 #[.string s, .int .i64 n] w fun e w' => e = .returned (readV (GetM.readR s.data.toList n)) ∧ w = w' := by
  by_cases h : 8000 < s.size
  · rw [GetM.read_size _ n (show 8000 < s.data.toList.length from h), readV_bad 2 (by decide)]
    go_enter Tryd.func34, Tryd.ntmps34
    go_wp2_with (go_at_call 48; refine (rest_size _ _ _ hm h).mono ?_; rintro e w1 ⟨rfl, rfl⟩)
    go_ret3
    exact ⟨rfl, rfl⟩
  by_cases h1 : n < 0
  · rw [GetM.read_form _ n (show ¬ 8000 < s.data.toList.length from h) h1, readV_bad 1 (by decide)]
    go_enter Tryd.func34, Tryd.ntmps34
    go_wp2_with (go_at_call 48; refine (rest_form _ _ _ h h1).mono ?_; rintro e w1 ⟨rfl, rfl⟩)
    go_ret3
    exact ⟨rfl, rfl⟩
  by_cases h2 : (s.size : Int) < n
  · rw [GetM.read_past _ n (show ¬ 8000 < s.data.toList.length from h) h1 h2, readV_bad 4 (by decide)]
    go_enter Tryd.func34, Tryd.ntmps34
    go_wp2_with (go_at_call 48; refine (rest_past _ _ _ h h1 h2).mono ?_; rintro e w1 ⟨rfl, rfl⟩)
    go_ret3
    exact ⟨rfl, rfl⟩
  obtain ⟨m, rfl⟩ := Int.eq_ofNat_of_zero_le (show 0 ≤ n by omega)
  have hml : m ≤ s.size := by omega
  have hrl := rest_len s m
  have hgl := GetM.getN_len (s.data.toList.drop m)
  have hdl : (s.data.toList.drop m).length ≤ 8000 := by simp; omega
  have HD : Hid ((s.extract m s.size).data.toList = s.data.toList.drop m) := rest_data s m
  by_cases hc : (GetM.getN (s.data.toList.drop m)).2.2 = 0
  · rw [GetM.read_ok _ m (show ¬ 8000 < s.data.toList.length from h) hml hc, readV_ok]
    have HC : Hid ((GetM.getN (s.data.toList.drop m)).2.2 = 0) := hc
    clear hc h1 h2
    go_enter Tryd.func34, Tryd.ntmps34
    go_wp2_with (first
      | (go_at_call 48; refine (rest_ok _ _ _ h hml).mono ?_; rintro e w1 ⟨rfl, rfl⟩)
      | (go_at_call 49; refine (first_ok _ _ (by omega) _ HD.out HC.out).mono ?_; rintro e w1 ⟨rfl, rfl⟩))
    go_ret3
    exact ⟨rfl, rfl⟩
  · rw [GetM.read_bad _ m (show ¬ 8000 < s.data.toList.length from h) hml hc, readV_bad _ hc]
    have HC : Hid (¬ (GetM.getN (s.data.toList.drop m)).2.2 = 0) := hc
    clear hc h1 h2
    go_enter Tryd.func34, Tryd.ntmps34
    go_wp2_with (first
      | (go_at_call 48; refine (rest_ok _ _ _ h hml).mono ?_; rintro e w1 ⟨rfl, rfl⟩)
      | (go_at_call 49; refine (first_bad _ _ (by omega) _ HD.out HC.out).mono ?_; rintro e w1 ⟨rfl, rfl⟩))
    go_ret3
    exact ⟨rfl, rfl⟩
end Go.Proofs.YtcgaeblegiabjaaDoor.ReadW
