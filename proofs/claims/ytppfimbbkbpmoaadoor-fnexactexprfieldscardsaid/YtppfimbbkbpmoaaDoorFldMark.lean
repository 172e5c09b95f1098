/- Marks that the laws write into lists of texts and of parts, and look for. -/
import Derived.Test.YtppfimbbkbpmoaaDoorStrCore
import Derived.Test.YtppfimbbkbpmoaaDoorPrtCore
import Derived.Test.YtppfimbbkbpmoaaDoorDecSpec
import Derived.Deep.RegionHeld3
namespace Go.Proofs.YtppfimbbkbpmoaaDoor.FldK
open Go.RowKit
open StrW DecM

def markL (k : Nat) : List UInt8 := 109 :: Lib.decDigits k
def marks (k n : Nat) : List (List UInt8) := (List.range n).map fun i => markL (k + i)
theorem marks_len (k n : Nat) : (marks k n).length = n := by simp [marks]
theorem marks_at (k n i : Nat) (h : i < n) : (marks k n).getD i [] = markL (k + i) := by simp [marks, List.getD, h]

set_option maxRecDepth 10000 in
set_option maxHeartbeats 1000000 in
theorem mark_text (n : Nat) (w : World) (h0 : 1 ≤ n) (h1 : n ≤ 9223372036854775807) :
    Calls Tryd.prog 34 #[.int .i64 n] w fun e w' => e = .returned (encS (markL n)) ∧ Below w.heap.size w w' := by
  obtain ⟨r, hr⟩ : ∃ r : ByteArray, Hid ((⟨(markL n).toArray⟩ : ByteArray) = r) := ⟨_, rfl⟩
  rw [show encS (markL n) = .string r by unfold encS; rw [hr.out]]
  have HD : Hid ((Lib.decDigits n).length ≤ 19) := dec_len19 (by omega)
  have hneg : ¬ (n : Int) ≤ 0 := by omega
  go_enter Tryd.func34, Tryd.ntmps34
  go_wp2
  go_loopw [0, 3] (fun u v wr => ∃ (m : Nat) (out : ByteArray), u = .int .i64 m ∧ m ≤ 9223372036854775807 ∧ v = .string out ∧ Below w.heap.size w wr ∧ Hid (Lib.decDigits n = tail0 m ++ out.data.toList)) (fun u _ _ => (intOf u).toNat)
  case atStart => exact ⟨n, ByteArray.empty, rfl, by omega, rfl, Below.refl _ _, show Lib.decDigits n = _ by unfold tail0; rw [if_neg (by omega)]; simp⟩
  case round =>
    obtain ⟨m, out, rfl, hm, rfl, hbel, hA⟩ := hrel
    have hlen : out.size ≤ 19 := by
      have := HD.out; rw [hA.out, List.length_append, ← size_len] at this; omega
    by_cases hm0 : m = 0
    · subst hm0
      have HF : Hid ((⟨#[109]⟩ : ByteArray) ++ out = r) := show _ = r by
        have e : tail0 0 ++ out.data.toList = out.data.toList := rfl
        rw [← hr.out]
        apply eq_mk
        rw [data_add]
        unfold markL
        rw [hA.out, e]; rfl
      go_wp2
      go_ret
      exact ⟨DecS.ret_str HF.out, hbel⟩
    · obtain ⟨d, hd⟩ : ∃ d : Nat, m % 10 = d := ⟨_, rfl⟩
      obtain ⟨q, hq⟩ : ∃ q : Nat, m / 10 = q := ⟨_, rfl⟩
      have hdi : (m : Int) % 10 = d := by omega
      have hqi : (m : Int) / 10 = q := by omega
      have hdl : d < 10 := by omega
      have hql : q < m := by omega
      have HN : Hid (Lib.decDigits n = tail0 q ++ (DecS.dig d ++ out).data.toList) := by
        show _ = _; rw [hA.out, dec_step m hm0, data_add, DecS.dig_data, hq, hd]; simp
      have hcv := DecS.conv_dig wr d hdl
      have hds := DecS.dig_size d
      have hB2 := hbel.alloc hbel.size (Obj.cells #[Value.int IntKind.u8 (48 + (d : Int))] 5)
      clear hd hq
      go_wp2
      go_roundw
      case rel => exact ⟨q, _, by go_num, by omega, rfl, hB2, HN⟩
      case measure => simp [intOf]; omega

end Go.Proofs.YtppfimbbkbpmoaaDoor.FldK
