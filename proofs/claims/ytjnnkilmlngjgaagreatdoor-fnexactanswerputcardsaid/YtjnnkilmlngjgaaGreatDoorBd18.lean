/- Texts of ours, laid together: DecDig, MarkTxt. -/
import Derived.Test.YtjnnkilmlngjgaaGreatDoorBd1
import Derived.WalkKit
import Derived.WalkSpells
import Derived.WalkLawsBesides
import Derived.RegionTactic
import Derived.BigRegion
import Derived.OpenShut
import Derived.Handy
import Derived.Laws.AppendOwn
import Derived.Laws.OwnMore
import Derived.Laws.IdiomStrings
import Derived.Laws.Concat
import Derived.Laws.BytesString
/- One digit, as a text. -/
namespace Go.Proofs.YtjnnkilmlngjgaaGreatDoor.DecS
open Go.RowKit
open DecM

theorem hide (x : ByteArray) : ∃ r : ByteArray, Hid (x = r) := ⟨x, show x = x from rfl⟩
theorem ret_str {a b : ByteArray} (h : a = b) : Ending.returned (.string a) = .returned (.string b) := by rw [h]
theorem Tryz.infoB : (Tryz.prog.info? 5).map (fun i => (i.zero, i.size, i.bytes)) = some (some (.int .u8 0), 1, 1) := by kernel_rfl

def cellsB (l : List UInt8) : List Value := l.map (fun b => Value.int .u8 (b.toNat : Int))
theorem conv_own {w : World} {base n : Nat} {v : Value} {l : List UInt8} (h : w.ownsRow base 5 1 v n (cellsB l)) :
    (convert 75 9 v).run Tryz.prog w = .ok (.string ⟨l.toArray⟩) w := by
  obtain ⟨hl, hv⟩ := h
  have hn : n = l.length := by unfold cellsB at hl; simp at hl; omega
  subst hn
  rcases hv with ⟨rfl, h0⟩ | ⟨g, cap, cur, rfl, _, hg, hc, _, hs, ht⟩
  · have : l = [] := List.length_eq_zero_iff.1 h0
    subst this
    rw [run_convert_bytes_string w 75 9 5 none 0 0 Tryz.underlying75 Tryz.underlying5 Tryz.underlying9]
    simp [Conv.bytesToString, Sem.run_pure]; rfl
  · refine run_convert_bytes_back w 75 9 5 _ cap l Tryz.underlying75 Tryz.underlying5 Tryz.underlying9 ?_
    intro j hj
    have e : (cellsB l)[j]? = some (.int .u8 (l[j].toNat : Int)) := by unfold cellsB; simp [hj]
    rw [← ht] at e
    have e2 : cur[j]? = some (.int .u8 (l[j].toNat : Int)) := by
      rw [List.getElem?_take] at e
      split at e
      · simpa using e
      · cases e
    have hplain : (⟨g, 0, none⟩ : Addr).add j = ⟨g, j, none⟩ := by unfold Addr.add; split <;> simp_all
    rw [hplain]; simp [World.cell?, hg, e2]
/-- one digit, as a string -/
def dig (d : Nat) : ByteArray := ⟨#[UInt8.ofNat (48 + d)]⟩
theorem dig_data (d : Nat) : (dig d).data.toList = [UInt8.ofNat (48 + d)] := rfl
theorem dig_size (d : Nat) : (dig d).size = 1 := rfl
theorem conv_dig (w : World) (d : Nat) (h : d < 10) :
    (convert 75 9 (.slice (some ⟨w.heap.size, 0, none⟩) 1 1)).run Tryz.prog (w.alloc (.cells #[.int .u8 (48 + (d : Int))] 5)) = .ok (.string (dig d)) (w.alloc (.cells #[.int .u8 (48 + (d : Int))] 5)) := by
  refine run_convert_bytes_back _ 75 9 5 _ 1 [UInt8.ofNat (48 + d)] Tryz.underlying75 Tryz.underlying5 Tryz.underlying9 ?_
  intro j hj
  have : j = 0 := by simpa using hj
  subst this
  simp [Addr.add]; omega
end Go.Proofs.YtjnnkilmlngjgaaGreatDoor.DecS
/- A mark, as a text. -/
namespace Go.Proofs.YtjnnkilmlngjgaaGreatDoor.MarkT
open Go.RowKit
open DecM

def markL (k : Nat) : List UInt8 := 109 :: Lib.decDigits k
set_option maxRecDepth 10000 in
set_option maxHeartbeats 1000000 in
theorem mark_text (n : Nat) (w : World) (h0 : 1 ≤ n) (h1 : n ≤ 9223372036854775807) :
    Calls Tryz.prog 30 #[.int .i64 n] w fun e w' => e = .returned (.string ⟨(markL n).toArray⟩) ∧ Below w.heap.size w w' := by
  obtain ⟨r, hr⟩ : ∃ r : ByteArray, Hid ((⟨(markL n).toArray⟩ : ByteArray) = r) := ⟨_, rfl⟩
  rw [hr.out]
  have HD : Hid ((Lib.decDigits n).length ≤ 19) := dec_len19 (by omega)
  have hneg : ¬ (n : Int) ≤ 0 := by omega
  go_enter Tryz.func30, Tryz.ntmps30
  go_wp2
  go_loopw [0, 3] (fun u v wr => ∃ (m : Nat) (out : ByteArray), u = .int .i64 m ∧ m ≤ 9223372036854775807 ∧ v = .string out ∧ Below w.heap.size w wr ∧ Hid (Lib.decDigits n = tail0 m ++ out.data.toList)) (fun u _ _ => (intOf u).toNat)
  case atStart => exact ⟨n, ByteArray.empty, rfl, by omega, rfl, Below.refl _ _, show Lib.decDigits n = _ by unfold tail0; rw [if_neg (by omega)]; simp⟩
  case round =>
    obtain ⟨m, out, rfl, hm, rfl, hbel, hA⟩ := hrel
    have hlen : out.size ≤ 19 := by
      have := HD.out; rw [hA.out, List.length_append, ← size_len] at this; omega
    by_cases hm0 : m = 0
    · subst hm0
      have HF : Hid ((⟨#[109]⟩ : ByteArray) ++ out = r) := show _ = r by
        have e : tail0 0 ++ out.data.toList = out.data.toList := rfl
        rw [← hr.out]
        apply eq_mk
        rw [data_add]
        unfold markL
        rw [hA.out, e]; rfl
      go_wp2
      go_ret
      exact ⟨DecS.ret_str HF.out, hbel⟩
    · obtain ⟨d, hd⟩ : ∃ d : Nat, m % 10 = d := ⟨_, rfl⟩
      obtain ⟨q, hq⟩ : ∃ q : Nat, m / 10 = q := ⟨_, rfl⟩
      have hdi : (m : Int) % 10 = d := by omega
      have hqi : (m : Int) / 10 = q := by omega
      have hdl : d < 10 := by omega
      have hql : q < m := by omega
      have HN : Hid (Lib.decDigits n = tail0 q ++ (DecS.dig d ++ out).data.toList) := by
        show _ = _; rw [hA.out, dec_step m hm0, data_add, DecS.dig_data, hq, hd]; simp
      have hcv := DecS.conv_dig wr d hdl
      have hds := DecS.dig_size d
      have hB2 := hbel.alloc hbel.size (Obj.cells #[Value.int IntKind.u8 (48 + (d : Int))] 5)
      clear hd hq
      go_wp2
      go_roundw
      case rel => exact ⟨q, _, by go_num, by omega, rfl, hB2, HN⟩
      case measure => simp [intOf]; omega
end Go.Proofs.YtjnnkilmlngjgaaGreatDoor.MarkT
