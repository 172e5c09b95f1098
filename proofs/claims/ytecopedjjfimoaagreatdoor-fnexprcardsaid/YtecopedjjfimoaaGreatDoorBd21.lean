/- Texts of ours, laid together: DecDig, DecSpec. -/
import Derived.Test.YtecopedjjfimoaaGreatDoorBd3
import Derived.WalkKit
import Derived.WalkSpells
import Derived.WalkLawsBesides
import Derived.RegionTactic
import Derived.BigRegion
import Derived.OpenShut
import Derived.Handy
import Derived.Laws.AppendOwn
import Derived.Laws.OwnMore
import Derived.Laws.IdiomStrings
import Derived.Laws.Concat
import Derived.Laws.BytesString
/- One digit, as a text. -/
namespace Go.Proofs.YtecopedjjfimoaaGreatDoor.DecS
open Go.RowKit
open DecM

theorem hide (x : ByteArray) : ∃ r : ByteArray, Hid (x = r) := ⟨x, show x = x from rfl⟩
theorem ret_str {a b : ByteArray} (h : a = b) : Ending.returned (.string a) = .returned (.string b) := by rw [h]
theorem Tryz.infoB : (Tryz.prog.info? 5).map (fun i => (i.zero, i.size, i.bytes)) = some (some (.int .u8 0), 1, 1) := by kernel_rfl

def cellsB (l : List UInt8) : List Value := l.map (fun b => Value.int .u8 (b.toNat : Int))
theorem conv_own {w : World} {base n : Nat} {v : Value} {l : List UInt8} (h : w.ownsRow base 5 1 v n (cellsB l)) :
    (convert 22 9 v).run Tryz.prog w = .ok (.string ⟨l.toArray⟩) w := by
  obtain ⟨hl, hv⟩ := h
  have hn : n = l.length := by unfold cellsB at hl; simp at hl; omega
  subst hn
  rcases hv with ⟨rfl, h0⟩ | ⟨g, cap, cur, rfl, _, hg, hc, _, hs, ht⟩
  · have : l = [] := List.length_eq_zero_iff.1 h0
    subst this
    rw [run_convert_bytes_string w 22 9 5 none 0 0 Tryz.underlying22 Tryz.underlying5 Tryz.underlying9]
    simp [Conv.bytesToString, Sem.run_pure]; rfl
  · refine run_convert_bytes_back w 22 9 5 _ cap l Tryz.underlying22 Tryz.underlying5 Tryz.underlying9 ?_
    intro j hj
    have e : (cellsB l)[j]? = some (.int .u8 (l[j].toNat : Int)) := by unfold cellsB; simp [hj]
    rw [← ht] at e
    have e2 : cur[j]? = some (.int .u8 (l[j].toNat : Int)) := by
      rw [List.getElem?_take] at e
      split at e
      · simpa using e
      · cases e
    have hplain : (⟨g, 0, none⟩ : Addr).add j = ⟨g, j, none⟩ := by unfold Addr.add; split <;> simp_all
    rw [hplain]; simp [World.cell?, hg, e2]
/-- one digit, as a string -/
def dig (d : Nat) : ByteArray := ⟨#[UInt8.ofNat (48 + d)]⟩
theorem dig_data (d : Nat) : (dig d).data.toList = [UInt8.ofNat (48 + d)] := rfl
theorem dig_size (d : Nat) : (dig d).size = 1 := rfl
theorem conv_dig (w : World) (d : Nat) (h : d < 10) :
    (convert 22 9 (.slice (some ⟨w.heap.size, 0, none⟩) 1 1)).run Tryz.prog (w.alloc (.cells #[.int .u8 (48 + (d : Int))] 5)) = .ok (.string (dig d)) (w.alloc (.cells #[.int .u8 (48 + (d : Int))] 5)) := by
  refine run_convert_bytes_back _ 22 9 5 _ 1 [UInt8.ofNat (48 + d)] Tryz.underlying22 Tryz.underlying5 Tryz.underlying9 ?_
  intro j hj
  have : j = 0 := by simpa using hj
  subst this
  simp [Addr.add]; omega
end Go.Proofs.YtecopedjjfimoaaGreatDoor.DecS
/- The model writes the digits of a number. -/
namespace Go.Proofs.YtecopedjjfimoaaGreatDoor.DecS
open Go.RowKit
open DecM

set_option maxRecDepth 10000 in
set_option maxHeartbeats 1000000 in
theorem dec_in (n : Int) (w : World) (h0 : 0 ≤ n) (h1 : n ≤ 9223372036854775807) :
    Calls Tryz.prog 94 #[.int .i64 n] w fun e w' => e = .returned (.string ⟨(Lib.decDigits n.toNat).toArray⟩) ∧ Below w.heap.size w w' := by
  by_cases hz : n = 0
  · subst hz
    go_enter Tryz.func94, Tryz.ntmps94
    go_wp2
    go_ret
    exact ⟨ret_str (by rw [Lib.decDigits]; rfl), Below.refl _ _⟩
  obtain ⟨r, hr⟩ : ∃ r : ByteArray, Hid ((⟨(Lib.decDigits n.toNat).toArray⟩ : ByteArray) = r) := ⟨_, rfl⟩
  rw [hr.out]
  have hneg : ¬ n < 0 := by omega
  have HZ : Hid (¬ n = 0) := hz
  have HD : Hid ((Lib.decDigits n.toNat).length ≤ 19) := dec_len19 (by omega)
  go_enter Tryz.func94, Tryz.ntmps94
  go_wp2
  go_loopw [0, 4] (fun u v wr => ∃ (m : Nat) (out : ByteArray), u = .int .i64 m ∧ m ≤ 9223372036854775807 ∧ v = .string out ∧ Below w.heap.size w wr ∧ Hid (Lib.decDigits n.toNat = tail0 m ++ out.data.toList)) (fun u _ _ => (intOf u).toNat)
  case atStart => exact ⟨n.toNat, ByteArray.empty, by rw [Int.toNat_of_nonneg h0], by omega, rfl, Below.refl _ _, show Lib.decDigits n.toNat = _ by unfold tail0; rw [if_neg (by have := HZ.out; omega)]; simp⟩
  case round =>
    obtain ⟨m, out, rfl, hm, rfl, hbel, hA⟩ := hrel
    by_cases hm0 : m = 0
    · subst hm0
      have HF : Hid (out = r) := show out = r by
        have e : tail0 0 ++ out.data.toList = out.data.toList := rfl
        rw [← hr.out, hA.out, e, mk_data]
      go_wp2
      go_ret
      exact ⟨ret_str HF.out, hbel⟩
    · have hlen : out.size ≤ 19 := by
        have := HD.out; rw [hA.out, List.length_append, ← size_len] at this; omega
      obtain ⟨d, hd⟩ : ∃ d : Nat, m % 10 = d := ⟨_, rfl⟩
      obtain ⟨q, hq⟩ : ∃ q : Nat, m / 10 = q := ⟨_, rfl⟩
      have hdi : (m : Int) % 10 = d := by omega
      have hqi : (m : Int) / 10 = q := by omega
      have hdl : d < 10 := by omega
      have hql : q < m := by omega
      have HN : Hid (Lib.decDigits n.toNat = tail0 q ++ (dig d ++ out).data.toList) := by
        show _ = _; rw [hA.out, dec_step m hm0, data_add, dig_data, hq, hd]; simp
      have hcv := conv_dig wr d hdl
      have hds := dig_size d
      have hB2 := hbel.alloc hbel.size (Obj.cells #[Value.int IntKind.u8 (48 + (d : Int))] 5)
      clear hd hq
      go_wp2
      go_roundw
      case rel => exact ⟨q, _, by go_num, by omega, rfl, hB2, HN⟩
      case measure => simp [intOf]; omega

theorem dec3_in (n : Int) (w : World) (h0 : -1000000000 ≤ n) (h1 : n ≤ 1000000000) :
    Calls Tryz.prog 93 #[.int .i64 n] w fun e w' => e = .returned (.string ⟨(Lib.itoa n).toArray⟩) ∧ Below w.heap.size w w' := by
  obtain ⟨r, hr⟩ : ∃ r : ByteArray, Hid ((⟨(Lib.itoa n).toArray⟩ : ByteArray) = r) := ⟨_, rfl⟩
  rw [hr.out]
  by_cases h : n < 0
  · obtain ⟨m, hm⟩ : ∃ m : Int, -n = m := ⟨_, rfl⟩
    go_enter Tryz.func93, Tryz.ntmps93
    go_wp2_with fail
    refine (dec_in m _ (by omega) (by omega)).mono ?_
    rintro e w1 ⟨rfl, hB1⟩
    have hl := dec_len19 (m := m.toNat) (by omega)
    obtain ⟨s, hs⟩ : ∃ s : ByteArray, Hid ((⟨(Lib.decDigits m.toNat).toArray⟩ : ByteArray) = s) := ⟨_, rfl⟩
    have hsz : s.size ≤ 19 := by rw [size_len, ← hs.out, data_mk]; exact hl
    have HF : Hid ((⟨#[45]⟩ : ByteArray) ++ s = r) := by
      show _ = _; rw [← hr.out, itoa_neg h, hm]; apply eq_mk; rw [data_add, ← hs.out, data_mk]; rfl
    rw [hs.out]
    clear hl
    go_wp2
    go_ret
    exact ⟨ret_str HF.out, hB1⟩
  · go_enter Tryz.func93, Tryz.ntmps93
    go_wp2_with fail
    refine (dec_in n _ (by omega) (by omega)).mono ?_
    rintro e w1 ⟨rfl, hB1⟩
    obtain ⟨s, hs⟩ : ∃ s : ByteArray, Hid ((⟨(Lib.decDigits n.toNat).toArray⟩ : ByteArray) = s) := ⟨_, rfl⟩
    have HF : Hid (s = r) := show s = r by rw [← hr.out, ← hs.out, itoa_pos (by omega)]
    rw [hs.out]
    go_wp2
    go_ret
    exact ⟨ret_str HF.out, hB1⟩
end Go.Proofs.YtecopedjjfimoaaGreatDoor.DecS
