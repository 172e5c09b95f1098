/- Texts of ours, laid together: FldMark, MarkOnly. -/
import Derived.Test.YtecopedjjfimoaaGreatDoorBd12
import Derived.Test.YtecopedjjfimoaaGreatDoorBd13
import Derived.Test.YtecopedjjfimoaaGreatDoorBd21
import Derived.Deep.RegionHeld3
/- Marks that the laws write into lists of texts and of parts, and look for. -/
namespace Go.Proofs.YtecopedjjfimoaaGreatDoor.FldK
open Go.RowKit
open StrW DecM

def markL (k : Nat) : List UInt8 := 109 :: Lib.decDigits k
def marks (k n : Nat) : List (List UInt8) := (List.range n).map fun i => markL (k + i)
theorem marks_len (k n : Nat) : (marks k n).length = n := by simp [marks]
theorem marks_at (k n i : Nat) (h : i < n) : (marks k n).getD i [] = markL (k + i) := by simp [marks, List.getD, h]

set_option maxRecDepth 10000 in
set_option maxHeartbeats 1000000 in
theorem mark_text (n : Nat) (w : World) (h0 : 1 ≤ n) (h1 : n ≤ 9223372036854775807) :
    Calls Tryz.prog 118 #[.int .i64 n] w fun e w' => e = .returned (encS (markL n)) ∧ Below w.heap.size w w' := by
  obtain ⟨r, hr⟩ : ∃ r : ByteArray, Hid ((⟨(markL n).toArray⟩ : ByteArray) = r) := ⟨_, rfl⟩
  rw [show encS (markL n) = .string r by unfold encS; rw [hr.out]]
  have HD : Hid ((Lib.decDigits n).length ≤ 19) := dec_len19 (by omega)
  have hneg : ¬ (n : Int) ≤ 0 := by omega
  go_enter Tryz.func118, Tryz.ntmps118
  go_wp2
  go_loopw [0, 3] (fun u v wr => ∃ (m : Nat) (out : ByteArray), u = .int .i64 m ∧ m ≤ 9223372036854775807 ∧ v = .string out ∧ Below w.heap.size w wr ∧ Hid (Lib.decDigits n = tail0 m ++ out.data.toList)) (fun u _ _ => (intOf u).toNat)
  case atStart => exact ⟨n, ByteArray.empty, rfl, by omega, rfl, Below.refl _ _, show Lib.decDigits n = _ by unfold tail0; rw [if_neg (by omega)]; simp⟩
  case round =>
    obtain ⟨m, out, rfl, hm, rfl, hbel, hA⟩ := hrel
    have hlen : out.size ≤ 19 := by
      have := HD.out; rw [hA.out, List.length_append, ← size_len] at this; omega
    by_cases hm0 : m = 0
    · subst hm0
      have HF : Hid ((⟨#[109]⟩ : ByteArray) ++ out = r) := show _ = r by
        have e : tail0 0 ++ out.data.toList = out.data.toList := rfl
        rw [← hr.out]
        apply eq_mk
        rw [data_add]
        unfold markL
        rw [hA.out, e]; rfl
      go_wp2
      go_ret
      exact ⟨DecS.ret_str HF.out, hbel⟩
    · obtain ⟨d, hd⟩ : ∃ d : Nat, m % 10 = d := ⟨_, rfl⟩
      obtain ⟨q, hq⟩ : ∃ q : Nat, m / 10 = q := ⟨_, rfl⟩
      have hdi : (m : Int) % 10 = d := by omega
      have hqi : (m : Int) / 10 = q := by omega
      have hdl : d < 10 := by omega
      have hql : q < m := by omega
      have HN : Hid (Lib.decDigits n = tail0 q ++ (DecS.dig d ++ out).data.toList) := by
        show _ = _; rw [hA.out, dec_step m hm0, data_add, DecS.dig_data, hq, hd]; simp
      have hcv := DecS.conv_dig wr d hdl
      have hds := DecS.dig_size d
      have hB2 := hbel.alloc hbel.size (Obj.cells #[Value.int IntKind.u8 (48 + (d : Int))] 5)
      clear hd hq
      go_wp2
      go_roundw
      case rel => exact ⟨q, _, by go_num, by omega, rfl, hB2, HN⟩
      case measure => simp [intOf]; omega

end Go.Proofs.YtecopedjjfimoaaGreatDoor.FldK
/- Nothing but one block has changed. -/
namespace Go.Proofs.YtecopedjjfimoaaGreatDoor.FldK
open Go.RowKit
open StrW DecM

/-- nothing that lay there but block g has changed -/
def Only (w w' : World) (g : Nat) : Prop := w.grownBy w' (some g)
theorem Only.refl (w : World) (g : Nat) : Only w w g := ⟨rfl, rfl, rfl, Nat.le_refl _, fun _ _ _ => rfl⟩
theorem Only.on {w w' w'' : World} {g : Nat} (h : Only w w' g) (hB : Below w'.heap.size w' w'') : Only w w'' g :=
  ⟨hB.os.trans h.os, hB.tape.trans h.tape, hB.output.trans h.output, Nat.le_trans h.size hB.size, fun k hk hne => (hB.block k (Nat.lt_of_lt_of_le hk h.size)).trans (h.block k hk hne)⟩
theorem Only.set {w w' : World} {g : Nat} (h : Only w w' g) (o : Nat) (v : Value) : Only w (w'.setCell ⟨g, o, none⟩ v) g :=
  ⟨h.os, h.tape, h.output, by have := h.size; simpa using this, fun k hk hne => by
    rw [Below.heap_setCell _ _ _ _ (show k ≠ g from fun e => hne (by rw [e]))]; exact h.block k hk hne⟩
theorem Only.below {w w' : World} {g B : Nat} (h : Only w w' g) (hB : B ≤ g) (hs : B ≤ w.heap.size) : Below B w w' :=
  ⟨h.os, h.tape, h.output, h.size, fun k hk => h.block k (by omega) (fun e => by cases e; omega)⟩
theorem only_trans {w w' w'' : World} {g : Nat} (h : Only w w' g) (k : Only w' w'' g) (_hg : g < w'.heap.size) : Only w w'' g :=
  ⟨k.os.trans h.os, k.tape.trans h.tape, k.output.trans h.output, Nat.le_trans h.size k.size, fun j hj hne => (k.block j (Nat.lt_of_lt_of_le hj h.size) hne).trans (h.block j hj hne)⟩
theorem blk_lt {w : World} {g : Nat} {cs : Array Value} {T : TypeId} {f : Nat × Nat} (h : w.heap[g]? = some (.cells cs T f)) : g < w.heap.size := (Array.getElem?_eq_some_iff.1 h).1

end Go.Proofs.YtecopedjjfimoaaGreatDoor.FldK
