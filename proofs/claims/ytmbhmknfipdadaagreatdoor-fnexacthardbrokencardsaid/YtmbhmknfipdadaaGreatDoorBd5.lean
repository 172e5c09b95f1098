/- Texts of ours, laid together. -/
import Derived.Laws.CopyOwn
import Derived.Laws.MakeOwn
import Derived.Laws.AppendOwn
import Derived.Below
namespace Go.Proofs.YtmbhmknfipdadaaGreatDoor.CopyS
open Go Go.RowKit
def cellsB (l : List UInt8) : List Value := l.map (fun b => Value.int .u8 (b.toNat : Int))
theorem cellsB_length (l : List UInt8) : (cellsB l).length = l.length := by unfold cellsB; simp
theorem cellsB_append (l k : List UInt8) : cellsB (l ++ k) = cellsB l ++ cellsB k := by unfold cellsB; simp
def rowB (n : Nat) (l : List UInt8) : List Value := cellsB l ++ List.replicate (n - l.length) (.int .u8 0)
theorem rowB_length (n : Nat) (l : List UInt8) (h : l.length ≤ n) : (rowB n l).length = n := by
 unfold rowB; rw [List.length_append, cellsB_length, List.length_replicate]; omega
theorem rowB_full (l : List UInt8) : rowB l.length l = cellsB l := by
 unfold rowB; rw [Nat.sub_self]; simp
theorem rowB_splice (n : Nat) (l k : List UInt8) (h : l.length + k.length ≤ n) : splice (rowB n l) l.length (cellsB k) = rowB n (l ++ k) := by
 unfold splice rowB
 have e1 : (cellsB l ++ List.replicate (n - l.length) (Value.int .u8 0)).take l.length = cellsB l := by
  rw [List.take_append_of_le_length (by rw [cellsB_length]; omega)]
  exact List.take_of_length_le (by rw [cellsB_length]; omega)
 have e2 : (cellsB l ++ List.replicate (n - l.length) (Value.int .u8 0)).drop (l.length + (cellsB k).length) = List.replicate (n - (l ++ k).length) (Value.int .u8 0) := by
  rw [List.drop_append, List.drop_eq_nil_of_le (by rw [cellsB_length]; omega), cellsB_length, cellsB_length, List.nil_append, List.drop_replicate, List.length_append]
  congr 1; omega
 rw [e1, e2, cellsB_append, List.append_assoc]
theorem run_copy_str {P : Program} (w : World) (dT sT ty elem : TypeId) (g o dLen dCap : Nat) (s : ByteArray) (cur : Array Value) (t : TypeId)
  (hu : P.underlying dT = some (.slice elem)) (hs : (P.info? elem).map (·.size) = some 1)
  (hg : w.heap[g]? = some (.cells cur t (0, 0))) (hn : s.size ≤ dLen) (hfit : o + s.size ≤ cur.size) :
  (Builtin.copy_ #[dT, sT] ty #[.slice (some ⟨g, o, none⟩) dLen dCap, .string s]).run P w =
   .ok (goInt s.size) (w.setRow g (cur.toList.take o ++ cellsB s.data.toList ++ cur.toList.drop (o + s.size)).toArray) := by
 have hcs : (cellsB s.data.toList).length = s.size := by rw [cellsB_length]; simp
 have hst := run_storeCells_at P g o t (cellsB s.data.toList) 0 cur w hg (by rw [hcs]; simpa using hfit)
  (by intro v hv; unfold cellsB at hv; simp at hv; obtain ⟨b, _, rfl⟩ := hv; rfl)
 rw [hcs] at hst
 have hmin : Nat.min s.size dLen = s.size := Nat.min_eq_left hn
 have hc : List.take s.size (List.map (fun b : UInt8 => Value.int .u8 (b.toNat : Int)) s.data.toList) = cellsB s.data.toList :=
  List.take_of_length_le (by simp)
 cases hq : P.info? elem with
 | none => simp [hq] at hs
 | some i =>
  have hi : i.size = 1 := by simpa [hq] using hs
  simp only [Nat.add_zero] at hst
  simp [Builtin.copy_, run_underlying hu, Builtin.lenOf, Builtin.firstCells, sizeOf, typeInfo, hq, hmin, hc, hst]
theorem run_copy_str_none {P : Program} (w : World) (dT sT ty elem : TypeId) (dp : Option Addr) (dLen dCap : Nat) (s : ByteArray)
  (hu : P.underlying dT = some (.slice elem)) (hs : (P.info? elem).map (·.size) = some 1) (h0 : s.size = 0) :
  (Builtin.copy_ #[dT, sT] ty #[.slice dp dLen dCap, .string s]).run P w = .ok (goInt 0) w := by
 have hd : s.data = #[] := Array.eq_empty_of_size_eq_zero h0
 cases hq : P.info? elem with
 | none => simp [hq] at hs
 | some i =>
  cases dp with
  | none => simp [Builtin.copy_, run_underlying hu, Builtin.lenOf, Builtin.firstCells, sizeOf, typeInfo, hq, h0, hd]
  | some a => simp [Builtin.copy_, run_underlying hu, Builtin.lenOf, Builtin.firstCells, sizeOf, typeInfo, hq, h0, hd, storeCells]
theorem copy_to {P : Program} (w w0 : World) (dT sT ty elem : TypeId) (g dLen dCap n : Nat) (l : List UInt8) (s : ByteArray) (t : TypeId)
  (hu : P.underlying dT = some (.slice elem)) (hs : (P.info? elem).map (·.size) = some 1)
  (hg : w.heap[g]? = some (.cells (rowB n l).toArray t (0, 0))) (hn : s.size ≤ dLen) (hfit : l.length + s.size ≤ n) (B : Nat) (hb : Below B w0 w) (hBg : B ≤ g) :
  ∃ w2, (Builtin.copy_ #[dT, sT] ty #[.slice (some ⟨g, l.length, none⟩) dLen dCap, .string s]).run P w = .ok (goInt s.size) w2 ∧
   Hid (w2.heap[g]? = some (.cells (rowB n (l ++ s.data.toList)).toArray t (0, 0))) ∧ Below B w0 w2 := by
 have hlen := rowB_length n l (by omega)
 have hrun := run_copy_str (P := P) w dT sT ty elem g l.length dLen dCap s (rowB n l).toArray t hu hs hg hn (by simp [hlen]; omega)
 refine ⟨_, hrun, ?_, below_setRow hb hBg _⟩
 have hsp := rowB_splice n l s.data.toList (by simp; omega)
 have hh := setRow_heap w g _ ((rowB n l).toArray.toList.take l.length ++ cellsB s.data.toList ++ (rowB n l).toArray.toList.drop (l.length + s.size)).toArray t _ hg
 show _ = _
 rw [hh, ← hsp]
 simp [splice, cellsB_length]
theorem made_zero (n : Nat) : (madeCells #[Value.int .u8 0] n).toList = rowB n [] := by
 unfold rowB madeCells cellsB
 apply List.ext_getElem?
 intro j
 by_cases hj : j < n
 ·simp [hj, Nat.mod_one]
 ·simp [hj]
end Go.Proofs.YtmbhmknfipdadaaGreatDoor.CopyS
