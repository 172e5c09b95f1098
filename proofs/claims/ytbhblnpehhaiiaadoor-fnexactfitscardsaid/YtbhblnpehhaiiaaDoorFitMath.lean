/- Which values fit an item; an item and a value boxed side by side. -/
import Derived.Test.YtbhblnpehhaiiaaDoorItmSp
import Derived.Test.YtbhblnpehhaiiaaDoorValAt
namespace Go.Proofs.YtbhblnpehhaiiaaDoor.FitW
open Go.RowKit
open PrtW PrtM ItmW ItmM ValW
open ItmS (At8 At8.laid below_one)
open ValI (At4 At4.laid)

def lastI (zs : List Int) : Int := zs.getD (zs.length - 1) 0
/-- an answer of that kind lies in these bounds -/
def fitB (ty lo hi : Int) (vk vn : Int) (zs : List Int) (vt : ByteArray) : Bool :=
  if vk = 5 ∨ vk = 6 then true
  else if vk = 1 then (ty == 1) && inB vn lo hi
  else if vk = 2 then (ty == 2) && decide (vn ≤ hi)
  else if vk = 3 then (ty == 3) && ((((zs.length : Nat) : Int) == 0) || decide (lastI zs ≤ hi))
  else if vk = 4 then (ty == 4) && decide ((vt.size : Int) ≤ hi)
  else false
/-- the item and the value, as a call has them -/
def Pair (w0 w : World) (k : Int) (s : ByteArray) (ty lo hi : Int) (t : ByteArray) (a : Option Addr) (len cap : Nat) (hd : Bool) (vk vn : Int) (va : Option Addr) (vc : Nat) (zl : Nat) (vt : ByteArray) : Prop :=
  At8 w w0.heap.size (.int .i64 k) (.string s) (.int .i64 ty) (.int .i64 lo) (.int .i64 hi) (.string t) (.slice a len cap) (.bool hd) ∧ At4 w (w0.heap.size + 1) (.int .i64 vk) (.int .i64 vn) (.slice va zl vc) (.string vt) ∧ Below w0.heap.size w0 w
section
variable {k : Int} {s : ByteArray} {ty lo hi : Int} {t : ByteArray} {a : Option Addr} {len cap : Nat} {hd : Bool} {vk vn : Int} {va : Option Addr} {vc : Nat} {zl : Nat} {vt : ByteArray}
theorem Pair.on {w0 w w' : World} (h : Pair w0 w k s ty lo hi t a len cap hd vk vn va vc zl vt) (hB : Below w.heap.size w w') : Pair w0 w' k s ty lo hi t a len cap hd vk vn va vc zl vt :=
  ⟨h.1.on hB, h.2.1.on hB, h.2.2.trans (hB.mono h.2.2.size)⟩
theorem Pair.laid (w : World) (T1 T2 : TypeId) : Pair w ((w.alloc (.cells #[.int .i64 k, .string s, .int .i64 ty, .int .i64 lo, .int .i64 hi, .string t, .slice a len cap, .bool hd] T1)).alloc (.cells #[.int .i64 vk, .int .i64 vn, .slice va zl vc, .string vt] T2)) k s ty lo hi t a len cap hd vk vn va vc zl vt := by
  refine ⟨(At8.laid w T1 _ _ _ _ _ _ _ _).on (below_one _ _), ?_, (below_one _ _).trans ((below_one _ _).mono (by simp))⟩
  have := At4.laid (w.alloc (.cells #[.int .i64 k, .string s, .int .i64 ty, .int .i64 lo, .int .i64 hi, .string t, .slice a len cap, .bool hd] T1)) T2 (.int .i64 vk) (.int .i64 vn) (.slice va zl vc) (.string vt)
  rw [World.size_alloc] at this
  exact this
theorem Pair.all {w0 w : World} (h : Pair w0 w k s ty lo hi t a len cap hd vk vn va vc zl vt) :
    (w.cell? ⟨w0.heap.size, 0, none⟩ = some (.int .i64 k) ∧ w.cell? ⟨w0.heap.size, 1, none⟩ = some (.string s) ∧ w.cell? ⟨w0.heap.size, 2, none⟩ = some (.int .i64 ty) ∧ w.cell? ⟨w0.heap.size, 3, none⟩ = some (.int .i64 lo) ∧ w.cell? ⟨w0.heap.size, 4, none⟩ = some (.int .i64 hi) ∧ w.cell? ⟨w0.heap.size, 5, none⟩ = some (.string t) ∧ w.cell? ⟨w0.heap.size, 6, none⟩ = some (.slice a len cap) ∧ w.cell? ⟨w0.heap.size, 7, none⟩ = some (.bool hd)) ∧
    (w.cell? ⟨w0.heap.size + 1, 0, none⟩ = some (.int .i64 vk) ∧ w.cell? ⟨w0.heap.size + 1, 1, none⟩ = some (.int .i64 vn) ∧ w.cell? ⟨w0.heap.size + 1, 2, none⟩ = some (.slice va zl vc) ∧ w.cell? ⟨w0.heap.size + 1, 3, none⟩ = some (.string vt)) ∧ w0.heap.size + 1 < w.heap.size := by
  obtain ⟨h1, ⟨d0, d1, d2, d3, hl⟩, _⟩ := h
  exact ⟨h1.1, ⟨d0, d1, d2, d3⟩, hl⟩
end
end Go.Proofs.YtbhblnpehhaiiaaDoor.FitW
