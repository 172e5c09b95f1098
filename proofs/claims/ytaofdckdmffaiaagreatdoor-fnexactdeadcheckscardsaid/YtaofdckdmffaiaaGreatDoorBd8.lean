/- Texts of ours, laid together: ValCore. -/
import Derived.Test.YtaofdckdmffaiaaGreatDoorProg
import Derived.WalkKit
import Derived.WalkSpells
import Derived.WalkLawsBesides
import Derived.RegionTactic
import Derived.BigRegion
import Derived.OpenShut
import Derived.Laws.MakeOwn
import Derived.Handy
/- How the codes of an answer lie in memory. -/
namespace Go.Proofs.YtaofdckdmffaiaaGreatDoor.ValW
open Go.RowKit

/-- the codes zs lie in memory as a slice at a -/
def Codes (w : World) (a : Option Addr) (zs : List Int) : Prop :=
  zs.length ≤ 1048576 ∧ (0 < zs.length → ∃ b o, a = some ⟨b, o, none⟩ ∧ b < w.heap.size ∧ ∀ i, i < zs.length → w.cell? ⟨b, o + i, none⟩ = some (.int .i64 (zs.getD i 0)))
theorem Codes.on {w w' : World} {a : Option Addr} {zs : List Int} (h : Codes w a zs) (hB : Below w.heap.size w w') : Codes w' a zs := by
  refine ⟨h.1, fun hp => ?_⟩
  obtain ⟨b, o, ha, hb, hc⟩ := h.2 hp
  exact ⟨b, o, ha, Nat.lt_of_lt_of_le hb hB.size, fun i hi => by rw [hB.cell (p := ⟨b, o + i, none⟩) hb]; exact hc i hi⟩
theorem Codes.alloc {w : World} {a : Option Addr} {zs : List Int} (h : Codes w a zs) (o : Obj) : Codes (w.alloc o) a zs := h.on ((Below.refl _ _).alloc (Nat.le_refl _) o)
theorem Codes.setCell {w : World} {g off : Nat} {zs : List Int} (h : Codes w (some ⟨g, off, none⟩) zs) {p : Addr} (hp : p.block ≠ g) (v : Value) : Codes (w.setCell p v) (some ⟨g, off, none⟩) zs := by
  refine ⟨h.1, fun hl => ?_⟩
  obtain ⟨b, o, ha, hb, hc⟩ := h.2 hl
  cases ha
  exact ⟨g, off, rfl, by simpa using hb, fun i hi => by rw [World.cell?_setCell_other w p ⟨g, off + i, none⟩ _ (by intro e; apply hp; rw [e])]; exact hc i hi⟩
theorem Codes.nil (w : World) (a : Option Addr) : Codes w a [] := ⟨Nat.zero_le _, fun h => absurd h (Nat.lt_irrefl _)⟩

theorem bcell {W w1 : World} (hb : Below W.heap.size W w1) : (∀ b o, b < W.heap.size → w1.cell? ⟨b, o, none⟩ = W.cell? ⟨b, o, none⟩) ∧ (∀ b o, b < W.heap.size → w1.frozen? ⟨b, o, none⟩ = W.frozen? ⟨b, o, none⟩) :=
  ⟨fun b o h => hb.cell (p := ⟨b, o, none⟩) h, fun b o h => hb.frozen (p := ⟨b, o, none⟩) h⟩

/-- an answer, as a value -/
abbrev av (k n : Int) (a : Option Addr) (len cap : Nat) (t : ByteArray) : Value := .agg #[.int .i64 k, .int .i64 n, .slice a len cap, .string t]

def cellsI (zs : List Int) : List Value := zs.map (.int .i64)
def rowI (n : Nat) (l : List Int) : List Value := cellsI l ++ List.replicate (n - l.length) (.int .i64 0)
theorem made_row (z : Nat) : (madeCells #[Value.int IntKind.i64 0] z).toList = rowI z [] := by
  unfold madeCells rowI cellsI
  apply List.ext_getElem
  · simp
  · intro i h1 h2; simp [Nat.mod_one]
theorem row_set (zs : List Int) (k : Nat) (h : k < zs.length) :
    (rowI zs.length (zs.take k)).toArray.setIfInBounds k (.int .i64 (zs.getD k 0)) = (rowI zs.length (zs.take (k + 1))).toArray := by
  have hl : (cellsI (zs.take k)).length = k := by simp [cellsI]; omega
  have e1 : zs.length - (zs.take k).length = (zs.length - (zs.take (k + 1)).length) + 1 := by simp; omega
  have e2 : zs.take (k + 1) = zs.take k ++ [zs.getD k 0] := by
    rw [List.take_succ_eq_append_getElem h]; simp [List.getD, List.getElem?_eq_getElem h]
  unfold rowI
  rw [List.setIfInBounds_toArray, e1, List.replicate_succ, List.set_append_right _ _ (by omega), hl, Nat.sub_self, List.set_cons_zero]
  congr 1
  conv => rhs; rw [e2]
  simp [cellsI]; omega
theorem row_full (zs : List Int) : rowI zs.length zs = cellsI zs := by simp [rowI]
theorem codes_of_row {w : World} {g : Nat} {T : TypeId} {zs : List Int} (h : w.heap[g]? = some (.cells (cellsI zs).toArray T (0, 0))) (hl : zs.length ≤ 1048576) : Codes w (some ⟨g, 0, none⟩) zs := by
  refine ⟨hl, fun _ => ⟨g, 0, rfl, (Array.getElem?_eq_some_iff.1 h).1, fun i hi => ?_⟩⟩
  simp [World.cell?, h, cellsI, List.getD, List.getElem?_eq_getElem hi]

theorem Tryz.infoI : (Tryz.prog.info? 2).map (fun i => (i.zero, i.size, i.bytes)) = some (some (.int .i64 0), 1, 8) := by kernel_rfl
end Go.Proofs.YtaofdckdmffaiaaGreatDoor.ValW
