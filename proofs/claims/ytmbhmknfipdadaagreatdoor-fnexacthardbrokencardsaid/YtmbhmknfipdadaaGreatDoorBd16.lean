/- Texts of ours, laid together. -/
import Derived.Test.YtmbhmknfipdadaaGreatDoorBd6
import Derived.ProofKit
import Derived.ShutString
import Derived.ChangeOld
import Derived.Below
import Derived.Lib.SmallJoins
namespace Go.Proofs.YtmbhmknfipdadaaGreatDoor.ValO
open Go.ChangeShapes Go.WideShapes Go.ChangeAt Go.RowKit Go.Joins
open ValW
def CodesAny (w : World) (a : Option Addr) (zs : List Int) : Prop :=
 zs.length ≤ maxLen ∧ (0 < zs.length → ∃ b o, a = some ⟨b, o, none⟩ ∧ b < w.heap.size ∧ ∀ i, i < zs.length → w.cell? ⟨b, o + i, none⟩ = some (.int .i64 (zs.getD i 0)))
theorem CodesAny.codes {w : World} {a : Option Addr} {zs : List Int} (h : CodesAny w a zs) (hl : zs.length ≤ 1048576) : Codes w a zs := ⟨hl, h.2⟩
theorem row_open {w : World} {x : Addr} {l c : Nat} {zs : List Int} (hl : l ≤ c) (hm : c ≤ maxLen) (hz : zs.length = c) (hc : ∀ i, i < zs.length → w.cell? (x.add i) = some (.int .i64 (zs.getD i 0))) :
  CodesAny w (some x) (zs.take l) ∧ (zs.take l).length = l := by
 have hlen : (zs.take l).length = l := by simp; omega
 refine ⟨⟨by omega, fun hp => ?_⟩, hlen⟩
 obtain ⟨b, off, spot⟩ := x
 have hc0 := hc 0 (by omega)
 have hspot : spot = none := by simpa [Addr.add] using World.cell?_spot hc0
 subst hspot
 have hbl : b < w.heap.size := by
  have := World.block_lt_of_cell? w _ hc0
  simpa [Addr.add] using this
 refine ⟨b, off, rfl, hbl, fun i hi => ?_⟩
 have hci := hc i (by omega)
 have hplain : (⟨b, off, none⟩ : Addr).add i = ⟨b, off + i, none⟩ := by unfold Addr.add; split <;> simp_all
 rw [hplain] at hci
 rw [hci, getD_take_lt zs l i 0 (by omega)]
end Go.Proofs.YtmbhmknfipdadaaGreatDoor.ValO
