/- Texts of ours, laid together: ValOpen. -/
import Derived.Test.YtjnnkilmlngjgaaGreatDoorBd6
import Derived.ProofKit
import Derived.OpenShut
import Derived.ShutString
import Derived.ChangeOld
import Derived.Below
import Derived.Lib.SmallJoins
/- What is told of an answer that came in: its kind, number and text, and its codes, as they lie in memory. -/
namespace Go.Proofs.YtjnnkilmlngjgaaGreatDoor.ValO
open Go.ChangeShapes Go.WideShapes Go.ChangeAt Go.RowKit Go.Joins
open ValW

def CodesAny (w : World) (a : Option Addr) (zs : List Int) : Prop :=
  zs.length ≤ maxLen ∧ (0 < zs.length → ∃ b o, a = some ⟨b, o, none⟩ ∧ b < w.heap.size ∧ ∀ i, i < zs.length → w.cell? ⟨b, o + i, none⟩ = some (.int .i64 (zs.getD i 0)))
theorem CodesAny.codes {w : World} {a : Option Addr} {zs : List Int} (h : CodesAny w a zs) (hl : zs.length ≤ 1048576) : Codes w a zs := ⟨hl, h.2⟩

theorem row_open {w : World} {x : Addr} {l c : Nat} {zs : List Int} (hl : l ≤ c) (hm : c ≤ maxLen) (hz : zs.length = c) (hc : ∀ i, i < zs.length → w.cell? (x.add i) = some (.int .i64 (zs.getD i 0))) :
    CodesAny w (some x) (zs.take l) ∧ (zs.take l).length = l := by
  have hlen : (zs.take l).length = l := by simp; omega
  refine ⟨⟨by omega, fun hp => ?_⟩, hlen⟩
  obtain ⟨b, off, spot⟩ := x
  have hc0 := hc 0 (by omega)
  have hspot : spot = none := by simpa [Addr.add] using World.cell?_spot hc0
  subst hspot
  have hbl : b < w.heap.size := by
    have := World.block_lt_of_cell? w _ hc0
    simpa [Addr.add] using this
  refine ⟨b, off, rfl, hbl, fun i hi => ?_⟩
  have hci := hc i (by omega)
  have hplain : (⟨b, off, none⟩ : Addr).add i = ⟨b, off + i, none⟩ := by unfold Addr.add; split <;> simp_all
  rw [hplain] at hci
  rw [hci, getD_take_lt zs l i 0 (by omega)]

set_option maxRecDepth 100000 in
theorem val_open {H : Type} {enc : TypeId × Value → H} {W : World} {b0 : Nat} {r : Reach} {v : Value} {d : DataW H} {p : List MemPlace} (hv : Value.okWide Tryz.prog W r b0 25 v)
    (h : DataW.Trod enc Tryz.prog W 0 (fun _ => true) true 25 v d p) :
    ∃ (k n : Int) (a : Option Addr) (cap : Nat) (zs : List Int) (t : ByteArray), v = av k n a zs.length cap t ∧ CodesAny W a zs ∧ t.size ≤ maxLen := by
  obtain ⟨c0, c1, c2, c3, y0, y1, y2, y3, m, rfl, _, _, hy0, hy1, hy2, hy3⟩ := open_agg4 Tryz.underlying25 (by kernel_rfl) (by kernel_rfl) hv h
  obtain ⟨k, e0, _, _⟩ := DataW.trod_int Tryz.underlying2 hy0
  obtain ⟨n, e1, _, _⟩ := DataW.trod_int Tryz.underlying2 hy1
  obtain ⟨t, e3, _, ht⟩ := DataW.trod_string Tryz.underlying9 hy3
  simp at e0 e1 e3
  subst e0 e1 e3
  rcases open_ints Tryz.underlying23 Tryz.underlying2 (by kernel_rfl) hy2 with ⟨hcs, _⟩ | ⟨x, l, c, zs, hcs, _, hl, hm, hz, _, hcell, _⟩
  · simp at hcs
    subst hcs
    exact ⟨k, n, none, 0, [], t, rfl, ⟨Nat.zero_le _, fun h => absurd h (Nat.lt_irrefl _)⟩, ht⟩
  · simp at hcs
    subst hcs
    obtain ⟨h1, h2⟩ := row_open hl hm (by simpa using hz) hcell
    exact ⟨k, n, some x, c, zs.take l, t, by rw [h2], h1, ht⟩
end Go.Proofs.YtjnnkilmlngjgaaGreatDoor.ValO
