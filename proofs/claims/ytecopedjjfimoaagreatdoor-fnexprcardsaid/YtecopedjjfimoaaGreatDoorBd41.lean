/- Texts of ours, laid together: ErpLeaf. -/
import Derived.Test.YtecopedjjfimoaaGreatDoorBd28
import Derived.Test.YtecopedjjfimoaaGreatDoorBd40
import Derived.Test.YtecopedjjfimoaaGreatDoorBd33
/- The program's reader: a number or a name. -/
namespace Go.Proofs.YtecopedjjfimoaaGreatDoor.ErpI
open Go.RowKit
open PrtI PrtW
open RdI (EnvR NumEnds)

/-- the part of a word: a number's, if it is one, else a field's -/
def leafM (u : ByteArray) : Pt := match Lib.parseIntB 64 u.data.toList with
  | .ok v => (1, v, ByteArray.empty)
  | _ => (2, 0, u)
theorem zero3 {w : World} {b : Nat} {T : TypeId} (h : w.heap[b]? = some (.cells #[.int .i64 0, .int .i64 0, .string ByteArray.empty] T (0, 0))) :
    w.cell? ⟨b, 0, none⟩ = some (.int .i64 0) ∧ w.cell? ⟨b, 1, none⟩ = some (.int .i64 0) ∧ w.cell? ⟨b, 2, none⟩ = some (.string ByteArray.empty) ∧ ∀ j, w.frozen? ⟨b, j, none⟩ = false :=
  ⟨by simp [World.cell?, h], by simp [World.cell?, h], by simp [World.cell?, h], fun j => by simp [World.frozen?, h]⟩
set_option maxRecDepth 10000 in
set_option maxHeartbeats 1600000 in
theorem leaf_of (u : ByteArray) (w : World) (hs : u.size ≤ 8000) (hE : EnvR w) :
    Calls Tryz.prog 136 #[.string u] w fun e w' => e = .returned (pv (leafM u)) ∧ Below w.heap.size w w' := by
  have HE := hid hE
  clear hE
  go_enter Tryz.func136, Tryz.ntmps136
  go_wp2_with fail
  refine (RdI.number_in u _ hs (HE.out.on (StrW.below_one w _))).mono ?_
  rintro e w1 ⟨hN, hB1⟩
  have hZ : w1.heap[w.heap.size]? = some (.cells #[.int .i64 0, .int .i64 0, .string ByteArray.empty] 99 (0, 0)) := by
    rw [hB1.block _ (by simp)]; exact heap_alloc_new w _
  have hlt : w.heap.size < w1.heap.size := (Array.getElem?_eq_some_iff.1 hZ).1
  have HB1 : Hid (Below w.heap.size w w1) := (StrW.below_one w _).trans (hB1.mono (by simp))
  have HZ := hid hZ
  clear hB1 hZ
  rcases hN with ⟨v, rfl, hv⟩ | ⟨v, T, p, rfl, hv⟩
  · have HL : Hid (leafM u = (1, v, ByteArray.empty)) := by show _ = _; unfold leafM; rw [hv]
    obtain ⟨z0, z1, z2, zf⟩ := zero3 HZ.out
    have zf0 := zf 0
    have zf1 := zf 1
    have zf2 := zf 2
    clear hv zf HZ
    go_wp2
    refine bodyPost_ret (v := pv (1, v, ByteArray.empty)) (by simp [results, Tryz.results136, go_sem, z0, z1, z2]; rfl) rfl ⟨by rw [HL.out], ?_⟩
    repeat (refine Below.setCell ?_ (show w.heap.size ≤ _ by simp only; omega) _)
    exact HB1.out
  · have HL : Hid (leafM u = (2, 0, u)) := by
      show _ = _; unfold leafM
      cases e : Lib.parseIntB 64 u.data.toList with
      | ok z => exact absurd e (hv z)
      | _ => rfl
    clear hv
    go_wp2_with fail
    refine (TexI.laid_1 u w1 w1.heap.size rfl (by omega)).mono ?_
    rintro e w2 ⟨rfl, hB2⟩
    rw [DecM.mk_data]
    have HB2 : Hid (Below w.heap.size w w2) := HB1.out.trans (hB2.mono HB1.out.size)
    obtain ⟨z0, z1, z2, zf⟩ := zero3 ((hB2.block _ hlt).trans HZ.out)
    have hlt2 : w.heap.size < w2.heap.size := Nat.lt_of_lt_of_le hlt hB2.size
    have zf0 := zf 0
    have zf1 := zf 1
    have zf2 := zf 2
    clear zf HZ hB2 HB1
    go_wp2
    refine bodyPost_ret (v := pv (2, 0, u)) (by simp [results, Tryz.results136, go_sem, z0, z1, z2]) rfl ⟨by rw [HL.out], ?_⟩
    repeat (refine Below.setCell ?_ (show w.heap.size ≤ _ by simp only; omega) _)
    exact HB2.out
end Go.Proofs.YtecopedjjfimoaaGreatDoor.ErpI
