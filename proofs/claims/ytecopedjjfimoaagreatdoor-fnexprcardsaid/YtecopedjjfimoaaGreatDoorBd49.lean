/- Texts of ours, laid together: LwExpr. -/
import Derived.Test.YtecopedjjfimoaaGreatDoorBd13
import Derived.Test.YtecopedjjfimoaaGreatDoorBd12
import Derived.Laws.StructEq
/- What the laws compare: lists of parts, lists of texts. -/
namespace Go.Proofs.YtecopedjjfimoaaGreatDoor.LwX
open Go.RowKit
open PrtW (Pt pt0 Parts)
open StrW

set_option maxRecDepth 10000 in
set_option maxHeartbeats 800000 in
theorem lwParts (a a' : Option Addr) (cap cap' : Nat) (ps : List Pt) (w : World) (hc : Parts w a ps) (hc' : Parts w a' ps) :
    Calls Tryz.prog 38 #[.slice a ps.length cap, .slice a' ps.length cap'] w fun e w' => e = .returned (.bool true) ∧ Below w.heap.size w w' := by
  have HC := hid hc
  have HC' := hid hc'
  have hl := hc.1
  clear hc hc'
  go_enter Tryz.func38, Tryz.ntmps38
  go_wp2
  go_loopw [5] (fun i wr => ∃ k : Nat, k ≤ ps.length ∧ i = .int .i64 k ∧ Below w.heap.size w wr) (fun i _ => ps.length - (intOf i).toNat)
  case atStart => exact ⟨0, Nat.zero_le _, rfl, Below.refl _ _⟩
  case round =>
    obtain ⟨k, hk, rfl, hbel⟩ := hrel
    by_cases hlt : k < ps.length
    · obtain ⟨_, _, h1⟩ := HC.out
      obtain ⟨_, _, h2⟩ := HC'.out
      obtain ⟨b, o, rfl, hb, hcs⟩ := h1 (by omega)
      obtain ⟨b', o', rfl, hb', hcs'⟩ := h2 (by omega)
      obtain ⟨c0, c1, c2⟩ := hcs k hlt
      obtain ⟨d0, d1, d2⟩ := hcs' k hlt
      rw [← hbel.cell (p := ⟨b, _, none⟩) hb] at c0 c1 c2
      rw [← hbel.cell (p := ⟨b', _, none⟩) hb'] at d0 d1 d2
      generalize ps.getD k pt0 = p at c0 c1 c2 d0 d1 d2
      obtain ⟨x, n, t⟩ := p
      simp only at c0 c1 c2 d0 d1 d2
      have HB := hid hbel
      clear hcs hcs' h1 h2 HC HC' hbel
      go_wp2_with fail
      go_region
      go_wp2
      refine ⟨⟨k + 1, by omega, by go_num, HB.out.drew⟩, by simp [intOf]; omega⟩
    · go_wp2
      go_ret
      exact ⟨rfl, hbel⟩

set_option maxRecDepth 10000 in
set_option maxHeartbeats 400000 in
/-- the same texts twice -/
theorem lwStrs (a a' : Option Addr) (cap cap' : Nat) (ss : List Nm) (w : World) (hc : Strs w a ss) (hc' : Strs w a' ss) :
    Calls Tryz.prog 35 #[.slice a ss.length cap, .slice a' ss.length cap'] w fun e w' => e = .returned (.bool true) ∧ Below w.heap.size w w' := by
  have HC := hid hc
  have HC' := hid hc'
  have hl := hc.1
  clear hc hc'
  go_enter Tryz.func35, Tryz.ntmps35
  go_wp2
  go_loopw [5] (fun i wr => ∃ k : Nat, k ≤ ss.length ∧ i = .int .i64 k ∧ Below w.heap.size w wr) (fun i _ => ss.length - (intOf i).toNat)
  case atStart => exact ⟨0, Nat.zero_le _, rfl, Below.refl _ _⟩
  case round =>
    obtain ⟨k, hk, rfl, hbel⟩ := hrel
    by_cases hlt : k < ss.length
    · obtain ⟨b, o, rfl, hb, c0⟩ := Strs.at HC.out hlt
      obtain ⟨b', o', rfl, hb', d0⟩ := Strs.at HC'.out hlt
      rw [← hbel.cell (p := ⟨b, _, none⟩) hb] at c0
      rw [← hbel.cell (p := ⟨b', _, none⟩) hb'] at d0
      unfold StrW.encS at c0 d0
      generalize (⟨(ss.getD k []).toArray⟩ : ByteArray) = v at c0 d0
      have HB := hid hbel
      clear HC HC' hbel
      go_wp2
      go_region
      go_wp2
      refine ⟨⟨k + 1, by omega, by go_num, HB.out.drew⟩, by simp [intOf]; omega⟩
    · go_wp2
      go_ret
      exact ⟨rfl, hbel⟩
end Go.Proofs.YtecopedjjfimoaaGreatDoor.LwX
