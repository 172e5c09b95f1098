/- What the laws answer of two answers that are alike. -/
import Derived.Test.YtbhblnpehhaiiaaDoorValCore
namespace Go.Proofs.YtbhblnpehhaiiaaDoor.ValW
open Go.RowKit

set_option maxRecDepth 10000 in
set_option maxHeartbeats 400000 in
theorem eqInts (a a' : Option Addr) (cap cap' : Nat) (zs : List Int) (w : World) (hc : Codes w a zs) (hc' : Codes w a' zs) :
    Calls Tryd.prog 52 #[.slice a zs.length cap, .slice a' zs.length cap'] w fun e w' => e = .returned (.bool true) ∧ Below w.heap.size w w' := by
  have HC : Hid (Codes w a zs) := hc
  have HC' : Hid (Codes w a' zs) := hc'
  have hl := hc.1
  clear hc hc'
  go_enter Tryd.func52, Tryd.ntmps52
  go_wp2
  go_loopw [5] (fun i wr => ∃ k : Nat, k ≤ zs.length ∧ i = .int .i64 k ∧ Below w.heap.size w wr) (fun i _ => zs.length - (intOf i).toNat)
  case atStart => exact ⟨0, Nat.zero_le _, rfl, Below.refl _ _⟩
  case round =>
    obtain ⟨k, hk, rfl, hbel⟩ := hrel
    by_cases hlt : k < zs.length
    · obtain ⟨_, h1⟩ := HC.out
      obtain ⟨_, h2⟩ := HC'.out
      obtain ⟨b, o, rfl, hb, hcs⟩ := h1 (by omega)
      obtain ⟨b', o', rfl, hb', hcs'⟩ := h2 (by omega)
      have hcell : wr.cell? ⟨b, o + k, none⟩ = some (.int .i64 (zs.getD k 0)) := (hbel.cell hb).trans (hcs k hlt)
      have hcell' : wr.cell? ⟨b', o' + k, none⟩ = some (.int .i64 (zs.getD k 0)) := (hbel.cell hb').trans (hcs' k hlt)
      generalize zs.getD k 0 = v at hcell hcell'
      have HB : Hid (Below w.heap.size w wr) := hbel
      clear hcs hcs' h1 h2 HC HC' hbel
      go_wp2
      go_region
      go_wp2
      refine ⟨⟨k + 1, by omega, by go_num, HB.out.drew⟩, by simp [intOf]; omega⟩
    · go_wp2
      go_ret
      exact ⟨rfl, hbel⟩

set_option maxHeartbeats 400000 in
theorem eqVal (k n : Int) (a a' : Option Addr) (cap cap' : Nat) (zs : List Int) (t : ByteArray) (w : World) (hc : Codes w a zs) (hc' : Codes w a' zs) :
    Calls Tryd.prog 29 #[av k n a zs.length cap t, av k n a' zs.length cap' t] w fun e w' => e = .returned (.bool true) ∧ Below w.heap.size w w' := by
  have HC : Hid (Codes w a zs) := hc
  have HC' : Hid (Codes w a' zs) := hc'
  clear hc hc'
  go_enter Tryd.func29, Tryd.ntmps29
  go_wp2_with fail
  refine (eqInts a a' cap cap' zs _ (HC.out.on ?hb) (HC'.out.on ?hb)).mono ?_
  case hb => go_grown
  rintro e w1 ⟨rfl, hB1⟩
  have HB : Hid (Below w.heap.size w w1) := Below.trans ?hb (hB1.mono (by simp; omega))
  case hb => go_grown
  obtain ⟨hcl, hfz⟩ := bcell hB1
  simp only [World.size_alloc] at hcl hfz
  clear hB1 HC HC'
  go_wp2
  go_ret
  exact ⟨rfl, HB.out⟩
end Go.Proofs.YtbhblnpehhaiiaaDoor.ValW
