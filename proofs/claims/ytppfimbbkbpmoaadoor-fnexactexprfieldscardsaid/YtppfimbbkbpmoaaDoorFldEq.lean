/- The same texts twice. -/
import Derived.Test.YtppfimbbkbpmoaaDoorFldMark
namespace Go.Proofs.YtppfimbbkbpmoaaDoor.FldK
open Go.RowKit
open StrW DecM

set_option maxRecDepth 10000 in
set_option maxHeartbeats 400000 in
/-- the same texts twice -/
theorem eqStrs (a a' : Option Addr) (cap cap' : Nat) (ss : List (List UInt8)) (w : World) (hc : Strs w a ss) (hc' : Strs w a' ss) :
    Calls Tryd.prog 18 #[.slice a ss.length cap, .slice a' ss.length cap'] w fun e w' => e = .returned (.bool true) ∧ Below w.heap.size w w' := by
  have HC := hid hc
  have HC' := hid hc'
  have hl := hc.1
  clear hc hc'
  go_enter Tryd.func18, Tryd.ntmps18
  go_wp2
  go_loopw [5] (fun i wr => ∃ k : Nat, k ≤ ss.length ∧ i = .int .i64 k ∧ Below w.heap.size w wr) (fun i _ => ss.length - (intOf i).toNat)
  case atStart => exact ⟨0, Nat.zero_le _, rfl, Below.refl _ _⟩
  case round =>
    obtain ⟨k, hk, rfl, hbel⟩ := hrel
    by_cases hlt : k < ss.length
    · obtain ⟨b, o, rfl, hb, c0⟩ := Strs.at HC.out hlt
      obtain ⟨b', o', rfl, hb', d0⟩ := Strs.at HC'.out hlt
      rw [← hbel.cell (p := ⟨b, _, none⟩) hb] at c0
      rw [← hbel.cell (p := ⟨b', _, none⟩) hb'] at d0
      unfold encS at c0 d0
      generalize (⟨(ss.getD k []).toArray⟩ : ByteArray) = v at c0 d0
      have HB := hid hbel
      clear HC HC' hbel
      go_wp2
      go_region
      go_wp2
      refine ⟨⟨k + 1, by omega, by go_num, HB.out.drew⟩, by simp [intOf]; omega⟩
    · go_wp2
      go_ret
      exact ⟨rfl, hbel⟩
end Go.Proofs.YtppfimbbkbpmoaaDoor.FldK
