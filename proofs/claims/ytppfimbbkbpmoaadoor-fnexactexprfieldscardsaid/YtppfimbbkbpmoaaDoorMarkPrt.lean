/- Marks that the laws write into lists of parts. -/
import Derived.Test.YtppfimbbkbpmoaaDoorMarkOnly
namespace Go.Proofs.YtppfimbbkbpmoaaDoor.FldK
open Go.RowKit
open StrW DecM

/-- block g has room for n parts -/
def Room (w : World) (g n : Nat) : Prop := ∃ cs : Array Value, w.heap[g]? = some (.cells cs 39 (0, 0)) ∧ cs.size = n * 3
theorem Room.on {w w' : World} {g n : Nat} (h : Room w g n) (hB : Below w.heap.size w w') : Room w' g n := by
  obtain ⟨cs, hg, hs⟩ := h
  exact ⟨cs, by rw [hB.block g (blk_lt hg)]; exact hg, hs⟩
theorem Room.set {w : World} {g n : Nat} (h : Room w g n) (o : Nat) (v : Value) : Room (w.setCell ⟨g, o, none⟩ v) g n := by
  obtain ⟨cs, hg, hs⟩ := h
  exact ⟨_, PrtW.blk_set _ _ _ _ _ _ hg, by simpa using hs⟩
theorem Room.at {w : World} {g n i : Nat} (h : Room w g n) (hi : i < n * 3) : (∃ v, w.cell? ⟨g, i, none⟩ = some v) ∧ w.frozen? ⟨g, i, none⟩ = false := by
  obtain ⟨cs, hg, hs⟩ := h
  refine ⟨⟨cs[i]'(by omega), ?_⟩, by simp [World.frozen?, hg]⟩
  simp [World.cell?, hg, show i < cs.size by omega]

set_option maxRecDepth 10000 in
set_option maxHeartbeats 1600000 in
theorem mark_parts (g n cap : Nat) (w : World) (hR : Room w g n) (hl : n ≤ 1048576) :
    Calls Tryd.prog 19 #[.slice (some ⟨g, 0, none⟩) n cap, .int .i64 1] w fun e w' => e = .returned (.int .i64 (1 + 3 * (n : Int))) ∧ Only w w' g := by
  have HR := hid hR
  clear hR
  go_enter Tryd.func19, Tryd.ntmps19
  go_wp2
  go_loopw [1, 5] (fun k i wr => ∃ j : Nat, j ≤ n ∧ i = .int .i64 j ∧ k = .int .i64 (1 + 3 * (j : Int)) ∧ Hid (Room wr g n) ∧ Hid (Only w wr g)) (fun _ i _ => n - (intOf i).toNat)
  case atStart => exact ⟨0, Nat.zero_le _, rfl, rfl, HR, Only.refl _ _⟩
  case round =>
    obtain ⟨k, hk, rfl, rfl, hM, hO⟩ := hrel
    by_cases hlt : k < n
    · obtain ⟨⟨v0, r0⟩, f0⟩ := hM.out.at (i := k * 3) (by omega)
      obtain ⟨⟨v1, r1⟩, f1⟩ := hM.out.at (i := k * 3 + 1) (by omega)
      have HO1 := hid ((hO.out.set (k * 3) (.int .i64 (1 + 3 * (k : Int)))).set (k * 3 + 1) (.int .i64 (1 + 3 * (k : Int) + 1)))
      have HM1 := hid ((hM.out.set (k * 3) (.int .i64 (1 + 3 * (k : Int)))).set (k * 3 + 1) (.int .i64 (1 + 3 * (k : Int) + 1)))
      clear hO hM
      go_wp2_with fail
      clear r0 r1 f0 f1
      generalize (wr.setCell ⟨g, k * 3, none⟩ (.int .i64 (1 + 3 * (k : Int)))).setCell ⟨g, k * 3 + 1, none⟩ (.int .i64 (1 + 3 * (k : Int) + 1)) = W2 at *
      rw [show (1 + 3 * (k : Int) + 1 + 1) = ((3 * k + 3 : Nat) : Int) by omega]
      refine (mark_text (3 * k + 3) W2 (by omega) (by omega)).mono ?_
      rintro e w3 ⟨rfl, hB3⟩
      have HM3 := hid (HM1.out.on hB3)
      have HO3 := hid (HO1.out.on hB3)
      obtain ⟨⟨v2, r2⟩, f2⟩ := HM3.out.at (i := k * 3 + 2) (by omega)
      unfold encS
      generalize (⟨(markL (3 * k + 3)).toArray⟩ : ByteArray) = T
      clear HM1 HO1 hB3
      go_wp2_with fail
      refine ⟨⟨k + 1, by omega, by go_num, by congr 1; omega, HM3.out.set _ _, HO3.out.set _ _⟩, by simp [intOf]; omega⟩
    · obtain rfl : k = n := by omega
      go_wp2
      go_ret
      exact ⟨rfl, hO.out⟩
end Go.Proofs.YtppfimbbkbpmoaaDoor.FldK
