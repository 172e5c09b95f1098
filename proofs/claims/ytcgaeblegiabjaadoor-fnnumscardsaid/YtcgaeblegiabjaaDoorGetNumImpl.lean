/- What GetNum of the program and of the model answers, as one plain function of the text and the place; both make new memory alone. -/
import Derived.Test.YtcgaeblegiabjaaDoorReadWalks
namespace Go.Proofs.YtcgaeblegiabjaaDoor.GetNumW
open Go.RowKit

def numV (r : Int × Int × Int) : Value := .agg #[.int .i64 r.1, .int .i64 r.2.1, .int .i64 r.2.2]
/-- the one package-level variable that the road reads, as it is laid -/
def Laid (w : World) : Prop := w.cell? ⟨0, 0, none⟩ = some (.iface 90 (.agg #[.pointer (some ⟨1, 51, none⟩)]))
theorem Laid.lt {w : World} (h : Laid w) : 0 < w.heap.size := by
  rcases Nat.eq_zero_or_pos w.heap.size with h0 | h1
  · unfold Laid at h; simp [World.cell?, h0] at h
  · exact h1
theorem Laid.below {w w' : World} {B : Nat} (h : Laid w) (hb : Below B w w') (hB : 0 < B) : Laid w' := by
  unfold Laid; rw [hb.cell (p := ⟨0, 0, none⟩) hB]; exact h

theorem code_any (c : Int) (w : World) (hg : Laid w) :
    Calls Tryd.prog 35 #[GetW.errV c] w fun e w' => e = .returned (.int .i64 c) ∧ Below w.heap.size w w' := by
  unfold GetW.errV
  by_cases h : c = 0
  · rw [if_pos h, h]; exact AsW.code_nil w
  · rw [if_neg h]; exact AsW.code_hit c w hg

set_option maxRecDepth 10000 in
set_option maxHeartbeats 400000 in
theorem impl_any (s : ByteArray) (n : Int) (w : World) (hm : s.size ≤ maxLen) (hg : Laid w) :
    Calls Tryd.prog 11 #[.string s, .int .i64 n] w fun e w' => e = .returned (numV (GetM.readR s.data.toList n)) ∧ Below w.heap.size w w' := by
  have HG : Hid (Laid w) := hg
  have hlt := hg.lt
  clear hg
  go_enter Tryd.func11, Tryd.ntmps11
  go_wp2_with fail
  refine (ReadW.read_any s n _ hm).mono ?_
  rintro e w1 ⟨rfl, rfl⟩
  unfold ReadW.readV
  generalize hr : GetM.readR s.data.toList n = r
  go_wp2_with fail
  refine (code_any r.2.2 _ ?_).mono ?_
  · exact HG.out.below ((Below.refl _ _).alloc (Nat.le_refl _) _) hlt
  rintro e w2 ⟨rfl, hB⟩
  have hc0 : w2.cell? ⟨w.heap.size, 0, none⟩ = some (.int .i64 0) := by rw [hB.cell (p := ⟨w.heap.size, 0, none⟩) (by simp)]; simp
  have hc1 : w2.cell? ⟨w.heap.size, 1, none⟩ = some (.int .i64 0) := by rw [hB.cell (p := ⟨w.heap.size, 1, none⟩) (by simp)]; simp
  have hc2 : w2.cell? ⟨w.heap.size, 2, none⟩ = some (.int .i64 0) := by rw [hB.cell (p := ⟨w.heap.size, 2, none⟩) (by simp)]; simp
  have hf : ∀ o, w2.frozen? ⟨w.heap.size, o, none⟩ = false := fun o => by rw [hB.frozen (p := ⟨w.heap.size, o, none⟩) (by simp)]; simp
  have HB : Hid (Below w.heap.size w w2) := ((Below.refl _ _).alloc (Nat.le_refl _) _).trans (hB.mono (by simp))
  have HR : Hid (GetM.readR s.data.toList n = r) := hr
  clear hB hr
  go_wp2
  refine bodyPost_ret (v := numV r) (by simp [results, Tryd.results11, go_sem, hc0, hc1, hc2, numV]) rfl ⟨by rw [HR.out], ?_⟩
  exact ((HB.out.setCell (Nat.le_refl _) _).setCell (Nat.le_refl _) _).setCell (Nat.le_refl _) _

end Go.Proofs.YtcgaeblegiabjaaDoor.GetNumW
