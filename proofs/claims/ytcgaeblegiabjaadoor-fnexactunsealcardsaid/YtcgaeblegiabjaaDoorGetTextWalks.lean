/- What GetText of the model answers; and that two that are alike are found so. -/
import Derived.Test.YtcgaeblegiabjaaDoorGetTextImpl
import Derived.Test.YtcgaeblegiabjaaDoorGetNumWalks
namespace Go.Proofs.YtcgaeblegiabjaaDoor.GetTextW
open Go.RowKit

set_option maxRecDepth 10000 in
set_option maxHeartbeats 400000 in
theorem spec_any (s : ByteArray) (n : Int) (w : World) (hm : s.size ≤ maxLen) :
    Calls Tryd.prog 27 #[.string s, .int .i64 n] w fun e w' => e = .returned (textV (textR s n)) ∧ Below w.heap.size w w' := by
  unfold textR
  go_enter Tryd.func27, Tryd.ntmps27
  go_wp2_with fail
  refine (GetNumW.spec_any s n _ hm).mono ?_
  rintro e w1 ⟨rfl, hB1⟩
  generalize hr : GetM.readR s.data.toList n = r at *
  have HR : Hid (GetM.readR s.data.toList n = r) := hr
  clear hr
  obtain ⟨a, b, c⟩ := r
  unfold GetNumW.numV
  have hs1 := hB1.size
  have hz1 : w.heap.size + 1 ≤ w1.heap.size := by simpa using hs1
  have hx0 : ∀ o v, (w.alloc (.cells #[.string ⟨#[]⟩, .int .i64 0, .int .i64 0] 31)).cell? ⟨w.heap.size, o, none⟩ = some v → (w1.alloc (.cells #[.int .i64 a, .int .i64 b, .int .i64 c] 26)).cell? ⟨w.heap.size, o, none⟩ = some v := fun o v h => by
    rw [World.cell?_alloc_lt _ _ ⟨w.heap.size, o, none⟩ (show w.heap.size < w1.heap.size by omega), hB1.cell (p := ⟨w.heap.size, o, none⟩) (by simp)]; exact h
  have hc0 : (w1.alloc (.cells #[.int .i64 a, .int .i64 b, .int .i64 c] 26)).cell? ⟨w.heap.size, 0, none⟩ = some (.string ⟨#[]⟩) := hx0 0 _ (by simp)
  have hc1 : (w1.alloc (.cells #[.int .i64 a, .int .i64 b, .int .i64 c] 26)).cell? ⟨w.heap.size, 1, none⟩ = some (.int .i64 0) := hx0 1 _ (by simp)
  have hc2 : (w1.alloc (.cells #[.int .i64 a, .int .i64 b, .int .i64 c] 26)).cell? ⟨w.heap.size, 2, none⟩ = some (.int .i64 0) := hx0 2 _ (by simp)
  have hf : ∀ o, (w1.alloc (.cells #[.int .i64 a, .int .i64 b, .int .i64 c] 26)).frozen? ⟨w.heap.size, o, none⟩ = false := fun o => by
    rw [World.frozen?_alloc_old _ _ ⟨w.heap.size, o, none⟩ (show w.heap.size ≠ w1.heap.size by omega), hB1.frozen (p := ⟨w.heap.size, o, none⟩) (by simp)]; simp
  have HB : Hid (Below w.heap.size w (w1.alloc (.cells #[.int .i64 a, .int .i64 b, .int .i64 c] 26))) := (((Below.refl _ _).alloc (Nat.le_refl _) _).trans (hB1.mono (by simp))).alloc (by omega) _
  clear hB1 hx0 hs1
  by_cases hc : c = 0
  · subst hc
    obtain ⟨hb0, hb1, hb2⟩ := read_bounds _ _ _ _ HR.out
    have hb3 : b ≤ s.size := hb1
    have hb4 : s.size ≤ 8000 := hb2
    clear hb1 hb2
    by_cases hl : a < 0 ∨ 8000 < a
    · have HT : Hid (cutR s (GetM.readR s.data.toList n) = (⟨#[]⟩, 0, 3)) := by
        have h0 := cut_len s a b hl
        rw [← HR.out] at h0; exact h0
      rcases hl with hl | hl
      · go_wp2
        refine bodyPost_ret (v := textV (⟨#[]⟩, 0, 3)) (by simp [results, Tryd.results27, go_sem, hc0, hc1, hc2, textV]) rfl ⟨by rw [HT.out], ?_⟩
        exact ((HB.out.setCell (Nat.le_refl _) _).setCell (Nat.le_refl _) _).setCell (Nat.le_refl _) _
      · have hl0 : ¬ a < 0 := by omega
        go_wp2
        refine bodyPost_ret (v := textV (⟨#[]⟩, 0, 3)) (by simp [results, Tryd.results27, go_sem, hc0, hc1, hc2, textV]) rfl ⟨by rw [HT.out], ?_⟩
        exact ((HB.out.setCell (Nat.le_refl _) _).setCell (Nat.le_refl _) _).setCell (Nat.le_refl _) _
    · have hl0 : ¬ a < 0 := by omega
      have hl1 : ¬ 8000 < a := by omega
      by_cases hs : (s.size : Int) < b + a
      · have HT : Hid (cutR s (GetM.readR s.data.toList n) = (⟨#[]⟩, 0, 4)) := by
          have h0 := cut_short s a b hl hs
          rw [← HR.out] at h0; exact h0
        clear hl
        go_wp2
        refine bodyPost_ret (v := textV (⟨#[]⟩, 0, 4)) (by simp [results, Tryd.results27, go_sem, hc0, hc1, hc2, textV]) rfl ⟨by rw [HT.out], ?_⟩
        exact ((HB.out.setCell (Nat.le_refl _) _).setCell (Nat.le_refl _) _).setCell (Nat.le_refl _) _
      · clear hl
        obtain ⟨x, rfl⟩ := Int.eq_ofNat_of_zero_le (show 0 ≤ a by omega)
        obtain ⟨y, rfl⟩ := Int.eq_ofNat_of_zero_le hb0
        have hxy : y + x ≤ s.size := by omega
        have HT : Hid (cutR s (GetM.readR s.data.toList n) = (s.extract y (y + x), (y : Int) + x, 0)) := by
          have h0 := cut_ok s x y (by omega) hxy
          rw [← HR.out] at h0; exact h0
        go_wp2
        go_region
        go_wp2
        refine bodyPost_ret (v := textV (s.extract y (y + x), (y : Int) + x, 0)) (by simp [results, Tryd.results27, go_sem, hc0, hc1, hc2, textV]) rfl ⟨by rw [HT.out], ?_⟩
        exact (((HB.out.setCell (Nat.le_refl _) _).setCell (Nat.le_refl _) _).setCell (Nat.le_refl _) _).drew
  · have hcb : ((c : Int) != 0) = true := by simpa using hc
    have HT : Hid (cutR s (GetM.readR s.data.toList n) = (⟨#[]⟩, 0, c)) := by
      have h0 := cut_code s a b c hc
      rw [← HR.out] at h0; exact h0
    go_wp2
    refine bodyPost_ret (v := textV (⟨#[]⟩, 0, c)) (by simp [results, Tryd.results27, go_sem, hc0, hc1, hc2, textV]) rfl ⟨by rw [HT.out], ?_⟩
    exact ((HB.out.setCell (Nat.le_refl _) _).setCell (Nat.le_refl _) _).setCell (Nat.le_refl _) _

set_option maxHeartbeats 400000 in
theorem eq_same (q : ByteArray × Int × Int) (w : World) :
    Calls Tryd.prog 28 #[textV q, textV q] w fun e w' => e = .returned (.bool true) ∧ Below w.heap.size w w' := by
  unfold textV
  go_enter Tryd.func28, Tryd.ntmps28
  go_wp2
  go_ret
  exact ⟨rfl, ((Below.refl _ _).alloc (Nat.le_refl _) _).alloc (by simp) _⟩
end Go.Proofs.YtcgaeblegiabjaaDoor.GetTextW
