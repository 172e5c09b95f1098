/- What Unseal of the program and of the model answers, as one plain function of the text; both make new memory alone. -/
import Derived.Test.YtcgaeblegiabjaaDoorGetTextImpl
import Derived.Test.YtcgaeblegiabjaaDoorSealWalks
import Derived.Deep.RegionWith
namespace Go.Proofs.YtcgaeblegiabjaaDoor.UnsealW
open Go.RowKit

/-- all but the last four bytes -/
def inner (s : ByteArray) : ByteArray := s.extract 0 (s.size - 4)
/-- is it the seal of all but the last four? -/
def okB (s : ByteArray) : Bool := SealW.sealL (s.extract 0 (s.size - 4)) == s.toList
def openR (s : ByteArray) : ByteArray × Int × Int :=
  if 8000 < s.size then (⟨#[]⟩, 0, 2) else if s.size < 4 then (⟨#[]⟩, 0, 4) else if okB s = true then (inner s, 0, 0) else (⟨#[]⟩, 0, 5)
theorem open_size (s : ByteArray) (h : 8000 < s.size) : openR s = (⟨#[]⟩, 0, 2) := by unfold openR; rw [if_pos h]
theorem open_short (s : ByteArray) (h : ¬ 8000 < s.size) (h1 : s.size < 4) : openR s = (⟨#[]⟩, 0, 4) := by unfold openR; rw [if_neg h, if_pos h1]
theorem open_ok (s : ByteArray) (h : ¬ 8000 < s.size) (h1 : ¬ s.size < 4) (h2 : okB s = true) : openR s = (inner s, 0, 0) := by unfold openR; rw [if_neg h, if_neg h1, if_pos h2]
theorem open_sum (s : ByteArray) (h : ¬ 8000 < s.size) (h1 : ¬ s.size < 4) (h2 : okB s = false) : openR s = (⟨#[]⟩, 0, 5) := by unfold openR; rw [if_neg h, if_neg h1, if_neg (by rw [h2]; decide)]
theorem inner_size (s : ByteArray) : (inner s).size = s.size - 4 := by unfold inner; simp

set_option maxRecDepth 10000 in
set_option maxHeartbeats 400000 in
theorem unsealed_any (s : ByteArray) (w : World) (hm : s.size ≤ maxLen) :
    Calls Tryd.prog 44 #[.string s] w fun e w' => e = .returned (.tuple #[.string (openR s).1, GetW.errV (openR s).2.2]) ∧ Below w.heap.size w w' := by
  unfold maxLen at hm
  by_cases h : 8000 < s.size
  · rw [open_size s h]
    go_enter Tryd.func44, Tryd.ntmps44
    go_wp2
    go_ret2
    exact ⟨rfl, Below.refl _ _⟩
  by_cases h1 : s.size < 4
  · rw [open_short s h h1]
    go_enter Tryd.func44, Tryd.ntmps44
    go_wp2
    go_ret2
    exact ⟨rfl, Below.refl _ _⟩
  have hi := inner_size s
  have hel : (s.extract 0 (s.size - 4)).size ≤ 7996 := by have e : (s.extract 0 (s.size - 4)).size = s.size - 4 := hi
                                                          omega
  clear hi
  go_enter Tryd.func44, Tryd.ntmps44
  go_wp2_with fail
  refine (SealW.impl_yes _ _ hel).mono ?_
  rintro e w1 ⟨rfl, hB1⟩
  cases hk : okB s
  · have HR : Hid (openR s = (⟨#[]⟩, 0, 5)) := open_sum s h h1 hk
    have hkk : (SealW.sealL (s.extract 0 (s.size - 4)) == s.toList) = false := hk
    clear hk
    go_wp2
    go_ret2
    exact ⟨by rw [HR.out]; rfl, hB1⟩
  · have HR : Hid (openR s = (s.extract 0 (s.size - 4), 0, 0)) := open_ok s h h1 hk
    have hkk : (SealW.sealL (s.extract 0 (s.size - 4)) == s.toList) = true := hk
    clear hk
    go_wp2_with fail
    refine (LaidW.laid_one _ _ (by omega)).mono ?_
    rintro e w2 ⟨rfl, hB2⟩
    go_wp2
    go_ret2
    exact ⟨by rw [HR.out]; rfl, hB1.trans (hB2.mono hB1.size)⟩

set_option maxRecDepth 10000 in
set_option maxHeartbeats 400000 in
theorem impl_any (s : ByteArray) (w : World) (hm : s.size ≤ maxLen) (hg : GetNumW.Laid w) :
    Calls Tryd.prog 20 #[.string s] w fun e w' => e = .returned (GetTextW.textV (openR s)) ∧ Below w.heap.size w w' := by
  have HG : Hid (GetNumW.Laid w) := hg
  have hlt := hg.lt
  clear hg
  go_enter Tryd.func20, Tryd.ntmps20
  go_wp2_with fail
  refine (unsealed_any s _ hm).mono ?_
  rintro e w1 ⟨rfl, hB1⟩
  have HZ : Hid ((openR s).2.1 = 0) := by
    have : (openR s).2.1 = 0 := by unfold openR; split; rfl; split; rfl; split; rfl; rfl
    exact this
  generalize hr : openR s = r at *
  have HR : Hid (openR s = r) := hr
  clear hr
  have hs1 := hB1.size
  have hz1 : w.heap.size + 1 ≤ w1.heap.size := by simpa using hs1
  go_wp2_with fail
  refine (GetNumW.code_any r.2.2 _ ?_).mono ?_
  · exact HG.out.below (((Below.refl _ _).alloc (Nat.le_refl _) _).trans (hB1.mono (by simp))) hlt
  rintro e w2 ⟨rfl, hB2⟩
  have hc : ∀ o v, (w.alloc (.cells #[.string ⟨#[]⟩, .int .i64 0, .int .i64 0] 31)).cell? ⟨w.heap.size, o, none⟩ = some v → w2.cell? ⟨w.heap.size, o, none⟩ = some v := fun o v h => by
    rw [hB2.cell (p := ⟨w.heap.size, o, none⟩) (show w.heap.size < w1.heap.size by omega), hB1.cell (p := ⟨w.heap.size, o, none⟩) (by simp)]; exact h
  have hc0 : w2.cell? ⟨w.heap.size, 0, none⟩ = some (.string ⟨#[]⟩) := hc 0 _ (by simp)
  have hc1 : w2.cell? ⟨w.heap.size, 1, none⟩ = some (.int .i64 0) := hc 1 _ (by simp)
  have hc2 : w2.cell? ⟨w.heap.size, 2, none⟩ = some (.int .i64 0) := hc 2 _ (by simp)
  have hf : ∀ o, w2.frozen? ⟨w.heap.size, o, none⟩ = false := fun o => by
    rw [hB2.frozen (p := ⟨w.heap.size, o, none⟩) (show w.heap.size < w1.heap.size by omega), hB1.frozen (p := ⟨w.heap.size, o, none⟩) (by simp)]; simp
  have HB : Hid (Below w.heap.size w w2) := (((Below.refl _ _).alloc (Nat.le_refl _) _).trans (hB1.mono (by simp))).trans (hB2.mono (by omega))
  clear hB1 hB2 hc hs1
  go_wp2
  refine bodyPost_ret (v := .agg #[.string r.1, .int .i64 0, .int .i64 r.2.2]) (by simp [results, Tryd.results20, go_sem, hc0, hc1, hc2]) rfl ⟨by rw [HR.out]; unfold GetTextW.textV; rw [HZ.out], ?_⟩
  exact ((HB.out.setCell (Nat.le_refl _) _).setCell (Nat.le_refl _) _).setCell (Nat.le_refl _) _
end Go.Proofs.YtcgaeblegiabjaaDoor.UnsealW
