/- What GetText of the program and of the model answers, as one plain function of the text and the place; both make new memory alone. -/
import Derived.Test.YtcgaeblegiabjaaDoorGetNumImpl
import Derived.Test.YtcgaeblegiabjaaDoorLaidWalks
import Derived.RegionTactic
import Derived.ChangeAlike
namespace Go.Proofs.YtcgaeblegiabjaaDoor.GetTextW
open Go.RowKit

/-- what is told of a text at a place: the text, the place behind it, the code; r: what is told of its length -/
def cutR (s : ByteArray) (r : Int × Int × Int) : ByteArray × Int × Int :=
  if ¬ r.2.2 = 0 then (⟨#[]⟩, 0, r.2.2) else if r.1 < 0 ∨ 8000 < r.1 then (⟨#[]⟩, 0, 3) else if (s.size : Int) < r.2.1 + r.1 then (⟨#[]⟩, 0, 4)
  else (s.extract r.2.1.toNat (r.2.1 + r.1).toNat, r.2.1 + r.1, 0)
def textR (s : ByteArray) (n : Int) : ByteArray × Int × Int := cutR s (GetM.readR s.data.toList n)
def textV (q : ByteArray × Int × Int) : Value := .agg #[.string q.1, .int .i64 q.2.1, .int .i64 q.2.2]
def textT (q : ByteArray × Int × Int) : Value := .tuple #[.string q.1, .int .i64 q.2.1, GetW.errV q.2.2]
theorem cut_code (s : ByteArray) (a b c : Int) (h : ¬ c = 0) : cutR s (a, b, c) = (⟨#[]⟩, 0, c) := by unfold cutR; rw [if_pos h]
theorem cut_len (s : ByteArray) (a b : Int) (h : a < 0 ∨ 8000 < a) : cutR s (a, b, 0) = (⟨#[]⟩, 0, 3) := by unfold cutR; rw [if_neg (by simp), if_pos h]
theorem cut_short (s : ByteArray) (a b : Int) (h : ¬ (a < 0 ∨ 8000 < a)) (h2 : (s.size : Int) < b + a) : cutR s (a, b, 0) = (⟨#[]⟩, 0, 4) := by
  unfold cutR; rw [if_neg (by simp), if_neg h, if_pos h2]
theorem cut_ok (s : ByteArray) (a b : Nat) (h : a ≤ 8000) (h2 : b + a ≤ s.size) : cutR s (a, b, 0) = (s.extract b (b + a), (b : Int) + a, 0) := by
  unfold cutR; rw [if_neg (by simp), if_neg (by simp; omega), if_neg (by simp; omega)]
  rw [show ((b : Int) + a).toNat = b + a by omega, Int.toNat_natCast]
theorem read_bounds (l : List UInt8) (n a b : Int) (h : GetM.readR l n = (a, b, 0)) : 0 ≤ b ∧ b ≤ l.length ∧ l.length ≤ 8000 := by
  unfold GetM.readR at h
  split at h
  · simp at h
  split at h
  · simp at h
  split at h
  · simp at h
  have hl := GetM.getN_len (l.drop n.toNat)
  rw [List.length_drop] at hl
  split at h
  · simp only [Prod.mk.injEq] at h
    obtain ⟨_, hb, _⟩ := h
    omega
  · simp only [Prod.mk.injEq] at h
    exact absurd h.2.2 (by assumption)

theorem ext_len (s : ByteArray) (a b : Nat) : (s.extract a b).size ≤ s.size := by simp; omega
theorem read_bad (s : ByteArray) (n a b c : Int) (w : World) (hm : s.size ≤ maxLen) (h : GetM.readR s.data.toList n = (a, b, c)) (hc : ¬ c = 0) :
    Calls Tryd.prog 34 #[.string s, .int .i64 n] w fun e w' => e = .returned (.tuple #[.int .i64 a, .int .i64 b, .iface 69 (.agg #[.int .i64 c])]) ∧ w = w' := by
  refine (ReadW.read_any s n w hm).mono ?_
  rintro e w' ⟨rfl, rfl⟩
  rw [h]; unfold ReadW.readV GetW.errV; rw [if_neg hc]; exact ⟨rfl, rfl⟩
theorem read_ok (s : ByteArray) (n a b : Int) (w : World) (hm : s.size ≤ maxLen) (h : GetM.readR s.data.toList n = (a, b, 0)) :
    Calls Tryd.prog 34 #[.string s, .int .i64 n] w fun e w' => e = .returned (.tuple #[.int .i64 a, .int .i64 b, .nilIface]) ∧ w = w' := by
  refine (ReadW.read_any s n w hm).mono ?_
  rintro e w' ⟨rfl, rfl⟩
  rw [h]; exact ⟨rfl, rfl⟩
theorem textT_bad (c : Int) (h : ¬ c = 0) : textT (⟨#[]⟩, 0, c) = .tuple #[.string ⟨#[]⟩, .int .i64 0, .iface 69 (.agg #[.int .i64 c])] := by
  unfold textT GetW.errV; rw [if_neg h]

set_option maxRecDepth 10000 in
set_option maxHeartbeats 400000 in
theorem readText_any (s : ByteArray) (n : Int) (w : World) (hm : s.size ≤ maxLen) :
    Calls Tryd.prog 40 #[.string s, .int .i64 n] w fun e w' => e = .returned (textT (textR s n)) ∧ Below w.heap.size w w' := by
  unfold textR
  generalize hr : GetM.readR s.data.toList n = r
  obtain ⟨a, b, c⟩ := r
  have HR : Hid (GetM.readR s.data.toList n = (a, b, c)) := hr
  clear hr
  by_cases hc : c = 0
  · subst hc
    obtain ⟨hb0, hb1, hb2⟩ := read_bounds _ _ _ _ HR.out
    have hb3 : b ≤ s.size := hb1
    have hb4 : s.size ≤ 8000 := hb2
    clear hb1 hb2
    by_cases hl : a < 0 ∨ 8000 < a
    · rw [cut_len s a b hl, textT_bad 3 (by decide)]
      rcases hl with hl | hl
      · go_enter Tryd.func40, Tryd.ntmps40
        go_wp2_with (go_at_call 34; refine (read_ok _ _ _ _ _ hm HR.out).mono ?_; rintro e w1 ⟨rfl, rfl⟩)
        go_ret3
        exact ⟨rfl, Below.refl _ _⟩
      · have hl0 : ¬ a < 0 := by omega
        go_enter Tryd.func40, Tryd.ntmps40
        go_wp2_with (go_at_call 34; refine (read_ok _ _ _ _ _ hm HR.out).mono ?_; rintro e w1 ⟨rfl, rfl⟩)
        go_ret3
        exact ⟨rfl, Below.refl _ _⟩
    · have hl0 : ¬ a < 0 := by omega
      have hl1 : ¬ 8000 < a := by omega
      by_cases hs : (s.size : Int) < b + a
      · rw [cut_short s a b hl hs, textT_bad 4 (by decide)]
        clear hl
        go_enter Tryd.func40, Tryd.ntmps40
        go_wp2_with (go_at_call 34; refine (read_ok _ _ _ _ _ hm HR.out).mono ?_; rintro e w1 ⟨rfl, rfl⟩)
        go_ret3
        exact ⟨rfl, Below.refl _ _⟩
      · clear hl
        obtain ⟨x, rfl⟩ := Int.eq_ofNat_of_zero_le (show 0 ≤ a by omega)
        obtain ⟨y, rfl⟩ := Int.eq_ofNat_of_zero_le hb0
        have hxy : y + x ≤ s.size := by omega
        rw [cut_ok s x y (by omega) hxy]
        go_enter Tryd.func40, Tryd.ntmps40
        go_wp2_with (go_at_call 34; refine (read_ok _ _ _ _ _ hm HR.out).mono ?_; rintro e w1 ⟨rfl, rfl⟩)
        refine (LaidW.laid_one _ _ (by have := ext_len s y (y + x); omega)).mono ?_
        rintro e w2 ⟨rfl, hB⟩
        go_wp2
        go_ret3
        exact ⟨rfl, hB⟩
  · rw [cut_code s a b c hc, textT_bad c hc]
    go_enter Tryd.func40, Tryd.ntmps40
    go_wp2_with (go_at_call 34; refine (read_bad _ _ _ _ _ _ hm HR.out hc).mono ?_; rintro e w1 ⟨rfl, rfl⟩)
    go_ret3
    exact ⟨rfl, Below.refl _ _⟩

set_option maxRecDepth 10000 in
set_option maxHeartbeats 400000 in
theorem impl_any (s : ByteArray) (n : Int) (w : World) (hm : s.size ≤ maxLen) (hg : GetNumW.Laid w) :
    Calls Tryd.prog 15 #[.string s, .int .i64 n] w fun e w' => e = .returned (textV (textR s n)) ∧ Below w.heap.size w w' := by
  have HG : Hid (GetNumW.Laid w) := hg
  have hlt := hg.lt
  clear hg
  go_enter Tryd.func15, Tryd.ntmps15
  go_wp2_with fail
  refine (readText_any s n _ hm).mono ?_
  rintro e w1 ⟨rfl, hB1⟩
  unfold textT
  generalize hr : textR s n = r
  have HR : Hid (textR s n = r) := hr
  clear hr
  have hs1 := hB1.size
  have hz1 : w.heap.size + 1 ≤ w1.heap.size := by simpa using hs1
  go_wp2_with fail
  refine (GetNumW.code_any r.2.2 _ ?_).mono ?_
  · exact HG.out.below (((Below.refl _ _).alloc (Nat.le_refl _) _).trans (hB1.mono (by simp))) hlt
  rintro e w2 ⟨rfl, hB2⟩
  have hc : ∀ o v, (w.alloc (.cells #[.string ⟨#[]⟩, .int .i64 0, .int .i64 0] 31)).cell? ⟨w.heap.size, o, none⟩ = some v → w2.cell? ⟨w.heap.size, o, none⟩ = some v := fun o v h => by
    rw [hB2.cell (p := ⟨w.heap.size, o, none⟩) (show w.heap.size < w1.heap.size by omega), hB1.cell (p := ⟨w.heap.size, o, none⟩) (by simp)]; exact h
  have hc0 : w2.cell? ⟨w.heap.size, 0, none⟩ = some (.string ⟨#[]⟩) := hc 0 _ (by simp)
  have hc1 : w2.cell? ⟨w.heap.size, 1, none⟩ = some (.int .i64 0) := hc 1 _ (by simp)
  have hc2 : w2.cell? ⟨w.heap.size, 2, none⟩ = some (.int .i64 0) := hc 2 _ (by simp)
  have hf : ∀ o, w2.frozen? ⟨w.heap.size, o, none⟩ = false := fun o => by
    rw [hB2.frozen (p := ⟨w.heap.size, o, none⟩) (show w.heap.size < w1.heap.size by omega), hB1.frozen (p := ⟨w.heap.size, o, none⟩) (by simp)]; simp
  have HB : Hid (Below w.heap.size w w2) := (((Below.refl _ _).alloc (Nat.le_refl _) _).trans (hB1.mono (by simp))).trans (hB2.mono (by omega))
  clear hB1 hB2 hc hs1
  go_wp2
  refine bodyPost_ret (v := textV r) (by simp [results, Tryd.results15, go_sem, hc0, hc1, hc2, textV]) rfl ⟨by rw [HR.out], ?_⟩
  exact ((HB.out.setCell (Nat.le_refl _) _).setCell (Nat.le_refl _) _).setCell (Nat.le_refl _) _

end Go.Proofs.YtcgaeblegiabjaaDoor.GetTextW
