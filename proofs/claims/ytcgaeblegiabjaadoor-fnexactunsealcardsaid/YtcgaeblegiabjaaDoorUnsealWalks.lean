/- What Unseal of the model answers. -/
import Derived.Test.YtcgaeblegiabjaaDoorUnsealImpl
import Derived.Test.YtcgaeblegiabjaaDoorGetTextWalks
namespace Go.Proofs.YtcgaeblegiabjaaDoor.UnsealW
open Go.RowKit

theorem take_append_beq (l a : List UInt8) (k : Nat) : ((l.take k ++ a) == l) = (a == l.drop k) := by
  rw [Bool.eq_iff_iff, beq_iff_eq, beq_iff_eq]
  constructor
  · intro h
    have h2 : l.take k ++ a = l.take k ++ l.drop k := by rw [h, List.take_append_drop]
    exact List.append_cancel_left h2
  · intro h; rw [h, List.take_append_drop]
theorem tail_eq (s : ByteArray) : (SealW.fourL (CrcM.crcC 0 (s.data.toList.take (s.size - 4))) == (s.extract (s.size - 4) s.size).toList) = okB s := by
  unfold okB SealW.sealL
  have e1 : (s.extract 0 (s.size - 4)).data.toList = s.data.toList.take (s.size - 4) := by simp
  have e2 : (s.extract (s.size - 4) s.size).toList = s.data.toList.drop (s.size - 4) := by
    rw [ByteArray.toList_eq]; exact ReadW.rest_data s (s.size - 4)
  rw [e1, e2, ByteArray.toList_eq, take_append_beq]
theorem cut_tail (s : ByteArray) (h : ¬ s.size < 4) (wx : World) :
    (Instr.slice 9 (.string s) (some (.int .i64 ((s.size : Int) - 4))) none none).run Tryd.prog wx = .ok (.string (s.extract (s.size - 4) s.size)) wx := by
  have := run_slice_string_l (P := Tryd.prog) (w := wx) (t := 9) (s := s) Tryd.underlying9 .i64 ((s.size : Int) - 4) (by omega) (by omega)
  rw [show ((s.size : Int) - 4).toNat = s.size - 4 by omega] at this
  exact this

set_option maxRecDepth 10000 in
set_option maxHeartbeats 400000 in
theorem spec_any (s : ByteArray) (w : World) (hm : s.size ≤ maxLen) :
    Calls Tryd.prog 29 #[.string s] w fun e w' => e = .returned (GetTextW.textV (openR s)) ∧ Below w.heap.size w w' := by
  unfold maxLen at hm
  by_cases h : 8000 < s.size
  · rw [open_size s h]
    go_enter Tryd.func29, Tryd.ntmps29
    go_wp2
    exact bodyPost_ret (v := GetTextW.textV (⟨#[]⟩, 0, 2)) (by simp [results, Tryd.results29, go_sem, GetTextW.textV]) rfl ⟨rfl, (Below.refl _ _).alloc (Nat.le_refl _) _⟩
  by_cases h1 : s.size < 4
  · rw [open_short s h h1]
    go_enter Tryd.func29, Tryd.ntmps29
    go_wp2
    exact bodyPost_ret (v := GetTextW.textV (⟨#[]⟩, 0, 4)) (by simp [results, Tryd.results29, go_sem, GetTextW.textV]) rfl ⟨rfl, (Below.refl _ _).alloc (Nat.le_refl _) _⟩
  have hel2 : (s.extract 0 (s.size - 4)).size ≤ 8000 := by have e : (s.extract 0 (s.size - 4)).size = s.size - 4 := inner_size s
                                                           omega
  have hsl := fun wx => cut_tail s h1 wx
  have hwrap : IntKind.i64.wrap ((s.size : Int) - 4) = (s.size : Int) - 4 := by rw [IntKind.wrap_i64]; omega
  go_enter Tryd.func29, Tryd.ntmps29
  go_wp2_with fail
  go_region_with (first
    | (go_at_call 43; refine (CrcW.spec_l01Crc 0 _ _ (by omega) hel2).mono ?_; rintro e w1 ⟨rfl, rfl⟩)
    | (go_at_call 42; refine (SealW.spec_four _ _ (CrcM.crcC_lt _ _)).mono ?_; rintro e w2 ⟨rfl, hB2⟩))
  have hz2 : w.heap.size + 1 ≤ w2.heap.size := by simpa using hB2.size
  have hc : ∀ o v, (w.alloc (.cells #[.string ⟨#[]⟩, .int .i64 0, .int .i64 0] 31)).cell? ⟨w.heap.size, o, none⟩ = some v → w2.cell? ⟨w.heap.size, o, none⟩ = some v := fun o v h => by
    rw [hB2.cell (p := ⟨w.heap.size, o, none⟩) (by simp)]; exact h
  have hc0 : w2.cell? ⟨w.heap.size, 0, none⟩ = some (.string ⟨#[]⟩) := hc 0 _ (by simp)
  have hc1 : w2.cell? ⟨w.heap.size, 1, none⟩ = some (.int .i64 0) := hc 1 _ (by simp)
  have hc2 : w2.cell? ⟨w.heap.size, 2, none⟩ = some (.int .i64 0) := hc 2 _ (by simp)
  have hf : ∀ o, w2.frozen? ⟨w.heap.size, o, none⟩ = false := fun o => by rw [hB2.frozen (p := ⟨w.heap.size, o, none⟩) (by simp)]; simp
  have HB : Hid (Below w.heap.size w w2) := (((Below.refl _ _).alloc (Nat.le_refl _) _).drew).trans (hB2.mono (by simp))
  clear hB2 hc hsl hwrap
  cases hk : okB s
  · have HR : Hid (openR s = (⟨#[]⟩, 0, 5)) := open_sum s h h1 hk
    have hkk : (!SealW.fourL (CrcM.crcC 0 (s.data.toList.take (s.size - 4))) == (s.extract (s.size - 4) s.size).toList) = true := by rw [tail_eq, hk]; rfl
    clear hk
    rw [hkk]
    clear hkk
    go_wp2
    refine bodyPost_ret (v := GetTextW.textV (⟨#[]⟩, 0, 5)) (by simp [results, Tryd.results29, go_sem, hc0, hc1, hc2, GetTextW.textV]) rfl ⟨by rw [HR.out], ?_⟩
    exact ((HB.out.setCell (Nat.le_refl _) _).setCell (Nat.le_refl _) _).setCell (Nat.le_refl _) _
  · have HR : Hid (openR s = (s.extract 0 (s.size - 4), 0, 0)) := open_ok s h h1 hk
    have hkk : (!SealW.fourL (CrcM.crcC 0 (s.data.toList.take (s.size - 4))) == (s.extract (s.size - 4) s.size).toList) = false := by rw [tail_eq, hk]; rfl
    clear hk
    rw [hkk]
    clear hkk
    go_wp2
    refine bodyPost_ret (v := GetTextW.textV (s.extract 0 (s.size - 4), 0, 0)) (by simp [results, Tryd.results29, go_sem, hc0, hc1, hc2, GetTextW.textV]) rfl ⟨by rw [HR.out], ?_⟩
    exact ((HB.out.setCell (Nat.le_refl _) _).setCell (Nat.le_refl _) _).setCell (Nat.le_refl _) _

end Go.Proofs.YtcgaeblegiabjaaDoor.UnsealW
