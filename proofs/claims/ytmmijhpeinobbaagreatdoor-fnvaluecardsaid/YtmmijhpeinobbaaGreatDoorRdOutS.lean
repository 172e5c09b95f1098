/- ValueRead of the model; and what both readings answer, as one relation of the text. -/
import Derived.Test.YtmmijhpeinobbaaGreatDoorRdRead
namespace Go.Proofs.YtmmijhpeinobbaaGreatDoor.RdS
open Go.RowKit
open ValM ValW ValS ValI TxtM RdM TxtS

/-- an answer with a code, as a value -/
abbrev ov (k n : Int) (a : Option Addr) (len cap : Nat) (t : ByteArray) (c : Int) : Value := .agg #[.int .i64 k, .int .i64 n, .slice a len cap, .string t, .int .i64 c]
def Reads (s : ByteArray) (k n : Int) (zs : List Int) (t : ByteArray) (c : Int) : Prop :=
  (8000 < s.size ∧ k = 0 ∧ n = 0 ∧ zs = [] ∧ t = ByteArray.empty ∧ c = 2) ∨
  (s.size ≤ 8000 ∧ right k n zs t = true ∧ s.data.toList = textL k n zs t ∧ c = 0) ∨
  (s.size ≤ 8000 ∧ k = 0 ∧ n = 0 ∧ zs = [] ∧ t = ByteArray.empty ∧ c = 3 ∧ ∀ k0 n0 z0 t0, right k0 n0 z0 t0 = true → s.data.toList ≠ textL k0 n0 z0 t0)
theorem reads_same {s : ByteArray} {k n : Int} {zs : List Int} {t : ByteArray} {c k' n' : Int} {zs' : List Int} {t' : ByteArray} {c' : Int} (h : Reads s k n zs t c) (h' : Reads s k' n' zs' t' c') :
    k = k' ∧ n = n' ∧ zs = zs' ∧ t = t' ∧ c = c' := by
  rcases h with ⟨a, b1, b2, b3, b4, b5⟩ | ⟨a, b1, b2, b3⟩ | ⟨a, b1, b2, b3, b4, b5, b6⟩ <;> rcases h' with ⟨a', b1', b2', b3', b4', b5'⟩ | ⟨a', b1', b2', b3'⟩ | ⟨a', b1', b2', b3', b4', b5', b6'⟩
  · exact ⟨by omega, by omega, by rw [b3, b3'], by rw [b4, b4'], by omega⟩
  · omega
  · omega
  · omega
  · obtain ⟨x, y, z, u⟩ := text_inj b1 b1' (by rw [← b2, ← b2'])
    exact ⟨x, y, z, u, by omega⟩
  · exact absurd b2 (b6' _ _ _ _ b1)
  · omega
  · exact absurd b2' (b6 _ _ _ _ b1')
  · exact ⟨by omega, by omega, by rw [b3, b3'], by rw [b4, b4'], by omega⟩
theorem reads_codes {s : ByteArray} {k n : Int} {zs : List Int} {t : ByteArray} {c : Int} (h : Reads s k n zs t c) : zs.length ≤ 20 ∧ t.size ≤ 40 := by
  rcases h with ⟨_, _, _, b3, b4, _⟩ | ⟨_, b1, _, _⟩ | ⟨_, _, _, b3, b4, _⟩
  · rw [b3, b4]; exact ⟨by simp, by decide⟩
  · rcases kinds b1 with ⟨_, _, h, h'⟩ | ⟨_, _, _, h, h'⟩ | ⟨_, _, _, h, h'⟩ | ⟨_, _, h, h'⟩ | ⟨_, _, h, _, h'⟩
    · exact ⟨by omega, by omega⟩
    · exact ⟨by omega, by omega⟩
    · exact ⟨by omega, by omega⟩
    · exact ⟨rises_len h, by omega⟩
    · exact ⟨by omega, by omega⟩
  · rw [b3, b4]; exact ⟨by simp, by decide⟩

def zero5 : Array Value := #[.int .i64 0, .int .i64 0, .slice none 0 0, .string ByteArray.empty, .int .i64 0]
theorem zero_cells {w : World} {b : Nat} {T : TypeId} (h : w.heap[b]? = some (.cells zero5 T (0, 0))) :
    w.cell? ⟨b, 0, none⟩ = some (.int .i64 0) ∧ w.cell? ⟨b, 1, none⟩ = some (.int .i64 0) ∧ w.cell? ⟨b, 2, none⟩ = some (.slice none 0 0) ∧ w.cell? ⟨b, 3, none⟩ = some (.string ByteArray.empty) ∧ w.cell? ⟨b, 4, none⟩ = some (.int .i64 0) ∧ ∀ j, w.frozen? ⟨b, j, none⟩ = false :=
  ⟨by simp [World.cell?, h, zero5], by simp [World.cell?, h, zero5], by simp [World.cell?, h, zero5], by simp [World.cell?, h, zero5], by simp [World.cell?, h, zero5], fun j => by simp [World.frozen?, h]⟩
theorem spec_read_big (s : ByteArray) (w : World) (hs : 8000 < s.size) (hm : s.size ≤ maxLen) :
    Calls Tryz.prog 12 #[.string s] w fun e w' => e = .returned (ov 0 0 none 0 0 ByteArray.empty 2) ∧ Below w.heap.size w w' := by
  unfold maxLen at hm
  go_enter Tryz.func12, Tryz.ntmps12
  go_wp2
  refine bodyPost_ret (v := ov 0 0 none 0 0 ByteArray.empty 2) (by simp [results, Tryz.results12, go_sem]; rfl) rfl ⟨rfl, ?_⟩
  go_grown

set_option maxHeartbeats 1000000 in
theorem spec_read (s : ByteArray) (w : World) (hm : s.size ≤ maxLen) :
    Calls Tryz.prog 12 #[.string s] w fun e w' => ∃ k n zs t a cap c, e = .returned (ov k n a zs.length cap t c) ∧ Below w.heap.size w w' ∧ Codes w' a zs ∧ Reads s k n zs t c := by
  by_cases hs : s.size ≤ 8000
  case neg => exact (spec_read_big s w (by omega) hm).mono fun e w' h => ⟨0, 0, [], ByteArray.empty, none, 0, 2, h.1, h.2, Codes.nil _ _, .inl ⟨by omega, rfl, rfl, rfl, rfl, rfl⟩⟩
  have HS : Hid (s.size ≤ 8000) := hs
  clear hm
  go_enter Tryz.func12, Tryz.ntmps12
  go_wp2_with fail
  refine (read_in s _ hs).mono ?_
  rintro e w1 ⟨k, n, zs, t, a, cap, rfl, hB1, hc1, hfr, ht1, his⟩
  rw [World.size_alloc] at hfr
  have HFR : Hid (Fresh a (w.heap.size + 1)) := hfr
  have HIS : Hid (IsOf s k n zs t) := his
  have HT : Hid (t.size ≤ maxLen) := show t.size ≤ maxLen by unfold maxLen; omega
  have HZ1 : Hid (w1.heap[w.heap.size]? = some (.cells zero5 30 (0, 0))) := by
    show _ = _
    rw [hB1.block _ (by simp)]; exact heap_alloc_new w _
  have HB1 : Hid (Below w.heap.size w (w1.alloc (.cells #[.int .i64 k, .int .i64 n, .slice a zs.length cap, .string t] 25))) := ((below_one w _).trans (hB1.mono (by simp))).trans ((below_one w1 _).mono (by have := hB1.size; simp at this; omega))
  have HC1 : Hid (Codes (w1.alloc (.cells #[.int .i64 k, .int .i64 n, .slice a zs.length cap, .string t] 25)) a zs) := hc1.alloc _
  have HV1 : Hid (At4 (w1.alloc (.cells #[.int .i64 k, .int .i64 n, .slice a zs.length cap, .string t] 25)) w1.heap.size (.int .i64 k) (.int .i64 n) (.slice a zs.length cap) (.string t)) := At4.laid _ _ _ _ _ _
  have hlt : w.heap.size < w1.heap.size := by have := hB1.size; simp at this; omega
  have HZ2 : Hid ((w1.alloc (.cells #[.int .i64 k, .int .i64 n, .slice a zs.length cap, .string t] 25)).heap[w.heap.size]? = some (.cells zero5 30 (0, 0))) := by
    show _ = _; rw [Below.heap_alloc _ _ _ hlt]; exact HZ1.out
  clear hB1 hc1 his ht1 HZ1 hfr
  obtain ⟨x, hx⟩ := hide (textB k n zs t)
  obtain ⟨y, hy⟩ : ∃ y, Hid (right k n zs t = y) := ⟨_, rfl⟩
  go_wp2_with fail
  refine (spec_text k n a cap zs t _ HC1.out HT.out).mono ?_
  rintro e w2 ⟨rfl, hB2⟩
  rw [hx.out]
  have HB2 : Hid (Below w.heap.size w w2) := HB1.out.trans (hB2.mono HB1.out.size)
  have HC2 : Hid (Codes w2 a zs) := HC1.out.on hB2
  have HV2 : Hid (At4 w2 w1.heap.size (.int .i64 k) (.int .i64 n) (.slice a zs.length cap) (.string t)) := HV1.out.on hB2
  have HZ3 : Hid (w2.heap[w.heap.size]? = some (.cells zero5 30 (0, 0))) := by
    show _ = _; rw [hB2.block _ (by simp; omega)]; exact HZ2.out
  clear hB2 HB1 HC1 HV1 HZ2
  by_cases he : x.toList = s.toList
  · have q : (x.toList == s.toList) = true := by simp [he]
    have HXS : Hid (x = s) := by
      show _ = _; rw [ByteArray.toList_eq, ByteArray.toList_eq] at he; rw [eq_mk he, mk_data]
    clear he
    obtain ⟨c0, c1, c2, c3, hvz⟩ := HV2.out
    go_wp2_with fail
    refine (spec_right k n a cap zs t _ HC2.out HT.out).mono ?_
    rintro e w3 ⟨rfl, hB3⟩
    rw [hy.out]
    have HB3 : Hid (Below w.heap.size w w3) := HB2.out.trans (hB3.mono HB2.out.size)
    have HC3 : Hid (Codes w3 a zs) := HC2.out.on hB3
    have HV3 : Hid (At4 w3 w1.heap.size (.int .i64 k) (.int .i64 n) (.slice a zs.length cap) (.string t)) := HV2.out.on hB3
    have hlt3 : w.heap.size < w2.heap.size := (Array.getElem?_eq_some_iff.1 HZ3.out).1
    obtain ⟨z0, z1, z2, z3, z4, zf⟩ := zero_cells ((hB3.block _ hlt3).trans HZ3.out)
    have hlt4 : w.heap.size < w3.heap.size := Nat.lt_of_lt_of_le hlt3 hB3.size
    clear hB3 c0 c1 c2 c3 hvz HV2 HB2 HC2 HZ3
    cases y with
    | false =>
      have HR : Hid (Reads s 0 0 [] ByteArray.empty 3) := .inr (.inr ⟨HS.out, rfl, rfl, rfl, rfl, rfl, fun k0 n0 z0 t0 hr e => by
        obtain ⟨rfl, rfl, rfl, rfl⟩ := HIS.out k0 n0 z0 t0 hr e
        rw [hr] at hy; exact absurd hy.out (by simp)⟩)
      go_wp2
      refine bodyPost_ret (v := ov 0 0 none 0 0 ByteArray.empty 3) (by simp [results, Tryz.results12, go_sem, z0, z1, z2, z3, z4]; rfl) rfl ⟨0, 0, [], ByteArray.empty, none, 0, 3, rfl, ?_, Codes.nil _ _, HR.out⟩
      repeat (refine Below.setCell ?_ (show w.heap.size ≤ _ by simp only; omega) _)
      exact HB3.out
    | true =>
      have HR : Hid (Reads s k n zs t 0) := .inr (.inl ⟨HS.out, hy.out, by rw [← HXS.out, ← hx.out]; unfold textB; rw [if_pos hy.out, data_mk], rfl⟩)
      obtain ⟨c0, c1, c2, c3, hvz⟩ := HV3.out
      go_wp2
      refine bodyPost_ret (v := ov k n a zs.length cap t 0) (by simp [results, Tryz.results12, go_sem, z0, z1, z2, z3, z4]) rfl ⟨k, n, zs, t, a, cap, 0, rfl, ?_, ?_, HR.out⟩
      · repeat (refine Below.setCell ?_ (show w.heap.size ≤ _ by simp only; omega) _)
        exact HB3.out
      · repeat (refine codes_set ?_ (fun b o hb => by have := HFR.out b o hb; simp only; omega) _)
        exact HC3.out
  · have q : (x.toList == s.toList) = false := by simp [he]
    have HR : Hid (Reads s 0 0 [] ByteArray.empty 3) := .inr (.inr ⟨HS.out, rfl, rfl, rfl, rfl, rfl, fun k0 n0 z0 t0 hr e => by
      obtain ⟨rfl, rfl, rfl, rfl⟩ := HIS.out k0 n0 z0 t0 hr e
      apply he
      rw [← hx.out]; unfold textB; rw [if_pos hr, ByteArray.toList_eq, data_mk, ByteArray.toList_eq, e]⟩)
    clear he
    have hlt3 : w.heap.size < w2.heap.size := (Array.getElem?_eq_some_iff.1 HZ3.out).1
    obtain ⟨z0, z1, z2, z3, z4, zf⟩ := zero_cells HZ3.out
    go_wp2
    refine bodyPost_ret (v := ov 0 0 none 0 0 ByteArray.empty 3) (by simp [results, Tryz.results12, go_sem, z0, z1, z2, z3, z4]; rfl) rfl ⟨0, 0, [], ByteArray.empty, none, 0, 3, rfl, ?_, Codes.nil _ _, HR.out⟩
    repeat (refine Below.setCell ?_ (show w.heap.size ≤ _ by simp only; omega) _)
    exact HB2.out
end Go.Proofs.YtmmijhpeinobbaaGreatDoor.RdS
