/- What the laws' own helpers do with an answer: its size, a copy of it. -/
import Derived.Test.YtbhblnpehhaiiaaDoorValCore
import Derived.Test.YtbhblnpehhaiiaaDoorValEqL
namespace Go.Proofs.YtbhblnpehhaiiaaDoor.ValW
open Go.RowKit

theorem szInts_no (a : Option Addr) (len cap : Nat) (left : Int) (w : World) (h0 : 0 ≤ left) (h1 : left ≤ 1048576) (h : left < len) (hm : len ≤ maxLen) :
    Calls Tryd.prog 44 #[.slice a len cap, .int .i64 left] w fun e w' => e = .returned (.int .i64 (-1)) ∧ w' = w := by
  unfold maxLen at hm
  go_enter Tryd.func44, Tryd.ntmps44
  go_wp2
  go_ret
  exact ⟨rfl, rfl⟩
theorem szInts_yes (a : Option Addr) (len cap : Nat) (left : Int) (w : World) (h1 : left ≤ 1048576) (h : ¬ left < len) :
    Calls Tryd.prog 44 #[.slice a len cap, .int .i64 left] w fun e w' => e = .returned (.int .i64 (left - len)) ∧ w' = w := by
  go_enter Tryd.func44, Tryd.ntmps44
  go_wp2
  go_ret
  exact ⟨rfl, rfl⟩
theorem sz_no (k n : Int) (a : Option Addr) (len cap : Nat) (t : ByteArray) (left : Int) (w : World) (h0 : 0 ≤ left) (h1 : left ≤ 1048576) (h : left < len + t.size) (hm : len ≤ maxLen) (ht : t.size ≤ maxLen) :
    Calls Tryd.prog 24 #[av k n a len cap t, .int .i64 left] w fun e w' => e = .returned (.int .i64 (-1)) ∧ Below w.heap.size w w' := by
  by_cases hl : left < len
  · unfold maxLen at ht
    go_enter Tryd.func24, Tryd.ntmps24
    go_wp2_with (go_at_call 44; refine (szInts_no a len cap left _ h0 h1 hl hm).mono ?_; rintro e w' ⟨rfl, rfl⟩)
    go_ret
    exact ⟨rfl, (Below.refl _ _).alloc (Nat.le_refl _) _⟩
  · unfold maxLen at ht
    go_enter Tryd.func24, Tryd.ntmps24
    go_wp2_with (go_at_call 44; refine (szInts_yes a len cap left _ h1 hl).mono ?_; rintro e w' ⟨rfl, rfl⟩)
    go_ret
    exact ⟨rfl, (Below.refl _ _).alloc (Nat.le_refl _) _⟩
theorem sz_yes (k n : Int) (a : Option Addr) (len cap : Nat) (t : ByteArray) (left : Int) (w : World) (h1 : left ≤ 1048576) (h : ¬ left < len + t.size) :
    Calls Tryd.prog 24 #[av k n a len cap t, .int .i64 left] w fun e w' => e = .returned (.int .i64 (left - len - t.size)) ∧ Below w.heap.size w w' := by
  go_enter Tryd.func24, Tryd.ntmps24
  go_wp2_with (go_at_call 44; refine (szInts_yes a len cap left _ h1 (by omega)).mono ?_; rintro e w' ⟨rfl, rfl⟩)
  go_ret
  exact ⟨rfl, (Below.refl _ _).alloc (Nat.le_refl _) _⟩

set_option maxRecDepth 10000 in
set_option maxHeartbeats 400000 in
theorem toIntsO (a : Option Addr) (cap : Nat) (zs : List Int) (w : World) (hc : Codes w a zs) :
    Calls Tryd.prog 48 #[.slice a zs.length cap] w fun e w' => e = .returned (.slice (some ⟨w.heap.size, 0, none⟩) zs.length zs.length) ∧ w'.heap[w.heap.size]? = some (.cells (cellsI zs).toArray 2 (0, 0)) ∧ Below w.heap.size w w' := by
  obtain ⟨i0, hi, hz0, hz1, hz2⟩ := info_parts Tryd.infoI
  obtain ⟨hl, hc⟩ := hc
  have HC : Hid (0 < zs.length → ∃ b o, a = some ⟨b, o, none⟩ ∧ b < w.heap.size ∧ ∀ i, i < zs.length → w.cell? ⟨b, o + i, none⟩ = some (.int .i64 (zs.getD i 0))) := hc
  clear hc
  go_enter Tryd.func48, Tryd.ntmps48
  go_wp2_with (first | (at_make; refine wpList_make_full _ rfl _ _ 44 rfl w.heap.size 2 i0 (.int .i64 0) 1 Tryd.underlying44 hi hz0 hz1 _ _ _ _ zs.length rfl rfl rfl rfl ?m1 ?m2 ?m3 ?_))
  case m1 => rw [hz2]; omega
  case m2 => unfold maxLen; omega
  case m3 => exact Nat.le_refl _
  intro w1 hown hgrow
  obtain ⟨cur, hrow⟩ : ∃ cur : List Value, cur = rowI zs.length [] ∧ w1.heap[w.heap.size]? = some (.cells cur.toArray 2 (0, 0)) := by
    rw [made_row] at hown
    obtain ⟨_, hv⟩ := hown
    rcases hv with ⟨h0, _⟩ | ⟨g, cap, cu, h0, _, hg, _, _, hs, ht⟩
    · cases h0
    · cases h0
      refine ⟨rowI zs.length [], rfl, ?_⟩
      rw [hg, ← ht, List.take_of_length_le (by simp; omega)]
  obtain ⟨HCur, hrow1⟩ := hrow
  have hB1 : Below w.heap.size w w1 := (Below.refl _ _).grown hgrow (Nat.le_refl _) (fun k hk => by cases hk)
  clear hown hgrow
  subst HCur
  go_wp2
  go_loopw [4] (fun i wr => ∃ k : Nat, k ≤ zs.length ∧ i = .int .i64 k ∧ Hid (wr.heap[w.heap.size]? = some (.cells (rowI zs.length (zs.take k)).toArray 2 (0, 0))) ∧ Below w.heap.size w wr) (fun i _ => zs.length - (intOf i).toNat)
  case atStart => exact ⟨0, Nat.zero_le _, rfl, hrow1, hB1⟩
  case round =>
    obtain ⟨k, hk, rfl, hrow, hbel⟩ := hrel
    clear hrow1 hB1
    by_cases hlt : k < zs.length
    · obtain ⟨b, o, rfl, hb, hcs⟩ := HC.out (by omega)
      have hcell : wr.cell? ⟨b, o + k, none⟩ = some (.int .i64 (zs.getD k 0)) := (hbel.cell hb).trans (hcs k hlt)
      have hfr : wr.frozen? ⟨w.heap.size, k, none⟩ = false := by simp [World.frozen?, hrow.out]
      have hold : wr.cell? ⟨w.heap.size, k, none⟩ = some (.int .i64 0) := by
        have e : (rowI zs.length (zs.take k))[k]? = some (.int .i64 0) := by
          have hl2 : (cellsI (zs.take k)).length = k := by simp [cellsI]; omega
          unfold rowI; rw [List.getElem?_append_right (Nat.le_of_eq hl2), hl2, Nat.sub_self, List.getElem?_replicate, if_pos (by rw [List.length_take]; omega)]
        simp [World.cell?, hrow.out, e]
      clear hcs
      have HR : Hid ((wr.setCell ⟨w.heap.size, k, none⟩ (.int .i64 (zs.getD k 0))).heap[w.heap.size]? = some (.cells (rowI zs.length (zs.take (k + 1))).toArray 2 (0, 0))) := by
        have := row_set zs k hlt
        show _ = _
        rw [← this]; simp [World.setCell, Array.getElem?_modify, hrow.out]
      have HB : Hid (Below w.heap.size w (wr.setCell ⟨w.heap.size, k, none⟩ (.int .i64 (zs.getD k 0)))) := hbel.setCell (Nat.le_refl _) _
      generalize hv : zs.getD k 0 = v at *
      clear hrow hbel
      go_wp2
      refine ⟨⟨k + 1, by omega, by go_num, HR, HB.out⟩, by simp [intOf]; omega⟩
    · go_wp2
      go_ret
      refine ⟨rfl, ?_, hbel⟩
      have := hrow.out
      rw [List.take_of_length_le (by omega), row_full] at this
      exact this
theorem toInts (a : Option Addr) (cap : Nat) (zs : List Int) (w : World) (hc : Codes w a zs) :
    Calls Tryd.prog 48 #[.slice a zs.length cap] w fun e w' => e = .returned (.slice (some ⟨w.heap.size, 0, none⟩) zs.length zs.length) ∧ Codes w' (some ⟨w.heap.size, 0, none⟩) zs ∧ Below w.heap.size w w' :=
  (toIntsO a cap zs w hc).mono fun _ _ ⟨h1, h2, h3⟩ => ⟨h1, codes_of_row (T := 2) h2 hc.1, h3⟩
theorem blk_other {w : World} {g : Nat} {x : Obj} (h : w.heap[g]? = some x) {p : Addr} (hp : p.block ≠ g) (v : Value) : (w.setCell p v).heap[g]? = some x := by
  rw [Below.heap_setCell w p v g (Ne.symm hp)]; exact h

theorem toValO (k n : Int) (a : Option Addr) (cap : Nat) (zs : List Int) (t : ByteArray) (w : World) (hc : Codes w a zs) :
    Calls Tryd.prog 27 #[av k n a zs.length cap t] w fun e w' => ∃ g', e = .returned (av k n (some ⟨g', 0, none⟩) zs.length zs.length t) ∧ w.heap.size ≤ g' ∧ w'.heap[g']? = some (.cells (cellsI zs).toArray 2 (0, 0)) ∧ Below w.heap.size w w' := by
  have HC : Hid (Codes w a zs) := hc
  clear hc
  go_enter Tryd.func27, Tryd.ntmps27
  go_wp2_with fail
  refine (toIntsO a cap zs _ (HC.out.on ?hb)).mono ?_
  case hb => go_grown
  rintro e w1 ⟨rfl, hc1, hB1⟩
  have HB : Hid (Below w.heap.size w w1) := Below.trans ?hb (hB1.mono (by simp; omega))
  case hb => go_grown
  have HC1 : Hid (w1.heap[w.heap.size + 1 + 1 + 1]? = some (.cells (cellsI zs).toArray 2 (0, 0))) := by show _ = _; simpa using hc1
  obtain ⟨hcl, hfz⟩ := bcell hB1
  have hz : w.heap.size + 1 + 1 < w1.heap.size := by have := hB1.size; simp at this; omega
  simp only [World.size_alloc] at hcl hfz
  clear hc1 hB1 HC
  go_wp2
  refine bodyPost_ret (v := av k n (some ⟨w.heap.size + 1 + 1 + 1, 0, none⟩) zs.length zs.length t) (by simp [results, Tryd.results27, go_sem, hcl]) rfl ⟨_, rfl, by omega, ?_, ?_⟩
  · repeat (refine blk_other ?_ (by simp) _)
    exact HC1.out
  · repeat (refine Below.setCell ?_ (show w.heap.size ≤ _ by simp only; omega) _)
    exact HB.out
theorem toVal (k n : Int) (a : Option Addr) (cap : Nat) (zs : List Int) (t : ByteArray) (w : World) (hc : Codes w a zs) :
    Calls Tryd.prog 27 #[av k n a zs.length cap t] w fun e w' => ∃ a', e = .returned (av k n a' zs.length zs.length t) ∧ Codes w' a' zs ∧ Below w.heap.size w w' :=
  (toValO k n a cap zs t w hc).mono fun _ _ ⟨_, h1, _, h2, h3⟩ => ⟨_, h1, codes_of_row (T := 2) h2 hc.1, h3⟩
end Go.Proofs.YtbhblnpehhaiiaaDoor.ValW
