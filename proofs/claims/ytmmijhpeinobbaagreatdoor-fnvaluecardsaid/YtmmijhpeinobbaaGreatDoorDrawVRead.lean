/- A text as a law draws it, for an answer to be read of: a bound of its length. -/
import Derived.Test.YtmmijhpeinobbaaGreatDoorDrawVSpoil
import Derived.Test.YtmmijhpeinobbaaGreatDoorDrawVTop
namespace Go.Proofs.YtmmijhpeinobbaaGreatDoor.DrawV
open Go.RowKit
open ValW ValS ValI DrawW RdS TxtS TxtM RdM
set_option linter.unusedSimpArgs false

theorem textB_len (k n : Int) (zs : List Int) (t : ByteArray) : (textB k n zs t).size ≤ 100 := by
  unfold textB
  by_cases h : ValM.right k n zs t = true
  · rw [if_pos h, size_len, data_mk]; exact text_len h
  · rw [if_neg h]; decide

def reads : List ByteArray := [⟨#[]⟩, ⟨#[45, 48]⟩, ⟨#[48, 49]⟩, ⟨#[35, 48]⟩, ⟨#[35, 50, 49]⟩, ⟨#[123, 125]⟩, ⟨#[123, 49, 44, 49, 125]⟩, ⟨#[123, 44, 125]⟩, ⟨#[34]⟩, ⟨#[34, 97]⟩, ⟨#[34, 34, 34]⟩, ⟨#[68]⟩, ⟨#[68, 75, 32]⟩, ⟨#[123, 49]⟩, ⟨#[45, 45, 49]⟩, ⟨#[49, 48, 48, 48, 48, 48, 48, 48, 48, 49]⟩]
theorem reads_len : ∀ x ∈ reads, x.size ≤ 10 := by decide

set_option maxRecDepth 10000 in
set_option maxHeartbeats 1000000 in
theorem drawRead_any (w : World) (a : Option Addr) (len cap : Nat) (hc : CodeAt w w.heap.size a len) :
    Calls Tryz.prog 7 #[.slice a len cap] w fun e w' =>
      ∃ s : ByteArray, e = .returned (.string s) ∧ s.size ≤ 101 ∧ Below w.heap.size w w' := by
  have HC : Hid (CodeAt w w.heap.size a len) := hc
  clear hc
  go_enter Tryz.func7, Tryz.ntmps7
  go_wp2_with fail
  refine (source_any w a len cap HC.out).mono ?_
  rintro e w1 ⟨rfl, hd1, hB1⟩
  have HD1 : Hid (Dr w1 w.heap.size a len cap) := hd1
  have HB1 : Hid (Below w.heap.size w w1) := hB1
  clear hd1 hB1
  go_wp2_with fail
  refine (value_any w.heap.size w1 a len cap HD1.out).mono ?_
  rintro e w2 ⟨k, n, zs, t, a', cap', rfl, hcd, hfr, hN, hz, ht, hd2, hg2⟩
  have HB2 : Hid (Below w.heap.size w w2) := HB1.out.trans (grown_below hg2 (Nat.le_refl _) HB1.out.size)
  have HCD : Hid (Codes w2 a' zs) := hcd
  have HD2 : Hid (Dr w2 w.heap.size a len cap) := hd2
  clear hcd hfr hd2 hg2 HB1 HD1 HC
  go_wp2_with fail
  refine (spec_text k n a' cap' zs t w2 HCD.out (by unfold maxLen; omega)).mono ?_
  rintro e w3 ⟨rfl, hB3⟩
  have hs := HD2.out.lt
  have HD3 : Hid (Dr w3 w.heap.size a len cap) := HD2.out.kept fun j hj => hB3.block j (by omega)
  have HB3 : Hid (Below w.heap.size w w3) := HB2.out.trans (hB3.mono HB2.out.size)
  have hl := textB_len k n zs t
  generalize textB k n zs t = s at *
  clear hB3 HB2 HD2 HCD
  go_wp2_with fail
  refine (n_any w.heap.size 4 _ a len cap HD3.out (by omega)).mono ?_
  rintro e w4 ⟨r, rfl, hr, hd4, hg4⟩
  have HD4 : Hid (Dr w4 w.heap.size a len cap) := hd4
  have HB4 : Hid (Below w.heap.size w w4) := HB3.out.trans (grown_below hg4 (Nat.le_refl _) HB3.out.size)
  clear hd4 hg4 HB3 HD3
  by_cases h0 : r = 0
  · subst h0
    go_wp2_with fail
    refine (spoil_any w.heap.size s w4 a len cap HD4.out (by omega)).mono ?_
    rintro e w5 ⟨s2, rfl, hs2, hd5, hg5⟩
    have HB5 : Hid (Below w.heap.size w w5) := HB4.out.trans (grown_below hg5 (Nat.le_refl _) HB4.out.size)
    clear hd5 hg5
    go_wp2
    go_ret
    exact ⟨_, rfl, by omega, HB5.out⟩
  by_cases h1 : r = 1
  · subst h1
    go_wp2_with fail
    have hs4 := HD4.out.lt
    refine (pick_any w.heap.size w4.heap.size 16 reads _ a len cap (HD4.out.alloc _) hs4 (heap_alloc_new w4 _) rfl (by omega) (by omega)).mono ?_
    rintro e w5 ⟨x, rfl, hx, hd5, hg5⟩
    have hx2 := reads_len x hx
    have HB5 : Hid (Below w.heap.size w w5) := (HB4.out.trans ((below_one w4 _).mono (by omega))).trans (grown_below hg5 (Nat.le_refl _) (by simp; omega))
    clear hd5 hg5 hx
    go_wp2
    go_ret
    exact ⟨_, rfl, by omega, HB5.out⟩
  · have q0 : ((r : Int) == 0) = false := by simp; omega
    have q1 : ((r : Int) == 1) = false := by simp; omega
    go_wp2
    go_ret
    exact ⟨_, rfl, by omega, HB4.out⟩
end Go.Proofs.YtmmijhpeinobbaaGreatDoor.DrawV
