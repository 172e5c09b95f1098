/- Texts of ours, laid together. -/
import Derived.Test.YtmbhmknfipdadaaGreatDoorBd21
namespace Go.Proofs.YtmbhmknfipdadaaGreatDoor.FldK
open Go.RowKit
open StrW DecM
def Mk (w : World) (g cap j : Nat) : Prop := ∃ cur : Array Value, w.heap[g]? = some (.cells cur 9 (0, 0)) ∧ cur.size = cap ∧ ∀ i, i < j → cur[i]? = some (encS (markL (1 + i)))
theorem Mk.on {w w' : World} {g cap j : Nat} (h : Mk w g cap j) (hB : Below w.heap.size w w') : Mk w' g cap j := by
 obtain ⟨cur, hg, hs, hc⟩ := h
 exact ⟨cur, by rw [hB.block g (blk_lt hg)]; exact hg, hs, hc⟩
theorem Mk.room {w : World} {g cap j i : Nat} (h : Mk w g cap j) (hi : i < cap) : (∃ v, w.cell? ⟨g, i, none⟩ = some v) ∧ w.frozen? ⟨g, i, none⟩ = false := by
 obtain ⟨cur, hg, hs, hc⟩ := h
 refine ⟨⟨cur[i]'(by omega), ?_⟩, by simp [World.frozen?, hg]⟩
 simp [World.cell?, hg, show i < cur.size by omega]
theorem Mk.put {w : World} {g cap j : Nat} (h : Mk w g cap j) (hj : j < cap) : Mk (w.setCell ⟨g, j, none⟩ (encS (markL (1 + j)))) g cap (j + 1) := by
 obtain ⟨cur, hg, hs, hc⟩ := h
 refine ⟨_, PrtW.blk_set _ _ _ _ _ _ hg, by simpa using hs, fun i hi => ?_⟩
 rw [Array.getElem?_setIfInBounds]
 by_cases he : j = i
 ·subst he; rw [if_pos rfl, if_pos (by omega)]
 ·rw [if_neg he]; exact hc i (by omega)
end Go.Proofs.YtmbhmknfipdadaaGreatDoor.FldK
namespace Go.Proofs.YtmbhmknfipdadaaGreatDoor.FldX
open Go.RowKit
open StrW DecM FldK
def MkX (k0 : Nat) (w : World) (g cap j : Nat) : Prop := ∃ cur : Array Value, w.heap[g]? = some (.cells cur 9 (0, 0)) ∧ cur.size = cap ∧ ∀ i, i < j → cur[i]? = some (encS (markL (k0 + i)))
theorem MkX.on {k0 : Nat} {w w' : World} {g cap j : Nat} (h : MkX k0 w g cap j) (hB : Below w.heap.size w w') : MkX k0 w' g cap j := by
 obtain ⟨cur, hg, hs, hc⟩ := h
 exact ⟨cur, by rw [hB.block g (blk_lt hg)]; exact hg, hs, hc⟩
theorem MkX.room {k0 : Nat} {w : World} {g cap j i : Nat} (h : MkX k0 w g cap j) (hi : i < cap) : (∃ v, w.cell? ⟨g, i, none⟩ = some v) ∧ w.frozen? ⟨g, i, none⟩ = false := by
 obtain ⟨cur, hg, hs, hc⟩ := h
 refine ⟨⟨cur[i]'(by omega), ?_⟩, by simp [World.frozen?, hg]⟩
 simp [World.cell?, hg, show i < cur.size by omega]
theorem MkX.put {k0 : Nat} {w : World} {g cap j : Nat} (h : MkX k0 w g cap j) (hj : j < cap) : MkX k0 (w.setCell ⟨g, j, none⟩ (encS (markL (k0 + j)))) g cap (j + 1) := by
 obtain ⟨cur, hg, hs, hc⟩ := h
 refine ⟨_, PrtW.blk_set _ _ _ _ _ _ hg, by simpa using hs, fun i hi => ?_⟩
 rw [Array.getElem?_setIfInBounds]
 by_cases he : j = i
 ·subst he; rw [if_pos rfl, if_pos (by omega)]
 ·rw [if_neg he]; exact hc i (by omega)
set_option maxRecDepth 10000 in
set_option maxHeartbeats 800000 in
theorem mark_strsX (k0 : Nat) (h1 : 1 ≤ k0) (h2 : k0 ≤ 100000000) (base : Nat) (v : Value) (ss : List (List UInt8)) (w : World) (hown : w.ownsRow base 9 1 v ss.length (strs ss)) (hl : ss.length ≤ 1048576) :
  Calls Tryz.prog 39 #[v, .int .i64 (k0 : Int)] w fun e w' => e = .returned (.int .i64 ((k0 : Int) + ss.length)) ∧ w'.ownsRow base 9 1 v ss.length (strs (marks k0 ss.length)) ∧ w.grownBy w' v.ownBlock := by
 rcases hown.2 with ⟨rfl, h0⟩ | ⟨g, cap, cur, rfl, hb, hg, hc, hm, hs, ht⟩
 ·obtain rfl := List.length_eq_zero_iff.1 h0
  clear hown
  go_enter Tryz.func39, Tryz.ntmps39
  go_wp2
  go_loopw [1, 5] (fun k i wr => k = .int .i64 (k0 : Int) ∧ i = .int .i64 0 ∧ wr = w) (fun _ _ _ => 0)
  case atStart => exact ⟨rfl, rfl, rfl⟩
  case round =>
   obtain ⟨rfl, rfl, hw⟩ := hrel
   obtain rfl := hw
   go_wp2
   go_ret
   exact ⟨rfl, ⟨rfl, .inl ⟨rfl, rfl⟩⟩, ⟨rfl, rfl, rfl, Nat.le_refl _, fun _ _ _ => rfl⟩⟩
 ·have hM0 : MkX k0 w g cap 0 := ⟨cur, hg, by omega, fun i hi => absurd hi (Nat.not_lt_zero _)⟩
  have HM0 := hid hM0
  clear hown hg hs ht hM0
  go_enter Tryz.func39, Tryz.ntmps39
  go_wp2
  go_loopw [1, 5] (fun k i wr => ∃ j : Nat, j ≤ ss.length ∧ i = .int .i64 j ∧ k = .int .i64 ((k0 : Int) + (j : Int)) ∧ Hid (MkX k0 wr g cap j) ∧ Hid (Only w wr g)) (fun _ i _ => ss.length - (intOf i).toNat)
  case atStart => exact ⟨0, Nat.zero_le _, rfl, rfl, HM0, Only.refl _ _⟩
  case round =>
   obtain ⟨k, hk, rfl, rfl, hM, hO⟩ := hrel
   by_cases hlt : k < ss.length
   ·go_wp2_with fail
    refine (mark_text (k0 + k) wr (by omega) (by omega)).mono ?_
    rintro e w2 ⟨rfl, hB2⟩
    have HM2 := hid (hM.out.on hB2)
    have HO2 := hid (hO.out.on hB2)
    obtain ⟨⟨v0, r0⟩, f0⟩ := HM2.out.room (i := k) (by omega)
    have HP := hid (HM2.out.put (by omega))
    obtain ⟨T, hT⟩ : ∃ T : ByteArray, Hid ((⟨(markL (k0 + k)).toArray⟩ : ByteArray) = T) := ⟨_, rfl⟩
    unfold encS at HP ⊢
    rw [hT.out] at HP ⊢
    clear hM hO hB2
    go_wp2_with fail
    refine ⟨⟨k + 1, by omega, by go_num, by go_num, HP, HO2.out.set _ _⟩, by simp [intOf]; omega⟩
   ·obtain rfl : k = ss.length := by omega
    go_wp2
    go_ret
    refine ⟨rfl, ?_, hO.out⟩
    obtain ⟨cur2, hg2, hs2, hc2⟩ := hM.out
    refine ⟨by rw [strs_len, marks_len]; omega, .inr ⟨g, cap, cur2, rfl, hb, hg2, hc, hm, by omega, ?_⟩⟩
    apply List.ext_getElem?
    intro i
    rw [Nat.mul_one, List.getElem?_take]
    by_cases hi : i < ss.length
    ·rw [if_pos hi, Array.getElem?_toList, hc2 i hi]
     unfold strs marks
     simp [hi]
    ·rw [if_neg hi, List.getElem?_eq_none (by rw [strs_len, marks_len]; omega)]
set_option maxRecDepth 10000 in
set_option maxHeartbeats 800000 in
theorem held_strsX (k0 : Nat) (h1 : 1 ≤ k0) (h2 : k0 ≤ 100000000) (a : Option Addr) (cap n : Nat) (w : World) (hS : Strs w a (marks k0 n)) (hl : n ≤ 1048576) :
  Calls Tryz.prog 40 #[.slice a n cap, .int .i64 (k0 : Int)] w fun e w' => e = .returned (.int .i64 ((k0 : Int) + n)) ∧ Below w.heap.size w w' := by
 have HS := hid hS
 clear hS
 go_enter Tryz.func40, Tryz.ntmps40
 go_wp2
 go_loopw [1, 5] (fun k i wr => ∃ j : Nat, j ≤ n ∧ i = .int .i64 j ∧ k = .int .i64 ((k0 : Int) + (j : Int)) ∧ Below w.heap.size w wr) (fun _ i _ => n - (intOf i).toNat)
 case atStart => exact ⟨0, Nat.zero_le _, rfl, rfl, Below.refl _ _⟩
 case round =>
  obtain ⟨k, hk, rfl, rfl, hbel⟩ := hrel
  by_cases hlt : k < n
  ·obtain ⟨b, o, rfl, hb, c0⟩ := Strs.at HS.out (i := k) (by rw [marks_len]; exact hlt)
   rw [marks_at k0 n k hlt, ← hbel.cell (p := ⟨b, _, none⟩) hb] at c0
   obtain ⟨T, hT⟩ : ∃ T : ByteArray, Hid ((⟨(markL (k0 + k)).toArray⟩ : ByteArray) = T) := ⟨_, rfl⟩
   unfold encS at c0
   rw [hT.out] at c0
   have HB := hid hbel
   have hbr : b < wr.heap.size := Nat.lt_of_lt_of_le hb hbel.size
   have hB0 : Below wr.heap.size wr wr.drew := (Below.refl _ _).drew
   clear hbel
   go_wp2_with fail
   refine wp_region_held_drew (S := (fun w' => Below wr.heap.size wr w' ∧ w'.cell? ⟨b, o + k, none⟩ = some (.string T))) (by kernel_rfl) ?_ (fun hHeld => ?_)
   ·(try dsimp only) <;> (first | exact ⟨hBn, (hBn.cell (p := ⟨b, o + k, none⟩) hbr).trans c0⟩ | exact ⟨hB0, c0⟩)
   refine tk 0 (some 12) rfl hHeld ?_; (try simp only [Act.put, pA, pB, pC]); refine tk 1 (some 13) rfl hHeld ?_; (try simp only [Act.put, pA, pB, pC]); refine tk 2 (some 14) rfl hHeld ?_; (try simp only [Act.put, pA, pB, pC]); refine tk 3 (some 15) rfl hHeld ?_; (try simp only [Act.put, pA, pB, pC]); refine tk 4 (some 16) rfl hHeld ?_; (try simp only [Act.put, pA, pB, pC])
   refine wpAnyH_ready (rs := [5]) (by kernel_rfl) (by simp) ?_
   refine AllReadyH.cons rfl (fun K hK => ?_) AllReadyH.nil
   go_simp
   go_at_call 36
   have hp := hHeld.1
   refine (mark_text (k0 + k) _ (by omega) (by omega)).mono ?_
   rintro e w' ⟨rfl, hB⟩
   unfold encS
   rw [hT.out]
   have hBn := hp.trans (hB.mono hp.size)
   clear hp hB
   (try go_wp2_with fail)
   refine hK.out _ _ ?_ (fun hHeld2 => ?_)
   ·(try dsimp only) <;> (first | exact ⟨hBn, (hBn.cell (p := ⟨b, o + k, none⟩) hbr).trans c0⟩ | exact ⟨hB0, c0⟩)
   clear hK K hHeld
   have hHeld := hHeld2
   clear hHeld2
   (try simp only [Act.put, pA, pB, pC]); refine tk 6 (some 18) rfl hHeld ?_; (try simp only [Act.put, pA, pB, pC])
   refine wpAnyH_done (by kernel_rfl) ?_ _
   have HBL := hid hHeld.1
   clear hHeld hB0 c0
   go_wp2_with fail
   refine ⟨⟨k + 1, by omega, by go_num, by go_num, HB.out.trans (HBL.out.mono HB.out.size)⟩, by simp [intOf]; omega⟩
  ·obtain rfl : k = n := by omega
   go_wp2
   go_ret
   exact ⟨rfl, hbel⟩
end Go.Proofs.YtmbhmknfipdadaaGreatDoor.FldX
