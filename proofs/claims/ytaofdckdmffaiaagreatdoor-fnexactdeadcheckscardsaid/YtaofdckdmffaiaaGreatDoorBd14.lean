/- Texts of ours, laid together: ItmSz. -/
import Derived.Test.YtaofdckdmffaiaaGreatDoorBd11
/- How great the items are together; the same items twice. -/
namespace Go.Proofs.YtaofdckdmffaiaaGreatDoor.ItmW
open Go.RowKit
open PrtW

set_option maxRecDepth 10000 in
set_option maxHeartbeats 800000 in
theorem szPartsG (a : Option Addr) (cap : Nat) (ps : List Pt) (l0 : Nat) (hl0 : l0 ≤ 1048576) (w : World) (hc : Raw w a ps) :
    Calls Tryz.prog 9 #[.slice a ps.length cap, .int .i64 l0] w fun e w' => (∃ r : Int, e = .returned (.int .i64 r) ∧ (r < 0 ↔ l0 < ps.length + bulk ps) ∧ (ps.length + bulk ps ≤ l0 → r = l0 - (ps.length + bulk ps))) ∧ Below w.heap.size w w' := by
  have HC : Hid (Raw w a ps) := hc
  have hl := hc.1
  unfold maxLen at hl
  clear hc
  go_enter Tryz.func9, Tryz.ntmps9
  by_cases hbig : l0 < ps.length
  · go_wp2
    go_ret
    exact ⟨⟨_, rfl, by omega, by omega⟩, by go_grown⟩
  go_wp2
  go_loopw [1, 5] (fun l i wr => ∃ k : Nat, k ≤ ps.length ∧ i = .int .i64 k ∧ ps.length + bulk (ps.take k) ≤ l0 ∧ l = .int .i64 (l0 - ps.length - bulk (ps.take k)) ∧ Below w.heap.size w wr) (fun _ i _ => ps.length - (intOf i).toNat)
  case atStart => exact ⟨0, Nat.zero_le _, rfl, by simp [bulk]; omega, by simp [bulk], Below.refl _ _⟩
  case round =>
    obtain ⟨k, hk, rfl, hle, rfl, hbel⟩ := hrel
    by_cases hlt : k < ps.length
    · have hnx := bulk_take ps k hlt
      have hall := bulk_le ps (k + 1)
      have HN : Hid (bulk (ps.take (k + 1)) = bulk (ps.take k) + (ps.getD k pt0).2.2.size) := hnx
      obtain ⟨_, hfit, h1⟩ := HC.out
      have hsz := (hfit k hlt).2.2
      obtain ⟨b, o, rfl, hb, hcs⟩ := h1 (by omega)
      obtain ⟨c0, c1, c2⟩ := hcs k hlt
      rw [← hbel.cell (p := ⟨b, _, none⟩) hb] at c0 c1 c2
      generalize ps.getD k pt0 = p at c0 c1 c2 hnx hsz HN
      obtain ⟨x, n, t⟩ := p
      have HB : Hid (Below w.heap.size w wr) := hbel
      clear hcs h1 hbel hfit HC
      generalize hB' : bulk (List.take (k + 1) ps) = B' at *
      have HB' := hid hB'
      clear hB'
      generalize bulk (List.take k ps) = B at *
      by_cases hyes : ps.length + B + t.size ≤ l0
      · go_wp2_with fail
        refine (szPart_yes x n t _ (by omega) (by omega) wr).mono ?_
        rintro e w2 ⟨rfl, hB2⟩
        have HB2 : Hid (Below w.heap.size w w2) := HB.out.trans (hB2.mono HB.out.size)
        clear hB2 HB c0 c1 c2
        go_wp2
        refine ⟨⟨k + 1, by omega, by go_num, by rw [HB'.out]; omega, ?_, HB2.out⟩, by simp [intOf]; omega⟩
        rw [HB'.out, hnx]
        congr 1
        omega
      · go_wp2_with fail
        refine (szPart_no x n t _ (by omega) (by omega) (by omega) hsz wr).mono ?_
        rintro e w2 ⟨rfl, hB2⟩
        have HB2 : Hid (Below w.heap.size w w2) := HB.out.trans (hB2.mono HB.out.size)
        clear hB2 HB c0 c1 c2
        go_wp2
        go_ret
        exact ⟨⟨_, rfl, by omega, by omega⟩, HB2.out⟩
    · go_wp2
      go_ret
      obtain rfl : k = ps.length := by omega
      rw [List.take_length] at *
      exact ⟨⟨_, rfl, by omega, by omega⟩, hbel⟩

set_option maxHeartbeats 1600000 in
theorem szItem_yes (k : Int) (s : ByteArray) (ty lo hi : Int) (t : ByteArray) (a : Option Addr) (cap : Nat) (ps : List Pt) (hd : Bool) (z : Nat) (hz : z ≤ 1048576) (h : s.size + t.size + (ps.length + bulk ps) ≤ z) (w : World) (hc : Raw w a ps) :
    Calls Tryz.prog 29 #[.agg #[.int .i64 k, .string s, .int .i64 ty, .int .i64 lo, .int .i64 hi, .string t, .slice a ps.length cap, .bool hd], .int .i64 z] w fun e w' => e = .returned (.int .i64 ((z : Int) - (s.size + t.size + (ps.length + bulk ps)))) ∧ Below w.heap.size w w' := by
  have HC := hid hc
  clear hc
  obtain ⟨b, hb⟩ : ∃ b, Hid (bulk ps = b) := ⟨_, rfl⟩
  rw [hb.out] at h ⊢
  obtain ⟨z1, hz1⟩ : ∃ z1 : Nat, Hid ((z1 : Int) = (z : Int) - s.size - t.size) := ⟨z - s.size - t.size, by show _ = _; omega⟩
  have hz1' := hz1.out
  go_enter Tryz.func29, Tryz.ntmps29
  go_wp2_with fail
  rw [← hz1.out]
  refine (szPartsG a cap ps z1 (by omega) _ (raw_on HC.out ?hb)).mono ?_
  case hb => go_grown
  rintro e w1 ⟨⟨r, rfl, _, hr2⟩, hB1⟩
  have HB : Hid (Below w.heap.size w w1) := Below.trans ?hb (hB1.mono (by simp))
  case hb => go_grown
  rw [hb.out] at hr2
  have hr3 := hr2 (by omega)
  subst hr3
  clear hB1 HC hr2
  go_wp2
  go_ret
  exact ⟨by rw [show (z : Int) - (s.size + t.size + (ps.length + b)) = (z : Int) - s.size - t.size - (ps.length + b) by omega]; rfl, HB.out⟩
set_option maxHeartbeats 1600000 in
theorem szItem_no (k : Int) (s : ByteArray) (ty lo hi : Int) (t : ByteArray) (a : Option Addr) (cap : Nat) (ps : List Pt) (hd : Bool) (z : Nat) (hz : z ≤ 1048576) (h : z < s.size + t.size + (ps.length + bulk ps)) (hs : s.size ≤ maxLen) (ht : t.size ≤ maxLen) (w : World) (hc : Raw w a ps) :
    Calls Tryz.prog 29 #[.agg #[.int .i64 k, .string s, .int .i64 ty, .int .i64 lo, .int .i64 hi, .string t, .slice a ps.length cap, .bool hd], .int .i64 z] w fun e w' => e = .returned (.int .i64 (-1)) ∧ Below w.heap.size w w' := by
  have HC := hid hc
  unfold maxLen at hs ht
  clear hc
  by_cases h1 : (z : Int) < s.size
  · go_enter Tryz.func29, Tryz.ntmps29
    go_wp2
    go_ret
    exact ⟨rfl, by go_grown⟩
  by_cases h2 : (z : Int) - s.size < t.size
  · go_enter Tryz.func29, Tryz.ntmps29
    go_wp2
    go_ret
    exact ⟨rfl, by go_grown⟩
  obtain ⟨b, hb⟩ : ∃ b, Hid (bulk ps = b) := ⟨_, rfl⟩
  rw [hb.out] at h
  obtain ⟨z1, hz1⟩ : ∃ z1 : Nat, Hid ((z1 : Int) = (z : Int) - s.size - t.size) := ⟨z - s.size - t.size, by show _ = _; omega⟩
  have hz1' := hz1.out
  go_enter Tryz.func29, Tryz.ntmps29
  go_wp2_with fail
  rw [← hz1.out]
  refine (szPartsG a cap ps z1 (by omega) _ (raw_on HC.out ?hb)).mono ?_
  case hb => go_grown
  rintro e w1 ⟨⟨r, rfl, hr1, _⟩, hB1⟩
  have HB : Hid (Below w.heap.size w w1) := Below.trans ?hb (hB1.mono (by simp))
  case hb => go_grown
  rw [hb.out] at hr1
  have hr3 : r < 0 := hr1.2 (by omega)
  clear hB1 HC hr1
  go_wp2
  go_ret
  exact ⟨rfl, HB.out⟩

set_option maxRecDepth 10000 in
set_option maxHeartbeats 1600000 in
/-- with l0 left: what is left behind the items, or less than nothing -/
theorem szItsL (a : Option Addr) (cap : Nat) (ls : List It) (l0 : Nat) (hl0 : l0 ≤ 1048576) (w : World) (hc : RawI w a ls) :
    Calls Tryz.prog 8 #[.slice a ls.length cap, .int .i64 l0] w fun e w' => (∃ r : Int, e = .returned (.int .i64 r) ∧ (r < 0 ↔ l0 < ls.length + bulkI ls) ∧ (ls.length + bulkI ls ≤ l0 → r = l0 - (ls.length + bulkI ls))) ∧ Below w.heap.size w w' := by
  have HC : Hid (RawI w a ls) := hc
  have hl := hc.1
  unfold maxLen at hl
  clear hc
  go_enter Tryz.func8, Tryz.ntmps8
  by_cases hbig : l0 < ls.length
  · go_wp2
    go_ret
    exact ⟨⟨_, rfl, by omega, by omega⟩, by go_grown⟩
  go_wp2
  go_loopw [1, 5] (fun l i wr => ∃ k z : Nat, k ≤ ls.length ∧ i = .int .i64 k ∧ ls.length + bulkI (ls.take k) + z = l0 ∧ l = .int .i64 z ∧ Below w.heap.size w wr) (fun _ i _ => ls.length - (intOf i).toNat)
  case atStart => exact ⟨0, l0 - ls.length, Nat.zero_le _, rfl, by simp [bulkI]; omega, by congr 1; omega, Below.refl _ _⟩
  case round =>
    obtain ⟨k, z, hk, rfl, hle, rfl, hbel⟩ := hrel
    by_cases hlt : k < ls.length
    · have hnx := bulkI_take ls k hlt
      have hall := bulkI_le ls (k + 1)
      obtain ⟨_, hfit, h1⟩ := HC.out
      obtain ⟨hs1, hs2⟩ := hfit k hlt
      obtain ⟨b, o, rfl, hb, hcs⟩ := h1 (by omega)
      obtain ⟨ai, cai, hF, hcr, _⟩ := hcs k hlt
      obtain ⟨c0, c1, c2, c3, c4, c5, c6, c7⟩ := hF.on hb hbel
      have HCr := hid (raw_on hcr hbel)
      generalize ls.getD k it0 = p at c0 c1 c2 c3 c4 c5 c6 c7 hnx hs1 hs2 HCr
      obtain ⟨kk, s, ty, lo, hi, t, ps, hd⟩ := p
      dsimp only [ik, inm, ity, ilo, ihi, itx, iex, ihd] at c0 c1 c2 c3 c4 c5 c6 c7 hs1 hs2 HCr
      replace hnx : bulkI (List.take (k + 1) ls) = bulkI (List.take k ls) + (s.size + t.size + (ps.length + bulk ps)) := hnx
      have HB : Hid (Below w.heap.size w wr) := hbel
      clear hcs h1 hbel hfit HC hF hcr
      generalize hB' : bulkI (List.take (k + 1) ls) = B' at *
      have HB' := hid hB'
      clear hB'
      generalize bulkI (List.take k ls) = B at *
      obtain ⟨sz, hsz⟩ : ∃ sz, Hid (s.size + t.size + (ps.length + bulk ps) = sz) := ⟨_, rfl⟩
      rw [hsz.out] at hnx
      by_cases hyes : sz ≤ z
      · go_wp2_with fail
        refine (szItem_yes kk s ty lo hi t ai cai ps hd z (by omega) (by rw [hsz.out]; exact hyes) wr HCr.out).mono ?_
        rintro e w2 ⟨rfl, hB2⟩
        have HB2 : Hid (Below w.heap.size w w2) := HB.out.trans (hB2.mono HB.out.size)
        have hq : (z : Int) - (s.size + t.size + (ps.length + bulk ps)) = ((z - sz : Nat) : Int) := by have := hsz.out; omega
        rw [hq]
        obtain ⟨z2, hz2⟩ : ∃ z2 : Nat, z2 + sz = z := ⟨z - sz, by omega⟩
        have hz3 : z - sz = z2 := by omega
        rw [hz3]
        clear hB2 HB c0 c1 c2 c3 c4 c5 c6 c7 hq hz3
        go_wp2
        exact ⟨⟨k + 1, z2, by omega, by go_num, by rw [HB'.out]; omega, rfl, HB2.out⟩, by simp [intOf]; omega⟩
      · go_wp2_with fail
        refine (szItem_no kk s ty lo hi t ai cai ps hd z (by omega) (by rw [hsz.out]; omega) hs1 hs2 wr HCr.out).mono ?_
        rintro e w2 ⟨rfl, hB2⟩
        have HB2 : Hid (Below w.heap.size w w2) := HB.out.trans (hB2.mono HB.out.size)
        clear hB2 HB c0 c1 c2 c3 c4 c5 c6 c7
        go_wp2
        go_ret
        exact ⟨⟨_, rfl, by omega, by omega⟩, HB2.out⟩
    · go_wp2
      go_ret
      obtain rfl : k = ls.length := by omega
      rw [List.take_length] at *
      exact ⟨⟨_, rfl, by omega, by omega⟩, hbel⟩

theorem held16 {wr w' : World} {b b' o o' : Nat} {p q : It} {a a' : Option Addr} {c c' : Nat} (hb : b < wr.heap.size) (hb' : b' < wr.heap.size) (h : Eight wr b o p a c) (h' : Eight wr b' o' q a' c') (hB : Below wr.heap.size wr w') :
    Below wr.heap.size wr w' ∧ (w'.cell? ⟨b, o, none⟩ = some (.int .i64 (ik p)) ∧ w'.cell? ⟨b, o + 1, none⟩ = some (.string (inm p)) ∧ w'.cell? ⟨b, o + 2, none⟩ = some (.int .i64 (ity p)) ∧ w'.cell? ⟨b, o + 3, none⟩ = some (.int .i64 (ilo p)) ∧ w'.cell? ⟨b, o + 4, none⟩ = some (.int .i64 (ihi p)) ∧ w'.cell? ⟨b, o + 5, none⟩ = some (.string (itx p)) ∧ w'.cell? ⟨b, o + 6, none⟩ = some (.slice a (iex p).length c) ∧ w'.cell? ⟨b, o + 7, none⟩ = some (.bool (ihd p))) ∧ (w'.cell? ⟨b', o', none⟩ = some (.int .i64 (ik q)) ∧ w'.cell? ⟨b', o' + 1, none⟩ = some (.string (inm q)) ∧ w'.cell? ⟨b', o' + 2, none⟩ = some (.int .i64 (ity q)) ∧ w'.cell? ⟨b', o' + 3, none⟩ = some (.int .i64 (ilo q)) ∧ w'.cell? ⟨b', o' + 4, none⟩ = some (.int .i64 (ihi q)) ∧ w'.cell? ⟨b', o' + 5, none⟩ = some (.string (itx q)) ∧ w'.cell? ⟨b', o' + 6, none⟩ = some (.slice a' (iex q).length c') ∧ w'.cell? ⟨b', o' + 7, none⟩ = some (.bool (ihd q))) :=
  ⟨hB, h.on hb hB, h'.on hb' hB⟩

set_option maxRecDepth 10000 in
set_option maxHeartbeats 3200000 in
/-- the same items twice -/
theorem eqItsL (a a' : Option Addr) (cap cap' : Nat) (ls : List It) (w : World) (hc : Its w a ls) (hc' : Its w a' ls) :
    Calls Tryz.prog 15 #[.slice a ls.length cap, .slice a' ls.length cap'] w fun e w' => e = .returned (.bool true) ∧ Below w.heap.size w w' := by
  have HC : Hid (Its w a ls) := hc
  have HC' : Hid (Its w a' ls) := hc'
  have hl := hc.1
  clear hc hc'
  go_enter Tryz.func15, Tryz.ntmps15
  go_wp2
  go_loopw [5] (fun i wr => ∃ k : Nat, k ≤ ls.length ∧ i = .int .i64 k ∧ Below w.heap.size w wr) (fun i _ => ls.length - (intOf i).toNat)
  case atStart => exact ⟨0, Nat.zero_le _, rfl, Below.refl _ _⟩
  case round =>
    obtain ⟨k', hk, rfl, hbel⟩ := hrel
    by_cases hlt : k' < ls.length
    · obtain ⟨_, b, o, ai, ci, rfl, hb, hF, hcd, _, _⟩ := HC.out.at hbel hlt
      obtain ⟨_, b', o', ai', ci', rfl, hb', hF', hcd', _, _⟩ := HC'.out.at hbel hlt
      generalize ls.getD k' it0 = p at hF hF' hcd hcd'
      obtain ⟨k, s, ty, lo, hi, t, ps, hd⟩ := p
      dsimp only [iex] at hcd hcd'
      have HB : Hid (Below w.heap.size w wr) := hbel
      have HF := hid hF
      have HF' := hid hF'
      have HCd := hid hcd
      have HCd' := hid hcd'
      clear HC HC' hbel hF hF' hcd hcd'
      go_wp2_with fail
      have hbr : b < wr.heap.size := Nat.lt_of_lt_of_le hb HB.out.size
      have hbr' : b' < wr.heap.size := Nat.lt_of_lt_of_le hb' HB.out.size
      have hB0 : Below wr.heap.size wr wr.drew := (Below.refl _ _).drew
      go_region_held3 (fun w' => Below wr.heap.size wr w' ∧ (w'.cell? ⟨b, o + k' * 8, none⟩ = some (.int .i64 k) ∧ w'.cell? ⟨b, o + k' * 8 + 1, none⟩ = some (.string s) ∧ w'.cell? ⟨b, o + k' * 8 + 2, none⟩ = some (.int .i64 ty) ∧ w'.cell? ⟨b, o + k' * 8 + 3, none⟩ = some (.int .i64 lo) ∧ w'.cell? ⟨b, o + k' * 8 + 4, none⟩ = some (.int .i64 hi) ∧ w'.cell? ⟨b, o + k' * 8 + 5, none⟩ = some (.string t) ∧ w'.cell? ⟨b, o + k' * 8 + 6, none⟩ = some (.slice ai ps.length ci) ∧ w'.cell? ⟨b, o + k' * 8 + 7, none⟩ = some (.bool hd)) ∧ (w'.cell? ⟨b', o' + k' * 8, none⟩ = some (.int .i64 k) ∧ w'.cell? ⟨b', o' + k' * 8 + 1, none⟩ = some (.string s) ∧ w'.cell? ⟨b', o' + k' * 8 + 2, none⟩ = some (.int .i64 ty) ∧ w'.cell? ⟨b', o' + k' * 8 + 3, none⟩ = some (.int .i64 lo) ∧ w'.cell? ⟨b', o' + k' * 8 + 4, none⟩ = some (.int .i64 hi) ∧ w'.cell? ⟨b', o' + k' * 8 + 5, none⟩ = some (.string t) ∧ w'.cell? ⟨b', o' + k' * 8 + 6, none⟩ = some (.slice ai' ps.length ci') ∧ w'.cell? ⟨b', o' + k' * 8 + 7, none⟩ = some (.bool hd)))
        (first | exact held16 hbr hbr' HF.out HF'.out (by assumption))
        (first | (go_at_call 37
                  have hp := ‹Below wr.heap.size wr _ ∧ _›.1
                  refine (eqItem8 k s ty lo hi t ai ai' ci ci' ps hd _ (HCd.out.on hp) (HCd'.out.on hp)).mono ?_
                  rintro e w' ⟨rfl, hB⟩
                  have hBn := hp.trans (hB.mono hp.size)))
      go_wp2
      refine ⟨⟨k' + 1, by omega, by go_num, HB.out.trans (hBn.mono HB.out.size)⟩, by simp [intOf]; omega⟩
    · go_wp2
      go_ret
      exact ⟨rfl, hbel⟩
end Go.Proofs.YtaofdckdmffaiaaGreatDoor.ItmW
