/- The model finds where an expression ends. -/
import Derived.Test.YtbhblnpehhaiiaaDoorPrtSpec
namespace Go.Proofs.YtbhblnpehhaiiaaDoor.PrtS
open Go.RowKit
open PrtW PrtM NameW

/-- the place behind, or -1 -/
def endI (ps : List Pt) : Option (List Pt) → Int
  | none => -1
  | some r => ((ps.length - r.length : Nat) : Int)
theorem drop_at (ps : List Pt) (k : Nat) (h : k < ps.length) : ps.drop k = ps.getD k pt0 :: ps.drop (k + 1) := by
  rw [List.drop_eq_getElem_cons h]; simp [List.getD, List.getElem?_eq_getElem h]
theorem parts_at {w : World} {a : Option Addr} {ps : List Pt} (h : Parts w a ps) {k : Nat} (hk : k < ps.length) : ∃ b o x n t, a = some ⟨b, o, none⟩ ∧ b < w.heap.size ∧ ps.getD k pt0 = (x, n, t) ∧ Fit (x, n, t) ∧
    w.cell? ⟨b, o + k * 3, none⟩ = some (.int .i64 x) ∧ w.cell? ⟨b, o + k * 3 + 1, none⟩ = some (.int .i64 n) ∧ w.cell? ⟨b, o + k * 3 + 2, none⟩ = some (.string t) := by
  obtain ⟨b, o, ha, hb, hc⟩ := h.2.2 (by omega)
  exact ⟨b, o, _, _, _, ha, hb, rfl, h.2.1 k hk, hc k hk⟩

theorem many_of {p : Pt} (h : partB p = true) : manyI p.1 = (many p.1 : Int) := by
  unfold partB at h
  unfold manyI many
  by_cases h1 : p.1 = 1
  · rw [if_pos (by omega), if_neg (by omega), if_neg (by omega)]; rfl
  rw [if_neg h1] at h
  by_cases h2 : p.1 = 2 ∨ p.1 = 13
  · rw [if_pos (by omega), if_neg (by omega), if_neg (by omega)]; rfl
  rw [if_neg h2] at h
  by_cases h3 : p.1 = 12
  · rw [if_pos (by omega), if_neg (by omega), if_neg (by omega)]; rfl
  rw [if_neg h3] at h
  rw [if_neg (by omega)]
  split
  · rfl
  · have h4 : inB p.1 3 11 = true := by cases hb : inB p.1 3 11 <;> simp_all
    unfold inB at h4
    rw [decide_eq_true_iff] at h4
    rw [if_pos (by omega), if_pos (by omega)]; rfl
theorem many_le (x : Int) : many x ≤ 2 := by unfold many; split <;> (try split) <;> omega

set_option maxRecDepth 10000 in
set_option maxHeartbeats 1600000 in
theorem spec_end (a : Option Addr) (cap : Nat) (ps : List Pt) : ∀ (d : Nat) (deep : Int), deep = 7 - (d : Int) → 1 ≤ deep → ∀ (k : Nat) (w : World), k ≤ ps.length → Parts w a ps →
    Calls Tryd.prog 77 #[.slice a ps.length cap, .int .i64 k, .int .i64 deep] w fun e w' => e = .returned (.int .i64 (endI ps (behind d (ps.drop k)))) ∧ Below w.heap.size w w' := by
  intro d
  induction d with
  | zero =>
    intro deep hd h1 k w hk hP
    obtain rfl : deep = 7 := by omega
    have hl := hP.1
    have e : endI ps (behind 0 (ps.drop k)) = -1 := rfl
    rw [e]
    clear e hd h1
    by_cases hlt : k < ps.length
    · go_enter Tryd.func77, Tryd.ntmps77
      go_wp2_with fail
      go_ret
      exact ⟨rfl, by go_grown⟩
    · go_enter Tryd.func77, Tryd.ntmps77
      go_wp2_with fail
      go_ret
      exact ⟨rfl, by go_grown⟩
  | succ d ih =>
    intro deep hd h1 k w hk hP
    have hl := hP.1
    have HP : Hid (Parts w a ps) := hP
    have HI := hid ih
    clear ih hP
    by_cases hlt : k < ps.length
    · obtain ⟨b, o, x, n, t, rfl, hb, hg, hf, c0, c1, c2⟩ := parts_at HP.out hlt
      rw [drop_at ps k hlt, hg, behind_succ]
      have hsz := hf.2.2
      obtain ⟨r, hr⟩ : ∃ r, Hid (partB (x, n, t) = r) := ⟨_, rfl⟩
      rw [hr.out]
      have hd6 : decide (6 < deep) = false := by simp; omega
      have hd7 : decide (((ps.length : Nat) : Int) ≤ (k : Int)) = false := by simp; omega
      have HD := hid hd
      have hdh : deep ≤ 6 := by omega
      clear hd
      cases r
      · rw [if_neg (by decide)]
        go_enter Tryd.func77, Tryd.ntmps77
        go_wp2_with fail
        refine (spec_part x n t (by unfold maxLen; omega) w).mono ?_
        rintro e w1 ⟨rfl, hB1⟩
        rw [hr.out]
        have HB1 := hid hB1
        clear hB1 c0 c1 c2
        go_wp2_with fail
        go_ret
        exact ⟨rfl, HB1.out⟩
      · rw [if_pos rfl]
        obtain ⟨F, HF⟩ : ∃ F, Hid (iter (child d x) (many x) (some (ps.drop (k + 1))) = F) := ⟨_, rfl⟩
        rw [HF.out]
        go_enter Tryd.func77, Tryd.ntmps77
        go_wp2_with fail
        refine (spec_part x n t (by unfold maxLen; omega) w).mono ?_
        rintro e w1 ⟨rfl, hB1⟩
        rw [hr.out]
        have HB1 := hid hB1
        rw [← hB1.cell (p := ⟨b, _, none⟩) hb] at c0 c1 c2
        clear hB1
        go_wp2_with fail
        refine (spec_many x w1).mono ?_
        rintro e w2 ⟨rfl, rfl⟩
        rw [show manyI x = (many x : Int) from many_of hr.out]
        have hm2 := many_le x
        generalize hmx : many x = mx at *
        have HMX := hid hmx
        clear hmx c0 c1 c2
        go_wp2_with fail
        go_loopw [1, 8] (fun at' n' wr => ∃ (m : Nat) (s : Option (List Pt)), n' = .int .i64 m ∧ m ≤ 2 ∧ at' = .int .i64 (endI ps s) ∧ (∀ l, s = some l → l <:+ ps) ∧ Hid (iter (child d x) m s = F) ∧ Below w.heap.size w wr) (fun _ n' _ => (intOf n').toNat)
        case atStart =>
          refine ⟨mx, some (ps.drop (k + 1)), rfl, hm2, ?_, fun l hl => ?_, HF, HB1.out⟩
          · simp only [endI, List.length_drop]; congr 1; omega
          · cases hl; exact List.drop_suffix _ _
        case round =>
          obtain ⟨m, s, rfl, hm, rfl, hsuf, hit, hbel⟩ := hrel
          cases s with
          | none =>
            have e : endI ps none = -1 := rfl
            rw [e]
            obtain rfl : F = none := by rw [← hit.out, iter_none]
            clear hit e HI HF
            by_cases hm0 : 0 < m
            · go_wp2_with fail
              go_ret
              exact ⟨rfl, hbel⟩
            · go_wp2_with fail
              go_ret
              exact ⟨rfl, hbel⟩
          | some l =>
            have hls := hsuf l rfl
            have hll := hls.length_le
            have hdr := suffix_drop hls
            have e : endI ps (some l) = ((ps.length - l.length : Nat) : Int) := rfl
            rw [e]
            clear hsuf e
            obtain ⟨k1, hk1⟩ : ∃ k1, k1 = ps.length - l.length := ⟨_, rfl⟩
            rw [← hk1] at hdr ⊢
            have HK1 := hid hk1
            have hk1l : k1 ≤ ps.length := by omega
            clear hk1
            cases m with
            | zero =>
              obtain rfl : some l = F := hit.out
              clear hit HF HI
              go_wp2_with fail
              go_ret
              rw [HK1.out]
              exact ⟨rfl, hbel⟩
            | succ m =>
              have hit2 : Hid (iter (child d x) m (child d x l) = F) := hit.out
              have HDR := hid hdr
              clear hit HF hdr hls
              by_cases hlt1 : k1 < ps.length
              · obtain ⟨b1, o1, x1, n1, t1, hbo, hb1, hg1, hf1, d0, d1, d2⟩ := parts_at HP.out hlt1
                cases hbo
                rw [← hbel.cell (p := ⟨b, _, none⟩) hb] at d0 d1 d2
                have hch : Hid (child d x l = if numB x1 = wantsB x then behind d (ps.drop k1) else none) := by
                  show _ = _
                  rw [← HDR.out]
                  unfold child
                  rw [show ((ps.drop k1).headD pt0).1 = x1 by rw [drop_at ps k1 hlt1, hg1]; rfl]
                have HB := hid hbel
                clear hbel d1 d2 hg1 hf1
                obtain ⟨r1, hr1⟩ : ∃ r, Hid (numB x1 = r) := ⟨_, rfl⟩
                obtain ⟨r2, hr2⟩ : ∃ r, Hid (wantsB x = r) := ⟨_, rfl⟩
                by_cases hrr : r1 = r2
                · subst hrr
                  rw [hr1.out, hr2.out, if_pos rfl] at hch
                  have hne : (r1 != r1) = false := by simp
                  go_wp2_with fail
                  refine (spec_number x1 wr).mono ?_
                  rintro e w3 ⟨rfl, rfl⟩
                  rw [hr1.out]
                  go_wp2_with fail
                  refine (spec_wants x w3).mono ?_
                  rintro e w4 ⟨rfl, rfl⟩
                  rw [hr2.out]
                  clear d0
                  go_wp2_with fail
                  refine (HI.out (deep + 1) (by rw [HD.out]; push_cast; omega) (by omega) k1 w4 hk1l (HP.out.on HB.out)).mono ?_
                  rintro e w5 ⟨rfl, hB5⟩
                  have HB5 : Hid (Below w.heap.size w w5) := HB.out.trans (hB5.mono HB.out.size)
                  have hsuf2 : ∀ l', behind d (ps.drop k1) = some l' → l' <:+ ps := fun l' h => (behind_suffix _ _ _ h).1.trans (List.drop_suffix _ _)
                  rw [hch.out] at hit2
                  generalize behind d (List.drop k1 ps) = s2 at *
                  have HS := hid hsuf2
                  clear hB5 hsuf2 hch
                  go_wp2_with fail
                  refine ⟨⟨m, s2, by go_num, by omega, rfl, HS.out, hit2, HB5.out⟩, by simp [intOf]⟩
                · rw [hr1.out, hr2.out, if_neg hrr] at hch
                  have hne : (r1 == r2) = false := by simp [hrr]
                  go_wp2_with fail
                  refine (spec_number x1 wr).mono ?_
                  rintro e w3 ⟨rfl, rfl⟩
                  rw [hr1.out]
                  go_wp2_with fail
                  refine (spec_wants x w3).mono ?_
                  rintro e w4 ⟨rfl, rfl⟩
                  rw [hr2.out]
                  rw [hch.out, iter_none] at hit2
                  obtain rfl := hit2.out
                  clear hch hit2 HI d0
                  go_wp2_with fail
                  go_ret
                  exact ⟨rfl, HB.out⟩
              · have hch : Hid (child d x l = none) := by
                  show _ = _
                  rw [← HDR.out, List.drop_of_length_le (by omega)]
                  unfold child
                  rw [behind_nil]; simp
                have HB := hid hbel
                clear hbel
                rw [hch.out, iter_none] at hit2
                go_wp2_with fail
                refine (HI.out (deep + 1) (by rw [HD.out]; push_cast; omega) (by omega) k1 wr hk1l (HP.out.on HB.out)).mono ?_
                rintro e w5 ⟨rfl, hB5⟩
                have HB5 : Hid (Below w.heap.size w w5) := HB.out.trans (hB5.mono HB.out.size)
                rw [List.drop_of_length_le (by omega), behind_nil]
                clear hB5
                go_wp2_with fail
                refine ⟨⟨m, none, by go_num, by omega, rfl, (fun _ h => by cases h), by rw [iter_none]; exact hit2, HB5.out⟩, by simp [intOf]⟩
    · rw [List.drop_of_length_le (by omega), behind_nil]
      have e : endI ps none = -1 := rfl
      rw [e]
      clear HI e
      go_enter Tryd.func77, Tryd.ntmps77
      go_wp2_with fail
      go_ret
      exact ⟨rfl, by go_grown⟩
end Go.Proofs.YtbhblnpehhaiiaaDoor.PrtS
