/- Texts of ours, laid together: FoLaw. -/
import Derived.Test.YtllknohingfacaaDoorBd37
import Derived.Test.YtllknohingfacaaDoorBd35
import Derived.Test.YtllknohingfacaaDoorBd22
import Derived.Test.YtllknohingfacaaDoorBd10
import Derived.Test.YtllknohingfacaaDoorBd13
/- The walk of FnExactFieldOf. -/
namespace Go.Proofs.YtllknohingfacaaDoor.CpyL
open Go.RowKit
open PrtW PrtM NameW ItmW ItmM FrmM FldK
open FrmI (EnvF Blk fieldQ fieldQ_at fieldQ_no)
open CpyS (askQ spec_field_of NewA Blk.grown)
open CpyI (CopyOk impl_field_of copy_ok)

theorem blk_within {w w' : World} {b g e : Nat} {q : It} {a : Option Addr} {c : Nat} (h : Blk w b q a c) (hW : WithinI w w' g e) (hb : b < g ∨ e ≤ b) : Blk w' b q a c := by
  unfold Blk at h ⊢
  rw [hW.2.2.2.2 b (ItmW.blk_lt h) hb]; exact h
theorem parts_within {w w' : World} {a : Option Addr} {ps : List Pt} {g e : Nat} (h : Parts w a ps) (hW : WithinI w w' g e) (hb : ∀ b o, a = some ⟨b, o, none⟩ → 0 < ps.length → b < g) : Parts w' a ps := by
  refine ⟨h.1, h.2.1, fun hp => ?_⟩
  obtain ⟨b, o, ha, hbl, hc⟩ := h.2.2 hp
  have e : ∀ j, w'.cell? ⟨b, j, none⟩ = w.cell? ⟨b, j, none⟩ := fun j => World.cell?_of_block (a := ⟨b, j, none⟩) (hW.2.2.2.2 b hbl (.inl (hb b o ha hp)))
  refine ⟨b, o, ha, Nat.lt_of_lt_of_le hbl hW.2.2.2.1, fun i hi => ?_⟩
  rw [e, e, e]
  exact hc i hi
theorem parts_grown {w w' : World} {a : Option Addr} {ps : List Pt} {row : Option Nat} (h : Parts w a ps) (hg : w.grownBy w' row) (hb : ∀ b o, a = some ⟨b, o, none⟩ → 0 < ps.length → some b ≠ row) : Parts w' a ps := by
  refine ⟨h.1, h.2.1, fun hp => ?_⟩
  obtain ⟨b, o, ha, hbl, hc⟩ := h.2.2 hp
  have e : ∀ j, w'.cell? ⟨b, j, none⟩ = w.cell? ⟨b, j, none⟩ := fun j => World.cell?_of_block (a := ⟨b, j, none⟩) (hg.block b hbl (hb b o ha hp))
  refine ⟨b, o, ha, Nat.lt_of_lt_of_le hbl hg.size, fun i hi => ?_⟩
  rw [e, e, e]
  exact hc i hi
theorem own_within {w w' : World} {base g e : Nat} {v : Value} {n : Nat} {xs : List Value} (h : w.ownsRow base 61 3 v n xs) (hW : WithinI w w' g e) (hb : e ≤ base) : w'.ownsRow base 61 3 v n xs := by
  obtain ⟨h1, h2⟩ := h
  refine ⟨h1, ?_⟩
  rcases h2 with h2 | ⟨k, cap, cur, hv, hbk, hg, r⟩
  · exact .inl h2
  · exact .inr ⟨k, cap, cur, hv, hbk, by rw [hW.2.2.2.2 k (ItmW.blk_lt hg) (.inr (by omega))]; exact hg, r⟩
theorem own_on {w w' : World} {base : Nat} {v : Value} {n : Nat} {xs : List Value} (h : w.ownsRow base 61 3 v n xs) (hB : Below w.heap.size w w') : w'.ownsRow base 61 3 v n xs := by
  obtain ⟨h1, h2⟩ := h
  refine ⟨h1, ?_⟩
  rcases h2 with h2 | ⟨g, cap, cur, hv, hb, hg, r⟩
  · exact .inl h2
  · exact .inr ⟨g, cap, cur, hv, hb, by rw [hB.block g (ItmW.blk_lt hg)]; exact hg, r⟩

theorem empty_size {t : ByteArray} (h : t.toList.isEmpty = true) : t.size ≤ 20 := by
  rw [BytM.toList_eq] at h
  have h1 : t.data.toList.length = 0 := by rw [List.isEmpty_iff.1 h]; rfl
  have h2 : t.size = t.data.toList.length := by simp
  omega
theorem part_small {p : Pt} (h : partB p = true) : p.2.2.size ≤ 20 := by
  unfold partB at h
  have he : emptyB p.2.2 = true → p.2.2.size ≤ 20 := fun h => empty_size h
  split at h
  · exact he (Bool.and_eq_true_iff.1 h).2
  · split at h
    · exact FlsM.name_size (Bool.and_eq_true_iff.1 h).2
    · split at h
      · exact FlsM.name_size (Bool.and_eq_true_iff.1 h).2
      · exact he (Bool.and_eq_true_iff.1 (Bool.and_eq_true_iff.1 h).2).2
theorem label_small {t : ByteArray} (h : labelB t = true) : t.size ≤ 60 := by
  unfold labelB at h
  simp only [Bool.and_eq_true, decide_eq_true_iff] at h
  have := h.2.1.2
  omega
theorem item_small {q : It} (h : itemB q = true) (hk : ik q = 1 ∨ ik q = 6) : (inm q).size ≤ 20 ∧ (itx q).size ≤ 60 := by
  unfold itemB at h
  rcases hk with e | e
  · rw [if_pos e] at h
    simp only [Bool.and_eq_true] at h
    exact ⟨FlsM.name_size h.1, label_small h.2.2.1⟩
  · rw [if_neg (by omega), if_neg (by omega), if_neg (by omega), if_neg (by omega), if_pos e] at h
    simp only [Bool.and_eq_true] at h
    exact ⟨FlsM.name_size h.1, Nat.le_trans (empty_size h.2.2.1) (by omega)⟩
theorem field_copy {ls : List It} {s : ByteArray} (h : formB ls = true) : CopyOk (fieldQ ls ls.length s) := by
  cases hf : fieldN ls ls.length s with
  | none =>
    rw [fieldQ_no hf]
    refine copy_ok it0 (by decide) (by decide) (fun i hi => absurd hi (Nat.not_lt_zero _))
  | some i =>
    rw [fieldQ_at hf]
    obtain ⟨h1, h2, _⟩ := field_at.1 hf
    have hi := (behind_at ((form_at h).2.1 i h2)).1
    unfold isF at h1
    rw [Bool.and_eq_true, Bool.or_eq_true] at h1
    obtain ⟨h3, h4⟩ := item_small hi (h1.2.imp (fun h => by simpa using h) (fun h => by simpa using h))
    exact copy_ok _ (by omega) (by omega) (fun j hj => Nat.le_trans (part_small (FrmI.item_parts hi j hj)) (by omega))
theorem spec_fo (a : Option Addr) (cap : Nat) (ls : List It) (s : ByteArray) (w : World) {k : Int} {s1 : ByteArray} {ty lo hi : Int} {t : ByteArray} {ps : List Pt} {hd : Bool} (hq : askQ ls s = (k, s1, ty, lo, hi, t, ps, hd)) (hc : Its w a ls) :
    Calls Tryd.prog 6 #[.slice a ls.length cap, .string s] w fun e w' => (∃ a' c', e = .returned (.agg #[.int .i64 k, .string s1, .int .i64 ty, .int .i64 lo, .int .i64 hi, .string t, .slice a' ps.length c', .bool hd]) ∧ Parts w' a' ps) ∧ Below w.heap.size w w' := by
  have h := spec_field_of a cap ls s w hc
  rw [hq] at h
  refine h.mono ?_
  rintro e w' ⟨⟨a', c', he, hp, _⟩, hB⟩
  exact ⟨⟨a', c', he, hp⟩, hB⟩
theorem impl_fo (a : Option Addr) (cap : Nat) (ls : List It) (s : ByteArray) (w : World) {k : Int} {s1 : ByteArray} {ty lo hi : Int} {t : ByteArray} {ps : List Pt} {hd : Bool} (hq : askQ ls s = (k, s1, ty, lo, hi, t, ps, hd)) (hl : ps.length ≤ 1048576) (hf : ∀ i, i < ps.length → Fit (ps.getD i pt0)) (hc : Its w a ls) (hcap : ls.length ≤ cap) (hE : EnvF w) :
    Calls Tryd.prog 8 #[.slice a ls.length cap, .string s] w fun e w' => (∃ a' c', e = .returned (.agg #[.int .i64 k, .string s1, .int .i64 ty, .int .i64 lo, .int .i64 hi, .string t, .slice a' ps.length c', .bool hd]) ∧ w'.ownsRow w.heap.size 61 3 (.slice a' ps.length c') ps.length (cellsP ps) ∧ Parts w' a' ps) ∧ Below w.heap.size w w' := by
  have h := impl_field_of a cap ls s w hc hcap hE (fun h => field_copy h)
  rw [hq] at h
  refine h.mono ?_
  rintro e w' ⟨⟨v, he, ho⟩, hB⟩
  have ho2 : w'.ownsRow w.heap.size 61 3 v ps.length (cellsP ps) := ho
  obtain ⟨a', c', rfl, hp, _⟩ := parts_own ho2 hl hf
  exact ⟨⟨a', c', he, ho2, hp⟩, hB⟩
theorem own_parts {w : World} {base n c : Nat} {a : Option Addr} {ps : List Pt} (h : w.ownsRow base 61 3 (.slice a n c) n (cellsP ps)) (hn : ps.length = n) (hl : ps.length ≤ 1048576) (hf : ∀ i, i < ps.length → Fit (ps.getD i pt0)) : Parts w a ps := by
  subst hn
  obtain ⟨a', c', e, hp, _⟩ := parts_own h hl hf
  cases e
  exact hp

set_option maxRecDepth 10000 in
set_option maxHeartbeats 3200000 in
theorem law_field_of (a : Option Addr) (cap : Nat) (ls : List It) (s : ByteArray) (w : World) (hR : RawI w a ls) (_hs : s.size ≤ maxLen) (hE : EnvF w) :
    Calls Tryd.prog 3 #[.slice a ls.length cap, .string s] w fun e w' => e = .returned (.bool true) ∧ Below w.heap.size w w' := by
  have HR := hid hR
  have HE := hid hE
  clear hR hE
  by_cases hsz : 1048576 < s.size
  · go_enter Tryd.func3, Tryd.ntmps3
    go_wp2_with fail
    go_ret
    exact ⟨rfl, Below.refl _ _⟩
  go_enter Tryd.func3, Tryd.ntmps3
  go_wp2_with fail
  refine (szItsL a cap ls 1048576 (Nat.le_refl _) w HR.out).mono ?_
  rintro e w1 ⟨⟨z, rfl, hz, _⟩, hB1⟩
  have HB1 := hid hB1
  by_cases hbig : 1048576 < ls.length + bulkI ls
  · have hz0 : z < 0 := hz.2 hbig
    clear hz hB1
    go_wp2_with fail
    go_ret
    exact ⟨rfl, HB1.out⟩
  · have hz0 : ¬ z < 0 := fun h => hbig (hz.1 h)
    have hP := HR.out.its (by omega)
    have HP0 := hid hP
    have HP1 := hid (hP.on hB1)
    have hl : ls.length ≤ 1048576 := by omega
    have htot : totI (fun i => (iex (ls.getD i it0)).length) ls.length ≤ 1048576 := by
      have h1 := tot_bulkI ls ls.length (Nat.le_refl _)
      rw [List.take_length] at h1
      omega
    clear hz hB1 hP hbig
    obtain ⟨⟨k, s1, ty, lo, hi, t, ps, hd⟩, hq⟩ : ∃ q, Hid (askQ ls s = q) := ⟨_, rfl⟩
    go_wp2_with fail
    refine (toItsL a cap ls w1 HP1.out).mono ?_
    rintro e w2 ⟨rfl, hP2, hB2⟩
    have HB2 : Hid (Below w.heap.size w w2) := HB1.out.trans (hB2.mono HB1.out.size)
    have HP2 := hid hP2
    clear hP2 hB2 HP1
    generalize w1.heap.size = g1 at *
    go_wp2_with fail
    refine (spec_fo (some ⟨g1, 0, none⟩) ls.length ls s w2 hq.out HP2.out).mono ?_
    rintro e w3 ⟨⟨a3, c3, rfl, hP3⟩, hB3⟩
    have HB3a : Hid (Below w.heap.size w w3) := HB2.out.trans (hB3.mono HB2.out.size)
    have hpl : ps.length ≤ 1048576 := hP3.1
    have HFit : Hid (∀ i, i < ps.length → Fit (ps.getD i pt0)) := hP3.2.1
    have HA3 : Hid (∀ b o, a3 = some ⟨b, o, none⟩ → 0 < ps.length → b < w3.heap.size) := fun b o h hp => by
      obtain ⟨b1, o1, h1, h2, _⟩ := hP3.2.2 hp
      rw [h] at h1; cases h1; exact h2
    have HK3 : Hid (Blk (w3.alloc (.cells #[.int .i64 k, .string s1, .int .i64 ty, .int .i64 lo, .int .i64 hi, .string t, .slice a3 ps.length c3, .bool hd] 26)) w3.heap.size (k, s1, ty, lo, hi, t, ps, hd) a3 c3) := Blk.laid w3 (k, s1, ty, lo, hi, t, ps, hd) a3 c3
    have HQ3 : Hid (Parts (w3.alloc (.cells #[.int .i64 k, .string s1, .int .i64 ty, .int .i64 lo, .int .i64 hi, .string t, .slice a3 ps.length c3, .bool hd] 26)) a3 ps) := hP3.on (boxed w3 k s1 ty lo hi t a3 ps.length c3 hd)
    have HB3 : Hid (Below w.heap.size w (w3.alloc (.cells #[.int .i64 k, .string s1, .int .i64 ty, .int .i64 lo, .int .i64 hi, .string t, .slice a3 ps.length c3, .bool hd] 26))) := HB3a.out.trans ((boxed w3 k s1 ty lo hi t a3 ps.length c3 hd).mono HB3a.out.size)
    have HW3s : Hid ((w3.alloc (.cells #[.int .i64 k, .string s1, .int .i64 ty, .int .i64 lo, .int .i64 hi, .string t, .slice a3 ps.length c3, .bool hd] 26)).heap.size = w3.heap.size + 1) := by show _ = _; simp
    clear hP3 hB3 HP2 HB2 HB3a
    go_upto_region 8 with fail
    generalize w3.alloc (.cells #[.int .i64 k, .string s1, .int .i64 ty, .int .i64 lo, .int .i64 hi, .string t, .slice a3 ps.length c3, .bool hd] 26) = W3 at *
    generalize w3.heap.size = gw at *
    go_wp2_with fail
    refine (toItsR a cap ls W3 (HP0.out.on HB3.out)).mono ?_
    rintro e w4 ⟨rfl, hB4, hR4⟩
    have hP4 : Its w4 (some ⟨W3.heap.size, 0, none⟩) ls := hR4.its hl HP0.out.2.1 HP0.out.len
    have HB4 : Hid (Below w.heap.size w w4) := HB3.out.trans (hB4.mono HB3.out.size)
    have HP4 := hid hP4
    have HK4 := hid (HK3.out.on hB4)
    have HQ4 := hid (HQ3.out.on hB4)
    obtain ⟨E4, hE4⟩ : ∃ E4, w4.heap.size = E4 := ⟨_, rfl⟩
    have HX4 : Hid (MkI w4 W3.heap.size E4 ls.length fun i => (iex (ls.getD i it0)).length) := by have h := mkI_of hR4; rw [hE4] at h; exact hid h
    have hg3l : W3.heap.size < w4.heap.size := hR4.lt
    have hg3w : w.heap.size ≤ W3.heap.size := HB3.out.size
    clear hP4 hB4 HB3 hR4 HK3 HQ3
    generalize W3.heap.size = g3 at *
    go_wp2_with fail
    refine (impl_fo (some ⟨g3, 0, none⟩) ls.length ls s w4 hq.out hpl HFit.out HP4.out (Nat.le_refl _) (HE.out.on HB4.out)).mono ?_
    rintro e w5 ⟨⟨av, cv, rfl, hO5, hV5⟩, hB5⟩
    have hws5 := hB5.size
    have hbx := boxed w5 k s1 ty lo hi t av ps.length cv hd
    have hB45 : Below w4.heap.size w4 (w5.alloc (.cells #[.int .i64 k, .string s1, .int .i64 ty, .int .i64 lo, .int .i64 hi, .string t, .slice av ps.length cv, .bool hd] 26)) := hB5.trans (hbx.mono hws5)
    have HB5 : Hid (Below w.heap.size w (w5.alloc (.cells #[.int .i64 k, .string s1, .int .i64 ty, .int .i64 lo, .int .i64 hi, .string t, .slice av ps.length cv, .bool hd] 26))) := HB4.out.trans (hB45.mono HB4.out.size)
    have HY5 : Hid (Blk (w5.alloc (.cells #[.int .i64 k, .string s1, .int .i64 ty, .int .i64 lo, .int .i64 hi, .string t, .slice av ps.length cv, .bool hd] 26)) w5.heap.size (k, s1, ty, lo, hi, t, ps, hd) av cv) := Blk.laid w5 (k, s1, ty, lo, hi, t, ps, hd) av cv
    have HP5 : Hid (Its (w5.alloc (.cells #[.int .i64 k, .string s1, .int .i64 ty, .int .i64 lo, .int .i64 hi, .string t, .slice av ps.length cv, .bool hd] 26)) (some ⟨g3, 0, none⟩) ls) := HP4.out.on hB45
    have HK5 : Hid (Blk (w5.alloc (.cells #[.int .i64 k, .string s1, .int .i64 ty, .int .i64 lo, .int .i64 hi, .string t, .slice av ps.length cv, .bool hd] 26)) gw (k, s1, ty, lo, hi, t, ps, hd) a3 c3) := HK4.out.on hB45
    have HQ5 : Hid (Parts (w5.alloc (.cells #[.int .i64 k, .string s1, .int .i64 ty, .int .i64 lo, .int .i64 hi, .string t, .slice av ps.length cv, .bool hd] 26)) a3 ps) := HQ4.out.on hB45
    have HX5 : Hid (MkI (w5.alloc (.cells #[.int .i64 k, .string s1, .int .i64 ty, .int .i64 lo, .int .i64 hi, .string t, .slice av ps.length cv, .bool hd] 26)) g3 E4 ls.length fun i => (iex (ls.getD i it0)).length) := HX4.out.on hB45
    have HV5 : Hid (Parts (w5.alloc (.cells #[.int .i64 k, .string s1, .int .i64 ty, .int .i64 lo, .int .i64 hi, .string t, .slice av ps.length cv, .bool hd] 26)) av ps) := hV5.on hbx
    have HO5 : Hid ((w5.alloc (.cells #[.int .i64 k, .string s1, .int .i64 ty, .int .i64 lo, .int .i64 hi, .string t, .slice av ps.length cv, .bool hd] 26)).ownsRow E4 61 3 (.slice av ps.length cv) ps.length (cellsP ps)) := by rw [← hE4]; exact own_on hO5 hbx
    have HL5 : Hid (∀ j, (Value.slice av ps.length cv).ownBlock = some j → E4 ≤ j ∧ j < w5.heap.size) := by rw [← hE4]; exact fun j hj => hO5.lt j hj
    have hEx : Hid (E4 ≤ w5.heap.size) := by show _ ≤ _; omega
    clear hB45 hbx hB5 hO5 hV5 HB4 HP4 HK4 HQ4 HX4
    go_upto_region 10 with fail
    generalize w5.alloc (.cells #[.int .i64 k, .string s1, .int .i64 ty, .int .i64 lo, .int .i64 hi, .string t, .slice av ps.length cv, .bool hd] 26) = W5 at *
    generalize w5.heap.size = gx at *
    obtain ⟨⟨x0, x1, x2, x3, x4, x5, x6, x7⟩, -, -⟩ := HY5.out.all
    obtain ⟨⟨y0, y1, y2, y3, y4, y5, y6, y7⟩, -, -⟩ := HK5.out.all
    dsimp only [ik, inm, ity, ilo, ihi, itx, iex, ihd] at x0 x1 x2 x3 x4 x5 x6 x7 y0 y1 y2 y3 y4 y5 y6 y7
    go_wp2_with fail
    refine (eqItem8 k s1 ty lo hi t av a3 cv c3 ps hd W5 HV5.out HQ5.out).mono ?_
    rintro e w6 ⟨rfl, hB6⟩
    clear x0 x1 x2 x3 x4 x5 x6 x7 y0 y1 y2 y3 y4 y5 y6 y7
    have HB6 : Hid (Below w.heap.size w w6) := HB5.out.trans (hB6.mono HB5.out.size)
    have HP6 := hid (HP5.out.on hB6)
    have HK6 := hid (HK5.out.on hB6)
    have HQ6 := hid (HQ5.out.on hB6)
    have HX6 := hid (HX5.out.on hB6)
    have HY6 := hid (HY5.out.on hB6)
    have HO6 := hid (own_on HO5.out hB6)
    clear hB6 HB5 HP5 HK5 HQ5 HX5 HY5 HO5
    clear HV5
    go_wp2_with fail
    refine (toItsL a cap ls w6 (HP0.out.on HB6.out)).mono ?_
    rintro e w7 ⟨rfl, hP7, hB7⟩
    have HPn7 := hid hP7
    have HB7 : Hid (Below w.heap.size w w7) := HB6.out.trans (hB7.mono HB6.out.size)
    have HP7 := hid (HP6.out.on hB7)
    have HK7 := hid (HK6.out.on hB7)
    have HQ7 := hid (HQ6.out.on hB7)
    have HX7 := hid (HX6.out.on hB7)
    have HY7 := hid (HY6.out.on hB7)
    have HO7 := hid (own_on HO6.out hB7)
    clear hB7 HB6 HP6 HK6 HQ6 HX6 HY6 HO6
    clear hP7
    generalize w6.heap.size = g6 at *
    go_wp2_with fail
    refine (eqItsL (some ⟨g3, 0, none⟩) (some ⟨g6, 0, none⟩) ls.length ls.length ls w7 HP7.out HPn7.out).mono ?_
    rintro e w8 ⟨rfl, hB8⟩
    have HB8 : Hid (Below w.heap.size w w8) := HB7.out.trans (hB8.mono HB7.out.size)
    have HK8 := hid (HK7.out.on hB8)
    have HQ8 := hid (HQ7.out.on hB8)
    have HX8 := hid (HX7.out.on hB8)
    have HY8 := hid (HY7.out.on hB8)
    have HO8 := hid (own_on HO7.out hB8)
    clear hB8 HB7 HK7 HQ7 HX7 HY7 HO7
    clear HP7 HPn7
    go_wp2_with fail
    refine (mark_items g3 E4 ls.length ls.length (fun i => (iex (ls.getD i it0)).length) w8 HX8.out hl htot).mono ?_
    rintro e w9 ⟨⟨z9, rfl, hz9⟩, hW9⟩
    have HB9 : Hid (Below w.heap.size w w9) := HB8.out.trans (hW9.below hg3w HB8.out.size)
    have HK9 := hid (blk_within HK8.out hW9 (.inl (by have := HW3s.out; omega)))
    have HY9 := hid (blk_within HY8.out hW9 (.inr hEx.out))
    have HQ9 := hid (parts_within HQ8.out hW9 (fun b o h hp => by have := HA3.out b o h hp; have := HW3s.out; omega))
    have HO9 := hid (own_within HO8.out hW9 (Nat.le_refl _))
    have hk0 : ¬ z9 < 0 := by omega
    have hk1 : decide (z9 < 0) = false := by simp; omega
    have HV9 := hid (own_parts HO9.out rfl hpl HFit.out)
    clear hW9 HB8 HK8 HQ8 HX8 HY8 HO8
    obtain ⟨⟨x0, x1, x2, x3, x4, x5, x6, x7⟩, -, -⟩ := HY9.out.all
    obtain ⟨⟨y0, y1, y2, y3, y4, y5, y6, y7⟩, -, -⟩ := HK9.out.all
    dsimp only [ik, inm, ity, ilo, ihi, itx, iex, ihd] at x0 x1 x2 x3 x4 x5 x6 x7 y0 y1 y2 y3 y4 y5 y6 y7
    go_wp2_with fail
    refine (eqItem8 k s1 ty lo hi t av a3 cv c3 ps hd w9 HV9.out HQ9.out).mono ?_
    rintro e w10 ⟨rfl, hB10⟩
    clear x0 x1 x2 x3 x4 x5 x6 x7 y0 y1 y2 y3 y4 y5 y6 y7
    have HB10 : Hid (Below w.heap.size w w10) := HB9.out.trans (hB10.mono HB9.out.size)
    have HK10 := hid (HK9.out.on hB10)
    have HQ10 := hid (HQ9.out.on hB10)
    have HY10 := hid (HY9.out.on hB10)
    have HO10 := hid (own_on HO9.out hB10)
    clear hB10 HB9 HK9 HQ9 HY9 HO9
    clear HV9
    obtain ⟨⟨x0, x1, x2, x3, x4, x5, x6, x7⟩, -, -⟩ := HY10.out.all
    dsimp only [ik, inm, ity, ilo, ihi, itx, iex, ihd] at x0 x1 x2 x3 x4 x5 x6 x7
    go_wp2_with fail
    refine (mark_item k s1 ty lo hi t av ps.length cv E4 hd (cellsP ps) w10 HO10.out hpl).mono ?_
    rintro e w11 ⟨rfl, hg11, hm11⟩
    clear x0 x1 x2 x3 x4 x5 x6 x7
    have HB11 : Hid (Below w.heap.size w w11) := HB10.out.grown hg11 HB10.out.size (fun j hj => by have := HL5.out j hj; omega)
    have HK11 := hid (Blk.grown HK10.out hg11 (fun e => by have := HL5.out gw e.symm; have := HW3s.out; omega))
    have HY11 := hid (Blk.grown HY10.out hg11 (fun e => by have := HL5.out gx e.symm; omega))
    have HQ11 := hid (parts_grown HQ10.out hg11 (fun b o h hp e => by have h1 := HA3.out b o h hp; have h2 := HL5.out b e.symm; have := HW3s.out; omega))
    have HM11 := hid hm11
    clear hg11 hm11 HB10 HK10 HY10 HQ10 HO10
    obtain ⟨⟨x0, x1, x2, x3, x4, x5, x6, x7⟩, -, -⟩ := HY11.out.all
    dsimp only [ik, inm, ity, ilo, ihi, itx, iex, ihd] at x0 x1 x2 x3 x4 x5 x6 x7
    have hm0 : ¬ (1 + 3 * (ps.length : Int)) < 0 := by omega
    go_wp2_with fail
    refine (held_item k s1 ty lo hi t av ps.length cv hd w11 HM11.out).mono ?_
    rintro e w12 ⟨rfl, hB12⟩
    clear x0 x1 x2 x3 x4 x5 x6 x7
    have HB12 : Hid (Below w.heap.size w w12) := HB11.out.trans (hB12.mono HB11.out.size)
    have HK12 := hid (HK11.out.on hB12)
    have HQ12 := hid (HQ11.out.on hB12)
    have HY12 := hid (HY11.out.on hB12)
    have HM12 := hid (HM11.out.on hB12)
    clear hB12 HB11 HK11 HQ11 HY11 HM11
    go_wp2_with fail
    refine (toItsL a cap ls w12 (HP0.out.on HB12.out)).mono ?_
    rintro e w13 ⟨rfl, hP13, hB13⟩
    have HP13 := hid hP13
    have HB13 : Hid (Below w.heap.size w w13) := HB12.out.trans (hB13.mono HB12.out.size)
    have HK13 := hid (HK12.out.on hB13)
    have HQ13 := hid (HQ12.out.on hB13)
    have HY13 := hid (HY12.out.on hB13)
    have HM13 := hid (HM12.out.on hB13)
    clear hB13 HB12 HK12 HQ12 HY12 HM12
    clear hP13
    generalize w12.heap.size = g12 at *
    go_wp2_with fail
    refine (impl_fo (some ⟨g12, 0, none⟩) ls.length ls s w13 hq.out hpl HFit.out HP13.out (Nat.le_refl _) (HE.out.on HB13.out)).mono ?_
    rintro e w14 ⟨⟨ah, ch, rfl, -, hV14⟩, hB14⟩
    have hws14 := hB14.size
    have hbx := boxed w14 k s1 ty lo hi t ah ps.length ch hd
    have hB134 : Below w13.heap.size w13 (w14.alloc (.cells #[.int .i64 k, .string s1, .int .i64 ty, .int .i64 lo, .int .i64 hi, .string t, .slice ah ps.length ch, .bool hd] 26)) := hB14.trans (hbx.mono hws14)
    have HB14 : Hid (Below w.heap.size w (w14.alloc (.cells #[.int .i64 k, .string s1, .int .i64 ty, .int .i64 lo, .int .i64 hi, .string t, .slice ah ps.length ch, .bool hd] 26))) := HB13.out.trans (hB134.mono HB13.out.size)
    have HZ14 : Hid (Blk (w14.alloc (.cells #[.int .i64 k, .string s1, .int .i64 ty, .int .i64 lo, .int .i64 hi, .string t, .slice ah ps.length ch, .bool hd] 26)) w14.heap.size (k, s1, ty, lo, hi, t, ps, hd) ah ch) := Blk.laid w14 (k, s1, ty, lo, hi, t, ps, hd) ah ch
    have HK14 : Hid (Blk (w14.alloc (.cells #[.int .i64 k, .string s1, .int .i64 ty, .int .i64 lo, .int .i64 hi, .string t, .slice ah ps.length ch, .bool hd] 26)) gw (k, s1, ty, lo, hi, t, ps, hd) a3 c3) := HK13.out.on hB134
    have HY14 : Hid (Blk (w14.alloc (.cells #[.int .i64 k, .string s1, .int .i64 ty, .int .i64 lo, .int .i64 hi, .string t, .slice ah ps.length ch, .bool hd] 26)) gx (k, s1, ty, lo, hi, t, ps, hd) av cv) := HY13.out.on hB134
    have HQ14 : Hid (Parts (w14.alloc (.cells #[.int .i64 k, .string s1, .int .i64 ty, .int .i64 lo, .int .i64 hi, .string t, .slice ah ps.length ch, .bool hd] 26)) a3 ps) := HQ13.out.on hB134
    have HM14 : Hid (Mkd (w14.alloc (.cells #[.int .i64 k, .string s1, .int .i64 ty, .int .i64 lo, .int .i64 hi, .string t, .slice ah ps.length ch, .bool hd] 26)) av ps.length) := HM13.out.on hB134
    have HV14 : Hid (Parts (w14.alloc (.cells #[.int .i64 k, .string s1, .int .i64 ty, .int .i64 lo, .int .i64 hi, .string t, .slice ah ps.length ch, .bool hd] 26)) ah ps) := hV14.on hbx
    clear hbx hB134 hB14 hV14 HB13 HP13 HK13 HY13 HQ13 HM13
    go_upto_region 27 with fail
    generalize w14.alloc (.cells #[.int .i64 k, .string s1, .int .i64 ty, .int .i64 lo, .int .i64 hi, .string t, .slice ah ps.length ch, .bool hd] 26) = W14 at *
    generalize w14.heap.size = gz at *
    obtain ⟨⟨x0, x1, x2, x3, x4, x5, x6, x7⟩, -, -⟩ := HZ14.out.all
    obtain ⟨⟨y0, y1, y2, y3, y4, y5, y6, y7⟩, -, -⟩ := HK14.out.all
    dsimp only [ik, inm, ity, ilo, ihi, itx, iex, ihd] at x0 x1 x2 x3 x4 x5 x6 x7 y0 y1 y2 y3 y4 y5 y6 y7
    go_wp2_with fail
    refine (eqItem8 k s1 ty lo hi t ah a3 ch c3 ps hd W14 HV14.out HQ14.out).mono ?_
    rintro e w15 ⟨rfl, hB15⟩
    clear x0 x1 x2 x3 x4 x5 x6 x7 y0 y1 y2 y3 y4 y5 y6 y7
    have HB15 : Hid (Below w.heap.size w w15) := HB14.out.trans (hB15.mono HB14.out.size)
    have HY15 := hid (HY14.out.on hB15)
    have HM15 := hid (HM14.out.on hB15)
    clear hB15 HB14 HY14 HM14
    clear HV14 HQ14 HK14 HZ14
    obtain ⟨⟨x0, x1, x2, x3, x4, x5, x6, x7⟩, -, -⟩ := HY15.out.all
    dsimp only [ik, inm, ity, ilo, ihi, itx, iex, ihd] at x0 x1 x2 x3 x4 x5 x6 x7
    go_wp2_with fail
    refine (held_item k s1 ty lo hi t av ps.length cv hd w15 HM15.out).mono ?_
    rintro e w16 ⟨rfl, hB16⟩
    clear x0 x1 x2 x3 x4 x5 x6 x7
    have HB16 : Hid (Below w.heap.size w w16) := HB15.out.trans (hB16.mono HB15.out.size)
    clear hB16 HB15
    go_wp2_with fail
    go_ret
    exact ⟨rfl, HB16.out⟩
end Go.Proofs.YtllknohingfacaaDoor.CpyL
