/- The walk of the law FnExactAnswerOf. -/
import Derived.Test.YtfnimiimplphkaaOfSpec
import Derived.Test.YtfnimiimplphkaaOfImpl
import Derived.Test.YtfnimiimplphkaaMarkAnsL
namespace Go.Proofs.Ytfnimiimplphkaa.AnsL
open Go.RowKit
open AnsW ValW ValI RdS RdI RdL

theorem codes_within {w w' : World} {g e : Nat} {a : Option Addr} {zs : List Int} (h : Codes w a zs) (hW : Within w w' g e) (hb : ∀ b o, a = some ⟨b, o, none⟩ → 0 < zs.length → b < g ∨ e ≤ b) : Codes w' a zs := by
  refine ⟨h.1, fun hp => ?_⟩
  obtain ⟨b, o, ha, hl, hc⟩ := h.2 hp
  exact ⟨b, o, ha, Nat.lt_of_lt_of_le hl hW.2.2.2.1, fun i hi => by rw [World.cell?_of_block (w := w) (hW.2.2.2.2 b hl (hb b o ha hp))]; exact hc i hi⟩
theorem free_within {w w' : World} {g e : Nat} {a : Option Addr} {zs : List Int} (h : Free w a zs) (hW : Within w w' g e) (hb : ∀ b o, a = some ⟨b, o, none⟩ → 0 < zs.length → b < g ∨ e ≤ b) : Free w' a zs := fun b o ha i hi => by
  obtain ⟨hl, hf⟩ := h b o ha i hi
  exact ⟨Nat.lt_of_lt_of_le hl hW.2.2.2.1, by rw [World.frozen?_of_block (w := w) (hW.2.2.2.2 b hl (hb b o ha (by omega)))]; exact hf⟩
theorem at4_block {w w' : World} {b : Nat} {v0 v1 v2 v3 : Value} (h : At4 w b v0 v1 v2 v3) (hb : w'.heap[b]? = w.heap[b]?) (hs : w.heap.size ≤ w'.heap.size) : At4 w' b v0 v1 v2 v3 := by
  obtain ⟨h0, h1, h2, h3, hl⟩ := h
  have hc : ∀ j, w'.cell? ⟨b, j, none⟩ = w.cell? ⟨b, j, none⟩ := fun j => World.cell?_of_block (w := w) hb
  exact ⟨by rw [hc]; exact h0, by rw [hc]; exact h1, by rw [hc]; exact h2, by rw [hc]; exact h3, Nat.lt_of_lt_of_le hl hs⟩
theorem codes_low {w : World} {a : Option Addr} {zs : List Int} (h : Codes w a zs) : ∀ b o, a = some ⟨b, o, none⟩ → 0 < zs.length → b < w.heap.size := fun b o ha hp => by
  obtain ⟨b', o', ha', hl, _⟩ := h.2 hp
  rw [ha] at ha'
  cases ha'
  exact hl
theorem marked_block {w w' : World} {a : Option Addr} {zs : List Int} {k : Int} (h : Marked w w' a zs k) {j : Nat} (hj : j < w.heap.size) (hn : ∀ b o, a = some ⟨b, o, none⟩ → 0 < zs.length → j ≠ b) : w'.heap[j]? = w.heap[j]? := h.2.2.2.2.1 j hj hn
theorem codes_marked {w w' : World} {a a' : Option Addr} {zs ys : List Int} {k : Int} (h : Codes w a' ys) (hM : Marked w w' a zs k) (hn : ∀ b o b' o', a = some ⟨b, o, none⟩ → a' = some ⟨b', o', none⟩ → 0 < zs.length → 0 < ys.length → b' ≠ b) : Codes w' a' ys := by
  refine ⟨h.1, fun hp => ?_⟩
  obtain ⟨b, o, ha, hl, hc⟩ := h.2 hp
  exact ⟨b, o, ha, Nat.lt_of_lt_of_le hl hM.2.2.2.1, fun i hi => by rw [World.cell?_of_block (w := w) (marked_block hM hl (fun b1 o1 h1 h2 => hn b1 o1 b o h1 ha h2 hp))]; exact hc i hi⟩

set_option maxRecDepth 10000 in
set_option maxHeartbeats 6400000 in
theorem law_of (a : Option Addr) (cap : Nat) (ls : List An) (s : ByteArray) (w : World) (hR : Raw w a ls) (hs : s.size ≤ maxLen) :
    Calls Try.prog 4 #[.slice a ls.length cap, .string s] w fun e w' => e = .returned (.bool true) ∧ Below w.heap.size w w' := by
  have HR := hid hR
  have HS := hid hs
  unfold maxLen at hs
  clear hR
  by_cases hsb : 1048576 < s.size
  · go_enter Try.func4, Try.ntmps4
    go_wp2
    go_ret
    exact ⟨rfl, by go_grown⟩
  obtain ⟨p, hp⟩ : ∃ p, Hid (told ls s = p) := ⟨_, rfl⟩
  obtain ⟨s0, k, n, zs, t⟩ := p
  go_enter Try.func4, Try.ntmps4
  go_wp2_with fail
  refine (szAnsL a cap ls 1048576 (Nat.le_refl _) w HR.out).mono ?_
  rintro e w1 ⟨⟨z, rfl, hz, _⟩, hB1⟩
  have HB1 := hid hB1
  by_cases hbig : 1048576 < ls.length + bulk ls
  · have hz0 : z < 0 := hz.2 hbig
    clear hz hB1
    go_wp2_with fail
    go_ret
    exact ⟨rfl, HB1.out⟩
  have hz0 : ¬ z < 0 := fun h => hbig (hz.1 h)
  have HP0 := hid (HR.out.ans (by omega))
  have hl : ls.length ≤ 1048576 := by omega
  have htot : tot (fun i => (cd (ls.getD i an0)).length) ls.length ≤ 1048576 := by
    have h1 := tot_bulk ls ls.length (Nat.le_refl _)
    have h2 := bulk_le ls ls.length
    omega
  clear hz hB1 HR hbig
  go_wp2_with fail
  refine (toAnsL a cap ls w1 (HP0.out.on HB1.out)).mono ?_
  rintro e w2 ⟨rfl, hP2, hB2⟩
  have HB2 : Hid (Below w.heap.size w w2) := HB1.out.trans (hB2.mono HB1.out.size)
  have HP2 := hid hP2
  clear hP2 hB2
  generalize w1.heap.size = g1 at *
  go_wp2_with fail
  refine (spec_of (some ⟨g1, 0, none⟩) ls.length ls s w2 HP2.out HS.out).mono ?_
  rintro e w3 ⟨⟨a3, c3, rfl, hc3⟩, hB3⟩
  rw [hp.out] at hc3
  rw [hp.out]
  dsimp only [kd, nu, cd, tx] at hc3 ⊢
  have HB3 : Hid (Below w.heap.size w w3) := HB2.out.trans (hB3.mono HB2.out.size)
  have HC3 := hid hc3
  clear hB3 hc3 HP2 HB2
  go_wp2_with fail
  have hb4 : Below w3.heap.size w3 (w3.alloc (.cells #[.int .i64 k, .int .i64 n, .slice a3 zs.length c3, .string t] 31)) := (Below.refl _ _).alloc (Nat.le_refl _) _
  obtain ⟨W4, hW4⟩ : ∃ W4, Hid (w3.alloc (.cells #[.int .i64 k, .int .i64 n, .slice a3 zs.length c3, .string t] 31) = W4) := ⟨_, rfl⟩
  have hA4 := At4.laid w3 31 (.int .i64 k) (.int .i64 n) (.slice a3 zs.length c3) (.string t)
  rw [hW4.out] at hA4 hb4 ⊢
  have HA4 := hid hA4
  have HB4 : Hid (Below w.heap.size w W4) := HB3.out.trans (hb4.mono HB3.out.size)
  have HC4 := hid (HC3.out.on hb4)
  have h64 : w3.heap.size < W4.heap.size := hA4.2.2.2.2
  have h34 := HB3.out.size
  clear hA4 hb4 hW4 HB3 HC3
  generalize w3.heap.size = G6 at *
  refine (toAnsR a cap ls W4 (HP0.out.on HB4.out)).mono ?_
  rintro e w5 ⟨rfl, hB5, hRow⟩
  have HP5 := hid (hRow.ans hl HP0.out.2.1 HP0.out.len)
  have HM5 := hid (hRow.mkA rfl)
  have HB5 : Hid (Below w.heap.size w w5) := HB4.out.trans (hB5.mono HB4.out.size)
  have HA5 := hid (HA4.out.on hB5)
  have HC5 := hid (HC4.out.on hB5)
  have HL4 := hid (codes_low HC4.out)
  have h45 : W4.heap.size < w5.heap.size := hRow.lt
  clear hRow hB5 HA4 HC4 HB4
  generalize W4.heap.size = g4 at *
  go_wp2_with fail
  refine (impl_of (some ⟨g4, 0, none⟩) ls.length ls s w5 HP5.out HS.out).mono ?_
  rintro e w6 ⟨⟨a6, c6, rfl, hc6, hf6, hs6⟩, hB6⟩
  rw [hp.out] at hc6 hf6
  rw [hp.out]
  dsimp only [kd, nu, cd, tx] at hc6 hf6 ⊢
  have HP6 := hid (HP5.out.on hB6)
  have HM6 := hid (HM5.out.on hB6)
  have HB6 : Hid (Below w.heap.size w w6) := HB5.out.trans (hB6.mono HB5.out.size)
  have HA6 := hid (HA5.out.on hB6)
  have HC6 := hid (HC5.out.on hB6)
  have HD6 := hid hc6
  have HF6 := hid hf6
  have HX6 := hid hs6
  have HL6 := hid (codes_low hc6)
  have h56 := hB6.size
  clear hB6 hc6 hf6 hs6 HP5 HM5 HB5 HA5 HC5
  generalize w5.heap.size = e5 at *
  obtain ⟨x0, x1, x2, x3, hx⟩ := HA6.out
  go_wp2_with fail
  refine (eqVal k n a6 a3 c6 c3 zs t _ (HD6.out.alloc _) (HC6.out.alloc _)).mono ?_
  rintro e w8 ⟨rfl, hB8⟩
  have hb7 : Below w6.heap.size w6 (w6.alloc (.cells #[.int .i64 k, .int .i64 n, .slice a6 zs.length c6, .string t] 31)) := (Below.refl _ _).alloc (Nat.le_refl _) _
  have hb8 : Below w6.heap.size w6 w8 := hb7.trans (hB8.mono hb7.size)
  have HG8 : Hid (At4 w8 w6.heap.size (.int .i64 k) (.int .i64 n) (.slice a6 zs.length c6) (.string t)) := (At4.laid w6 _ _ _ _ _).on hB8
  have HA8 := hid (HA6.out.on hb8)
  have HC8 := hid (HC6.out.on hb8)
  have HD8 := hid (HD6.out.on hb8)
  have HF8 := hid (HF6.out.on hb8)
  have HP8 := hid (HP6.out.on hb8)
  have HM8 := hid (HM6.out.on hb8)
  have HB8 : Hid (Below w.heap.size w w8) := HB6.out.trans (hb8.mono HB6.out.size)
  clear hb7 hb8 hB8 HA6 HC6 HD6 HF6 HP6 HM6 HB6 x0 x1 x2 x3 hx
  generalize w6.heap.size = G8 at *
  go_wp2_with fail
  refine (toAnsL a cap ls w8 (HP0.out.on HB8.out)).mono ?_
  rintro e w9 ⟨rfl, hP9, hB9⟩
  have HQ9 := hid hP9
  have HG9 := hid (HG8.out.on hB9)
  have HA9 := hid (HA8.out.on hB9)
  have HC9 := hid (HC8.out.on hB9)
  have HD9 := hid (HD8.out.on hB9)
  have HF9 := hid (HF8.out.on hB9)
  have HP9 := hid (HP8.out.on hB9)
  have HM9 := hid (HM8.out.on hB9)
  have HB9 : Hid (Below w.heap.size w w9) := HB8.out.trans (hB9.mono HB8.out.size)
  clear hB9 hP9 HG8 HA8 HC8 HD8 HF8 HP8 HM8 HB8
  generalize w8.heap.size = g8 at *
  go_wp2_with fail
  refine (eqAnsL (some ⟨g4, 0, none⟩) (some ⟨g8, 0, none⟩) ls.length ls.length ls w9 HP9.out HQ9.out).mono ?_
  rintro e w10 ⟨rfl, hB10⟩
  have HG10 := hid (HG9.out.on hB10)
  have HA10 := hid (HA9.out.on hB10)
  have HC10 := hid (HC9.out.on hB10)
  have HD10 := hid (HD9.out.on hB10)
  have HF10 := hid (HF9.out.on hB10)
  have HM10 := hid (HM9.out.on hB10)
  have HB10 : Hid (Below w.heap.size w w10) := HB9.out.trans (hB10.mono HB9.out.size)
  clear hB10 HG9 HA9 HC9 HD9 HF9 HP9 HM9 HB9 HQ9
  go_wp2_with fail
  refine (mark_answers g4 e5 ls.length ls.length _ w10 HM10.out hl htot).mono ?_
  rintro e w11 ⟨⟨z1, rfl, hz1⟩, hW⟩
  have HG11 := hid (at4_block HG10.out (hW.2.2.2.2 G8 HG10.out.2.2.2.2 (.inr h56)) hW.2.2.2.1)
  have HA11 := hid (at4_block HA10.out (hW.2.2.2.2 G6 HA10.out.2.2.2.2 (.inl h64)) hW.2.2.2.1)
  have HC11 := hid (codes_within HC10.out hW (fun b o ha hp => .inl (HL4.out b o ha hp)))
  have HD11 := hid (codes_within HD10.out hW (fun b o ha _ => .inr (HX6.out b o ha)))
  have HF11 := hid (free_within HF10.out hW (fun b o ha _ => .inr (HX6.out b o ha)))
  have HB11 : Hid (Below w.heap.size w w11) := HB10.out.trans (hW.below (by omega) HB10.out.size)
  have hz1n : ¬ z1 < 0 := by omega
  clear hW HG10 HA10 HC10 HD10 HF10 HM10 HB10
  obtain ⟨x0, x1, x2, x3, hx⟩ := HA11.out
  obtain ⟨y0, y1, y2, y3, hy⟩ := HG11.out
  go_wp2_with fail
  refine (eqVal k n a6 a3 c6 c3 zs t _ HD11.out HC11.out).mono ?_
  rintro e w12 ⟨rfl, hB12⟩
  have HG12 := hid (HG11.out.on hB12)
  have HA12 := hid (HA11.out.on hB12)
  have HC12 := hid (HC11.out.on hB12)
  have HD12 := hid (HD11.out.on hB12)
  have HF12 := hid (HF11.out.on hB12)
  have HB12 : Hid (Below w.heap.size w w12) := HB11.out.trans (hB12.mono HB11.out.size)
  clear hB12 HG11 HA11 HC11 HD11 HF11 HB11 x0 x1 x2 x3 hx y0 y1 y2 y3 hy
  obtain ⟨y0, y1, y2, y3, hy⟩ := HG12.out
  go_wp2_with fail
  refine (mark_value k n a6 c6 zs t 1 w12 HD12.out HF12.out (by omega) (by omega)).mono ?_
  rintro e w13 ⟨rfl, hM⟩
  have hzl := HD12.out.1
  have HG13 := hid (at4_block HG12.out (marked_block hM HG12.out.2.2.2.2 (fun b o ha hq => by have := HL6.out b o ha hq; omega)) hM.2.2.2.1)
  have HA13 := hid (at4_block HA12.out (marked_block hM HA12.out.2.2.2.2 (fun b o ha _ => by have := HX6.out b o ha; omega)) hM.2.2.2.1)
  have HC13 := hid (codes_marked HC12.out hM (fun b o b' o' ha ha' _ hq => by have := HX6.out b o ha; have := HL4.out b' o' ha' hq; omega))
  have HD13 := hid hM.2.2.2.2.2
  have HB13 : Hid (Below w.heap.size w w13) := HB12.out.trans (hM.below (fun b o ha => by have := HX6.out b o ha; omega) HB12.out.size)
  clear hM HG12 HA12 HC12 HD12 HF12 HB12 y0 y1 y2 y3 hy
  obtain ⟨y0, y1, y2, y3, hy⟩ := HG13.out
  go_wp2_with fail
  refine (held_value k n a6 c6 zs.length t 1 w13 HD13.out hzl (by omega) (by omega)).mono ?_
  rintro e w14 ⟨rfl, hB14⟩
  have HG14 := hid (HG13.out.on hB14)
  have HA14 := hid (HA13.out.on hB14)
  have HC14 := hid (HC13.out.on hB14)
  have HD14 := hid (HD13.out.on hB14)
  have HB14 : Hid (Below w.heap.size w w14) := HB13.out.trans (hB14.mono HB13.out.size)
  clear hB14 HG13 HA13 HC13 HD13 HB13 y0 y1 y2 y3 hy
  obtain ⟨M, hM⟩ : ∃ M : Int, Hid (1 + (zs.length : Int) = M) := ⟨_, rfl⟩
  have hM0 : ¬ M < 0 := by have := hM.out; omega
  rw [hM.out]
  go_wp2_with fail
  refine (toAnsL a cap ls w14 (HP0.out.on HB14.out)).mono ?_
  rintro e w15 ⟨rfl, hP15, hB15⟩
  have HQ15 := hid hP15
  have HG15 := hid (HG14.out.on hB15)
  have HA15 := hid (HA14.out.on hB15)
  have HC15 := hid (HC14.out.on hB15)
  have HD15 := hid (HD14.out.on hB15)
  have HB15 : Hid (Below w.heap.size w w15) := HB14.out.trans (hB15.mono HB14.out.size)
  clear hB15 hP15 HG14 HA14 HC14 HD14 HB14
  generalize w14.heap.size = g14 at *
  go_wp2_with fail
  refine (impl_of (some ⟨g14, 0, none⟩) ls.length ls s w15 HQ15.out HS.out).mono ?_
  rintro e w16 ⟨⟨a9, c9, rfl, hc9, _, _⟩, hB16⟩
  rw [hp.out] at hc9
  rw [hp.out]
  dsimp only [kd, nu, cd, tx] at hc9 ⊢
  have HE16 := hid hc9
  have HG16 := hid (HG15.out.on hB16)
  have HA16 := hid (HA15.out.on hB16)
  have HC16 := hid (HC15.out.on hB16)
  have HD16 := hid (HD15.out.on hB16)
  have HB16 : Hid (Below w.heap.size w w16) := HB15.out.trans (hB16.mono HB15.out.size)
  clear hB16 hc9 HG15 HA15 HC15 HD15 HB15 HQ15
  obtain ⟨x0, x1, x2, x3, hx⟩ := HA16.out
  go_wp2_with fail
  refine (eqVal k n a9 a3 c9 c3 zs t _ (HE16.out.alloc _) (HC16.out.alloc _)).mono ?_
  rintro e w17 ⟨rfl, hB17⟩
  have hb17 : Below w16.heap.size w16 (w16.alloc (.cells #[.int .i64 k, .int .i64 n, .slice a9 zs.length c9, .string t] 31)) := (Below.refl _ _).alloc (Nat.le_refl _) _
  have hb18 : Below w16.heap.size w16 w17 := hb17.trans (hB17.mono hb17.size)
  have HG17 := hid (HG16.out.on hb18)
  have HD17 := hid (HD16.out.on hb18)
  have HB17 : Hid (Below w.heap.size w w17) := HB16.out.trans (hb18.mono HB16.out.size)
  clear hb17 hb18 hB17 HG16 HA16 HC16 HD16 HB16 HE16 x0 x1 x2 x3 hx
  obtain ⟨y0, y1, y2, y3, hy⟩ := HG17.out
  go_wp2_with fail
  refine (held_value k n a6 c6 zs.length t 1 w17 HD17.out hzl (by omega) (by omega)).mono ?_
  rintro e w18 ⟨rfl, hB18⟩
  have HB18 : Hid (Below w.heap.size w w18) := HB17.out.trans (hB18.mono HB17.out.size)
  rw [hM.out]
  clear hB18 HB17 HD17 HG17 y0 y1 y2 y3 hy
  go_wp2_with fail
  go_ret
  exact ⟨rfl, HB18.out⟩
end Go.Proofs.Ytfnimiimplphkaa.AnsL
