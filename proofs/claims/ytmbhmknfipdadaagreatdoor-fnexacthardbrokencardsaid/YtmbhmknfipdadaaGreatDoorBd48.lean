/- Texts of ours, laid together. -/
import Derived.Test.YtmbhmknfipdadaaGreatDoorBd46
import Derived.Test.YtmbhmknfipdadaaGreatDoorBd2
import Derived.RangeFuncNested
import Derived.RangeFuncBound
import Derived.RangeFuncCalls
import Derived.RangeFuncLeaves
import Derived.OwnWalkIn
import Derived.TacticsInMore
import Derived.LoopNIn
import Derived.LoopIn
import Derived.Test.YtmbhmknfipdadaaGreatDoorBd32
namespace Go.Proofs.YtmbhmknfipdadaaGreatDoor.RteI
open Go.RowKit Go.Maps
open PrtW PrtM ItmW ItmM FrmM EvlM EvlS ValW NameW RteM RteS BookW PrtI
open AnsW (An an0 nm kd nu cd tx told putA rightA good)
attribute [local go_sem] Oper.semAt_some
def Cm (wG wB : World) (O Bg Bk b0 F : Nat) (Dg : DataW Value) (la : Option Addr) (lc : Nat) (n : Nat) (Bl Bf : Nat) (Rq : World → Prop) (s : St) (W : World) : Prop :=
 StW wG wB O Bg Bk b0 F Dg ByteArray.empty s W ∧ W.heap[Bl]? = some (.cells #[.slice la n lc] 31 (0, 0)) ∧ W.heap[Bf]? = some (.cells #[.func (.func 67) #[.pointer (some ⟨O, 0, none⟩)] #[]] 100 (0, 0)) ∧ Rq W
def stopB (al : List An) (q : It) : Bool := decide (ik q = 1) && !fitsQ al q
theorem route_goes {al : List An} {q : It} {r : List It} {f : Nat} {s : St} (h2 : ¬ ik q = 2) (h3 : ¬ ik q = 3) (hs : stopB al q = false) : routeL al (f + 1) (q :: r) s = routeL al f r (stepS al q s) := by
 obtain ⟨P, K, B⟩ := s
 unfold stepS
 by_cases h1 : ik q = 1
 ·have hf : fitsQ al q = true := by
   unfold stopB at hs; rw [decide_eq_true h1] at hs; simpa using hs
  rw [route_ask h1 hf, if_pos h1, if_pos hf]
 ·rw [if_neg h1]
  by_cases h5 : ik q = 5
  ·rw [route_check h5, if_pos h5]
  ·rw [if_neg h5]
   by_cases h6 : ik q = 6
   ·rw [route_comp h6, if_pos h6]
   ·rw [if_neg h6, route_other h1 h2 h3 h5 h6]
theorem route_halts {al : List An} {q : It} {r : List It} {f : Nat} {s : St} (hs : stopB al q = true) : routeL al (f + 1) (q :: r) s = (stepS al q s, inm q, false) := by
 obtain ⟨P, K, B⟩ := s
 unfold stopB at hs
 obtain ⟨h1, hf⟩ := Bool.and_eq_true_iff.1 hs
 have h1 := of_decide_eq_true h1
 have hf : fitsQ al q = false := by simpa using hf
 unfold stepS
 rw [route_stop h1 hf, if_pos h1, if_neg (by rw [hf]; decide)]
theorem Cm.on {wG wB : World} {O Bg Bk b0 F : Nat} {Dg : DataW Value} {la : Option Addr} {lc n Bl Bf : Nat} {Rq : World → Prop} {s : St} {W W' : World} (h : Cm wG wB O Bg Bk b0 F Dg la lc n Bl Bf Rq s W) (hRq : ∀ W W', Rq W → Below W.heap.size W W' → Rq W') (hB : Below W.heap.size W W') : Cm wG wB O Bg Bk b0 F Dg la lc n Bl Bf Rq s W' :=
 ⟨h.1.on hB, (hB.block Bl (ItmW.blk_lt h.2.1)).trans h.2.1, (hB.block Bf (ItmW.blk_lt h.2.2.1)).trans h.2.2.1, hRq _ _ h.2.2.2 hB⟩
def nextI (ls : List It) (K : List An) (q : It) (i : Nat) : Nat := if ik q = 3 ∨ ik q = 2 ∧ ¬ ev K 6 (iex q) = (2, 1) then i + 1 + skipL true (ls.drop (i + 1)) 0 + 1 else i + 1
theorem come_next {al : List An} {ls : List It} {i f : Nat} {s : St} {G : Rt} (hlt : i < ls.length) (hs : stopB al (ls.getD i it0) = false) (hf : ls.length - i ≤ f) (hrt : routeL al f (ls.drop i) s = G)
  (he : ik (ls.getD i it0) = 3 → skipL false (ls.drop (i + 1)) 0 = skipL true (ls.drop (i + 1)) 0) :
  ∃ f', ls.length - nextI ls s.2.1 (ls.getD i it0) i ≤ f' ∧ routeL al f' (ls.drop (nextI ls s.2.1 (ls.getD i it0) i)) (stepS al (ls.getD i it0) s) = G := by
 obtain ⟨g, rfl⟩ : ∃ g, f = g + 1 := ⟨f - 1, by omega⟩
 have hd : ls.drop i = ls.getD i it0 :: ls.drop (i + 1) := by
  rw [List.drop_eq_getElem_cons hlt]
  congr 1
  simp [List.getD, hlt]
 rw [hd] at hrt
 obtain ⟨P, K, B⟩ := s
 refine ⟨g, ?_, ?_⟩
 ·unfold nextI; split <;> omega
 ·unfold nextI
  dsimp only
  by_cases h3 : ik (ls.getD i it0) = 3
  ·rw [if_pos (.inl h3)]
   rw [route_else h3, he h3, List.drop_drop] at hrt
   unfold stepS
   rw [if_neg (by omega), if_neg (by omega), if_neg (by omega), ← hrt]
   congr 2
  ·by_cases h2 : ik (ls.getD i it0) = 2
   ·have hst : stepS al (ls.getD i it0) (P, K, B) = (P, K, B) := by
     unfold stepS
     rw [if_neg (by omega), if_neg (by omega), if_neg (by omega)]
    rw [hst]
    by_cases hv : ev K 6 (iex (ls.getD i it0)) = (2, 1)
    ·rw [if_neg (fun h => h.elim h3 (fun h => h.2 hv)), ← hrt, route_if h2 hv]
    ·rw [if_pos (.inr ⟨h2, hv⟩), ← hrt, route_pass h2 hv, List.drop_drop]
     congr 2
   ·rw [if_neg (fun h => h.elim h3 (fun h => h2 h.1)), ← hrt, route_goes h2 h3 hs]
theorem next_len (ls : List It) (K : List An) (q : It) (i : Nat) (h : i < ls.length) : i < nextI ls K q i ∧ nextI ls K q i ≤ ls.length + 1 := by
 have := skip_len true (ls.drop (i + 1)) 0
 rw [List.length_drop] at this
 unfold nextI
 split <;> omega
set_option maxRecDepth 10000 in
set_option maxHeartbeats 3200000 in
theorem impl_come {b0 F m : Nat} (O Bg Bk Bl Bf l : Nat) (wG wB : World) (la : Option Addr) (lc : Nat) (ls : List It) (al : List An) (Dg : DataW Value) (Rq : World → Prop) (Inv : Nat → St → Prop) (W0 : World) (G : Rt) (R : Rt → World → Prop)
  (hRq : ∀ W W', Rq W → Below W.heap.size W W' → Rq W') (hIt : Its wG la ls) (hlen : ls.length ≤ 24) (hE : ItmI.EnvI wG) (hal : rightA al = true)
  (hif : ∀ i, i < ls.length → ik (ls.getD i it0) = 2 → rightB (iex (ls.getD i it0)) = true)
  (helse : ∀ i, i < ls.length → ik (ls.getD i it0) = 3 → skipL false (ls.drop (i + 1)) 0 = skipL true (ls.drop (i + 1)) 0)
  (hInvM : ∀ i j s, i ≤ j → Inv i s → Inv j s) (hInvK : ∀ i s, Inv i s → rightA s.2.1 = true)
  (hInvS : ∀ i s, i < ls.length → Inv i s → stopB al (ls.getD i it0) = false → Inv (i + 1) (stepS al (ls.getD i it0) s))
  (hY : ∀ (i : Nat) (s : St) (W : World) (ai : Option Addr) (ci : Nat), i < ls.length → Inv i s → Cm wG wB O Bg Bk b0 F Dg la lc ls.length Bl Bf Rq s W → Parts wG ai (iex (ls.getD i it0)) → (iex (ls.getD i it0)).length ≤ ci →
   YieldAt Fence.wide m Tryz.prog l #[.agg #[.int .i64 (ik (ls.getD i it0)), .string (inm (ls.getD i it0)), .int .i64 (ity (ls.getD i it0)), .int .i64 (ilo (ls.getD i it0)), .int .i64 (ihi (ls.getD i it0)), .string (itx (ls.getD i it0)), .slice ai (iex (ls.getD i it0)).length ci, .bool (ihd (ls.getD i it0))]] W fun e W' =>
    (stopB al (ls.getD i it0) = false ∧ e = .returned (.bool true) ∧ W.heap.size ≤ W'.heap.size ∧ (∀ b cs fz, b0 ≤ b → W.heap[b]? = some (.cells cs 57 fz) → W'.heap[b]? = W.heap[b]?) ∧ Cm wG wB O Bg Bk b0 F Dg la lc ls.length Bl Bf Rq (stepS al (ls.getD i it0) s) W') ∨ (stopB al (ls.getD i it0) = true ∧ e = .returned (.bool false) ∧ R (stepS al (ls.getD i it0) s, inm (ls.getD i it0), false) W'))
  (h0 : Cm wG wB O Bg Bk b0 F Dg la lc ls.length Bl Bf Rq ([], [], []) W0) (hI0 : Inv 0 ([], [], [])) (hG : routeL al ls.length ls ([], [], []) = G) :
  CallsIn Fence.wide (m + 1) Tryz.prog 94 #[.func (.yield l) #[] #[], .pointer (some ⟨Bl, 0, none⟩), .pointer (some ⟨Bf, 0, none⟩)] W0 fun e W' => (∃ v, e = .returned v) ∧ ((G.2.2 = true ∧ Cm wG wB O Bg Bk b0 F Dg la lc ls.length Bl Bf Rq G.1 W') ∨ (G.2.2 = false ∧ R G W')) := by
 have HC := RteS.hid hIt
 have HIf := RteS.hid hif
 have HElse := RteS.hid helse
 have HE := RteS.hid hE
 have HY := RteS.hid hY
 have HIM := RteS.hid hInvM
 have HIK := RteS.hid hInvK
 have HIS := RteS.hid hInvS
 have HG := RteS.hid hG
 have H0 := RteS.hid h0
 have HI0 := RteS.hid hI0
 have HRq := RteS.hid hRq
 have HAl := RteS.hid hal
 clear hIt hif helse hE hY hInvM hInvK hInvS hG h0 hI0 hRq hal
 refine callsIn_of_wp Tryz.func94 rfl trivial ?_ rfl
 simp only [Tryz.ntmps94, List.size_toArray, List.length_cons, List.length_nil, Nat.reduceAdd, Nat.reduceSub, Array.replicate_succ, Array.replicate_zero, List.push_toArray, List.append_toArray, List.nil_append, List.cons_append]
 gi_wp2
 gi_loopw [4] (fun iv W => ∃ (i f : Nat) (s : St), i ≤ ls.length + 1 ∧ iv = .int .i64 (i : Int) ∧ Hid (ls.length - i ≤ f ∧ routeL al f (ls.drop i) s = G ∧ Inv i s ∧ Cm wG wB O Bg Bk b0 F Dg la lc ls.length Bl Bf Rq s W)) (fun iv _ => ls.length - (intOf iv).toNat)
 case atStart => exact ⟨0, ls.length, ([], [], []), by omega, rfl, by omega, by rw [List.drop_zero]; exact HG.out, HI0.out, H0.out⟩
 case round =>
  obtain ⟨i, f, s, hi, rfl, hinv⟩ := hrel
  obtain ⟨hf, hrt, hInv, hSt, hBl, hBf, hRw⟩ := hinv.out
  have hBG := RteS.hid hSt.1
  have HSt := RteS.hid hSt
  have HRw := RteS.hid hRw
  have HBl := RteS.hid hBl
  have HBf := RteS.hid hBf
  have HInv := RteS.hid hInv
  have HRt := RteS.hid hrt
  have cl : wr.cell? ⟨Bl, 0, none⟩ = some (.slice la ls.length lc) := by simp [World.cell?, hBl]
  have ll : Bl < wr.heap.size := ItmW.blk_lt hBl
  have cf : wr.cell? ⟨Bf, 0, none⟩ = some (.func (.func 67) #[.pointer (some ⟨O, 0, none⟩)] #[]) := by simp [World.cell?, hBf]
  have lf : Bf < wr.heap.size := ItmW.blk_lt hBf
  clear hBl hBf hSt hRw hInv hrt hinv
  by_cases hlt : i < ls.length
  ·obtain ⟨_, b, o, ai, ci, rfl, hb, hE8, hP8, hc8, _⟩ := HC.out.at (Below.refl _ _) hlt
   have hE9 := hE8.on hb hBG.out
   have hbx := (Below.refl wr.heap.size wr).alloc (Nat.le_refl _) (.cells #[.int .i64 (ik (ls.getD i it0)), .string (inm (ls.getD i it0)), .int .i64 (ity (ls.getD i it0)), .int .i64 (ilo (ls.getD i it0)), .int .i64 (ihi (ls.getD i it0)), .string (itx (ls.getD i it0)), .slice ai (iex (ls.getD i it0)).length ci, .bool (ihd (ls.getD i it0))] 57)
   have hyi := HY.out i s _ ai ci hlt HInv.out ⟨HSt.out.on hbx, (hbx.block Bl ll).trans HBl.out, (hbx.block Bf lf).trans HBf.out, HRq.out _ _ HRw.out hbx⟩ hP8 hc8
   obtain ⟨q, hq⟩ : ∃ q, Hid (ls.getD i it0 = q) := ⟨_, rfl⟩
   rw [hq.out] at hE9 hyi hP8 hc8 hbx
   obtain ⟨k, sn, ty, lo, hi', t, ps, hd⟩ := q
   dsimp only [ik, inm, ity, ilo, ihi, itx, iex, ihd] at hE9 hyi hP8 hc8 hbx
   obtain ⟨fn, tmps, assign, body, hy, hR⟩ := hyi
   obtain ⟨e0, e1, e2, e3, e4, e5, e6, e7⟩ := hE9
   have hbl : b < wr.heap.size := Nat.lt_of_lt_of_le hb hBG.out.size
   clear hE8
   have hb0w : b0 ≤ wr.heap.size := HSt.out.2.2.1
   gi_wp2
   refine hR.mono ?_
   rintro e W3 (⟨hs, rfl, hsz, hit, hCm⟩ | ⟨hs, rfl, hR3⟩)
   ·have hX : W3.heap[wr.heap.size]? = some (.cells #[.int .i64 k, .string sn, .int .i64 ty, .int .i64 lo, .int .i64 hi', .string t, .slice ai ps.length ci, .bool hd] 57 (0, 0)) := (hit _ _ _ hb0w (heap_alloc_new wr _)).trans (heap_alloc_new wr _)
    have HX := RteS.hid hX
    have HCm := RteS.hid hCm
    clear hit hCm hX
    have x0 : W3.cell? ⟨wr.heap.size, 0, none⟩ = some (.int .i64 k) := by simp [World.cell?, HX.out]
    have x6 : W3.cell? ⟨wr.heap.size, 6, none⟩ = some (.slice ai ps.length ci) := by simp [World.cell?, HX.out]
    obtain ⟨hSt3, hBl3, hBf3, hRw3⟩ := HCm.out
    have cl3 : W3.cell? ⟨Bl, 0, none⟩ = some (.slice (some ⟨b, o, none⟩) ls.length lc) := by simp [World.cell?, hBl3]
    have cf3 : W3.cell? ⟨Bf, 0, none⟩ = some (.func (.func 67) #[.pointer (some ⟨O, 0, none⟩)] #[]) := by simp [World.cell?, hBf3]
    clear hSt3 hBl3 hBf3 hRw3
    have hnr : wr.heap.size < W3.heap.size := by have := (Array.getElem?_eq_some_iff.1 HX.out).1; exact this
    have hbf3 : Bf < W3.heap.size := ItmW.blk_lt HCm.out.2.2.1
    have HAll : Hid (∀ w', Below W3.heap.size W3 w' → Below W3.heap.size W3 w' ∧ w'.cell? ⟨wr.heap.size, 0, none⟩ = some (.int .i64 k) ∧ w'.cell? ⟨wr.heap.size, 6, none⟩ = some (.slice ai ps.length ci) ∧ w'.cell? ⟨Bf, 0, none⟩ = some (.func (.func 67) #[.pointer (some ⟨O, 0, none⟩)] #[])) := fun w' hS =>
     ⟨hS, by rw [hS.cell (p := ⟨wr.heap.size, 0, none⟩) hnr]; exact x0, by rw [hS.cell (p := ⟨wr.heap.size, 6, none⟩) hnr]; exact x6, by rw [hS.cell (p := ⟨Bf, 0, none⟩) hbf3]; exact cf3⟩
    have hst3 := hs
    rw [← hq.out] at hst3
    obtain ⟨f', hf', hrt'⟩ := come_next hlt hst3 hf HRt.out (HElse.out i hlt)
    rw [hq.out] at hf' hrt'
    have hnl := next_len ls s.2.1 (k, sn, ty, lo, hi', t, ps, hd) i hlt
    have hinv' := HIS.out i s hlt HInv.out hst3
    rw [hq.out] at hinv'
    have HNx := RteS.hid (⟨hf', hrt', HIM.out _ _ _ (show i + 1 ≤ nextI ls s.2.1 (k, sn, ty, lo, hi', t, ps, hd) i by omega) hinv'⟩ : _ ∧ _ ∧ _)
    have HI8 := RteS.hid (HIf.out i hlt)
    rw [hq.out] at HI8
    have HK8 := RteS.hid (HIK.out i s HInv.out)
    have hCm8 := HCm.out
    clear hf' hrt' hinv' hst3 HG HI0 H0 HIM HIK HIS HY HElse HIf HAl HSt HRw HBl HBf HInv HRt hf
    dsimp only [ik, inm, ity, ilo, ihi, itx, iex, ihd]
    (try simp only [])
    iterate 12 (try (first | (refine wpIn_wide.2 ?_) | gi_step | gi_upon))
    go_wp2_with fail
    refine wpIn_wide.2 ?_
    by_cases hk3 : k = 3
    ·have HK3 := RteS.hid hk3
     have g3 : (k == 3) = true := by simp [hk3]
     clear hk3
     go_wp2_with fail
     obtain ⟨m1, hm1⟩ : ∃ m1 : Nat, i + 1 + skipL true (ls.drop (i + 1)) 0 = m1 := ⟨_, rfl⟩
     have hnx : nextI ls s.2.1 (k, sn, ty, lo, hi', t, ps, hd) i = m1 + 1 := by unfold nextI; rw [if_pos (.inl HK3.out), hm1]
     rw [hnx] at HNx hnl
     refine (RteS.impl_mark (some ⟨b, o, none⟩) lc ls i W3 (HC.out.on HCm.out.1.1) hlt).mono ?_
     rw [hm1]
     rintro e w6 ⟨rfl, rfl⟩
     clear hm1 hnx
     go_wp2_with fail
     gi_wp2
     refine ⟨⟨m1 + 1, f', stepS al (k, sn, ty, lo, hi', t, ps, hd) s, by omega, by go_num, RteS.hid ⟨HNx.out.1, HNx.out.2.1, HNx.out.2.2, HCm.out⟩⟩, by simp [intOf]; omega⟩
    ·by_cases hk2 : k = 2
     ·have HK2 := RteS.hid hk2
      have HK3 := RteS.hid hk3
      have g3 : (k == 3) = false := by simp [hk3]
      have g2 : (k == 2) = true := by simp [hk2]
      have hrb := HI8.out hk2
      have hss : stepS al (k, sn, ty, lo, hi', t, ps, hd) s = s := by
       unfold stepS
       dsimp only [ik]
       rw [if_neg (by omega), if_neg (by omega), if_neg (by omega)]
      have HSS := RteS.hid hss
      clear hk2 hk3 hss
      rw [HSS.out] at hCm8
      obtain ⟨⟨hWG3, hKG3, hb03, vP, vB, D, hWk3, hRt3, hBn3, hSub3⟩, -⟩ := hCm8
      obtain ⟨⟨r1, r2⟩, hrr⟩ : ∃ r, Hid (ev s.2.1 6 ps = r) := ⟨_, rfl⟩
      have HWk3 := RteS.hid hWk3
      have HBn3 := RteS.hid hBn3
      have HW3 := RteS.hid hWG3
      have HRB := RteS.hid hrb
      clear hKG3 hWk3 hRt3 hBn3 hSub3 hWG3 hrb
      go_wp2_with fail
      refine (impl_tells (F := F) O Bg Bk vP vB ByteArray.empty s.2.1 ai ci ps W3 HWk3.out (hP8.on HW3.out) hc8 HRB.out (HE.out.1.on HW3.out) (BookN.f HBn3.out) HK8.out).mono ?_
      rintro e w4 ⟨rfl, hB4⟩
      rw [hrr.out]
      have HB4 := RteS.hid hB4
      clear hB4
      go_wp2_with fail
      refine (EvlS.impl_truth true w4).mono ?_
      rintro e w5 ⟨rfl, hB5⟩
      have HB5 : Hid (Below W3.heap.size W3 w5) := HB4.out.trans (hB5.mono HB4.out.size)
      have cl5 : w5.cell? ⟨Bl, 0, none⟩ = some (.slice (some ⟨b, o, none⟩) ls.length lc) := by rw [HB5.out.cell (p := ⟨Bl, 0, none⟩) (ItmW.blk_lt HCm.out.2.1)]; exact cl3
      have ht1 : truthR true = (2, 1) := rfl
      rw [ht1]
      clear hB5 HB4 ht1
      by_cases hr1 : r1 = 2
      ·by_cases hr2 : r2 = 1
       ·subst hr1 hr2
        have hnx : nextI ls s.2.1 (k, sn, ty, lo, hi', t, ps, hd) i = i + 1 := by unfold nextI; rw [if_neg (fun h => h.elim HK3.out (fun h => h.2 hrr.out))]
        rw [hnx] at HNx hnl
        clear hnx
        go_wp2_with fail
        gi_wp2
        refine ⟨⟨i + 1, f', stepS al (k, sn, ty, lo, hi', t, ps, hd) s, by omega, by go_num, RteS.hid ⟨HNx.out.1, HNx.out.2.1, HNx.out.2.2, HCm.out.on HRq.out HB5.out⟩⟩, by simp [intOf]; omega⟩
       ·have hq2 : (r2 == 1) = false := by simp [hr2]
        subst hr1
        go_wp2_with fail
        obtain ⟨m1, hm1⟩ : ∃ m1 : Nat, i + 1 + skipL true (ls.drop (i + 1)) 0 = m1 := ⟨_, rfl⟩
        have hnx : nextI ls s.2.1 (k, sn, ty, lo, hi', t, ps, hd) i = m1 + 1 := by unfold nextI; rw [if_pos (.inr ⟨HK2.out, fun h => hr2 (by have := hrr.out.symm.trans h; simpa using this)⟩), hm1]
        rw [hnx] at HNx hnl
        refine (RteS.impl_mark (some ⟨b, o, none⟩) lc ls i w5 ((HC.out.on HCm.out.1.1).on HB5.out) hlt).mono ?_
        rw [hm1]
        rintro e w6 ⟨rfl, rfl⟩
        clear hm1 hnx
        go_wp2_with fail
        gi_wp2
        refine ⟨⟨m1 + 1, f', stepS al (k, sn, ty, lo, hi', t, ps, hd) s, by omega, by go_num, RteS.hid ⟨HNx.out.1, HNx.out.2.1, HNx.out.2.2, HCm.out.on HRq.out HB5.out⟩⟩, by simp [intOf]; omega⟩
      ·have hq1 : (r1 == 2) = false := by simp [hr1]
       go_wp2_with fail
       obtain ⟨m1, hm1⟩ : ∃ m1 : Nat, i + 1 + skipL true (ls.drop (i + 1)) 0 = m1 := ⟨_, rfl⟩
       have hnx : nextI ls s.2.1 (k, sn, ty, lo, hi', t, ps, hd) i = m1 + 1 := by unfold nextI; rw [if_pos (.inr ⟨HK2.out, fun h => hr1 (by have := hrr.out.symm.trans h; simp at this; exact this.1)⟩), hm1]
       rw [hnx] at HNx hnl
       refine (RteS.impl_mark (some ⟨b, o, none⟩) lc ls i w5 ((HC.out.on HCm.out.1.1).on HB5.out) hlt).mono ?_
       rw [hm1]
       rintro e w6 ⟨rfl, rfl⟩
       clear hm1 hnx
       go_wp2_with fail
       gi_wp2
       refine ⟨⟨m1 + 1, f', stepS al (k, sn, ty, lo, hi', t, ps, hd) s, by omega, by go_num, RteS.hid ⟨HNx.out.1, HNx.out.2.1, HNx.out.2.2, HCm.out.on HRq.out HB5.out⟩⟩, by simp [intOf]; omega⟩
     ·have HK2 := RteS.hid hk2
      have HK3 := RteS.hid hk3
      have g3 : (k == 3) = false := by simp [hk3]
      have g2 : (k == 2) = false := by simp [hk2]
      clear hk2 hk3
      have hnx : nextI ls s.2.1 (k, sn, ty, lo, hi', t, ps, hd) i = i + 1 := by unfold nextI; rw [if_neg (fun h => h.elim HK3.out (fun h => HK2.out h.1))]
      rw [hnx] at HNx hnl
      clear hnx
      go_wp2_with fail
      gi_wp2
      refine ⟨⟨i + 1, f', stepS al (k, sn, ty, lo, hi', t, ps, hd) s, by omega, by go_num, RteS.hid ⟨HNx.out.1, HNx.out.2.1, HNx.out.2.2, HCm.out⟩⟩, by simp [intOf]; omega⟩
   ·gi_wp2
    refine bodyPost_ret (results_none rfl _ _ _) rfl ?_
    have hst : G = (stepS al (k, sn, ty, lo, hi', t, ps, hd) s, sn, false) := by
     obtain ⟨g, rfl⟩ : ∃ g, f = g + 1 := ⟨f - 1, by omega⟩
     have hd8 : ls.drop i = ls.getD i it0 :: ls.drop (i + 1) := by
      rw [List.drop_eq_getElem_cons hlt]
      congr 1
      simp [List.getD, hlt]
     have h8 := HRt.out
     rw [hd8, hq.out, route_halts hs] at h8
     exact h8.symm
    rw [hst]
    exact ⟨⟨_, rfl⟩, .inr ⟨rfl, hR3⟩⟩
  ·gi_wp2
   have hei : ls.length ≤ i := by omega
   go_end0
   refine ⟨⟨_, rfl⟩, .inl ?_⟩
   have hG2 := HRt.out
   rw [List.drop_eq_nil_of_le (by omega), route_nil] at hG2
   subst hG2
   exact ⟨rfl, HSt.out, HBl.out, HBf.out, HRw.out⟩
open Go.RowKit Go.Maps
open PrtW PrtM ItmW ItmM FrmM EvlM EvlS ValW NameW RteM RteS BookW PrtI
open AnsW (An an0 nm kd nu cd tx told putA rightA good)
theorem blk_pref {ls : List It} (hb : blocksB ls = true) : ∀ i, i ≤ ls.length → ∃ op, blkF ls [] = blkF (ls.drop i) op
 | 0, _ => ⟨[], by rw [List.drop_zero]⟩
 | i + 1, h => by
  obtain ⟨op, ho⟩ := blk_pref hb i (by omega)
  cases hs : stepB (ik (ls.getD i it0)) op with
  | none => rw [blk_none ho (by omega) hs] at hb; cases hb
  | some op' => exact ⟨op', blk_some ho (by omega) hs⟩
theorem else_same {ls : List It} (hf : formB ls = true) {i : Nat} (hi : i < ls.length) (hk : ik (ls.getD i it0) = 3) : skipL false (ls.drop (i + 1)) 0 = skipL true (ls.drop (i + 1)) 0 := by
 have hb := (form_at hf).2.2
 obtain ⟨op, ho⟩ := blk_pref hb i (by omega)
 cases hs : stepB (ik (ls.getD i it0)) op with
 | none => rw [blk_none ho hi hs] at hb; cases hb
 | some op' =>
  have h1 := blk_some ho hi hs
  have hb2 : blkF ls [] = some [] := of_decide_eq_true hb
  rw [hk] at hs
  rcases Nat.eq_zero_or_pos op.length with h0 | h0
  ·obtain rfl := List.length_eq_zero_iff.1 h0
   rw [step_else_no] at hs; cases hs
  ·obtain ⟨q, b, rfl⟩ := snoc_of h0
   cases b
   ·rw [step_else] at hs
    obtain rfl := Option.some.inj hs
    exact (skip_same _ 0 q [] rfl (by rw [List.append_nil, ← h1]; exact hb2)).symm
   ·rw [step_else_two] at hs; cases hs
theorem if_right {ls : List It} (hf : formB ls = true) {i : Nat} (hi : i < ls.length) (hk : ik (ls.getD i it0) = 2) : rightB (iex (ls.getD i it0)) = true := by
 have h := (behind_at ((form_at hf).2.1 i hi)).1
 generalize ls.getD i it0 = q at h hk ⊢
 obtain ⟨k, s, ty, lo, hi', t, ps, hd⟩ := q
 obtain rfl : k = 2 := hk
 exact ItmI.truth_right (item_two h).1
def InvW (ls : List It) (i : Nat) (s : St) : Prop := rightA s.2.1 = true ∧ s.2.1.length ≤ i ∧ s.1.length ≤ i ∧ s.2.2.length ≤ i ∧ ∀ p ∈ s.2.1, ∃ m, m < i ∧ m < ls.length ∧ (ik (ls.getD m it0) = 1 ∨ ik (ls.getD m it0) = 6) ∧ inm (ls.getD m it0) = nm p
theorem InvW.zero (ls : List It) : InvW ls 0 ([], [], []) := ⟨rfl, Nat.le_refl _, Nat.le_refl _, Nat.le_refl _, fun _ hp => absurd hp List.not_mem_nil⟩
theorem InvW.mono {ls : List It} {i j : Nat} {s : St} (hij : i ≤ j) (h : InvW ls i s) : InvW ls j s :=
 ⟨h.1, by have := h.2.1; omega, by have := h.2.2.1; omega, by have := h.2.2.2.1; omega, fun p hp => by
  obtain ⟨m', h1, h2⟩ := h.2.2.2.2 p hp
  exact ⟨m', by omega, h2⟩⟩
theorem getD_in {K : List An} {j : Nat} (h : j < K.length) : K.getD j an0 ∈ K := by
 rw [List.getD_eq_getElem?_getD, List.getElem?_eq_getElem h]
 exact List.getElem_mem h
theorem InvW.no {ls : List It} (hf : formB ls = true) {i : Nat} {s : St} (hi : i < ls.length) (h : InvW ls i s) (hn : nameB (inm (ls.getD i it0)) = true) : ∀ j, j < s.2.1.length → nm (s.2.1.getD j an0) ≠ inm (ls.getD i it0) := by
 intro j hj he
 obtain ⟨m, h1, _, _, h4⟩ := h.2.2.2.2 _ (getD_in hj)
 have h5 := (behind_at ((form_at hf).2.1 i hi)).2.2
 unfold newB at h5
 rw [Bool.or_eq_true] at h5
 rcases h5 with h5 | h5
 ·have hs := (of_decide_eq_true hn).1
  unfold noText at h5
  have h6 : (inm (ls.getD i it0)).toList = [] := by simpa using h5
  have h7 : (inm (ls.getD i it0)).size = 0 := by
   rw [BytM.toList_eq] at h6
   show (inm (ls.getD i it0)).data.size = 0
   rw [← Array.length_toList, h6]; rfl
  omega
 ·have h6 := of_decide_eq_true h5 m h1
  rw [h4, he] at h6
  unfold sameN at h6
  simp at h6
theorem InvW.step {ls : List It} {al : List An} (hf : formB ls = true) (hal : rightA al = true) (i : Nat) (s : St) (hi : i < ls.length) (h : InvW ls i s) (hs : stopB al (ls.getD i it0) = false) : InvW ls (i + 1) (stepS al (ls.getD i it0) s) := by
 obtain ⟨P, K, B⟩ := s
 obtain ⟨h1, h2, h3, h4, h5⟩ := h
 dsimp only at h1 h2 h3 h4 h5
 have h24 := (form_at hf).1
 have hit := (behind_at ((form_at hf).2.1 i hi)).1
 have up : ∀ p ∈ K, ∃ m, m < i + 1 ∧ m < ls.length ∧ (ik (ls.getD m it0) = 1 ∨ ik (ls.getD m it0) = 6) ∧ inm (ls.getD m it0) = nm p := fun p hp => by
  obtain ⟨m, a, b⟩ := h5 p hp
  exact ⟨m, by omega, b⟩
 have put : ∀ q : An, nm q = inm (ls.getD i it0) → (ik (ls.getD i it0) = 1 ∨ ik (ls.getD i it0) = 6) → ∀ p ∈ putA K q, ∃ m, m < i + 1 ∧ m < ls.length ∧ (ik (ls.getD m it0) = 1 ∨ ik (ls.getD m it0) = 6) ∧ inm (ls.getD m it0) = nm p := fun q hq hk p hp => by
  rcases (AnsW.putA_mem (AnsW.right_ris h1).2.1 p).1 hp with rfl | h6
  ·exact ⟨i, by omega, hi, hk, hq.symm⟩
  ·exact up p h6.1
 unfold stepS
 by_cases k1 : ik (ls.getD i it0) = 1
 ·have hfq : fitsQ al (ls.getD i it0) = true := by
   unfold stopB at hs; rw [decide_eq_true k1] at hs; simpa using hs
  rw [if_pos k1, if_pos hfq]
  have hk := put_known h1 (show K.length < 30 by omega) (ans_good hal hfq)
  exact ⟨hk.1, by have := hk.2; show _ ≤ _; dsimp only; omega, by simp; omega, by show _ ≤ _; dsimp only; omega, put _ rfl (.inl k1)⟩
 ·rw [if_neg k1]
  by_cases k5 : ik (ls.getD i it0) = 5
  ·rw [if_pos k5]
   refine ⟨h1, by show _ ≤ _; dsimp only; omega, by show _ ≤ _; dsimp only; omega, ?_, up⟩
   dsimp only
   split
   ·simp; omega
   ·omega
  ·rw [if_neg k5]
   by_cases k6 : ik (ls.getD i it0) = 6
   ·rw [if_pos k6]
    have hn : nameB (inm (ls.getD i it0)) = true := by
     generalize ls.getD i it0 = q at hit k6
     obtain ⟨k, s, ty, lo, hi', t, ps, hd⟩ := q
     obtain rfl : k = 6 := k6
     exact (item_six hit).1
    have hk := comp_known (q := ls.getD i it0) h1 (show K.length < 30 by omega) hn
    refine ⟨hk.1, by have := hk.2; show _ ≤ _; dsimp only; omega, by show _ ≤ _; dsimp only; omega, by show _ ≤ _; dsimp only; omega, ?_⟩
    dsimp only
    unfold compK
    split
    ·exact put _ rfl (.inr k6)
    ·exact up
   ·rw [if_neg k6]
    exact ⟨h1, by show _ ≤ _; dsimp only; omega, by show _ ≤ _; dsimp only; omega, by show _ ≤ _; dsimp only; omega, up⟩
theorem name_full {s : ByteArray} (h : nameB s = true) : s.toList.isEmpty = false := by
 have h1 := (of_decide_eq_true h).1
 cases h2 : s.toList.isEmpty
 ·rfl
 ·have h3 : s.toList = [] := by simpa using h2
  rw [BytM.toList_eq] at h3
  have h4 : s.size = 0 := by
   show s.data.size = 0
   rw [← Array.length_toList, h3]; rfl
  omega
theorem ask_name {ls : List It} {al : List An} (hf : formB ls = true) {i : Nat} (hi : i < ls.length) (hs : stopB al (ls.getD i it0) = true) : nameB (inm (ls.getD i it0)) = true := by
 have hit := (behind_at ((form_at hf).2.1 i hi)).1
 unfold stopB at hs
 have h1 := of_decide_eq_true (Bool.and_eq_true_iff.1 hs).1
 generalize ls.getD i it0 = q at hit h1
 obtain ⟨k, s, ty, lo, hi', t, ps, hd⟩ := q
 obtain rfl : k = 1 := h1
 exact item_one hit
def FinR (F : Rt) : Prop := rightA F.1.2.1 = true ∧ F.1.1.length ≤ 25 ∧ F.1.2.2.length ≤ 25 ∧ F.2.2 = F.2.1.toList.isEmpty
theorem route_fin {ls : List It} {al : List An} (hf : formB ls = true) (hal : rightA al = true) : ∀ (n i f : Nat) (s : St), ls.length + 1 - i ≤ n → i ≤ ls.length + 1 → ls.length - i ≤ f → InvW ls i s → FinR (routeL al f (ls.drop i) s)
 | 0, i, f, s, hn, hi, hfu, hI => by
  have h24 := (form_at hf).1
  rw [List.drop_eq_nil_of_le (by omega), route_nil]
  have := hI.2.1; have := hI.2.2.1; have := hI.2.2.2.1
  exact ⟨hI.1, by show _ ≤ _; dsimp only; omega, by show _ ≤ _; dsimp only; omega, by dsimp only; rw [BytM.toList_eq]; rfl⟩
 | n + 1, i, f, s, hn, hi, hfu, hI => by
  have h24 := (form_at hf).1
  by_cases hlt : i < ls.length
  ·cases hs : stopB al (ls.getD i it0)
   ·obtain ⟨f', h1, h2⟩ := come_next hlt hs hfu rfl (else_same hf hlt)
    rw [← h2]
    obtain ⟨h3, h4⟩ := next_len ls s.2.1 (ls.getD i it0) i hlt
    exact route_fin hf hal n _ f' _ (by omega) h4 h1 (InvW.mono (by omega) (InvW.step hf hal i s hlt hI hs))
   ·obtain ⟨g, rfl⟩ : ∃ g, f = g + 1 := ⟨f - 1, by omega⟩
    rw [drop_it ls i hlt, route_halts hs]
    have hn := name_full (ask_name hf hlt hs)
    have h1 : ik (ls.getD i it0) = 1 := of_decide_eq_true (Bool.and_eq_true_iff.1 hs).1
    have h2 : fitsQ al (ls.getD i it0) = false := by have := (Bool.and_eq_true_iff.1 hs).2; simpa using this
    have := hI.2.1; have := hI.2.2.1; have := hI.2.2.2.1
    obtain ⟨P, K, B⟩ := s
    unfold stepS
    rw [if_pos h1, if_neg (by rw [h2]; decide)]
    dsimp only at *
    exact ⟨hI.1, by simp; omega, by dsimp only; omega, hn.symm⟩
  ·rw [List.drop_eq_nil_of_le (by omega), route_nil]
   have := hI.2.1; have := hI.2.2.1; have := hI.2.2.2.1
   exact ⟨hI.1, by show _ ≤ _; dsimp only; omega, by show _ ≤ _; dsimp only; omega, by dsimp only; rw [BytM.toList_eq]; rfl⟩
theorem blk_from {w : World} {F : Nat} {D : DataW Value} {al : List An} {s : List UInt8} {v : Value} {b : Nat} (h : Holds w F D al al.length) (hv : ∀ z, D.atKey (.string s) z = .held v) (hb : BookW.Blk v b) : F ≤ b := by
 obtain ⟨h1, h2⟩ := holds_mem h
 by_cases hm : s ∈ namesA al
 ·obtain ⟨q, hq, rfl⟩ := List.mem_map.1 hm
  obtain ⟨u, hu, hat⟩ := h1 q hq
  have e := held_inj hv hat
  subst e
  obtain ⟨a, cap, rfl, _, _, hfr, _⟩ := hu
  exact blk_fresh hb hfr
 ·have := (hv (.map [])).symm.trans (h2 s hm (.map []))
  cases this
end Go.Proofs.YtmbhmknfipdadaaGreatDoor.RteI
