/- Texts of ours, laid together. -/
import Derived.Test.YtmbhmknfipdadaaGreatDoorBd18
import Derived.Test.YtmbhmknfipdadaaGreatDoorBd35
import Derived.Test.YtmbhmknfipdadaaGreatDoorBd8
namespace Go.Proofs.YtmbhmknfipdadaaGreatDoor.EvlM
open Go.RowKit
open PrtW PrtM TexM
open AnsW (An kd nu cd tx told rightA)
open FixS FixTi
abbrev Rs := Int × Int
abbrev rv (r : Rs) : Value := .agg #[.int .i64 r.1, .int .i64 r.2]
def truthR (b : Bool) : Rs := if b = true then (2, 1) else (2, 0)
def fieldR (k n : Int) : Rs := if k = 1 ∨ k = 2 then (1, n) else if k = 3 ∨ k = 4 then (4, 0) else (3, 0)
def hasR (k : Int) (h : Bool) : Rs := if k = 3 then truthR h else if k = 1 ∨ k = 2 ∨ k = 4 then (4, 0) else (3, 0)
def leafR (ls : List An) (p : Pt) : Rs :=
 if p.1 = 1 then (1, p.2.1) else if p.1 = 2 then fieldR (kd (told ls p.2.2)) (nu (told ls p.2.2)) else if p.1 = 12 then hasR (kd (told ls p.2.2)) ((cd (told ls p.2.2)).contains p.2.1)
 else truthR (decide (1 ≤ kd (told ls p.2.2) ∧ kd (told ls p.2.2) ≤ 4))
def badR (a b : Rs) : Int := if a.1 = 4 ∨ b.1 = 4 then 4 else if a.1 = 3 ∨ b.1 = 3 then 3 else 0
def outRs (o : Int × Int) : Rs := if o.2 = 0 then (1, o.1) else (4, 0)
def numR (x a b : Int) : Rs := if x = 6 then truthR (decide (a = b)) else if x = 7 then truthR (decide (a < b)) else if x = 8 then truthR (decide (a ≤ b))
 else if x = 3 then outRs (plusR a b) else if x = 4 then outRs (minusR a b) else outRs (timesR a b)
def twoR (x : Int) (a b : Rs) : Rs :=
 if x = 9 then (if a = (2, 0) ∨ b = (2, 0) then (2, 0) else if badR a b = 0 then (2, 1) else (badR a b, 0))
 else if x = 10 then (if a = (2, 1) ∨ b = (2, 1) then (2, 1) else if badR a b = 0 then (2, 0) else (badR a b, 0))
 else if badR a b = 0 then numR x a.2 b.2 else (badR a b, 0)
def turnR (a : Rs) : Rs := if a.1 = 2 then truthR (decide (a.2 = 0)) else a
def ev (ls : List An) : Nat → List Pt → Rs
 | 0, _ => (0, 0)
 | _ + 1, [] => (0, 0)
 | d + 1, p :: r => if many p.1 = 0 then leafR ls p else if many p.1 = 1 then turnR (ev ls d r) else twoR p.1 (ev ls d r) (ev ls d (rest d r))
theorem ev_succ (ls : List An) (d : Nat) (p : Pt) (r : List Pt) : ev ls (d + 1) (p :: r) = if many p.1 = 0 then leafR ls p else if many p.1 = 1 then turnR (ev ls d r) else twoR p.1 (ev ls d r) (ev ls d (rest d r)) := rfl
def Wf (a : Rs) : Prop := a.1 = 2 → a.2 = 0 ∨ a.2 = 1
theorem truth_wf (b : Bool) : Wf (truthR b) := by cases b <;> simp [Wf, truthR]
theorem wf_out (o : Int × Int) : Wf (outRs o) := by unfold outRs; split <;> simp [Wf]
theorem wf_num (x a b : Int) : Wf (numR x a b) := by
 unfold numR
 repeat' split
 all_goals first | exact truth_wf _ | exact wf_out _
theorem wf_bad (a b : Rs) : Wf (badR a b, 0) := by simp [Wf]
theorem wf_two (x : Int) (a b : Rs) : Wf (twoR x a b) := by
 unfold twoR
 repeat' split
 all_goals first | exact wf_bad _ _ | exact wf_num _ _ _ | simp [Wf]
theorem wf_turn {a : Rs} (h : Wf a) : Wf (turnR a) := by
 unfold turnR
 split
 ·exact truth_wf _
 ·exact h
theorem wf_leaf (ls : List An) (p : Pt) : Wf (leafR ls p) := by
 unfold leafR fieldR hasR
 repeat' split
 all_goals first | exact truth_wf _ | simp [Wf]
theorem ev_wf (ls : List An) : ∀ d l, Wf (ev ls d l)
 | 0, _ => by simp [ev, Wf]
 | _ + 1, [] => by simp [ev, Wf]
 | d + 1, p :: r => by
  rw [ev_succ]
  repeat' split
  ·exact wf_leaf _ _
  ·exact wf_turn (ev_wf ls d r)
  ·exact wf_two _ _ _
theorem turn_minus {a : Rs} (h : Wf a) (h2 : a.1 = 2) : turnR a = (2, 1 - a.2) := by
 unfold turnR
 rw [if_pos h2]
 rcases h h2 with h | h <;> rw [h] <;> simp [truthR]
end Go.Proofs.YtmbhmknfipdadaaGreatDoor.EvlM
namespace Go.Proofs.YtmbhmknfipdadaaGreatDoor.RteM
open Go.RowKit
open PrtW ItmW ItmM FrmM NameW FitW EvlM ValK
open AnsW (An an0 nm nu told putA rightA good)
abbrev vk (p : An) : Int := AnsW.kd p
abbrev vc (p : An) : List Int := AnsW.cd p
abbrev vt (p : An) : ByteArray := AnsW.tx p
def skipL (other : Bool) : List It → Nat → Nat
 | [], _ => 0
 | q :: r, d => if ik q = 2 then 1 + skipL other r (d + 1) else if ik q = 3 then (if d = 0 ∧ other = true then 0 else 1 + skipL other r d) else if ik q = 4 then (if d = 0 then 0 else 1 + skipL other r (d - 1)) else 1 + skipL other r d
theorem skip_len (other : Bool) : ∀ (r : List It) (d : Nat), skipL other r d ≤ r.length
 | [], _ => Nat.le_refl _
 | q :: r, d => by
  have h0 := skip_len other r d
  have h1 := skip_len other r (d + 1)
  have h2 := skip_len other r (d - 1)
  unfold skipL
  rw [List.length_cons]
  split
  ·omega
  ·split
   ·split <;> omega
   ·split
    ·split <;> omega
    ·omega
abbrev St := List ByteArray × List An × List ByteArray
abbrev Rt := St × ByteArray × Bool
def ansAt (a : List An) (s : ByteArray) : An := (s, vk (told a s), nu (told a s), vc (told a s), vt (told a s))
def fitsQ (a : List An) (q : It) : Bool := fitB (ity q) (ilo q) (ihi q) (vk (told a (inm q))) (nu (told a (inm q))) (vc (told a (inm q))) (vt (told a (inm q)))
def compK (K : List An) (q : It) : List An := if (ev K 6 (iex q)).1 = 1 ∧ -1000000000 ≤ (ev K 6 (iex q)).2 ∧ (ev K 6 (iex q)).2 ≤ 1000000000 then putA K (inm q, 1, (ev K 6 (iex q)).2, [], ByteArray.empty) else K
def routeL (a : List An) : Nat → List It → St → Rt
 | 0, _, s => (s, ByteArray.empty, true)
 | _ + 1, [], s => (s, ByteArray.empty, true)
 | f + 1, q :: r, (P, K, B) =>
  if ik q = 1 then (if fitsQ a q = true then routeL a f r (P ++ [inm q], putA K (ansAt a (inm q)), B) else ((P ++ [inm q], K, B), inm q, false))
  else if ik q = 2 then (if ev K 6 (iex q) = (2, 1) then routeL a f r (P, K, B) else routeL a f (r.drop (skipL true r 0 + 1)) (P, K, B))
  else if ik q = 3 then routeL a f (r.drop (skipL false r 0 + 1)) (P, K, B)
  else if ik q = 5 then routeL a f r (P, K, if ev K 6 (iex q) = (2, 0) then B ++ [inm q] else B)
  else if ik q = 6 then routeL a f r (P, compK K q, B)
  else routeL a f r (P, K, B)
def routeF (ls : List It) (a : List An) : Rt := if formB ls = true ∧ rightA a = true then routeL a ls.length ls ([], [], []) else (([], [], []), ByteArray.empty, false)
theorem route_nil (a : List An) (f : Nat) (s : St) : routeL a f [] s = (s, ByteArray.empty, true) := by cases f <;> rfl
section
variable {a : List An} {f : Nat} {q : It} {r : List It} {P B : List ByteArray} {K : List An}
theorem route_ask (h : ik q = 1) (hf : fitsQ a q = true) : routeL a (f + 1) (q :: r) (P, K, B) = routeL a f r (P ++ [inm q], putA K (ansAt a (inm q)), B) := by
 show (if ik q = 1 then _ else _) = _
 rw [if_pos h, if_pos hf]
theorem route_stop (h : ik q = 1) (hf : fitsQ a q = false) : routeL a (f + 1) (q :: r) (P, K, B) = ((P ++ [inm q], K, B), inm q, false) := by
 show (if ik q = 1 then _ else _) = _
 rw [if_pos h, if_neg (by rw [hf]; decide)]
theorem route_if (h : ik q = 2) (he : ev K 6 (iex q) = (2, 1)) : routeL a (f + 1) (q :: r) (P, K, B) = routeL a f r (P, K, B) := by
 show (if ik q = 1 then _ else _) = _
 rw [if_neg (by omega), if_pos h, if_pos he]
theorem route_pass (h : ik q = 2) (he : ¬ ev K 6 (iex q) = (2, 1)) : routeL a (f + 1) (q :: r) (P, K, B) = routeL a f (r.drop (skipL true r 0 + 1)) (P, K, B) := by
 show (if ik q = 1 then _ else _) = _
 rw [if_neg (by omega), if_pos h, if_neg he]
theorem route_else (h : ik q = 3) : routeL a (f + 1) (q :: r) (P, K, B) = routeL a f (r.drop (skipL false r 0 + 1)) (P, K, B) := by
 show (if ik q = 1 then _ else _) = _
 rw [if_neg (by omega), if_neg (by omega), if_pos h]
theorem route_check (h : ik q = 5) : routeL a (f + 1) (q :: r) (P, K, B) = routeL a f r (P, K, if ev K 6 (iex q) = (2, 0) then B ++ [inm q] else B) := by
 show (if ik q = 1 then _ else _) = _
 rw [if_neg (by omega), if_neg (by omega), if_neg (by omega), if_pos h]
theorem route_comp (h : ik q = 6) : routeL a (f + 1) (q :: r) (P, K, B) = routeL a f r (P, compK K q, B) := by
 show (if ik q = 1 then _ else _) = _
 rw [if_neg (by omega), if_neg (by omega), if_neg (by omega), if_neg (by omega), if_pos h]
theorem route_other (h1 : ¬ ik q = 1) (h2 : ¬ ik q = 2) (h3 : ¬ ik q = 3) (h5 : ¬ ik q = 5) (h6 : ¬ ik q = 6) : routeL a (f + 1) (q :: r) (P, K, B) = routeL a f r (P, K, B) := by
 show (if ik q = 1 then _ else _) = _
 rw [if_neg h1, if_neg h2, if_neg h3, if_neg h5, if_neg h6]
end
theorem put_known {K : List An} {p : An} (h : rightA K = true) (hl : K.length < 30) (hg : good p = true) : rightA (putA K p) = true ∧ (putA K p).length ≤ K.length + 1 := by
 refine ⟨AnsW.putA_right h hg (.inl hl), ?_⟩
 rw [AnsW.putA_len (AnsW.right_ris h).2.1]
 split <;> omega
theorem fits_found {a : List An} {q : It} (hf : fitsQ a q = true) : ∃ i, AnsW.Found a (inm q) i := by
 rcases AnsW.found_or a (inm q) with h | h
 ·exact h
 ·unfold fitsQ at hf
  rw [AnsW.told_lacks h] at hf
  rw [show fitB (ity q) (ilo q) (ihi q) (vk an0) (nu an0) (vc an0) (vt an0) = false from rfl] at hf
  cases hf
theorem ans_good {a : List An} {q : It} (ha : rightA a = true) (hf : fitsQ a q = true) : good (ansAt a (inm q)) = true := by
 obtain ⟨i, hi⟩ := fits_found hf
 have h1 := (AnsW.right_ris ha).2.2 _ (AnsW.getD_mem hi.1)
 unfold ansAt
 rw [AnsW.told_found ha hi]
 have h2 := hi.2
 generalize a.getD i an0 = p at h1 h2
 obtain ⟨s, k, n, zs, t⟩ := p
 obtain rfl : s = inm q := h2
 exact h1
theorem comp_good {q : It} (hn : nameB (inm q) = true) {n : Int} (h1 : -1000000000 ≤ n) (h2 : n ≤ 1000000000) : good (inm q, 1, n, [], ByteArray.empty) = true := by
 have hr : ValM.right 1 n [] ByteArray.empty = true := by
  unfold ValM.right
  exact decide_eq_true (.inr (.inl ⟨rfl, h1, h2, rfl, rfl⟩))
 unfold good
 rw [Bool.and_eq_true]
 refine ⟨hn, ?_⟩
 unfold answeredB
 rw [hr]; rfl
theorem comp_known {K : List An} {q : It} (h : rightA K = true) (hl : K.length < 30) (hn : nameB (inm q) = true) : rightA (compK K q) = true ∧ (compK K q).length ≤ K.length + 1 := by
 unfold compK
 split
 ·next hc => exact put_known h hl (comp_good hn hc.2.1 hc.2.2)
 ·exact ⟨h, by omega⟩
theorem skip_same : ∀ (r : List It) (d : Nat) (op inner : List Bool) {fin : List Bool}, inner.length = d → blkF r (op ++ [true] ++ inner) = some fin → skipL true r d = skipL false r d
 | [], _, _, _, _, _, _ => rfl
 | q :: r, d, op, inner, fin, hd, h => by
  rw [blk_cons] at h
  unfold skipL
  by_cases h2 : ik q = 2
  ·rw [if_pos h2, if_pos h2]
   rw [h2] at h
   by_cases h6 : 6 ≤ (op ++ [true] ++ inner).length
   ·rw [step_deep h6] at h; cases h
   ·rw [step_if h6] at h
    rw [skip_same r (d + 1) op (inner ++ [false]) (by simp [hd]) (by simpa using h)]
  ·rw [if_neg h2, if_neg h2]
   by_cases h3 : ik q = 3
   ·rw [if_pos h3, if_pos h3]
    rw [h3] at h
    rcases Nat.eq_zero_or_pos d with rfl | hp
    ·obtain rfl := List.length_eq_zero_iff.1 hd
     rw [List.append_nil, step_else_two] at h
     cases h
    ·rw [if_neg (by omega), if_neg (by omega)]
     obtain ⟨q', b, rfl⟩ := snoc_of (op := inner) (by omega)
     rw [← List.append_assoc] at h
     cases b
     ·rw [FrmM.step_else] at h
      rw [skip_same r d op (q' ++ [true]) (by simpa using hd) (by simpa using h)]
     ·rw [step_else_two] at h; cases h
   ·rw [if_neg h3, if_neg h3]
    by_cases h4 : ik q = 4
    ·rw [if_pos h4, if_pos h4]
     rw [h4] at h
     rcases Nat.eq_zero_or_pos d with rfl | hp
     ·rw [if_pos rfl, if_pos rfl]
     ·rw [if_neg (by omega), if_neg (by omega)]
      obtain ⟨q', b, rfl⟩ := snoc_of (op := inner) (by omega)
      rw [← List.append_assoc, FrmM.step_end] at h
      rw [skip_same r (d - 1) op q' (by simp at hd; omega) h]
    ·rw [if_neg h4, if_neg h4]
     rw [step_other h2 h3 h4] at h
     rw [skip_same r d op inner hd h]
end Go.Proofs.YtmbhmknfipdadaaGreatDoor.RteM
namespace Go.Proofs.YtmbhmknfipdadaaGreatDoor.RteS
open Go.RowKit
open PrtW ItmW FrmM RteM
theorem hid {p : Prop} (h : p) : Hid p := h
theorem skip_at {o : Bool} {ls : List It} {i d : Nat} (h : i < ls.length) : skipL o (ls.drop i) d = (if ik (ls.getD i it0) = 2 then 1 + skipL o (ls.drop (i + 1)) (d + 1) else if ik (ls.getD i it0) = 3 then (if d = 0 ∧ o = true then 0 else 1 + skipL o (ls.drop (i + 1)) d) else if ik (ls.getD i it0) = 4 then (if d = 0 then 0 else 1 + skipL o (ls.drop (i + 1)) (d - 1)) else 1 + skipL o (ls.drop (i + 1)) d) := by
 rw [drop_it ls i h]; rfl
theorem skip_end {o : Bool} {ls : List It} {i d : Nat} (h : ls.length ≤ i) : skipL o (ls.drop i) d = 0 := by rw [List.drop_eq_nil_of_le h]; rfl
set_option maxRecDepth 10000 in
set_option maxHeartbeats 3200000 in
theorem spec_skip (a : Option Addr) (cap : Nat) (ls : List It) (k : Nat) (o : Bool) (w : World) (hc : Its w a ls) (hk : k < ls.length) :
  Calls Tryz.prog 59 #[.slice a ls.length cap, .int .i64 (k : Int), .bool o] w fun e w' => e = .returned (.int .i64 ((k + 1 + skipL o (ls.drop (k + 1)) 0 : Nat) : Int)) ∧ w' = w := by
 have HC := hid hc
 have hl := hc.1
 clear hc
 obtain ⟨F, hF⟩ : ∃ F, Hid (k + 1 + skipL o (ls.drop (k + 1)) 0 = F) := ⟨_, rfl⟩
 rw [hF.out]
 go_enter Tryz.func59, Tryz.ntmps59
 go_wp2
 go_loop [7, 8] (fun dv iv => ∃ i d : Nat, i ≤ ls.length ∧ d ≤ i ∧ iv = .int .i64 (i : Int) ∧ dv = .int .i64 (d : Int) ∧ Hid (i + skipL o (ls.drop i) d = F)) (fun _ iv => ls.length - (intOf iv).toNat)
 case atStart => exact ⟨k + 1, 0, by omega, Nat.zero_le _, by go_num, rfl, hF⟩
 case round =>
  obtain ⟨i, d, hi, hd, rfl, rfl, hFi⟩ := hrel
  by_cases hlt : i < ls.length
  ·obtain ⟨_, b, p, ai, ci, rfl, hb, hE, _⟩ := HC.out.at (Below.refl _ _) hlt
   have c0 := hE.1
   have hs := skip_at (o := o) (d := d) hlt
   generalize ik (ls.getD i it0) = kk at c0 hs
   have HS := hid hs
   clear hE hs
   by_cases h2 : kk = 2
   ·subst h2
    have HN : Hid (i + 1 + skipL o (ls.drop (i + 1)) (d + 1) = F) := by have h := HS.out; rw [if_pos rfl] at h; have := hFi.out; show _ = _; omega
    clear HS hFi
    go_wp2
    refine ⟨⟨i + 1, d + 1, by omega, by omega, by go_num, by go_num, HN⟩, by simp [intOf]; omega⟩
   ·by_cases h3 : kk = 3
    ·subst h3
     cases o
     ·have HN : Hid (i + 1 + skipL false (ls.drop (i + 1)) d = F) := by have h := HS.out; rw [if_neg h2, if_pos rfl, if_neg (by simp)] at h; have := hFi.out; show _ = _; omega
      clear HS hFi
      by_cases hd0 : d = 0
      ·subst hd0
       go_wp2
       refine ⟨⟨i + 1, 0, by omega, by omega, by go_num, rfl, HN⟩, by simp [intOf]; omega⟩
      ·have hd1 : ¬ (d : Int) = 0 := by omega
       go_wp2
       refine ⟨⟨i + 1, d, by omega, by omega, by go_num, rfl, HN⟩, by simp [intOf]; omega⟩
     ·by_cases hd0 : d = 0
      ·subst hd0
       have HN : Hid (i = F) := by have h := HS.out; rw [if_neg h2, if_pos rfl, if_pos ⟨rfl, rfl⟩] at h; have := hFi.out; show _ = _; omega
       clear HS hFi
       go_wp2
       go_ret
       exact ⟨by rw [HN.out]; rfl, rfl⟩
      ·have hd1 : ¬ (d : Int) = 0 := by omega
       have HN : Hid (i + 1 + skipL true (ls.drop (i + 1)) d = F) := by have h := HS.out; rw [if_neg h2, if_pos rfl, if_neg (by simp [hd0])] at h; have := hFi.out; show _ = _; omega
       clear HS hFi
       go_wp2
       refine ⟨⟨i + 1, d, by omega, by omega, by go_num, rfl, HN⟩, by simp [intOf]; omega⟩
    ·by_cases h4 : kk = 4
     ·subst h4
      by_cases hd0 : d = 0
      ·subst hd0
       have HN : Hid (i = F) := by have h := HS.out; rw [if_neg h2, if_neg h3, if_pos rfl, if_pos rfl] at h; have := hFi.out; show _ = _; omega
       clear HS hFi
       go_wp2
       go_ret
       exact ⟨by rw [HN.out]; rfl, rfl⟩
      ·have hd1 : ¬ (d : Int) = 0 := by omega
       have hd2 : 1 ≤ d := by omega
       have HN : Hid (i + 1 + skipL o (ls.drop (i + 1)) (d - 1) = F) := by have h := HS.out; rw [if_neg h2, if_neg h3, if_pos rfl, if_neg hd0] at h; have := hFi.out; show _ = _; omega
       clear HS hFi
       go_wp2
       refine ⟨⟨i + 1, d - 1, by omega, by omega, by go_num, by go_num, HN⟩, by simp [intOf]; omega⟩
     ·have HN : Hid (i + 1 + skipL o (ls.drop (i + 1)) d = F) := by have h := HS.out; rw [if_neg h2, if_neg h3, if_neg h4] at h; have := hFi.out; show _ = _; omega
      clear HS hFi
      go_wp2
      refine ⟨⟨i + 1, d, by omega, by omega, by go_num, rfl, HN⟩, by simp [intOf]; omega⟩
  ·obtain rfl : i = ls.length := by omega
   have HN : Hid (ls.length = F) := by have h := skip_end (o := o) (d := d) (Nat.le_refl ls.length); have := hFi.out; show _ = _; omega
   clear hFi
   go_wp2
   go_ret
   exact ⟨by rw [HN.out]; rfl, rfl⟩
set_option maxRecDepth 10000 in
set_option maxHeartbeats 3200000 in
theorem impl_mark (a : Option Addr) (cap : Nat) (ls : List It) (k : Nat) (w : World) (hc : Its w a ls) (hk : k < ls.length) :
  Calls Tryz.prog 96 #[.slice a ls.length cap, .int .i64 (k : Int)] w fun e w' => e = .returned (.int .i64 ((k + 1 + skipL true (ls.drop (k + 1)) 0 : Nat) : Int)) ∧ w' = w := by
 have HC := hid hc
 have hl := hc.1
 clear hc
 obtain ⟨F, hF⟩ : ∃ F, Hid (k + 1 + skipL true (ls.drop (k + 1)) 0 = F) := ⟨_, rfl⟩
 rw [hF.out]
 go_enter Tryz.func96, Tryz.ntmps96
 go_wp2
 go_loop [1, 5] (fun iv dv => ∃ i d : Nat, i ≤ ls.length ∧ d ≤ i ∧ iv = .int .i64 (i : Int) ∧ dv = .int .i64 (d : Int) ∧ Hid (i + skipL true (ls.drop i) d = F)) (fun iv _ => ls.length - (intOf iv).toNat)
 case atStart => exact ⟨k + 1, 0, by omega, Nat.zero_le _, by go_num, rfl, hF⟩
 case round =>
  obtain ⟨i, d, hi, hd, rfl, rfl, hFi⟩ := hrel
  by_cases hlt : i < ls.length
  ·obtain ⟨_, b, p, ai, ci, rfl, hb, hE, _⟩ := HC.out.at (Below.refl _ _) hlt
   have c0 := hE.1
   have hs := skip_at (o := true) (d := d) hlt
   generalize ik (ls.getD i it0) = kk at c0 hs
   have HS := hid hs
   clear hE hs
   by_cases hd0 : d = 0
   ·subst hd0
    by_cases h2 : kk = 2
    ·subst h2
     have HN : Hid (i + 1 + skipL true (ls.drop (i + 1)) (0 + 1) = F) := by have h := HS.out; rw [if_pos rfl] at h; have := hFi.out; show _ = _; omega
     clear HS hFi
     go_wp2
     refine ⟨⟨i + 1, 1, by omega, by omega, by go_num, by go_num, HN⟩, by simp [intOf]; omega⟩
    ·by_cases h3 : kk = 3
     ·subst h3
      have HN : Hid (i = F) := by have h := HS.out; rw [if_neg h2, if_pos rfl, if_pos ⟨rfl, rfl⟩] at h; have := hFi.out; show _ = _; omega
      clear HS hFi
      go_wp2
      go_ret
      exact ⟨by rw [HN.out]; rfl, rfl⟩
     ·by_cases h4 : kk = 4
      ·subst h4
       have HN : Hid (i = F) := by have h := HS.out; rw [if_neg h2, if_neg h3, if_pos rfl, if_pos rfl] at h; have := hFi.out; show _ = _; omega
       clear HS hFi
       go_wp2
       go_ret
       exact ⟨by rw [HN.out]; rfl, rfl⟩
      ·have HN : Hid (i + 1 + skipL true (ls.drop (i + 1)) 0 = F) := by have h := HS.out; rw [if_neg h2, if_neg h3, if_neg h4] at h; have := hFi.out; show _ = _; omega
       have e3 : (kk == 3) = false := by simpa using h3
       have e4 : (kk == 4) = false := by simpa using h4
       clear HS hFi
       go_wp2
       refine ⟨⟨i + 1, 0, by omega, by omega, by go_num, rfl, HN⟩, by simp [intOf]; omega⟩
   ·have hd1 : ¬ (d : Int) = 0 := by omega
    have hd2 : 1 ≤ d := by omega
    by_cases h2 : kk = 2
    ·subst h2
     have HN : Hid (i + 1 + skipL true (ls.drop (i + 1)) (d + 1) = F) := by have h := HS.out; rw [if_pos rfl] at h; have := hFi.out; show _ = _; omega
     clear HS hFi
     go_wp2
     refine ⟨⟨i + 1, d + 1, by omega, by omega, by go_num, by go_num, HN⟩, by simp [intOf]; omega⟩
    ·by_cases h4 : kk = 4
     ·subst h4
      have HN : Hid (i + 1 + skipL true (ls.drop (i + 1)) (d - 1) = F) := by have h := HS.out; rw [if_neg h2, if_neg (by decide), if_pos rfl, if_neg hd0] at h; have := hFi.out; show _ = _; omega
      clear HS hFi
      go_wp2
      refine ⟨⟨i + 1, d - 1, by omega, by omega, by go_num, by go_num, HN⟩, by simp [intOf]; omega⟩
     ·have HN : Hid (i + 1 + skipL true (ls.drop (i + 1)) d = F) := by
       have h := HS.out
       have := hFi.out
       show _ = _
       rw [if_neg h2] at h
       by_cases h3 : kk = 3
       ·rw [if_pos h3, if_neg (by simp [hd0])] at h; omega
       ·rw [if_neg h3, if_neg h4] at h; omega
      clear HS hFi
      go_wp2
      refine ⟨⟨i + 1, d, by omega, by omega, by go_num, rfl, HN⟩, by simp [intOf]; omega⟩
  ·obtain rfl : i = ls.length := by omega
   have HN : Hid (ls.length = F) := by have h := skip_end (o := true) (d := d) (Nat.le_refl ls.length); have := hFi.out; show _ = _; omega
   clear hFi
   go_wp2
   go_ret
   exact ⟨by rw [HN.out]; rfl, rfl⟩
end Go.Proofs.YtmbhmknfipdadaaGreatDoor.RteS
namespace Go.Proofs.YtmbhmknfipdadaaGreatDoor.EvlS
open Go.RowKit
open EvlM ValW
theorem hid {p : Prop} (h : p) : Hid p := h
theorem below_one (w : World) (o : Obj) : Below w.heap.size w (w.alloc o) := (Below.refl _ _).alloc (Nat.le_refl _) o
theorem res2 {w w1 : World} {g : Nat} {v0 v1 : Value} {B : Nat} (h : w.heap[g]? = some (.cells #[v0, v1] 86 (0, 0))) (hB : Below B w w1) (hg : g < B) :
  w1.heap[g]? = some (.cells #[v0, v1] 86 (0, 0)) ∧ w1.cell? ⟨g, 0, none⟩ = some v0 ∧ w1.cell? ⟨g, 1, none⟩ = some v1 ∧ w1.frozen? ⟨g, 0, none⟩ = false ∧ w1.frozen? ⟨g, 1, none⟩ = false := by
 have e : w1.heap[g]? = some (.cells #[v0, v1] 86 (0, 0)) := by rw [hB.block g hg]; exact h
 exact ⟨e, by simp [World.cell?, e], by simp [World.cell?, e], by simp [World.frozen?, e], by simp [World.frozen?, e]⟩
theorem spec_truth (b : Bool) (w : World) : Calls Tryz.prog 58 #[.bool b] w fun e w' => e = .returned (rv (truthR b)) ∧ Below w.heap.size w w' := by
 cases b
 all_goals
  go_enter Tryz.func58, Tryz.ntmps58
  go_wp2
  refine bodyPost_ret (v := _) (by simp [results, Tryz.results58, go_sem]; exact ⟨rfl, rfl⟩) rfl ⟨rfl, by go_grown⟩
theorem impl_truth (b : Bool) (w : World) : Calls Tryz.prog 95 #[.bool b] w fun e w' => e = .returned (rv (truthR b)) ∧ Below w.heap.size w w' := by
 cases b
 all_goals
  go_enter Tryz.func95, Tryz.ntmps95
  go_wp2
  refine bodyPost_ret (v := _) (by simp [results, Tryz.results95, go_sem]; exact ⟨rfl, rfl⟩) rfl ⟨rfl, by go_grown⟩
set_option maxHeartbeats 800000 in
theorem spec_field (k n : Int) (a : Option Addr) (len cap : Nat) (t : ByteArray) (w : World) : Calls Tryz.prog 113 #[av k n a len cap t] w fun e w' => e = .returned (rv (fieldR k n)) ∧ Below w.heap.size w w' := by
 obtain ⟨r, hr⟩ : ∃ r, Hid (fieldR k n = r) := ⟨_, rfl⟩
 rw [hr.out]
 rcases (by omega : k = 1 ∨ k = 2 ∨ k = 3 ∨ k = 4 ∨ (k ≠ 1 ∧ k ≠ 2 ∧ k ≠ 3 ∧ k ≠ 4)) with rfl | rfl | rfl | rfl | ⟨h1, h2, h3, h4⟩
 ·obtain rfl : (1, n) = r := by rw [← hr.out]; rfl
  clear hr
  go_enter Tryz.func113, Tryz.ntmps113
  go_wp2
  refine bodyPost_ret (v := rv (1, n)) (by simp [results, Tryz.results113, go_sem]) rfl ⟨rfl, by go_grown⟩
 ·obtain rfl : (1, n) = r := by rw [← hr.out]; rfl
  clear hr
  go_enter Tryz.func113, Tryz.ntmps113
  go_wp2
  refine bodyPost_ret (v := rv (1, n)) (by simp [results, Tryz.results113, go_sem]) rfl ⟨rfl, by go_grown⟩
 ·obtain rfl : (4, 0) = r := by rw [← hr.out]; rfl
  clear hr
  go_enter Tryz.func113, Tryz.ntmps113
  go_wp2
  refine bodyPost_ret (v := rv (4, 0)) (by simp [results, Tryz.results113, go_sem]) rfl ⟨rfl, by go_grown⟩
 ·obtain rfl : (4, 0) = r := by rw [← hr.out]; rfl
  clear hr
  go_enter Tryz.func113, Tryz.ntmps113
  go_wp2
  refine bodyPost_ret (v := rv (4, 0)) (by simp [results, Tryz.results113, go_sem]) rfl ⟨rfl, by go_grown⟩
 ·obtain rfl : (3, 0) = r := by rw [← hr.out]; unfold fieldR; rw [if_neg (by omega), if_neg (by omega)]
  have e1 : (k == 1) = false := by simp [h1]
  have e2 : (k == 2) = false := by simp [h2]
  have e3 : (k == 3) = false := by simp [h3]
  have e4 : (k == 4) = false := by simp [h4]
  clear hr
  go_enter Tryz.func113, Tryz.ntmps113
  go_wp2
  refine bodyPost_ret (v := rv (3, 0)) (by simp [results, Tryz.results113, go_sem]) rfl ⟨rfl, by go_grown⟩
set_option maxHeartbeats 800000 in
theorem spec_has (k n : Int) (a : Option Addr) (cap : Nat) (zs : List Int) (t : ByteArray) (c : Int) (w : World) (hc : Codes w a zs) : Calls Tryz.prog 114 #[av k n a zs.length cap t, .int .i64 c] w fun e w' => e = .returned (rv (hasR k (zs.contains c))) ∧ Below w.heap.size w w' := by
 have HC := hid hc
 clear hc
 obtain ⟨r, hr⟩ : ∃ r, Hid (hasR k (zs.contains c) = r) := ⟨_, rfl⟩
 rw [hr.out]
 rcases (by omega : k = 3 ∨ k = 1 ∨ k = 2 ∨ k = 4 ∨ (k ≠ 1 ∧ k ≠ 2 ∧ k ≠ 3 ∧ k ≠ 4)) with rfl | rfl | rfl | rfl | ⟨h1, h2, h3, h4⟩
 ·obtain ⟨q, hq⟩ : ∃ q, Hid (zs.contains c = q) := ⟨_, rfl⟩
  have hr2 : Hid (truthR q = r) := by show _ = _; rw [← hr.out, hq.out]; rfl
  clear hr
  obtain ⟨r0, r1⟩ := r
  go_enter Tryz.func114, Tryz.ntmps114
  go_wp2_with fail
  refine (ValK.spec_hs 3 n a cap zs t c _ (HC.out.on ?hb)).mono ?_
  case hb => go_grown
  rintro e w1 ⟨rfl, hB1⟩
  rw [hq.out]
  have HB1 : Hid (Below w.heap.size w w1) := Below.trans ?hb2 (hB1.mono (by simp; omega))
  case hb2 => go_grown
  have HG1 : Hid (w1.heap[w.heap.size + 1]? = some (.cells #[.int .i64 0, .int .i64 0] 86 (0, 0))) := by
   show _ = _
   rw [hB1.block _ (by simp)]
   have := heap_alloc_new (w.alloc (.cells #[.int .i64 3, .int .i64 n, .slice a zs.length cap, .string t] 59)) (.cells #[.int .i64 0, .int .i64 0] 86)
   simpa using this
  clear hB1 HC
  go_wp2_with fail
  refine (spec_truth q w1).mono ?_
  rintro e w2 ⟨rfl, hB2⟩
  rw [hr2.out]
  have HB2 : Hid (Below w.heap.size w w2) := HB1.out.trans (hB2.mono HB1.out.size)
  obtain ⟨_, x0, x1, f0, f1⟩ := res2 HG1.out hB2 (Array.getElem?_eq_some_iff.1 HG1.out).1
  clear hB2 HB1 HG1
  go_wp2_with fail
  refine bodyPost_ret (v := rv (r0, r1)) (by simp [results, Tryz.results114, go_sem, x0, x1]) rfl ⟨rfl, ?_⟩
  repeat (refine Below.setCell ?_ (by simp only; omega) _)
  exact HB2.out
 ·obtain rfl : (4, 0) = r := by rw [← hr.out]; rfl
  clear hr HC
  go_enter Tryz.func114, Tryz.ntmps114
  go_wp2
  refine bodyPost_ret (v := rv (4, 0)) (by simp [results, Tryz.results114, go_sem]) rfl ⟨rfl, by go_grown⟩
 ·obtain rfl : (4, 0) = r := by rw [← hr.out]; rfl
  clear hr HC
  go_enter Tryz.func114, Tryz.ntmps114
  go_wp2
  refine bodyPost_ret (v := rv (4, 0)) (by simp [results, Tryz.results114, go_sem]) rfl ⟨rfl, by go_grown⟩
 ·obtain rfl : (4, 0) = r := by rw [← hr.out]; rfl
  clear hr HC
  go_enter Tryz.func114, Tryz.ntmps114
  go_wp2
  refine bodyPost_ret (v := rv (4, 0)) (by simp [results, Tryz.results114, go_sem]) rfl ⟨rfl, by go_grown⟩
 ·obtain rfl : (3, 0) = r := by rw [← hr.out]; unfold hasR; rw [if_neg (by omega), if_neg (by omega)]
  have e1 : (k == 1) = false := by simp [h1]
  have e2 : (k == 2) = false := by simp [h2]
  have e3 : (k == 3) = false := by simp [h3]
  have e4 : (k == 4) = false := by simp [h4]
  clear hr HC
  go_enter Tryz.func114, Tryz.ntmps114
  go_wp2
  refine bodyPost_ret (v := rv (3, 0)) (by simp [results, Tryz.results114, go_sem]) rfl ⟨rfl, by go_grown⟩
open Go.RowKit
open EvlM ValW FixS FixTi FixF
theorem bad4 {a b : Rs} (h : a.1 = 4 ∨ b.1 = 4) : badR a b = 4 := by unfold badR; rw [if_pos h]
theorem bad3 {a b : Rs} (h4 : ¬ (a.1 = 4 ∨ b.1 = 4)) (h : a.1 = 3 ∨ b.1 = 3) : badR a b = 3 := by unfold badR; rw [if_neg h4, if_pos h]
theorem bad0 {a b : Rs} (h4 : ¬ (a.1 = 4 ∨ b.1 = 4)) (h : ¬ (a.1 = 3 ∨ b.1 = 3)) : badR a b = 0 := by unfold badR; rw [if_neg h4, if_neg h]
set_option maxHeartbeats 800000 in
theorem spec_bad (k1 n1 k2 n2 : Int) (w : World) : Calls Tryz.prog 135 #[rv (k1, n1), rv (k2, n2)] w fun e w' => e = .returned (.tuple #[rv (badR (k1, n1) (k2, n2), 0), .bool (decide (badR (k1, n1) (k2, n2) ≠ 0))]) ∧ Below w.heap.size w w' := by
 by_cases h1 : k1 = 4
 ·have hr : badR (k1, n1) (k2, n2) = 4 := bad4 (.inl h1)
  rw [hr]
  have e1 : (k1 == 4) = true := by simp [h1]
  clear hr
  go_enter Tryz.func135, Tryz.ntmps135
  go_wp2
  refine bodyPost_ret (v := .tuple #[rv (4, 0), .bool true]) (by simp [results, Tryz.results135, go_sem]) rfl ⟨rfl, by go_grown⟩
 by_cases h2 : k2 = 4
 ·have hr : badR (k1, n1) (k2, n2) = 4 := bad4 (.inr h2)
  rw [hr]
  have e1 : (k1 == 4) = false := by simp [h1]
  have e2 : (k2 == 4) = true := by simp [h2]
  clear hr
  go_enter Tryz.func135, Tryz.ntmps135
  go_wp2
  refine bodyPost_ret (v := .tuple #[rv (4, 0), .bool true]) (by simp [results, Tryz.results135, go_sem]) rfl ⟨rfl, by go_grown⟩
 have h4 : ¬ ((k1, n1).1 = 4 ∨ (k2, n2).1 = 4) := by simp; exact ⟨h1, h2⟩
 have e1 : (k1 == 4) = false := by simp [h1]
 have e2 : (k2 == 4) = false := by simp [h2]
 by_cases h3 : k1 = 3
 ·have hr : badR (k1, n1) (k2, n2) = 3 := bad3 h4 (.inl h3)
  rw [hr]
  have e3 : (k1 == 3) = true := by simp [h3]
  clear hr
  go_enter Tryz.func135, Tryz.ntmps135
  go_wp2
  refine bodyPost_ret (v := .tuple #[rv (3, 0), .bool true]) (by simp [results, Tryz.results135, go_sem]) rfl ⟨rfl, by go_grown⟩
 by_cases h5 : k2 = 3
 ·have hr : badR (k1, n1) (k2, n2) = 3 := bad3 h4 (.inr h5)
  rw [hr]
  have e3 : (k1 == 3) = false := by simp [h3]
  have e5 : (k2 == 3) = true := by simp [h5]
  clear hr
  go_enter Tryz.func135, Tryz.ntmps135
  go_wp2
  refine bodyPost_ret (v := .tuple #[rv (3, 0), .bool true]) (by simp [results, Tryz.results135, go_sem]) rfl ⟨rfl, by go_grown⟩
 ·have hr : badR (k1, n1) (k2, n2) = 0 := bad0 h4 (by simp; exact ⟨h3, h5⟩)
  rw [hr]
  have e3 : (k1 == 3) = false := by simp [h3]
  have e5 : (k2 == 3) = false := by simp [h5]
  clear hr
  go_enter Tryz.func135, Tryz.ntmps135
  go_wp2
  refine bodyPost_ret (v := .tuple #[rv (0, 0), .bool false]) (by simp [results, Tryz.results135, go_sem]) rfl ⟨rfl, by go_grown⟩
set_option maxHeartbeats 1600000 in
theorem spec_numbers (x a b : Int) (w : World) : Calls Tryz.prog 136 #[.int .i64 x, .int .i64 a, .int .i64 b] w fun e w' => e = .returned (rv (numR x a b)) ∧ Below w.heap.size w w' := by
 obtain ⟨r, hr⟩ : ∃ r, Hid (numR x a b = r) := ⟨_, rfl⟩
 rw [hr.out]
 obtain ⟨r0, r1⟩ := r
 rcases (by omega : x = 6 ∨ x = 7 ∨ x = 8 ∨ x = 3 ∨ x = 4 ∨ (x ≠ 6 ∧ x ≠ 7 ∧ x ≠ 8 ∧ x ≠ 3 ∧ x ≠ 4)) with rfl | rfl | rfl | rfl | rfl | ⟨h6, h7, h8, h3, h4⟩
 ·obtain ⟨q, hq⟩ : ∃ q, (a == b) = q := ⟨_, rfl⟩
  have hr2 : Hid (truthR q = (r0, r1)) := by
   show _ = _
   rw [← hr.out, ← hq]
   simp [numR]
   rfl
  clear hr
  go_enter Tryz.func136, Tryz.ntmps136
  go_wp2_with (first | (go_at_call 58; fail))
  refine (spec_truth q _).mono ?_
  rintro e w1 ⟨rfl, hB1⟩
  rw [hr2.out]
  have HB1 : Hid (Below w.heap.size w w1) := Below.trans ?hb (hB1.mono (by simp; omega))
  case hb => go_grown
  have HG : Hid (((w.alloc (.cells #[.int .i64 0, .int .i64 0] 86)).alloc (.cells #[.int .i64 0, .int .i64 0, .int .i64 0] 206)).heap[w.heap.size]? = some (.cells #[.int .i64 0, .int .i64 0] 86 (0, 0))) := by
   show _ = _
   rw [Below.heap_alloc _ _ _ (by simp)]
   exact heap_alloc_new w _
  obtain ⟨_, x0, x1, f0, f1⟩ := res2 HG.out hB1 (by simp; omega)
  clear hB1 HG
  go_wp2_with fail
  refine bodyPost_ret (v := rv (r0, r1)) (by simp [results, Tryz.results136, go_sem, x0, x1]) rfl ⟨rfl, ?_⟩
  repeat (refine Below.setCell ?_ (by simp) _)
  exact HB1.out
 ·obtain ⟨q, hq⟩ : ∃ q, decide (a < b) = q := ⟨_, rfl⟩
  have hr2 : Hid (truthR q = (r0, r1)) := by
   show _ = _
   rw [← hr.out, ← hq]
   simp [numR]
  clear hr
  go_enter Tryz.func136, Tryz.ntmps136
  go_wp2_with (first | (go_at_call 58; fail))
  refine (spec_truth q _).mono ?_
  rintro e w1 ⟨rfl, hB1⟩
  rw [hr2.out]
  have HB1 : Hid (Below w.heap.size w w1) := Below.trans ?hb (hB1.mono (by simp; omega))
  case hb => go_grown
  have HG : Hid (((w.alloc (.cells #[.int .i64 0, .int .i64 0] 86)).alloc (.cells #[.int .i64 0, .int .i64 0, .int .i64 0] 206)).heap[w.heap.size]? = some (.cells #[.int .i64 0, .int .i64 0] 86 (0, 0))) := by
   show _ = _
   rw [Below.heap_alloc _ _ _ (by simp)]
   exact heap_alloc_new w _
  obtain ⟨_, x0, x1, f0, f1⟩ := res2 HG.out hB1 (by simp; omega)
  clear hB1 HG
  go_wp2_with fail
  refine bodyPost_ret (v := rv (r0, r1)) (by simp [results, Tryz.results136, go_sem, x0, x1]) rfl ⟨rfl, ?_⟩
  repeat (refine Below.setCell ?_ (by simp) _)
  exact HB1.out
 ·obtain ⟨q, hq⟩ : ∃ q, decide (a ≤ b) = q := ⟨_, rfl⟩
  have hr2 : Hid (truthR q = (r0, r1)) := by
   show _ = _
   rw [← hr.out, ← hq]
   simp [numR]
  clear hr
  go_enter Tryz.func136, Tryz.ntmps136
  go_wp2_with (first | (go_at_call 58; fail))
  refine (spec_truth q _).mono ?_
  rintro e w1 ⟨rfl, hB1⟩
  rw [hr2.out]
  have HB1 : Hid (Below w.heap.size w w1) := Below.trans ?hb (hB1.mono (by simp; omega))
  case hb => go_grown
  have HG : Hid (((w.alloc (.cells #[.int .i64 0, .int .i64 0] 86)).alloc (.cells #[.int .i64 0, .int .i64 0, .int .i64 0] 206)).heap[w.heap.size]? = some (.cells #[.int .i64 0, .int .i64 0] 86 (0, 0))) := by
   show _ = _
   rw [Below.heap_alloc _ _ _ (by simp)]
   exact heap_alloc_new w _
  obtain ⟨_, x0, x1, f0, f1⟩ := res2 HG.out hB1 (by simp; omega)
  clear hB1 HG
  go_wp2_with fail
  refine bodyPost_ret (v := rv (r0, r1)) (by simp [results, Tryz.results136, go_sem, x0, x1]) rfl ⟨rfl, ?_⟩
  repeat (refine Below.setCell ?_ (by simp) _)
  exact HB1.out
 ·obtain ⟨q, hq⟩ : ∃ q, Hid (plusR a b = q) := ⟨_, rfl⟩
  have hr2 : Hid (outRs q = (r0, r1)) := by
   show _ = _
   rw [← hr.out, ← hq.out]
   simp [numR]
  clear hr
  obtain ⟨q0, q1⟩ := q
  go_enter Tryz.func136, Tryz.ntmps136
  go_wp2_with fail
  refine (plus_any a b _).mono ?_
  rintro e w1 ⟨rfl, hB1⟩
  rw [hq.out]
  have HB1 : Hid (Below w.heap.size w w1) := Below.trans ?hb (hB1.mono (by simp; omega))
  case hb => go_grown
  have HG : Hid (((w.alloc (.cells #[.int .i64 0, .int .i64 0] 86)).alloc (.cells #[.int .i64 0, .int .i64 0, .int .i64 0] 206)).heap[w.heap.size]? = some (.cells #[.int .i64 0, .int .i64 0] 86 (0, 0))) := by
   show _ = _
   rw [Below.heap_alloc _ _ _ (by simp)]
   exact heap_alloc_new w _
  have HN : Hid (w1.heap[w.heap.size + 1]? = some (.cells #[.int .i64 0, .int .i64 0, .int .i64 0] 206 (0, 0))) := by
   show _ = _
   rw [hB1.block _ (by simp)]
   have := heap_alloc_new (w.alloc (.cells #[.int .i64 0, .int .i64 0] 86)) (.cells #[.int .i64 0, .int .i64 0, .int .i64 0] 206)
   simpa using this
  have y0 : w1.cell? ⟨w.heap.size + 1, 0, none⟩ = some (.int .i64 0) := by simp [World.cell?, HN.out]
  have y1 : w1.cell? ⟨w.heap.size + 1, 1, none⟩ = some (.int .i64 0) := by simp [World.cell?, HN.out]
  have y2 : w1.cell? ⟨w.heap.size + 1, 2, none⟩ = some (.int .i64 0) := by simp [World.cell?, HN.out]
  have yf : ∀ j, w1.frozen? ⟨w.heap.size + 1, j, none⟩ = false := fun j => by simp [World.frozen?, HN.out]
  obtain ⟨_, x0, x1, f0, f1⟩ := res2 HG.out hB1 (by simp; omega)
  clear hB1 HG HN
  unfold numV
  by_cases hz : q1 = 0
  ·subst hz
   have hr3 := hr2.out
   simp only [outRs, if_true] at hr3
   injection hr3 with z0 z1
   subst z0 z1
   clear hr2 hq
   go_wp2_with fail
   refine bodyPost_ret (v := rv (1, q0)) (by simp [results, Tryz.results136, go_sem, x0, x1]) rfl ⟨rfl, ?_⟩
   repeat (refine Below.setCell ?_ (by simp) _)
   exact HB1.out
  ·have hr3 := hr2.out
   unfold outRs at hr3
   rw [if_neg hz] at hr3
   injection hr3 with z0 z1
   subst z0 z1
   have ez : (q1 == 0) = false := by simp [hz]
   clear hr2 hq
   go_wp2_with fail
   refine bodyPost_ret (v := rv (4, 0)) (by simp [results, Tryz.results136, go_sem, x0, x1]) rfl ⟨rfl, ?_⟩
   repeat (refine Below.setCell ?_ (by simp) _)
   exact HB1.out
 ·obtain ⟨q, hq⟩ : ∃ q, Hid (minusR a b = q) := ⟨_, rfl⟩
  have hr2 : Hid (outRs q = (r0, r1)) := by
   show _ = _
   rw [← hr.out, ← hq.out]
   simp [numR]
  clear hr
  obtain ⟨q0, q1⟩ := q
  go_enter Tryz.func136, Tryz.ntmps136
  go_wp2_with fail
  refine (minus_any a b _).mono ?_
  rintro e w1 ⟨rfl, hB1⟩
  rw [hq.out]
  have HB1 : Hid (Below w.heap.size w w1) := Below.trans ?hb (hB1.mono (by simp; omega))
  case hb => go_grown
  have HG : Hid (((w.alloc (.cells #[.int .i64 0, .int .i64 0] 86)).alloc (.cells #[.int .i64 0, .int .i64 0, .int .i64 0] 206)).heap[w.heap.size]? = some (.cells #[.int .i64 0, .int .i64 0] 86 (0, 0))) := by
   show _ = _
   rw [Below.heap_alloc _ _ _ (by simp)]
   exact heap_alloc_new w _
  have HN : Hid (w1.heap[w.heap.size + 1]? = some (.cells #[.int .i64 0, .int .i64 0, .int .i64 0] 206 (0, 0))) := by
   show _ = _
   rw [hB1.block _ (by simp)]
   have := heap_alloc_new (w.alloc (.cells #[.int .i64 0, .int .i64 0] 86)) (.cells #[.int .i64 0, .int .i64 0, .int .i64 0] 206)
   simpa using this
  have y0 : w1.cell? ⟨w.heap.size + 1, 0, none⟩ = some (.int .i64 0) := by simp [World.cell?, HN.out]
  have y1 : w1.cell? ⟨w.heap.size + 1, 1, none⟩ = some (.int .i64 0) := by simp [World.cell?, HN.out]
  have y2 : w1.cell? ⟨w.heap.size + 1, 2, none⟩ = some (.int .i64 0) := by simp [World.cell?, HN.out]
  have yf : ∀ j, w1.frozen? ⟨w.heap.size + 1, j, none⟩ = false := fun j => by simp [World.frozen?, HN.out]
  obtain ⟨_, x0, x1, f0, f1⟩ := res2 HG.out hB1 (by simp; omega)
  clear hB1 HG HN
  unfold numV
  by_cases hz : q1 = 0
  ·subst hz
   have hr3 := hr2.out
   simp only [outRs, if_true] at hr3
   injection hr3 with z0 z1
   subst z0 z1
   clear hr2 hq
   go_wp2_with fail
   refine bodyPost_ret (v := rv (1, q0)) (by simp [results, Tryz.results136, go_sem, x0, x1]) rfl ⟨rfl, ?_⟩
   repeat (refine Below.setCell ?_ (by simp) _)
   exact HB1.out
  ·have hr3 := hr2.out
   unfold outRs at hr3
   rw [if_neg hz] at hr3
   injection hr3 with z0 z1
   subst z0 z1
   have ez : (q1 == 0) = false := by simp [hz]
   clear hr2 hq
   go_wp2_with fail
   refine bodyPost_ret (v := rv (4, 0)) (by simp [results, Tryz.results136, go_sem, x0, x1]) rfl ⟨rfl, ?_⟩
   repeat (refine Below.setCell ?_ (by simp) _)
   exact HB1.out
 ·obtain ⟨q, hq⟩ : ∃ q, Hid (timesR a b = q) := ⟨_, rfl⟩
  have hr2 : Hid (outRs q = (r0, r1)) := by
   show _ = _
   rw [← hr.out, ← hq.out]
   unfold numR; rw [if_neg h6, if_neg h7, if_neg h8, if_neg h3, if_neg h4]
  clear hr
  obtain ⟨q0, q1⟩ := q
  have e6 : (x == 6) = false := by simp [h6]
  have e7 : (x == 7) = false := by simp [h7]
  have e8 : (x == 8) = false := by simp [h8]
  have e3 : (x == 3) = false := by simp [h3]
  have e4 : (x == 4) = false := by simp [h4]
  go_enter Tryz.func136, Tryz.ntmps136
  go_wp2_with fail
  refine (times_any a b _).mono ?_
  rintro e w1 ⟨rfl, hB1⟩
  rw [hq.out]
  have HB1 : Hid (Below w.heap.size w w1) := Below.trans ?hb (hB1.mono (by simp; omega))
  case hb => go_grown
  have HG : Hid (((w.alloc (.cells #[.int .i64 0, .int .i64 0] 86)).alloc (.cells #[.int .i64 0, .int .i64 0, .int .i64 0] 206)).heap[w.heap.size]? = some (.cells #[.int .i64 0, .int .i64 0] 86 (0, 0))) := by
   show _ = _
   rw [Below.heap_alloc _ _ _ (by simp)]
   exact heap_alloc_new w _
  have HN : Hid (w1.heap[w.heap.size + 1]? = some (.cells #[.int .i64 0, .int .i64 0, .int .i64 0] 206 (0, 0))) := by
   show _ = _
   rw [hB1.block _ (by simp)]
   have := heap_alloc_new (w.alloc (.cells #[.int .i64 0, .int .i64 0] 86)) (.cells #[.int .i64 0, .int .i64 0, .int .i64 0] 206)
   simpa using this
  have y0 : w1.cell? ⟨w.heap.size + 1, 0, none⟩ = some (.int .i64 0) := by simp [World.cell?, HN.out]
  have y1 : w1.cell? ⟨w.heap.size + 1, 1, none⟩ = some (.int .i64 0) := by simp [World.cell?, HN.out]
  have y2 : w1.cell? ⟨w.heap.size + 1, 2, none⟩ = some (.int .i64 0) := by simp [World.cell?, HN.out]
  have yf : ∀ j, w1.frozen? ⟨w.heap.size + 1, j, none⟩ = false := fun j => by simp [World.frozen?, HN.out]
  obtain ⟨_, x0, x1, f0, f1⟩ := res2 HG.out hB1 (by simp; omega)
  clear hB1 HG HN
  unfold numV
  by_cases hz : q1 = 0
  ·subst hz
   have hr3 := hr2.out
   simp only [outRs, if_true] at hr3
   injection hr3 with z0 z1
   subst z0 z1
   clear hr2 hq
   go_wp2_with fail
   refine bodyPost_ret (v := rv (1, q0)) (by simp [results, Tryz.results136, go_sem, x0, x1]) rfl ⟨rfl, ?_⟩
   repeat (refine Below.setCell ?_ (by simp) _)
   exact HB1.out
  ·have hr3 := hr2.out
   unfold outRs at hr3
   rw [if_neg hz] at hr3
   injection hr3 with z0 z1
   subst z0 z1
   have ez : (q1 == 0) = false := by simp [hz]
   clear hr2 hq
   go_wp2_with fail
   refine bodyPost_ret (v := rv (4, 0)) (by simp [results, Tryz.results136, go_sem, x0, x1]) rfl ⟨rfl, ?_⟩
   repeat (refine Below.setCell ?_ (by simp) _)
   exact HB1.out
end Go.Proofs.YtmbhmknfipdadaaGreatDoor.EvlS
namespace Go.Proofs.YtmbhmknfipdadaaGreatDoor.EvlI
open Go.RowKit
open EvlM EvlS ValW
set_option maxHeartbeats 800000 in
theorem impl_field (k n : Int) (a : Option Addr) (len cap : Nat) (t : ByteArray) (w : World) : Calls Tryz.prog 152 #[av k n a len cap t] w fun e w' => e = .returned (rv (fieldR k n)) ∧ Below w.heap.size w w' := by
 obtain ⟨r, hr⟩ : ∃ r, Hid (fieldR k n = r) := ⟨_, rfl⟩
 rw [hr.out]
 rcases (by omega : k = 1 ∨ k = 2 ∨ k = 3 ∨ k = 4 ∨ (k ≠ 1 ∧ k ≠ 2 ∧ k ≠ 3 ∧ k ≠ 4)) with rfl | rfl | rfl | rfl | ⟨h1, h2, h3, h4⟩
 ·obtain rfl : (1, n) = r := by rw [← hr.out]; rfl
  clear hr
  go_enter Tryz.func152, Tryz.ntmps152
  go_wp2
  refine bodyPost_ret (v := rv (1, n)) (by simp [results, Tryz.results152, go_sem]) rfl ⟨rfl, by go_grown⟩
 ·obtain rfl : (1, n) = r := by rw [← hr.out]; rfl
  clear hr
  go_enter Tryz.func152, Tryz.ntmps152
  go_wp2
  refine bodyPost_ret (v := rv (1, n)) (by simp [results, Tryz.results152, go_sem]) rfl ⟨rfl, by go_grown⟩
 ·obtain rfl : (4, 0) = r := by rw [← hr.out]; rfl
  clear hr
  go_enter Tryz.func152, Tryz.ntmps152
  go_wp2
  refine bodyPost_ret (v := rv (4, 0)) (by simp [results, Tryz.results152, go_sem]) rfl ⟨rfl, by go_grown⟩
 ·obtain rfl : (4, 0) = r := by rw [← hr.out]; rfl
  clear hr
  go_enter Tryz.func152, Tryz.ntmps152
  go_wp2
  refine bodyPost_ret (v := rv (4, 0)) (by simp [results, Tryz.results152, go_sem]) rfl ⟨rfl, by go_grown⟩
 ·obtain rfl : (3, 0) = r := by rw [← hr.out]; unfold fieldR; rw [if_neg (by omega), if_neg (by omega)]
  have e1 : (k == 1) = false := by simp [h1]
  have e2 : (k == 2) = false := by simp [h2]
  have e3 : (k == 3) = false := by simp [h3]
  have e4 : (k == 4) = false := by simp [h4]
  clear hr
  go_enter Tryz.func152, Tryz.ntmps152
  go_wp2
  refine bodyPost_ret (v := rv (3, 0)) (by simp [results, Tryz.results152, go_sem]) rfl ⟨rfl, by go_grown⟩
set_option maxHeartbeats 800000 in
theorem impl_hasT (k n : Int) (a : Option Addr) (cap : Nat) (zs : List Int) (t : ByteArray) (c : Int) (w : World) (hc : Codes w a zs) (ht : t.size ≤ maxLen) (hrt : ValM.right k n zs t = true) : Calls Tryz.prog 153 #[av k n a zs.length cap t, .int .i64 c] w fun e w' => e = .returned (rv (hasR k (zs.contains c))) ∧ Below w.heap.size w w' := by
 have HC := hid hc
 have HT := hid ht
 have HR := hid hrt
 clear hc ht hrt
 obtain ⟨r, hr⟩ : ∃ r, Hid (hasR k (zs.contains c) = r) := ⟨_, rfl⟩
 rw [hr.out]
 rcases (by omega : k = 3 ∨ k = 1 ∨ k = 2 ∨ k = 4 ∨ (k ≠ 1 ∧ k ≠ 2 ∧ k ≠ 3 ∧ k ≠ 4)) with rfl | rfl | rfl | rfl | ⟨h1, h2, h3, h4⟩
 ·obtain ⟨q, hq⟩ : ∃ q, Hid (zs.contains c = q) := ⟨_, rfl⟩
  have hr2 : Hid (truthR q = r) := by show _ = _; rw [← hr.out, hq.out]; rfl
  clear hr
  obtain ⟨r0, r1⟩ := r
  go_enter Tryz.func153, Tryz.ntmps153
  go_wp2_with fail
  refine (ValK.impl_has 3 n a cap zs t c _ (HC.out.on ?hb) HT.out).mono ?_
  case hb => go_grown
  rintro e w1 ⟨rfl, hB1⟩
  rw [show ValK.hasB 3 n zs t c = q by unfold ValK.hasB; rw [HR.out, hq.out]; rfl]
  have HB1 : Hid (Below w.heap.size w w1) := Below.trans ?hb2 (hB1.mono (by simp; omega))
  case hb2 => go_grown
  have HG1 : Hid (w1.heap[w.heap.size + 1]? = some (.cells #[.int .i64 0, .int .i64 0] 86 (0, 0))) := by
   show _ = _
   rw [hB1.block _ (by simp)]
   have := heap_alloc_new (w.alloc (.cells #[.int .i64 3, .int .i64 n, .slice a zs.length cap, .string t] 59)) (.cells #[.int .i64 0, .int .i64 0] 86)
   simpa using this
  clear hB1 HC
  go_wp2_with fail
  refine (impl_truth q w1).mono ?_
  rintro e w2 ⟨rfl, hB2⟩
  rw [hr2.out]
  have HB2 : Hid (Below w.heap.size w w2) := HB1.out.trans (hB2.mono HB1.out.size)
  obtain ⟨_, x0, x1, f0, f1⟩ := res2 HG1.out hB2 (Array.getElem?_eq_some_iff.1 HG1.out).1
  clear hB2 HB1 HG1
  go_wp2_with fail
  refine bodyPost_ret (v := rv (r0, r1)) (by simp [results, Tryz.results153, go_sem, x0, x1]) rfl ⟨rfl, ?_⟩
  repeat (refine Below.setCell ?_ (by simp only; omega) _)
  exact HB2.out
 ·obtain rfl : (4, 0) = r := by rw [← hr.out]; rfl
  clear hr HC HT HR
  go_enter Tryz.func153, Tryz.ntmps153
  go_wp2
  refine bodyPost_ret (v := rv (4, 0)) (by simp [results, Tryz.results153, go_sem]) rfl ⟨rfl, by go_grown⟩
 ·obtain rfl : (4, 0) = r := by rw [← hr.out]; rfl
  clear hr HC HT HR
  go_enter Tryz.func153, Tryz.ntmps153
  go_wp2
  refine bodyPost_ret (v := rv (4, 0)) (by simp [results, Tryz.results153, go_sem]) rfl ⟨rfl, by go_grown⟩
 ·obtain rfl : (4, 0) = r := by rw [← hr.out]; rfl
  clear hr HC HT HR
  go_enter Tryz.func153, Tryz.ntmps153
  go_wp2
  refine bodyPost_ret (v := rv (4, 0)) (by simp [results, Tryz.results153, go_sem]) rfl ⟨rfl, by go_grown⟩
 ·obtain rfl : (3, 0) = r := by rw [← hr.out]; unfold hasR; rw [if_neg (by omega), if_neg (by omega)]
  have e1 : (k == 1) = false := by simp [h1]
  have e2 : (k == 2) = false := by simp [h2]
  have e3 : (k == 3) = false := by simp [h3]
  have e4 : (k == 4) = false := by simp [h4]
  clear hr HC HT HR
  go_enter Tryz.func153, Tryz.ntmps153
  go_wp2
  refine bodyPost_ret (v := rv (3, 0)) (by simp [results, Tryz.results153, go_sem]) rfl ⟨rfl, by go_grown⟩
set_option maxHeartbeats 800000 in
theorem impl_turned (k n : Int) (w : World) : Calls Tryz.prog 123 #[rv (k, n)] w fun e w' => e = .returned (rv (turnR (k, n))) ∧ Below w.heap.size w w' := by
 obtain ⟨r, hr⟩ : ∃ r, Hid (turnR (k, n) = r) := ⟨_, rfl⟩
 rw [hr.out]
 by_cases hk : k = 2
 ·subst hk
  obtain ⟨q, hq⟩ : ∃ q, (n == 0) = q := ⟨_, rfl⟩
  have hr2 : Hid (truthR q = r) := by
   show _ = _
   rw [← hr.out, ← hq]
   simp [turnR]
   rfl
  clear hr
  obtain ⟨r0, r1⟩ := r
  go_enter Tryz.func123, Tryz.ntmps123
  go_wp2_with fail
  refine (impl_truth q _).mono ?_
  rintro e w1 ⟨rfl, hB1⟩
  rw [hr2.out]
  have HB1 : Hid (Below w.heap.size w w1) := Below.trans ?hb (hB1.mono (by simp; omega))
  case hb => go_grown
  have HG : Hid (w1.heap[w.heap.size + 1]? = some (.cells #[.int .i64 0, .int .i64 0] 86 (0, 0))) := by
   show _ = _
   rw [hB1.block _ (by simp)]
   have := heap_alloc_new (w.alloc (.cells #[.int .i64 2, .int .i64 n] 86)) (.cells #[.int .i64 0, .int .i64 0] 86)
   simpa using this
  have x0 : w1.cell? ⟨w.heap.size + 1, 0, none⟩ = some (.int .i64 0) := by simp [World.cell?, HG.out]
  have x1 : w1.cell? ⟨w.heap.size + 1, 1, none⟩ = some (.int .i64 0) := by simp [World.cell?, HG.out]
  have xf : ∀ j, w1.frozen? ⟨w.heap.size + 1, j, none⟩ = false := fun j => by simp [World.frozen?, HG.out]
  clear hB1 HG
  go_wp2_with fail
  refine bodyPost_ret (v := rv (r0, r1)) (by simp [results, Tryz.results123, go_sem, x0, x1]) rfl ⟨rfl, ?_⟩
  repeat (refine Below.setCell ?_ (by simp only; omega) _)
  exact HB1.out
 ·obtain rfl : (k, n) = r := by rw [← hr.out]; unfold turnR; rw [if_neg hk]
  have e1 : (k == 2) = false := by simp [hk]
  clear hr
  go_enter Tryz.func123, Tryz.ntmps123
  go_wp2
  refine bodyPost_ret (v := rv (k, n)) (by simp [results, Tryz.results123, go_sem]) rfl ⟨rfl, by go_grown⟩
end Go.Proofs.YtmbhmknfipdadaaGreatDoor.EvlI
namespace Go.Proofs.YtmbhmknfipdadaaGreatDoor.EvlS
open Go.RowKit
open EvlM
theorem eq_res (k n k' n' : Int) (W : World) : (binOp .eql 86 (.agg #[.int .i64 k, .int .i64 n]) (.agg #[.int .i64 k', .int .i64 n'])).run Tryz.prog W = .ok (.bool (decide (k = k' ∧ n = n'))) W := by
 by_cases h1 : k = k' <;> by_cases h2 : n = n' <;> go_simp <;> simp [h1, h2]
theorem eq_res_no (k n k' n' : Int) (h : ¬ (k = k' ∧ n = n')) (W : World) : (binOp .eql 86 (.agg #[.int .i64 k, .int .i64 n]) (.agg #[.int .i64 k', .int .i64 n'])).run Tryz.prog W = .ok (.bool false) W := by
 rw [eq_res, decide_eq_false h]
open Go.RowKit
open EvlM ValW FixS FixTi FixF
def R2 (w : World) (g : Nat) (r : Rs) : Prop := w.heap[g]? = some (.cells #[.int .i64 r.1, .int .i64 r.2] 86 (0, 0))
theorem R2.lt {w : World} {g : Nat} {r : Rs} (h : R2 w g r) : g < w.heap.size := (Array.getElem?_eq_some_iff.1 h).1
theorem R2.on {w w' : World} {g : Nat} {r : Rs} (h : R2 w g r) (hB : Below w.heap.size w w') : R2 w' g r := by unfold R2; rw [hB.block g h.lt]; exact h
theorem R2.alloc {w : World} {g : Nat} {r : Rs} (h : R2 w g r) (o : Obj) : R2 (w.alloc o) g r := h.on (below_one w o)
theorem R2.new (w : World) (k n : Int) : R2 (w.alloc (.cells #[.int .i64 k, .int .i64 n] 86)) w.heap.size (k, n) := heap_alloc_new w _
theorem R2.cells {w : World} {g : Nat} {r : Rs} (h : R2 w g r) : w.cell? ⟨g, 0, none⟩ = some (.int .i64 r.1) ∧ w.cell? ⟨g, 1, none⟩ = some (.int .i64 r.2) ∧ (∀ j, w.frozen? ⟨g, j, none⟩ = false) := by
 unfold R2 at h
 exact ⟨by simp [World.cell?, h], by simp [World.cell?, h], fun j => by simp [World.frozen?, h]⟩
set_option maxRecDepth 10000 in
set_option maxHeartbeats 6400000 in
theorem spec_two (x k1 n1 k2 n2 : Int) (w : World) : Calls Tryz.prog 116 #[.int .i64 x, rv (k1, n1), rv (k2, n2)] w fun e w' => e = .returned (rv (twoR x (k1, n1) (k2, n2))) ∧ Below w.heap.size w w' := by
 obtain ⟨r, hr⟩ : ∃ r, Hid (twoR x (k1, n1) (k2, n2) = r) := ⟨_, rfl⟩
 rw [hr.out]
 obtain ⟨r0, r1⟩ := r
 go_enter Tryz.func116, Tryz.ntmps116
 go_wp2_with fail
 refine (spec_truth false _).mono ?_
 rintro e w1 ⟨rfl, hB1⟩
 have HB1 : Hid (Below w.heap.size w w1) := Below.trans ?hb (hB1.mono (by simp; omega))
 case hb => go_grown
 have hbA := (R2.new w k1 n1)
 have hbB := R2.new (w.alloc (.cells #[.int .i64 k1, .int .i64 n1] 86)) k2 n2
 have hbR := R2.new ((w.alloc (.cells #[.int .i64 k1, .int .i64 n1] 86)).alloc (.cells #[.int .i64 k2, .int .i64 n2] 86)) 0 0
 have HA1 := hid (((hbA.alloc _).alloc _).on hB1)
 have HC1 := hid ((hbB.alloc _).on hB1)
 have HR1 := hid (hbR.on hB1)
 simp only [World.size_alloc] at HA1 HC1 HR1
 clear hbA hbB hbR hB1
 generalize hgg : w.heap.size = g at *
 have HGG := hid hgg
 clear hgg
 rw [show truthR false = (2, 0) from rfl]
 go_wp2_with fail
 refine (spec_truth true _).mono ?_
 rintro e w2 ⟨rfl, hB2⟩
 have hb2 : Below w1.heap.size w1 w2 := (below_one w1 _).trans (hB2.mono (by simp))
 have HB2 : Hid (Below g w w2) := HB1.out.trans (hb2.mono (by have := HB1.out.size; have := HGG.out; omega))
 have HA2 := hid (HA1.out.on hb2)
 have HC2 := hid (HC1.out.on hb2)
 have HR2 := hid (HR1.out.on hb2)
 have HN2 := hid ((R2.new w1 2 0).on hB2)
 rw [show truthR true = (2, 1) from rfl]
 have h12 := HR1.out.lt
 clear hb2 hB2 HA1 HC1 HR1 HB1
 generalize w1.heap.size = gn at *
 have hgl := HN2.out.lt
 have hga := HA2.out.lt
 have hgb := HC2.out.lt
 have hgr := HR2.out.lt
 obtain ⟨p0, p1, pf⟩ := HA2.out.cells
 obtain ⟨q0, q1, qf⟩ := HC2.out.cells
 obtain ⟨x0, x1, xf⟩ := HR2.out.cells
 obtain ⟨y0, y1, yf⟩ := HN2.out.cells
 dsimp only at p0 p1 q0 q1 x0 x1 y0 y1
 by_cases hx9 : x = 9
 ·subst hx9
  by_cases ha : k1 = 2 ∧ n1 = 0
  ·obtain ⟨rfl, rfl⟩ := ha
   obtain ⟨rfl, rfl⟩ : r0 = 2 ∧ r1 = 0 := by
    have h := hr.out
    unfold twoR at h; rw [if_pos rfl, if_pos (.inl rfl)] at h
    injection h with h1 h2
    exact ⟨h1.symm, h2.symm⟩
   go_wp2
   refine bodyPost_ret (v := rv (2, 0)) (by simp [results, Tryz.results116, go_sem, x0, x1, hgr]) rfl ⟨rfl, ?_⟩
   repeat (first | refine Below.setCell ?_ (show w.heap.size ≤ g + 1 + 1 by have := HGG.out; omega) _ | refine Below.alloc ?_ (by have := HGG.out; have := HB2.out.size; simp; omega) _)
   rw [HGG.out]
   exact HB2.out
  ·by_cases hb : k2 = 2 ∧ n2 = 0
   ·obtain ⟨rfl, rfl⟩ := hb
    obtain ⟨rfl, rfl⟩ : r0 = 2 ∧ r1 = 0 := by
     have h := hr.out
     unfold twoR at h; rw [if_pos rfl, if_pos (.inr rfl)] at h
     injection h with h1 h2
     exact ⟨h1.symm, h2.symm⟩
    have ea := eq_res_no k1 n1 2 0 ha
    go_wp2
    refine bodyPost_ret (v := rv (2, 0)) (by simp [results, Tryz.results116, go_sem, x0, x1, hgr]) rfl ⟨rfl, ?_⟩
    repeat (first | refine Below.setCell ?_ (show w.heap.size ≤ g + 1 + 1 by have := HGG.out; omega) _ | refine Below.alloc ?_ (by have := HGG.out; have := HB2.out.size; simp; omega) _)
    rw [HGG.out]
    exact HB2.out
   ·have ea := eq_res_no k1 n1 2 0 ha
    have eb := eq_res_no k2 n2 2 0 hb
    have hno : ¬ ((k1, n1) = ((2, 0) : Rs) ∨ (k2, n2) = ((2, 0) : Rs)) := by
     rintro (h | h) <;> injection h with h1 h2
     ·exact ha ⟨h1, h2⟩
     ·exact hb ⟨h1, h2⟩
    obtain ⟨bd, hbd⟩ : ∃ bd, Hid (badR (k1, n1) (k2, n2) = bd) := ⟨_, rfl⟩
    go_wp2_with fail
    refine (spec_bad k1 n1 k2 n2 _).mono ?_
    rintro e w3 ⟨rfl, hB3⟩
    rw [hbd.out]
    have hb3 : Below w2.heap.size w2 w3 := (below_one w2 _).trans (hB3.mono (by simp))
    have HB3 : Hid (Below g w w3) := HB2.out.trans (hb3.mono (by have := HB2.out.size; have := HGG.out; omega))
    have HR3 := hid (HR2.out.on hb3)
    have HY3 := hid ((R2.new w2 2 1).on hB3)
    have HN3 := hid (HN2.out.on hb3)
    clear hb3 hB3 p0 p1 q0 q1 x0 x1 y0 y1 pf qf xf yf
    have hgr3 := HR3.out.lt
    have hgy3 := HY3.out.lt
    have hgn3 := HN3.out.lt
    generalize w2.heap.size = gy at *
    obtain ⟨x0, x1, xf⟩ := HR3.out.cells
    obtain ⟨y0, y1, yf⟩ := HY3.out.cells
    obtain ⟨z0, z1, zf⟩ := HN3.out.cells
    dsimp only at x0 x1 y0 y1 z0 z1
    by_cases hz : bd = 0
    ·subst hz
     obtain ⟨rfl, rfl⟩ : r0 = 2 ∧ r1 = 1 := by
      have h := hr.out
      unfold twoR at h; rw [if_pos rfl, if_neg hno, if_pos hbd.out] at h
      injection h with h1 h2
      exact ⟨h1.symm, h2.symm⟩
     go_wp2_with fail
     refine bodyPost_ret (v := rv (2, 1)) (by simp [results, Tryz.results116, go_sem, x0, x1, hgr3]) rfl ⟨rfl, ?_⟩
     repeat (first | refine Below.setCell ?_ (show w.heap.size ≤ g + 1 + 1 by have := HGG.out; omega) _ | refine Below.alloc ?_ (by have := HGG.out; have := HB3.out.size; simp; omega) _)
     rw [HGG.out]
     exact HB3.out
    ·have hnz : decide (bd ≠ 0) = true := by simp [hz]
     rw [hnz]
     obtain ⟨rfl, rfl⟩ : r0 = bd ∧ r1 = 0 := by
      have h := hr.out
      unfold twoR at h; rw [if_pos rfl, if_neg hno, if_neg (by rw [hbd.out]; exact hz), hbd.out] at h
      injection h with h1 h2
      exact ⟨h1.symm, h2.symm⟩
     clear hbd hr hnz
     go_wp2_with fail
     refine bodyPost_ret (v := rv (r0, 0)) (by simp [results, Tryz.results116, go_sem, x0, x1, hgr3]) rfl ⟨rfl, ?_⟩
     repeat (first | refine Below.setCell ?_ (show w.heap.size ≤ g + 1 + 1 by have := HGG.out; omega) _ | refine Below.alloc ?_ (by have := HGG.out; have := HB3.out.size; simp; omega) _)
     rw [HGG.out]
     exact HB3.out
 by_cases hx10 : x = 10
 ·subst hx10
  by_cases ha : k1 = 2 ∧ n1 = 1
  ·obtain ⟨rfl, rfl⟩ := ha
   obtain ⟨rfl, rfl⟩ : r0 = 2 ∧ r1 = 1 := by
    have h := hr.out
    unfold twoR at h; rw [if_neg (by decide), if_pos rfl, if_pos (.inl rfl)] at h
    injection h with h1 h2
    exact ⟨h1.symm, h2.symm⟩
   go_wp2
   refine bodyPost_ret (v := rv (2, 1)) (by simp [results, Tryz.results116, go_sem, x0, x1, hgr]) rfl ⟨rfl, ?_⟩
   repeat (first | refine Below.setCell ?_ (show w.heap.size ≤ g + 1 + 1 by have := HGG.out; omega) _ | refine Below.alloc ?_ (by have := HGG.out; have := HB2.out.size; simp; omega) _)
   rw [HGG.out]
   exact HB2.out
  ·by_cases hb : k2 = 2 ∧ n2 = 1
   ·obtain ⟨rfl, rfl⟩ := hb
    obtain ⟨rfl, rfl⟩ : r0 = 2 ∧ r1 = 1 := by
     have h := hr.out
     unfold twoR at h; rw [if_neg (by decide), if_pos rfl, if_pos (.inr rfl)] at h
     injection h with h1 h2
     exact ⟨h1.symm, h2.symm⟩
    have ea := eq_res_no k1 n1 2 1 ha
    go_wp2
    refine bodyPost_ret (v := rv (2, 1)) (by simp [results, Tryz.results116, go_sem, x0, x1, hgr]) rfl ⟨rfl, ?_⟩
    repeat (first | refine Below.setCell ?_ (show w.heap.size ≤ g + 1 + 1 by have := HGG.out; omega) _ | refine Below.alloc ?_ (by have := HGG.out; have := HB2.out.size; simp; omega) _)
    rw [HGG.out]
    exact HB2.out
   ·have ea := eq_res_no k1 n1 2 1 ha
    have eb := eq_res_no k2 n2 2 1 hb
    have hno : ¬ ((k1, n1) = ((2, 1) : Rs) ∨ (k2, n2) = ((2, 1) : Rs)) := by
     rintro (h | h) <;> injection h with h1 h2
     ·exact ha ⟨h1, h2⟩
     ·exact hb ⟨h1, h2⟩
    obtain ⟨bd, hbd⟩ : ∃ bd, Hid (badR (k1, n1) (k2, n2) = bd) := ⟨_, rfl⟩
    go_wp2_with fail
    refine (spec_bad k1 n1 k2 n2 _).mono ?_
    rintro e w3 ⟨rfl, hB3⟩
    rw [hbd.out]
    have hb3 : Below w2.heap.size w2 w3 := (below_one w2 _).trans (hB3.mono (by simp))
    have HB3 : Hid (Below g w w3) := HB2.out.trans (hb3.mono (by have := HB2.out.size; have := HGG.out; omega))
    have HR3 := hid (HR2.out.on hb3)
    have HY3 := hid ((R2.new w2 2 1).on hB3)
    have HN3 := hid (HN2.out.on hb3)
    clear hb3 hB3 p0 p1 q0 q1 x0 x1 y0 y1 pf qf xf yf
    have hgr3 := HR3.out.lt
    have hgy3 := HY3.out.lt
    have hgn3 := HN3.out.lt
    generalize w2.heap.size = gy at *
    obtain ⟨x0, x1, xf⟩ := HR3.out.cells
    obtain ⟨y0, y1, yf⟩ := HY3.out.cells
    obtain ⟨z0, z1, zf⟩ := HN3.out.cells
    dsimp only at x0 x1 y0 y1 z0 z1
    by_cases hz : bd = 0
    ·subst hz
     obtain ⟨rfl, rfl⟩ : r0 = 2 ∧ r1 = 0 := by
      have h := hr.out
      unfold twoR at h; rw [if_neg (by decide), if_pos rfl, if_neg hno, if_pos hbd.out] at h
      injection h with h1 h2
      exact ⟨h1.symm, h2.symm⟩
     go_wp2_with fail
     refine bodyPost_ret (v := rv (2, 0)) (by simp [results, Tryz.results116, go_sem, x0, x1, hgr3]) rfl ⟨rfl, ?_⟩
     repeat (first | refine Below.setCell ?_ (show w.heap.size ≤ g + 1 + 1 by have := HGG.out; omega) _ | refine Below.alloc ?_ (by have := HGG.out; have := HB3.out.size; simp; omega) _)
     rw [HGG.out]
     exact HB3.out
    ·have hnz : decide (bd ≠ 0) = true := by simp [hz]
     rw [hnz]
     obtain ⟨rfl, rfl⟩ : r0 = bd ∧ r1 = 0 := by
      have h := hr.out
      unfold twoR at h; rw [if_neg (by decide), if_pos rfl, if_neg hno, if_neg (by rw [hbd.out]; exact hz), hbd.out] at h
      injection h with h1 h2
      exact ⟨h1.symm, h2.symm⟩
     clear hbd hr hnz
     go_wp2_with fail
     refine bodyPost_ret (v := rv (r0, 0)) (by simp [results, Tryz.results116, go_sem, x0, x1, hgr3]) rfl ⟨rfl, ?_⟩
     repeat (first | refine Below.setCell ?_ (show w.heap.size ≤ g + 1 + 1 by have := HGG.out; omega) _ | refine Below.alloc ?_ (by have := HGG.out; have := HB3.out.size; simp; omega) _)
     rw [HGG.out]
     exact HB3.out
 have e9 : (x == 9) = false := by simp [hx9]
 have e10 : (x == 10) = false := by simp [hx10]
 obtain ⟨bd, hbd⟩ : ∃ bd, Hid (badR (k1, n1) (k2, n2) = bd) := ⟨_, rfl⟩
 go_wp2_with fail
 refine (spec_bad k1 n1 k2 n2 _).mono ?_
 rintro e w3 ⟨rfl, hB3⟩
 rw [hbd.out]
 have hb3 : Below w2.heap.size w2 w3 := (below_one w2 _).trans (hB3.mono (by simp))
 have HB3 : Hid (Below g w w3) := HB2.out.trans (hb3.mono (by have := HB2.out.size; have := HGG.out; omega))
 have HR3 := hid (HR2.out.on hb3)
 have HA3 := hid (HA2.out.on hb3)
 have HC3 := hid (HC2.out.on hb3)
 clear hb3 hB3 p0 p1 q0 q1 x0 x1 y0 y1 pf qf xf yf
 have hgr3 := HR3.out.lt
 have hga3 := HA3.out.lt
 have hgc3 := HC3.out.lt
 obtain ⟨x0, x1, xf⟩ := HR3.out.cells
 obtain ⟨y0, y1, yf⟩ := HA3.out.cells
 obtain ⟨z0, z1, zf⟩ := HC3.out.cells
 dsimp only at x0 x1 y0 y1 z0 z1
 by_cases hz : bd = 0
 ·subst hz
  have HQ : Hid (numR x n1 n2 = (r0, r1)) := by
   show _ = _
   rw [← hr.out]
   unfold twoR
   rw [if_neg hx9, if_neg hx10, if_pos hbd.out]
  go_wp2_with fail
  refine (spec_numbers x n1 n2 _).mono ?_
  rintro e w4 ⟨rfl, hB4⟩
  rw [HQ.out]
  have hb4 : Below w3.heap.size w3 w4 := (below_one w3 _).trans (hB4.mono (by simp))
  have HB4 : Hid (Below g w w4) := HB3.out.trans (hb4.mono (by have := HB3.out.size; have := HGG.out; omega))
  have HR4 := hid (HR3.out.on hb4)
  clear hb4 hB4 x0 x1 xf y0 y1 yf z0 z1 zf
  obtain ⟨x0, x1, xf⟩ := HR4.out.cells
  dsimp only at x0 x1
  go_wp2_with fail
  refine bodyPost_ret (v := rv (r0, r1)) (by simp [results, Tryz.results116, go_sem, x0, x1]) rfl ⟨rfl, ?_⟩
  repeat (refine Below.setCell ?_ (show w.heap.size ≤ g + 1 + 1 by have := HGG.out; omega) _)
  rw [HGG.out]
  exact HB4.out
 ·have hnz : decide (bd ≠ 0) = true := by simp [hz]
  rw [hnz]
  obtain ⟨rfl, rfl⟩ : r0 = bd ∧ r1 = 0 := by
   have h := hr.out
   unfold twoR at h; rw [if_neg hx9, if_neg hx10, if_neg (by rw [hbd.out]; exact hz), hbd.out] at h
   injection h with h1 h2
   exact ⟨h1.symm, h2.symm⟩
  clear hbd hr hnz
  go_wp2_with fail
  refine bodyPost_ret (v := rv (r0, 0)) (by simp [results, Tryz.results116, go_sem, x0, x1, hgr3]) rfl ⟨rfl, ?_⟩
  repeat (first | refine Below.setCell ?_ (show w.heap.size ≤ g + 1 + 1 by have := HGG.out; omega) _ | refine Below.alloc ?_ (by have := HGG.out; have := HB3.out.size; simp; omega) _)
  rw [HGG.out]
  exact HB3.out
end Go.Proofs.YtmbhmknfipdadaaGreatDoor.EvlS
namespace Go.Proofs.YtmbhmknfipdadaaGreatDoor.EvlI
open Go.RowKit
open EvlM EvlS ValW
set_option maxRecDepth 10000 in
set_option maxHeartbeats 1600000 in
theorem impl_unsettled (k1 n1 k2 n2 : Int) (w : World) : Calls Tryz.prog 188 #[rv (k1, n1), rv (k2, n2)] w fun e w' => e = .returned (.tuple #[rv (badR (k1, n1) (k2, n2), 0), .bool (decide (badR (k1, n1) (k2, n2) ≠ 0))]) ∧ Below w.heap.size w w' := by
 obtain ⟨bd, hbd⟩ : ∃ bd, Hid (badR (k1, n1) (k2, n2) = bd) := ⟨_, rfl⟩
 rw [hbd.out]
 have hi0 : ∀ W, (Instr.index 237 (.agg #[.int .i64 4, .int .i64 3]) (.int .i64 0)).run Tryz.prog W = .ok (.int .i64 4) W := fun W => by kernel_rfl
 have hi1 : ∀ W, (Instr.index 237 (.agg #[.int .i64 4, .int .i64 3]) (.int .i64 1)).run Tryz.prog W = .ok (.int .i64 3) W := fun W => by kernel_rfl
 go_enter Tryz.func188, Tryz.ntmps188
 go_wp2_with fail
 have hB0 : Below w.heap.size w (((w.alloc (.cells #[.int .i64 k1, .int .i64 n1] 86)).alloc (.cells #[.int .i64 k2, .int .i64 n2] 86)).alloc (.cells #[.int .i64 0, .int .i64 0] 86)) := by go_grown
 have hA := ((R2.new w k1 n1).alloc (.cells #[.int .i64 k2, .int .i64 n2] 86)).alloc (.cells #[.int .i64 0, .int .i64 0] 86)
 have hC := (R2.new (w.alloc (.cells #[.int .i64 k1, .int .i64 n1] 86)) k2 n2).alloc (.cells #[.int .i64 0, .int .i64 0] 86)
 have hR := R2.new ((w.alloc (.cells #[.int .i64 k1, .int .i64 n1] 86)).alloc (.cells #[.int .i64 k2, .int .i64 n2] 86)) 0 0
 obtain ⟨W0, hW0⟩ : ∃ W0, Hid (((w.alloc (.cells #[.int .i64 k1, .int .i64 n1] 86)).alloc (.cells #[.int .i64 k2, .int .i64 n2] 86)).alloc (.cells #[.int .i64 0, .int .i64 0] 86) = W0) := ⟨_, rfl⟩
 rw [hW0.out] at hB0 hA hC hR ⊢
 simp only [World.size_alloc] at hC hR
 have HB0 := hid hB0
 have HA := hid hA
 have HC := hid hC
 have HR := hid hR
 clear hB0 hA hC hR hW0
 generalize hgg : w.heap.size = g at *
 have HGG := hid hgg
 clear hgg
 go_loopw [9] (fun i wr => ∃ j : Nat, j ≤ 2 ∧ i = .int .i64 j ∧ wr = W0 ∧ Hid (1 ≤ j → ¬ (k1 = 4 ∨ k2 = 4)) ∧ Hid (2 ≤ j → ¬ (k1 = 3 ∨ k2 = 3))) (fun i _ => 2 - (intOf i).toNat)
 case atStart => exact ⟨0, by omega, rfl, rfl, fun h => by omega, fun h => by omega⟩
 case round =>
  obtain ⟨j, hj, rfl, rfl, h4, h3⟩ := hrel
  obtain ⟨p0, p1, pf⟩ := HA.out.cells
  obtain ⟨q0, q1, qf⟩ := HC.out.cells
  obtain ⟨x0, x1, xf⟩ := HR.out.cells
  dsimp only at p0 p1 q0 q1 x0 x1
  rcases (by omega : j = 0 ∨ j = 1 ∨ j = 2) with rfl | rfl | rfl
  ·by_cases hk1 : k1 = 4
   ·obtain rfl : bd = 4 := by rw [← hbd.out]; exact bad4 (.inl hk1)
    have e1 : (k1 == 4) = true := by simp [hk1]
    clear hbd
    go_wp2_with fail
    refine bodyPost_ret (v := .tuple #[rv (4, 0), .bool true]) (by simp [results, Tryz.results188, go_sem, x0, x1]) rfl ⟨rfl, ?_⟩
    repeat (refine Below.setCell ?_ (show w.heap.size ≤ g + 1 + 1 by have := HGG.out; omega) _)
    rw [HGG.out]
    exact HB0.out
   ·by_cases hk2 : k2 = 4
    ·obtain rfl : bd = 4 := by rw [← hbd.out]; exact bad4 (.inr hk2)
     have e1 : (k1 == 4) = false := by simp [hk1]
     have e2 : (k2 == 4) = true := by simp [hk2]
     clear hbd
     go_wp2_with fail
     refine bodyPost_ret (v := .tuple #[rv (4, 0), .bool true]) (by simp [results, Tryz.results188, go_sem, x0, x1]) rfl ⟨rfl, ?_⟩
     repeat (refine Below.setCell ?_ (show w.heap.size ≤ g + 1 + 1 by have := HGG.out; omega) _)
     rw [HGG.out]
     exact HB0.out
    ·have e1 : (k1 == 4) = false := by simp [hk1]
     have e2 : (k2 == 4) = false := by simp [hk2]
     go_wp2_with fail
     refine ⟨⟨1, by omega, by go_num, trivial, fun _ h => h.elim hk1 hk2, fun h => by omega⟩, by simp [intOf]⟩
  ·have h4' := h4.out (by omega)
   by_cases hk1 : k1 = 3
   ·obtain rfl : bd = 3 := by rw [← hbd.out]; exact bad3 h4' (.inl hk1)
    have e1 : (k1 == 3) = true := by simp [hk1]
    clear hbd
    go_wp2_with fail
    refine bodyPost_ret (v := .tuple #[rv (3, 0), .bool true]) (by simp [results, Tryz.results188, go_sem, x0, x1]) rfl ⟨rfl, ?_⟩
    repeat (refine Below.setCell ?_ (show w.heap.size ≤ g + 1 + 1 by have := HGG.out; omega) _)
    rw [HGG.out]
    exact HB0.out
   ·by_cases hk2 : k2 = 3
    ·obtain rfl : bd = 3 := by rw [← hbd.out]; exact bad3 h4' (.inr hk2)
     have e1 : (k1 == 3) = false := by simp [hk1]
     have e2 : (k2 == 3) = true := by simp [hk2]
     clear hbd
     go_wp2_with fail
     refine bodyPost_ret (v := .tuple #[rv (3, 0), .bool true]) (by simp [results, Tryz.results188, go_sem, x0, x1]) rfl ⟨rfl, ?_⟩
     repeat (refine Below.setCell ?_ (show w.heap.size ≤ g + 1 + 1 by have := HGG.out; omega) _)
     rw [HGG.out]
     exact HB0.out
    ·have e1 : (k1 == 3) = false := by simp [hk1]
     have e2 : (k2 == 3) = false := by simp [hk2]
     go_wp2_with fail
     refine ⟨⟨2, by omega, by go_num, trivial, fun _ => h4', fun _ h => h.elim hk1 hk2⟩, by simp [intOf]⟩
  ·obtain rfl : bd = 0 := by rw [← hbd.out]; exact bad0 (h4.out (by omega)) (h3.out (by omega))
   clear hbd
   go_wp2_with fail
   refine bodyPost_ret (v := .tuple #[rv (0, 0), .bool false]) (by simp [results, Tryz.results188, go_sem, x0, x1]) rfl ⟨rfl, ?_⟩
   repeat (refine Below.setCell ?_ (show w.heap.size ≤ g + 1 + 1 by have := HGG.out; omega) _)
   rw [HGG.out]
   exact HB0.out
open Go.RowKit
open EvlM EvlS ValW
open AnsW (An kd nu cd tx told rightA)
def leafV (x n k m : Int) (zs : List Int) : Rs := if x = 1 then (1, n) else if x = 2 then fieldR k m else if x = 12 then hasR k (zs.contains n) else truthR (decide (1 ≤ k ∧ k ≤ 4))
theorem leafV_eq (ls : List An) (x n : Int) (t : ByteArray) : leafR ls (x, n, t) = leafV x n (kd (told ls t)) (nu (told ls t)) (cd (told ls t)) := rfl
set_option maxRecDepth 10000 in
set_option maxHeartbeats 1600000 in
theorem impl_leaf (x n : Int) (s : ByteArray) (k m : Int) (a : Option Addr) (cap : Nat) (zs : List Int) (t : ByteArray) (w : World) (hx : x = 1 ∨ x = 2 ∨ x = 12 ∨ x = 13) (hc : Codes w a zs) (ht : t.size ≤ maxLen) (hrt : ValM.right k m zs t = true) :
  Calls Tryz.prog 125 #[.agg #[.int .i64 x, .int .i64 n, .string s], av k m a zs.length cap t] w fun e w' => e = .returned (rv (leafV x n k m zs)) ∧ Below w.heap.size w w' := by
 have HC := hid hc
 have HT := hid ht
 have HR := hid hrt
 clear hc ht hrt
 obtain ⟨r, hr⟩ : ∃ r, Hid (leafV x n k m zs = r) := ⟨_, rfl⟩
 rw [hr.out]
 rcases hx with rfl | rfl | rfl | rfl
 ·obtain rfl : (1, n) = r := by rw [← hr.out]; rfl
  clear hr HC HT HR
  go_enter Tryz.func125, Tryz.ntmps125
  go_wp2
  refine bodyPost_ret (v := rv (1, n)) (by simp [results, Tryz.results125, go_sem]) rfl ⟨rfl, by go_grown⟩
 all_goals
  obtain ⟨r0, r1⟩ := r
  go_enter Tryz.func125, Tryz.ntmps125
  go_wp2_with fail
 ·have hr2 : Hid (fieldR k m = (r0, r1)) := by show _ = _; rw [← hr.out]; rfl
  refine (impl_field k m a zs.length cap t _).mono ?_
  rintro e w1 ⟨rfl, hB1⟩
  rw [hr2.out]
  have HB1 : Hid (Below w.heap.size w w1) := Below.trans ?hb (hB1.mono (by simp; omega))
  case hb => go_grown
  have HG : Hid (R2 w1 (w.heap.size + 1 + 1) (0, 0)) := by
   have := (R2.new ((w.alloc (.cells #[.int .i64 2, .int .i64 n, .string s] 108)).alloc (.cells #[.int .i64 k, .int .i64 m, .slice a zs.length cap, .string t] 59)) 0 0).on hB1
   show R2 _ _ _
   simpa using this
  obtain ⟨x0, x1, xf⟩ := HG.out.cells
  dsimp only at x0 x1
  clear hB1
  go_wp2_with fail
  refine bodyPost_ret (v := rv (r0, r1)) (by simp [results, Tryz.results125, go_sem, x0, x1]) rfl ⟨rfl, ?_⟩
  repeat (refine Below.setCell ?_ (by simp only; omega) _)
  exact HB1.out
 ·have hr2 : Hid (hasR k (zs.contains n) = (r0, r1)) := by show _ = _; rw [← hr.out]; rfl
  refine (impl_hasT k m a cap zs t n _ (HC.out.on ?hb0) HT.out HR.out).mono ?_
  case hb0 => go_grown
  rintro e w1 ⟨rfl, hB1⟩
  rw [hr2.out]
  have HB1 : Hid (Below w.heap.size w w1) := Below.trans ?hb (hB1.mono (by simp; omega))
  case hb => go_grown
  have HG : Hid (R2 w1 (w.heap.size + 1 + 1) (0, 0)) := by
   have := (R2.new ((w.alloc (.cells #[.int .i64 12, .int .i64 n, .string s] 108)).alloc (.cells #[.int .i64 k, .int .i64 m, .slice a zs.length cap, .string t] 59)) 0 0).on hB1
   show R2 _ _ _
   simpa using this
  obtain ⟨x0, x1, xf⟩ := HG.out.cells
  dsimp only at x0 x1
  clear hB1
  go_wp2_with fail
  refine bodyPost_ret (v := rv (r0, r1)) (by simp [results, Tryz.results125, go_sem, x0, x1]) rfl ⟨rfl, ?_⟩
  repeat (refine Below.setCell ?_ (by simp only; omega) _)
  exact HB1.out
 ·obtain ⟨q, hq⟩ : ∃ q, Hid (decide (1 ≤ k ∧ k ≤ 4) = q) := ⟨_, rfl⟩
  have hr2 : Hid (truthR q = (r0, r1)) := by show _ = _; rw [← hr.out, ← hq.out]; rfl
  refine (ValK.impl_known k m a cap zs t _ (HC.out.on ?hb0) HT.out).mono ?_
  case hb0 => go_grown
  rintro e w1 ⟨rfl, hB1⟩
  rw [show ValK.knownB k m zs t = q by unfold ValK.knownB; rw [HR.out, hq.out]; rfl]
  have HB1 : Hid (Below w.heap.size w w1) := Below.trans ?hb (hB1.mono (by simp; omega))
  case hb => go_grown
  have HG : Hid (R2 w1 (w.heap.size + 1 + 1) (0, 0)) := by
   have := (R2.new ((w.alloc (.cells #[.int .i64 13, .int .i64 n, .string s] 108)).alloc (.cells #[.int .i64 k, .int .i64 m, .slice a zs.length cap, .string t] 59)) 0 0).on hB1
   show R2 _ _ _
   simpa using this
  clear hB1
  go_wp2_with fail
  refine (impl_truth q w1).mono ?_
  rintro e w2 ⟨rfl, hB2⟩
  rw [hr2.out]
  have HB2 : Hid (Below w.heap.size w w2) := HB1.out.trans (hB2.mono HB1.out.size)
  obtain ⟨x0, x1, xf⟩ := (HG.out.on hB2).cells
  dsimp only at x0 x1
  clear hB2
  go_wp2_with fail
  refine bodyPost_ret (v := rv (r0, r1)) (by simp [results, Tryz.results125, go_sem, x0, x1]) rfl ⟨rfl, ?_⟩
  repeat (refine Below.setCell ?_ (by simp only; omega) _)
  exact HB2.out
open Go.RowKit
open EvlM EvlS ValW FixF
set_option maxRecDepth 10000 in
set_option maxHeartbeats 1600000 in
theorem reck_call (F : FuncId) (a b : Int) (q : Int × Int) (p : Nat) (w : World) (hp : w.cell? ⟨p, 0, none⟩ = some (.func (.func F) #[] #[])) (hpl : p < w.heap.size)
  (hent : ∀ W, (callFunc F #[.int .i64 a, .int .i64 b]).run Tryz.prog W = .ok (.enter F #[.int .i64 a, .int .i64 b]) W)
  (hcall : ∀ W, Calls Tryz.prog F #[.int .i64 a, .int .i64 b] W fun e w' => e = .returned (numV q.1 q.2) ∧ Below W.heap.size W w') :
  Calls Tryz.prog 178 #[.int .i64 a, .int .i64 b, .pointer (some ⟨p, 0, none⟩)] w fun e w' => e = .returned (rv (outRs q)) ∧ Below w.heap.size w w' := by
 have HC := hid hcall
 clear hcall
 obtain ⟨r, hr⟩ : ∃ r, Hid (outRs q = r) := ⟨_, rfl⟩
 rw [hr.out]
 obtain ⟨q0, q1⟩ := q
 go_enter Tryz.func178, Tryz.ntmps178
 go_wp2_with fail
 refine (HC.out _).mono ?_
 rintro e w1 ⟨rfl, hB1⟩
 have HB1 : Hid (Below w.heap.size w w1) := (below_one w _).trans (hB1.mono (by simp))
 have HG : Hid (R2 w1 w.heap.size (0, 0)) := (R2.new w 0 0).on hB1
 clear hB1 HC
 obtain ⟨x0, x1, xf⟩ := HG.out.cells
 have hgl := HG.out.lt
 dsimp only at x0 x1
 unfold numV
 dsimp only
 by_cases hz : q1 = 0
 ·subst hz
  obtain rfl : (1, q0) = r := by rw [← hr.out]; rfl
  clear hr
  go_wp2_with fail
  refine bodyPost_ret (v := rv (1, q0)) (by simp [results, Tryz.results178, go_sem, x0, x1, hgl]) rfl ⟨rfl, ?_⟩
  repeat (first | refine Below.setCell ?_ (by simp) _ | refine Below.alloc ?_ (by have := HB1.out.size; simp; omega) _)
  exact HB1.out
 ·obtain rfl : (4, 0) = r := by rw [← hr.out]; unfold outRs; rw [if_neg hz]
  have ez : (q1 == 0) = false := by simp [hz]
  clear hr
  go_wp2_with fail
  refine bodyPost_ret (v := rv (4, 0)) (by simp [results, Tryz.results178, go_sem, x0, x1, hgl]) rfl ⟨rfl, ?_⟩
  repeat (first | refine Below.setCell ?_ (by simp) _ | refine Below.alloc ?_ (by have := HB1.out.size; simp; omega) _)
  exact HB1.out
set_option maxRecDepth 10000 in
set_option maxHeartbeats 1600000 in
theorem comp_call (F : FuncId) (a b : Int) (c : Bool) (p : Nat) (w : World) (hp : w.cell? ⟨p, 0, none⟩ = some (.func (.func F) #[] #[])) (hpl : p < w.heap.size)
  (hent : ∀ W, (callFunc F #[.int .i64 a, .int .i64 b]).run Tryz.prog W = .ok (.enter F #[.int .i64 a, .int .i64 b]) W)
  (hcall : ∀ W, Calls Tryz.prog F #[.int .i64 a, .int .i64 b] W fun e w' => e = .returned (.bool c) ∧ Below W.heap.size W w') :
  Calls Tryz.prog 186 #[.int .i64 a, .int .i64 b, .pointer (some ⟨p, 0, none⟩)] w fun e w' => e = .returned (rv (truthR c)) ∧ Below w.heap.size w w' := by
 have HC := hid hcall
 clear hcall
 obtain ⟨r, hr⟩ : ∃ r, Hid (truthR c = r) := ⟨_, rfl⟩
 rw [hr.out]
 obtain ⟨r0, r1⟩ := r
 go_enter Tryz.func186, Tryz.ntmps186
 go_wp2_with fail
 refine (HC.out _).mono ?_
 rintro e w1 ⟨rfl, hB1⟩
 have HB1 : Hid (Below w.heap.size w w1) := (below_one w _).trans (hB1.mono (by simp))
 have HG : Hid (R2 w1 w.heap.size (0, 0)) := (R2.new w 0 0).on hB1
 clear hB1 HC
 go_wp2_with fail
 refine (impl_truth c w1).mono ?_
 rintro e w2 ⟨rfl, hB2⟩
 rw [hr.out]
 have HB2 : Hid (Below w.heap.size w w2) := HB1.out.trans (hB2.mono HB1.out.size)
 obtain ⟨x0, x1, xf⟩ := (HG.out.on hB2).cells
 dsimp only at x0 x1
 clear hB2
 go_wp2_with fail
 refine bodyPost_ret (v := rv (r0, r1)) (by simp [results, Tryz.results186, go_sem, x0, x1]) rfl ⟨rfl, ?_⟩
 repeat (refine Below.setCell ?_ (by simp) _)
 exact HB2.out
set_option maxRecDepth 10000 in
set_option maxHeartbeats 1600000 in
theorem nums_call (G : FuncId) (k1 n1 k2 n2 : Int) (q : Rs) (p p1 : Nat) (w : World) (hp : w.cell? ⟨p, 0, none⟩ = some (.func (.func G) #[] #[.pointer (some ⟨p1, 0, none⟩)])) (hpl : p < w.heap.size)
  (hent : ∀ W, (callFunc G #[.int .i64 n1, .int .i64 n2, .pointer (some ⟨p1, 0, none⟩)]).run Tryz.prog W = .ok (.enter G #[.int .i64 n1, .int .i64 n2, .pointer (some ⟨p1, 0, none⟩)]) W)
  (hcall : ∀ W, Below w.heap.size w W → Calls Tryz.prog G #[.int .i64 n1, .int .i64 n2, .pointer (some ⟨p1, 0, none⟩)] W fun e w' => e = .returned (rv q) ∧ Below W.heap.size W w') :
  Calls Tryz.prog 209 #[rv (k1, n1), rv (k2, n2), .pointer (some ⟨p, 0, none⟩)] w fun e w' => e = .returned (rv (if badR (k1, n1) (k2, n2) = 0 then q else (badR (k1, n1) (k2, n2), 0))) ∧ Below w.heap.size w w' := by
 have HC := hid hcall
 clear hcall
 obtain ⟨bd, hbd⟩ : ∃ bd, Hid (badR (k1, n1) (k2, n2) = bd) := ⟨_, rfl⟩
 rw [hbd.out]
 obtain ⟨q0, q1⟩ := q
 obtain ⟨r, hr⟩ : ∃ r : Rs, Hid ((if bd = 0 then (q0, q1) else (bd, 0)) = r) := ⟨_, rfl⟩
 rw [hr.out]
 go_enter Tryz.func209, Tryz.ntmps209
 go_wp2_with fail
 refine (impl_unsettled k1 n1 k2 n2 _).mono ?_
 rintro e w1 ⟨rfl, hB1⟩
 rw [hbd.out]
 have HB1 : Hid (Below w.heap.size w w1) := Below.trans ?hb (hB1.mono (by simp; omega))
 case hb => go_grown
 have hA := ((R2.new w k1 n1).alloc (.cells #[.int .i64 k2, .int .i64 n2] 86)).alloc (.cells #[.int .i64 0, .int .i64 0] 86) |>.on hB1
 have hC := ((R2.new (w.alloc (.cells #[.int .i64 k1, .int .i64 n1] 86)) k2 n2).alloc (.cells #[.int .i64 0, .int .i64 0] 86)).on hB1
 have hR := (R2.new ((w.alloc (.cells #[.int .i64 k1, .int .i64 n1] 86)).alloc (.cells #[.int .i64 k2, .int .i64 n2] 86)) 0 0).on hB1
 simp only [World.size_alloc] at hC hR
 have HA := hid hA
 have HCx := hid hC
 have HR := hid hR
 have hp1 : w1.cell? ⟨p, 0, none⟩ = some (.func (.func G) #[] #[.pointer (some ⟨p1, 0, none⟩)]) := by rw [HB1.out.cell (p := ⟨p, 0, none⟩) hpl]; exact hp
 clear hB1 hA hC hR hp
 obtain ⟨a0, a1, af⟩ := HA.out.cells
 obtain ⟨c0, c1, cf⟩ := HCx.out.cells
 obtain ⟨x0, x1, xf⟩ := HR.out.cells
 have hal := HA.out.lt
 have hcl := HCx.out.lt
 have hrl := HR.out.lt
 have hsz := HB1.out.size
 have hpl1 : p < w1.heap.size := by omega
 dsimp only at a0 a1 c0 c1 x0 x1
 by_cases hz : bd = 0
 ·subst hz
  obtain rfl : (q0, q1) = r := by rw [← hr.out, if_pos rfl]
  go_wp2_with fail
  refine (HC.out _ ?hbw).mono ?_
  case hbw => exact HB1.out.alloc HB1.out.size _
  rintro e w2 ⟨rfl, hB2⟩
  have hb2 : Below w1.heap.size w1 w2 := (below_one w1 _).trans (hB2.mono (by simp))
  have HB2 : Hid (Below w.heap.size w w2) := HB1.out.trans (hb2.mono HB1.out.size)
  clear x0 x1 xf a0 a1 af c0 c1 cf
  obtain ⟨x0, x1, xf⟩ := (HR.out.on hb2).cells
  dsimp only at x0 x1
  clear hB2 hb2
  go_wp2_with fail
  refine bodyPost_ret (v := rv (q0, q1)) (by simp [results, Tryz.results209, go_sem, x0, x1]) rfl ⟨rfl, ?_⟩
  repeat (refine Below.setCell ?_ (by simp only; omega) _)
  exact HB2.out
 ·obtain rfl : (bd, 0) = r := by rw [← hr.out, if_neg hz]
  have hnz : decide (bd ≠ 0) = true := by simp [hz]
  rw [hnz]
  clear hbd HC hent hnz
  go_wp2_with fail
  refine bodyPost_ret (v := rv (bd, 0)) (by simp [results, Tryz.results209, go_sem, x0, x1, hrl]) rfl ⟨rfl, ?_⟩
  repeat (first | refine Below.setCell ?_ (by simp only; omega) _ | refine Below.alloc ?_ (by simp; omega) _)
  exact HB1.out
open Go.RowKit
open EvlM EvlS ValW FixF FixS FixT FixTi
set_option maxRecDepth 10000 in
set_option maxHeartbeats 3200000 in
theorem dec_call (h : Bool) (k1 n1 k2 n2 : Int) (p : Nat) (w : World) (hp : w.cell? ⟨p, 0, none⟩ = some (.bool h)) (hpl : p < w.heap.size) :
  Calls Tryz.prog 187 #[rv (k1, n1), rv (k2, n2), .pointer (some ⟨p, 0, none⟩)] w fun e w' => e = .returned (rv (if (k1, n1) = truthR h ∨ (k2, n2) = truthR h then truthR h else if badR (k1, n1) (k2, n2) = 0 then truthR (!h) else (badR (k1, n1) (k2, n2), 0))) ∧ Below w.heap.size w w' := by
 obtain ⟨bd, hbd⟩ : ∃ bd, Hid (badR (k1, n1) (k2, n2) = bd) := ⟨_, rfl⟩
 rw [hbd.out]
 obtain ⟨r, hr⟩ : ∃ r : Rs, Hid ((if (k1, n1) = truthR h ∨ (k2, n2) = truthR h then truthR h else if bd = 0 then truthR (!h) else (bd, 0)) = r) := ⟨_, rfl⟩
 rw [hr.out]
 obtain ⟨t0, t1, ht⟩ : ∃ t0 t1, truthR h = (t0, t1) := ⟨(truthR h).1, (truthR h).2, rfl⟩
 have HT := hid ht
 rw [ht] at hr
 clear ht
 have hpa : p < w.heap.size + 1 := by omega
 have hpb : p < w.heap.size + 1 + 1 := by omega
 go_enter Tryz.func187, Tryz.ntmps187
 go_wp2_with fail
 refine (impl_truth h _).mono ?_
 rintro e w1 ⟨rfl, hB1⟩
 rw [HT.out]
 have HB1 : Hid (Below w.heap.size w w1) := Below.trans ?hb (hB1.mono (by simp; omega))
 case hb => go_grown
 have hA := ((R2.new w k1 n1).alloc (.cells #[.int .i64 k2, .int .i64 n2] 86)).alloc (.cells #[.int .i64 0, .int .i64 0] 86) |>.on hB1
 have hC := ((R2.new (w.alloc (.cells #[.int .i64 k1, .int .i64 n1] 86)) k2 n2).alloc (.cells #[.int .i64 0, .int .i64 0] 86)).on hB1
 have hR := (R2.new ((w.alloc (.cells #[.int .i64 k1, .int .i64 n1] 86)).alloc (.cells #[.int .i64 k2, .int .i64 n2] 86)) 0 0).on hB1
 simp only [World.size_alloc] at hC hR
 have HA := hid hA
 have HCx := hid hC
 have HR := hid hR
 have HP1 : Hid (w1.cell? ⟨p, 0, none⟩ = some (.bool h)) := by show _ = _; rw [HB1.out.cell (p := ⟨p, 0, none⟩) hpl]; exact hp
 clear hB1 hA hC hR hp
 obtain ⟨a0, a1, af⟩ := HA.out.cells
 obtain ⟨c0, c1, cf⟩ := HCx.out.cells
 obtain ⟨x0, x1, xf⟩ := HR.out.cells
 have hal := HA.out.lt
 have hcl := HCx.out.lt
 have hrl := HR.out.lt
 have hsz := HB1.out.size
 dsimp only at a0 a1 c0 c1 x0 x1
 by_cases e1 : k1 = t0 ∧ n1 = t1
 ·obtain ⟨rfl, rfl⟩ := e1
  obtain rfl : (k1, n1) = r := by rw [← hr.out, if_pos (.inl rfl)]
  have ea : ∀ W, (binOp .eql 86 (.agg #[.int .i64 k1, .int .i64 n1]) (.agg #[.int .i64 k1, .int .i64 n1])).run Tryz.prog W = .ok (.bool true) W := fun W => by rw [eq_res]; simp
  clear hr
  go_wp2_with fail
  refine bodyPost_ret (v := rv (k1, n1)) (by simp [results, Tryz.results187, go_sem, x0, x1, hrl]) rfl ⟨rfl, ?_⟩
  repeat (first | refine Below.setCell ?_ (by simp only; omega) _ | refine Below.alloc ?_ (by simp; omega) _)
  exact HB1.out
 ·have ea := eq_res_no k1 n1 t0 t1 e1
  by_cases e2 : k2 = t0 ∧ n2 = t1
  ·obtain ⟨rfl, rfl⟩ := e2
   obtain rfl : (k2, n2) = r := by rw [← hr.out, if_pos (.inr rfl)]
   have eb : ∀ W, (binOp .eql 86 (.agg #[.int .i64 k2, .int .i64 n2]) (.agg #[.int .i64 k2, .int .i64 n2])).run Tryz.prog W = .ok (.bool true) W := fun W => by rw [eq_res]; simp
   clear hr
   go_wp2_with fail
   refine bodyPost_ret (v := rv (k2, n2)) (by simp [results, Tryz.results187, go_sem, x0, x1, hrl]) rfl ⟨rfl, ?_⟩
   repeat (first | refine Below.setCell ?_ (by simp only; omega) _ | refine Below.alloc ?_ (by simp; omega) _)
   exact HB1.out
  ·have eb := eq_res_no k2 n2 t0 t1 e2
   have hno : ¬ ((k1, n1) = ((t0, t1) : Rs) ∨ (k2, n2) = ((t0, t1) : Rs)) := by
    rintro (h | h) <;> injection h with h1 h2
    ·exact e1 ⟨h1, h2⟩
    ·exact e2 ⟨h1, h2⟩
   have HN := hid hno
   clear hno
   go_wp2_with fail
   refine (impl_unsettled k1 n1 k2 n2 _).mono ?_
   rintro e w2 ⟨rfl, hB2⟩
   rw [hbd.out]
   have hb2 : Below w1.heap.size w1 w2 := (below_one w1 _).trans (hB2.mono (by simp))
   have HB2 : Hid (Below w.heap.size w w2) := HB1.out.trans (hb2.mono HB1.out.size)
   have HR2 := hid (HR.out.on hb2)
   have hp2 : w2.cell? ⟨p, 0, none⟩ = some (.bool h) := by rw [hb2.cell (p := ⟨p, 0, none⟩) (by show p < _; omega)]; exact HP1.out
   have hs2 := hb2.size
   clear x0 x1 xf a0 a1 af c0 c1 cf hB2 hb2 ea eb
   obtain ⟨x0, x1, xf⟩ := HR2.out.cells
   have hrl2 := HR2.out.lt
   have hpl2 : p < w2.heap.size := by omega
   dsimp only at x0 x1
   by_cases hz : bd = 0
   ·subst hz
    obtain ⟨r0, r1⟩ := r
    have HQ : Hid (truthR (!h) = (r0, r1)) := by show _ = _; rw [← hr.out, if_neg HN.out, if_pos rfl]
    clear hr hbd
    go_wp2_with fail
    refine (impl_truth (!h) _).mono ?_
    rintro e w3 ⟨rfl, hB3⟩
    rw [HQ.out]
    have hb3 : Below w2.heap.size w2 w3 := (below_one w2 _).trans (hB3.mono (by simp))
    have HB3 : Hid (Below w.heap.size w w3) := HB2.out.trans (hb3.mono HB2.out.size)
    clear x0 x1 xf
    obtain ⟨x0, x1, xf⟩ := (HR2.out.on hb3).cells
    dsimp only at x0 x1
    clear hB3 hb3
    go_wp2_with fail
    refine bodyPost_ret (v := rv (r0, r1)) (by simp [results, Tryz.results187, go_sem, x0, x1]) rfl ⟨rfl, ?_⟩
    repeat (refine Below.setCell ?_ (by simp only; omega) _)
    exact HB3.out
   ·obtain rfl : (bd, 0) = r := by rw [← hr.out, if_neg HN.out, if_neg hz]
    have hnz : decide (bd ≠ 0) = true := by simp [hz]
    rw [hnz]
    clear hbd hnz hr
    go_wp2_with fail
    refine bodyPost_ret (v := rv (bd, 0)) (by simp [results, Tryz.results187, go_sem, x0, x1, hrl2]) rfl ⟨rfl, ?_⟩
    repeat (first | refine Below.setCell ?_ (by simp only; omega) _ | refine Below.alloc ?_ (by simp; omega) _)
    exact HB2.out
open Go.RowKit
open EvlM EvlS ValW FixF FixS FixT FixTi
theorem makeF : ∀ (fn : Fn) (first cap : Array Value) (w : World), (Instr.makeFunc fn first cap).run Tryz.prog w = .ok (.func fn first cap) w := fun _ _ _ _ => rfl
abbrev pv (p : Nat) : Value := .pointer (some ⟨p, 0, none⟩)
abbrev fn0 (F : FuncId) : Value := .func (.func F) #[] #[]
abbrev fn1 (F : FuncId) (p : Nat) : Value := .func (.func F) #[] #[pv p]
set_option maxHeartbeats 800000 in
theorem ofNumbers_in (G : FuncId) (q : Nat) (w : World) : Calls Tryz.prog 177 #[fn1 G q] w fun e w' => e = .returned (fn1 209 w.heap.size) ∧ w'.cell? ⟨w.heap.size, 0, none⟩ = some (fn1 G q) ∧ w.heap.size < w'.heap.size ∧ Below w.heap.size w w' := by
 have hmf := makeF
 go_enter Tryz.func177, Tryz.ntmps177
 go_wp2
 go_ret
 exact ⟨rfl, by simp, by simp, by go_grown⟩
def Cl (w : World) (K F : FuncId) (fv : Value) : Prop := ∃ p p1, fv = fn1 209 p ∧ p < w.heap.size ∧ p1 < w.heap.size ∧ w.cell? ⟨p, 0, none⟩ = some (fn1 K p1) ∧ w.cell? ⟨p1, 0, none⟩ = some (fn0 F)
set_option maxHeartbeats 800000 in
theorem reckoning_in (F : FuncId) (w : World) : Calls Tryz.prog 143 #[fn0 F] w fun e w' => (∃ fv, e = .returned fv ∧ Cl w' 178 F fv) ∧ Below w.heap.size w w' := by
 have hmf := makeF
 go_enter Tryz.func143, Tryz.ntmps143
 go_wp2_with fail
 refine (ofNumbers_in 178 w.heap.size _).mono ?_
 rintro e w1 ⟨rfl, hc, hl, hB1⟩
 have HB1 : Hid (Below w.heap.size w w1) := (below_one w _).trans (hB1.mono (by simp))
 have hc1 : w1.cell? ⟨w.heap.size, 0, none⟩ = some (fn0 F) := by rw [hB1.cell (p := ⟨w.heap.size, 0, none⟩) (by simp)]; simp
 simp only [World.size_alloc] at hc hl
 have HC := hid hc
 have HC1 := hid hc1
 have HL := hid hl
 have hs := hB1.size
 simp only [World.size_alloc] at hs
 clear hB1 hc hc1 hl
 go_wp2_with fail
 go_ret
 exact ⟨⟨_, rfl, _, w.heap.size, rfl, HL.out, by omega, HC.out, HC1.out⟩, HB1.out⟩
set_option maxHeartbeats 800000 in
theorem comparing_in (F : FuncId) (w : World) : Calls Tryz.prog 147 #[fn0 F] w fun e w' => (∃ fv, e = .returned fv ∧ Cl w' 186 F fv) ∧ Below w.heap.size w w' := by
 have hmf := makeF
 go_enter Tryz.func147, Tryz.ntmps147
 go_wp2_with fail
 refine (ofNumbers_in 186 w.heap.size _).mono ?_
 rintro e w1 ⟨rfl, hc, hl, hB1⟩
 have HB1 : Hid (Below w.heap.size w w1) := (below_one w _).trans (hB1.mono (by simp))
 have hc1 : w1.cell? ⟨w.heap.size, 0, none⟩ = some (fn0 F) := by rw [hB1.cell (p := ⟨w.heap.size, 0, none⟩) (by simp)]; simp
 simp only [World.size_alloc] at hc hl
 have HC := hid hc
 have HC1 := hid hc1
 have HL := hid hl
 have hs := hB1.size
 simp only [World.size_alloc] at hs
 clear hB1 hc hc1 hl
 go_wp2_with fail
 go_ret
 exact ⟨⟨_, rfl, _, w.heap.size, rfl, HL.out, by omega, HC.out, HC1.out⟩, HB1.out⟩
def Dc (w : World) (h : Bool) (fv : Value) : Prop := ∃ p, fv = fn1 187 p ∧ p < w.heap.size ∧ w.cell? ⟨p, 0, none⟩ = some (.bool h)
set_option maxHeartbeats 800000 in
theorem deciding_in (h : Bool) (w : World) : Calls Tryz.prog 151 #[.bool h] w fun e w' => (∃ fv, e = .returned fv ∧ Dc w' h fv) ∧ Below w.heap.size w w' := by
 have hmf := makeF
 go_enter Tryz.func151, Tryz.ntmps151
 go_wp2
 go_ret
 exact ⟨⟨_, rfl, w.heap.size, rfl, by simp, by simp⟩, by go_grown⟩
def FnV (w : World) (x : Int) (fv : Value) : Prop :=
 (x = 3 ∧ Cl w 178 144 fv) ∨ (x = 4 ∧ Cl w 178 145 fv) ∨ (x = 5 ∧ Cl w 178 146 fv) ∨
 (x = 6 ∧ Cl w 186 148 fv) ∨ (x = 7 ∧ Cl w 186 149 fv) ∨ (x = 8 ∧ Cl w 186 150 fv) ∨
 (x = 9 ∧ Dc w false fv) ∨ (x = 10 ∧ Dc w true fv)
set_option maxHeartbeats 1600000 in
theorem ofTwo_in (x : Int) (h1 : 3 ≤ x) (h2 : x ≤ 10) (w : World) : Calls Tryz.prog 124 #[.int .i64 x] w fun e w' => (∃ fv, e = .returned fv ∧ FnV w' x fv) ∧ Below w.heap.size w w' := by
 rcases (by omega : x = 3 ∨ x = 4 ∨ x = 5 ∨ x = 6 ∨ x = 7 ∨ x = 8 ∨ x = 9 ∨ x = 10) with rfl | rfl | rfl | rfl | rfl | rfl | rfl | rfl
 ·go_enter Tryz.func124, Tryz.ntmps124
  go_wp2_with fail
  refine (reckoning_in 144 w).mono ?_
  rintro e w1 ⟨⟨fv, rfl, hc⟩, hB⟩
  have HC := hid hc
  have HB := hid hB
  clear hc hB
  go_wp2_with fail
  go_ret
  exact ⟨⟨_, rfl, .inl ⟨rfl, HC.out⟩⟩, HB.out⟩
 ·go_enter Tryz.func124, Tryz.ntmps124
  go_wp2_with fail
  refine (reckoning_in 145 w).mono ?_
  rintro e w1 ⟨⟨fv, rfl, hc⟩, hB⟩
  have HC := hid hc
  have HB := hid hB
  clear hc hB
  go_wp2_with fail
  go_ret
  exact ⟨⟨_, rfl, .inr (.inl ⟨rfl, HC.out⟩)⟩, HB.out⟩
 ·go_enter Tryz.func124, Tryz.ntmps124
  go_wp2_with fail
  refine (reckoning_in 146 w).mono ?_
  rintro e w1 ⟨⟨fv, rfl, hc⟩, hB⟩
  have HC := hid hc
  have HB := hid hB
  clear hc hB
  go_wp2_with fail
  go_ret
  exact ⟨⟨_, rfl, .inr (.inr (.inl ⟨rfl, HC.out⟩))⟩, HB.out⟩
 ·go_enter Tryz.func124, Tryz.ntmps124
  go_wp2_with fail
  refine (comparing_in 148 w).mono ?_
  rintro e w1 ⟨⟨fv, rfl, hc⟩, hB⟩
  have HC := hid hc
  have HB := hid hB
  clear hc hB
  go_wp2_with fail
  go_ret
  exact ⟨⟨_, rfl, .inr (.inr (.inr (.inl ⟨rfl, HC.out⟩)))⟩, HB.out⟩
 ·go_enter Tryz.func124, Tryz.ntmps124
  go_wp2_with fail
  refine (comparing_in 149 w).mono ?_
  rintro e w1 ⟨⟨fv, rfl, hc⟩, hB⟩
  have HC := hid hc
  have HB := hid hB
  clear hc hB
  go_wp2_with fail
  go_ret
  exact ⟨⟨_, rfl, .inr (.inr (.inr (.inr (.inl ⟨rfl, HC.out⟩))))⟩, HB.out⟩
 ·go_enter Tryz.func124, Tryz.ntmps124
  go_wp2_with fail
  refine (comparing_in 150 w).mono ?_
  rintro e w1 ⟨⟨fv, rfl, hc⟩, hB⟩
  have HC := hid hc
  have HB := hid hB
  clear hc hB
  go_wp2_with fail
  go_ret
  exact ⟨⟨_, rfl, .inr (.inr (.inr (.inr (.inr (.inl ⟨rfl, HC.out⟩)))))⟩, HB.out⟩
 ·go_enter Tryz.func124, Tryz.ntmps124
  go_wp2_with fail
  refine (deciding_in false w).mono ?_
  rintro e w1 ⟨⟨fv, rfl, hc⟩, hB⟩
  have HC := hid hc
  have HB := hid hB
  clear hc hB
  go_wp2_with fail
  go_ret
  exact ⟨⟨_, rfl, .inr (.inr (.inr (.inr (.inr (.inr (.inl ⟨rfl, HC.out⟩))))))⟩, HB.out⟩
 ·go_enter Tryz.func124, Tryz.ntmps124
  go_wp2_with fail
  refine (deciding_in true w).mono ?_
  rintro e w1 ⟨⟨fv, rfl, hc⟩, hB⟩
  have HC := hid hc
  have HB := hid hB
  clear hc hB
  go_wp2_with fail
  go_ret
  exact ⟨⟨_, rfl, .inr (.inr (.inr (.inr (.inr (.inr (.inr ⟨rfl, HC.out⟩))))))⟩, HB.out⟩
theorem same_in (a b : Int) (w : World) : Calls Tryz.prog 148 #[.int .i64 a, .int .i64 b] w fun e w' => e = .returned (.bool (decide (a = b))) ∧ Below w.heap.size w w' := by
 go_enter Tryz.func148, Tryz.ntmps148
 go_wp2
 go_ret
 exact ⟨rfl, Below.refl _ _⟩
theorem below_in (a b : Int) (w : World) : Calls Tryz.prog 149 #[.int .i64 a, .int .i64 b] w fun e w' => e = .returned (.bool (decide (a < b))) ∧ Below w.heap.size w w' := by
 go_enter Tryz.func149, Tryz.ntmps149
 go_wp2
 go_ret
 exact ⟨rfl, Below.refl _ _⟩
theorem atMost_in (a b : Int) (w : World) : Calls Tryz.prog 150 #[.int .i64 a, .int .i64 b] w fun e w' => e = .returned (.bool (decide (a ≤ b))) ∧ Below w.heap.size w w' := by
 go_enter Tryz.func150, Tryz.ntmps150
 go_wp2
 go_ret
 exact ⟨rfl, Below.refl _ _⟩
theorem cl_call {w : World} {K F : FuncId} {fv : Value} {k1 n1 k2 n2 : Int} {q : Rs} (h : Cl w K F fv)
  (hent : ∀ p W, (callFunc K #[.int .i64 n1, .int .i64 n2, pv p]).run Tryz.prog W = .ok (.enter K #[.int .i64 n1, .int .i64 n2, pv p]) W)
  (hc : ∀ p W, W.cell? ⟨p, 0, none⟩ = some (fn0 F) → p < W.heap.size → Calls Tryz.prog K #[.int .i64 n1, .int .i64 n2, pv p] W fun e w' => e = .returned (rv q) ∧ Below W.heap.size W w') :
  ∃ p, fv = fn1 209 p ∧ ∀ W, Below w.heap.size w W → Calls Tryz.prog 209 #[rv (k1, n1), rv (k2, n2), pv p] W fun e w' => e = .returned (rv (if badR (k1, n1) (k2, n2) = 0 then q else (badR (k1, n1) (k2, n2), 0))) ∧ Below W.heap.size W w' := by
 obtain ⟨p, p1, rfl, hp, hp1, c0, c1⟩ := h
 refine ⟨p, rfl, fun W hB => nums_call K k1 n1 k2 n2 q p p1 W ?_ (Nat.lt_of_lt_of_le hp hB.size) (hent p1) (fun W' hB' => hc p1 W' ?_ (Nat.lt_of_lt_of_le (Nat.lt_of_lt_of_le hp1 hB.size) hB'.size))⟩
 ·rw [hB.cell (p := ⟨p, 0, none⟩) hp]; exact c0
 ·rw [hB'.cell (p := ⟨p1, 0, none⟩) (Nat.lt_of_lt_of_le hp1 hB.size), hB.cell (p := ⟨p1, 0, none⟩) hp1]; exact c1
set_option maxRecDepth 100000 in
theorem fv_call {w : World} {x : Int} {fv : Value} (h : FnV w x fv) (k1 n1 k2 n2 : Int) :
  ∃ K p, fv = fn1 K p ∧ (∀ W, (callFunc K #[rv (k1, n1), rv (k2, n2), pv p]).run Tryz.prog W = .ok (.enter K #[rv (k1, n1), rv (k2, n2), pv p]) W) ∧
   ∀ W, Below w.heap.size w W → Calls Tryz.prog K #[rv (k1, n1), rv (k2, n2), pv p] W fun e w' => e = .returned (rv (twoR x (k1, n1) (k2, n2))) ∧ Below W.heap.size W w' := by
 rcases h with ⟨rfl, h⟩ | ⟨rfl, h⟩ | ⟨rfl, h⟩ | ⟨rfl, h⟩ | ⟨rfl, h⟩ | ⟨rfl, h⟩ | ⟨rfl, h⟩ | ⟨rfl, h⟩
 ·obtain ⟨p, e, hc⟩ := cl_call (k1 := k1) (k2 := k2) h (fun _ _ => rfl) (fun p W hp hl => reck_call _ n1 n2 (plusR n1 n2) p W hp hl (fun _ => rfl) (fun W => plus_face n1 n2 W))
  exact ⟨_, p, e, fun _ => rfl, hc⟩
 ·obtain ⟨p, e, hc⟩ := cl_call (k1 := k1) (k2 := k2) h (fun _ _ => rfl) (fun p W hp hl => reck_call _ n1 n2 (minusR n1 n2) p W hp hl (fun _ => rfl) (fun W => minus_face n1 n2 W))
  exact ⟨_, p, e, fun _ => rfl, hc⟩
 ·obtain ⟨p, e, hc⟩ := cl_call (k1 := k1) (k2 := k2) h (fun _ _ => rfl) (fun p W hp hl => reck_call _ n1 n2 (timesR n1 n2) p W hp hl (fun _ => rfl) (fun W => times_face n1 n2 W))
  exact ⟨_, p, e, fun _ => rfl, hc⟩
 ·obtain ⟨p, e, hc⟩ := cl_call (k1 := k1) (k2 := k2) h (fun _ _ => rfl) (fun p W hp hl => comp_call _ n1 n2 (decide (n1 = n2)) p W hp hl (fun _ => rfl) (fun W => same_in n1 n2 W))
  exact ⟨_, p, e, fun _ => rfl, hc⟩
 ·obtain ⟨p, e, hc⟩ := cl_call (k1 := k1) (k2 := k2) h (fun _ _ => rfl) (fun p W hp hl => comp_call _ n1 n2 (decide (n1 < n2)) p W hp hl (fun _ => rfl) (fun W => below_in n1 n2 W))
  exact ⟨_, p, e, fun _ => rfl, hc⟩
 ·obtain ⟨p, e, hc⟩ := cl_call (k1 := k1) (k2 := k2) h (fun _ _ => rfl) (fun p W hp hl => comp_call _ n1 n2 (decide (n1 ≤ n2)) p W hp hl (fun _ => rfl) (fun W => atMost_in n1 n2 W))
  exact ⟨_, p, e, fun _ => rfl, hc⟩
 ·obtain ⟨p, rfl, hp, hc⟩ := h
  exact ⟨_, p, rfl, fun _ => rfl, fun W hB => dec_call false k1 n1 k2 n2 p W (by rw [hB.cell (p := ⟨p, 0, none⟩) hp]; exact hc) (Nat.lt_of_lt_of_le hp hB.size)⟩
 ·obtain ⟨p, rfl, hp, hc⟩ := h
  exact ⟨_, p, rfl, fun _ => rfl, fun W hB => dec_call true k1 n1 k2 n2 p W (by rw [hB.cell (p := ⟨p, 0, none⟩) hp]; exact hc) (Nat.lt_of_lt_of_le hp hB.size)⟩
end Go.Proofs.YtmbhmknfipdadaaGreatDoor.EvlI
