/- How great the answers are together; the same answers twice. -/
import Derived.Test.YtfnimiimplphkaaAnsTo
namespace Go.Proofs.Ytfnimiimplphkaa.AnsW
open Go.RowKit
open ValW

set_option maxRecDepth 10000 in
set_option maxHeartbeats 800000 in
/-- with l0 left: what is left behind the answers, or less than nothing -/
theorem szAnsL (a : Option Addr) (cap : Nat) (ls : List An) (l0 : Nat) (hl0 : l0 ≤ 1048576) (w : World) (hc : Raw w a ls) :
    Calls Try.prog 5 #[.slice a ls.length cap, .int .i64 l0] w fun e w' => (∃ r : Int, e = .returned (.int .i64 r) ∧ (r < 0 ↔ l0 < ls.length + bulk ls) ∧ (ls.length + bulk ls ≤ l0 → r = l0 - (ls.length + bulk ls))) ∧ Below w.heap.size w w' := by
  have HC : Hid (Raw w a ls) := hc
  have hl := hc.1
  unfold maxLen at hl
  clear hc
  go_enter Try.func5, Try.ntmps5
  by_cases hbig : l0 < ls.length
  · go_wp2
    go_ret
    exact ⟨⟨_, rfl, by omega, by omega⟩, by go_grown⟩
  go_wp2
  go_loopw [1, 5] (fun l i wr => ∃ k : Nat, k ≤ ls.length ∧ i = .int .i64 k ∧ ls.length + bulk (ls.take k) ≤ l0 ∧ l = .int .i64 (l0 - ls.length - bulk (ls.take k)) ∧ Below w.heap.size w wr) (fun _ i _ => ls.length - (intOf i).toNat)
  case atStart => exact ⟨0, Nat.zero_le _, rfl, by simp [bulk]; omega, by simp [bulk], Below.refl _ _⟩
  case round =>
    obtain ⟨k, hk, rfl, hle, rfl, hbel⟩ := hrel
    by_cases hlt : k < ls.length
    · have hnx := bulk_take ls k hlt
      have hall := bulk_le ls (k + 1)
      obtain ⟨_, hfit, h1⟩ := HC.out
      obtain ⟨hs1, hs2⟩ := hfit k hlt
      obtain ⟨b, o, rfl, hb, hcs⟩ := h1 (by omega)
      obtain ⟨ai, cai, hF, hcr, _⟩ := hcs k hlt
      have hcl := hcr.1
      obtain ⟨c0, c1, c2, c3, c4⟩ := hF.on hb hbel
      generalize ls.getD k an0 = p at c0 c1 c2 c3 c4 hnx hs1 hs2 hcl
      obtain ⟨s, x, n, zs, t⟩ := p
      dsimp only [nm, kd, nu, cd, tx] at c0 c1 c2 c3 c4 hs1 hs2 hcl
      replace hnx : bulk (List.take (k + 1) ls) = bulk (List.take k ls) + (s.size + zs.length + t.size) := hnx
      have HB : Hid (Below w.heap.size w wr) := hbel
      clear hcs h1 hbel hfit HC hF hcr
      generalize hB' : bulk (List.take (k + 1) ls) = B' at *
      have HB' := hid hB'
      clear hB'
      generalize bulk (List.take k ls) = B at *
      by_cases hyes : ls.length + B + (s.size + zs.length + t.size) ≤ l0
      · go_wp2_with fail
        refine (szAns_yes s x n ai cai zs.length t _ (by omega) (by omega) wr).mono ?_
        rintro e w2 ⟨rfl, hB2⟩
        have HB2 : Hid (Below w.heap.size w w2) := HB.out.trans (hB2.mono HB.out.size)
        clear hB2 HB c0 c1 c2 c3 c4
        go_wp2
        refine ⟨⟨k + 1, by omega, by go_num, by rw [HB'.out]; omega, ?_, HB2.out⟩, by simp [intOf]; omega⟩
        rw [HB'.out, hnx]
        congr 1
        omega
      · go_wp2_with fail
        refine (szAns_no s x n ai cai zs.length t _ (by omega) (by omega) (by omega) hs1 hcl hs2 wr).mono ?_
        rintro e w2 ⟨rfl, hB2⟩
        have HB2 : Hid (Below w.heap.size w w2) := HB.out.trans (hB2.mono HB.out.size)
        clear hB2 HB c0 c1 c2 c3 c4
        go_wp2
        go_ret
        exact ⟨⟨_, rfl, by omega, by omega⟩, HB2.out⟩
    · go_wp2
      go_ret
      obtain rfl : k = ls.length := by omega
      rw [List.take_length] at *
      exact ⟨⟨_, rfl, by omega, by omega⟩, hbel⟩

theorem held10 {wr w' : World} {b b' o o' : Nat} {p q : An} {a a' : Option Addr} {c c' : Nat} (hb : b < wr.heap.size) (hb' : b' < wr.heap.size) (h : Five wr b o p a c) (h' : Five wr b' o' q a' c') (hB : Below wr.heap.size wr w') :
    Below wr.heap.size wr w' ∧ (w'.cell? ⟨b, o, none⟩ = some (.string (nm p)) ∧ w'.cell? ⟨b, o + 1, none⟩ = some (.int .i64 (kd p)) ∧ w'.cell? ⟨b, o + 2, none⟩ = some (.int .i64 (nu p)) ∧ w'.cell? ⟨b, o + 3, none⟩ = some (.slice a (cd p).length c) ∧ w'.cell? ⟨b, o + 4, none⟩ = some (.string (tx p))) ∧
    (w'.cell? ⟨b', o', none⟩ = some (.string (nm q)) ∧ w'.cell? ⟨b', o' + 1, none⟩ = some (.int .i64 (kd q)) ∧ w'.cell? ⟨b', o' + 2, none⟩ = some (.int .i64 (nu q)) ∧ w'.cell? ⟨b', o' + 3, none⟩ = some (.slice a' (cd q).length c') ∧ w'.cell? ⟨b', o' + 4, none⟩ = some (.string (tx q))) :=
  ⟨hB, h.on hb hB, h'.on hb' hB⟩

set_option maxRecDepth 10000 in
set_option maxHeartbeats 1600000 in
/-- the same answers twice -/
theorem eqAnsL (a a' : Option Addr) (cap cap' : Nat) (ls : List An) (w : World) (hc : Ans w a ls) (hc' : Ans w a' ls) :
    Calls Try.prog 9 #[.slice a ls.length cap, .slice a' ls.length cap'] w fun e w' => e = .returned (.bool true) ∧ Below w.heap.size w w' := by
  have HC : Hid (Ans w a ls) := hc
  have HC' : Hid (Ans w a' ls) := hc'
  have hl := hc.1
  clear hc hc'
  go_enter Try.func9, Try.ntmps9
  go_wp2
  go_loopw [5] (fun i wr => ∃ k : Nat, k ≤ ls.length ∧ i = .int .i64 k ∧ Below w.heap.size w wr) (fun i _ => ls.length - (intOf i).toNat)
  case atStart => exact ⟨0, Nat.zero_le _, rfl, Below.refl _ _⟩
  case round =>
    obtain ⟨k, hk, rfl, hbel⟩ := hrel
    by_cases hlt : k < ls.length
    · obtain ⟨_, b, o, ai, ci, rfl, hb, hF, hcd⟩ := HC.out.at hbel hlt
      obtain ⟨_, b', o', ai', ci', rfl, hb', hF', hcd'⟩ := HC'.out.at hbel hlt
      generalize ls.getD k an0 = p at hF hF' hcd hcd'
      obtain ⟨s, x, n, zs, t⟩ := p
      dsimp only [cd] at hcd hcd'
      have HB : Hid (Below w.heap.size w wr) := hbel
      have HF := hid hF
      have HF' := hid hF'
      have HCd := hid hcd
      have HCd' := hid hcd'
      clear HC HC' hbel hF hF' hcd hcd'
      go_wp2_with fail
      have hbr : b < wr.heap.size := Nat.lt_of_lt_of_le hb HB.out.size
      have hbr' : b' < wr.heap.size := Nat.lt_of_lt_of_le hb' HB.out.size
      have hB0 : Below wr.heap.size wr wr.drew := (Below.refl _ _).drew
      go_region_held3 (fun w' => Below wr.heap.size wr w' ∧ (w'.cell? ⟨b, o + k * 5, none⟩ = some (.string s) ∧ w'.cell? ⟨b, o + k * 5 + 1, none⟩ = some (.int .i64 x) ∧ w'.cell? ⟨b, o + k * 5 + 2, none⟩ = some (.int .i64 n) ∧ w'.cell? ⟨b, o + k * 5 + 3, none⟩ = some (.slice ai zs.length ci) ∧ w'.cell? ⟨b, o + k * 5 + 4, none⟩ = some (.string t)) ∧ (w'.cell? ⟨b', o' + k * 5, none⟩ = some (.string s) ∧ w'.cell? ⟨b', o' + k * 5 + 1, none⟩ = some (.int .i64 x) ∧ w'.cell? ⟨b', o' + k * 5 + 2, none⟩ = some (.int .i64 n) ∧ w'.cell? ⟨b', o' + k * 5 + 3, none⟩ = some (.slice ai' zs.length ci') ∧ w'.cell? ⟨b', o' + k * 5 + 4, none⟩ = some (.string t)))
        (first | exact held10 hbr hbr' HF.out HF'.out (by assumption))
        (first | (go_at_call 22
                  have hp := ‹Below wr.heap.size wr _ ∧ _›.1
                  refine (eqAns5 s x n ai ai' ci ci' zs t _ (HCd.out.on hp) (HCd'.out.on hp)).mono ?_
                  rintro e w' ⟨rfl, hB⟩
                  have hBn := hp.trans (hB.mono hp.size)))
      go_wp2
      refine ⟨⟨k + 1, by omega, by go_num, HB.out.trans (hBn.mono HB.out.size)⟩, by simp [intOf]; omega⟩
    · go_wp2
      go_ret
      exact ⟨rfl, hbel⟩
end Go.Proofs.Ytfnimiimplphkaa.AnsW
