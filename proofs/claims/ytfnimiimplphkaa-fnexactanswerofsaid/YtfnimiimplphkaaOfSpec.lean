/- AnswerOf: what the model says. -/
import Derived.Test.YtfnimiimplphkaaOfMath
import Derived.Test.YtfnimiimplphkaaAnsSpec
import Derived.Test.YtfnimiimplphkaaDrawVCopy
namespace Go.Proofs.Ytfnimiimplphkaa.AnsW
open Go.RowKit
open ValW NameW RdS

set_option maxRecDepth 10000 in
set_option maxHeartbeats 800000 in
theorem spec_at (a : Option Addr) (cap : Nat) (ls : List An) (s : ByteArray) (w : World) (hc : Ans w a ls) :
    Calls Try.prog 36 #[.slice a ls.length cap, .string s] w fun e w' => ((∃ i, Found ls s i ∧ e = .returned (.int .i64 (i : Int))) ∨ (Lacks ls s ∧ e = .returned (.int .i64 (-1)))) ∧ Below w.heap.size w w' := by
  have HC : Hid (Ans w a ls) := hc
  have hl := hc.1
  clear hc
  go_enter Try.func36, Try.ntmps36
  go_wp2
  go_loopw [5] (fun i wr => ∃ k : Nat, k ≤ ls.length ∧ i = .int .i64 k ∧ Hid (∀ j, j < k → nm (ls.getD j an0) ≠ s) ∧ Below w.heap.size w wr) (fun i _ => ls.length - (intOf i).toNat)
  case atStart => exact ⟨0, Nat.zero_le _, rfl, fun _ h => absurd h (Nat.not_lt_zero _), Below.refl _ _⟩
  case round =>
    obtain ⟨k, hk, rfl, hno, hbel⟩ := hrel
    by_cases hlt : k < ls.length
    · obtain ⟨_, b, o, ai, ci, rfl, hb, ⟨c0, _, _, _, _⟩, _⟩ := HC.out.at hbel hlt
      have hyes : nm (ls.getD k an0) = s → Found ls s k := fun e => ⟨hlt, e⟩
      have hnx : nm (ls.getD k an0) ≠ s → ∀ j, j < k + 1 → nm (ls.getD j an0) ≠ s := fun h j hj => by
        by_cases e : j = k
        · rw [e]; exact h
        · exact hno.out j (by omega)
      generalize nm (ls.getD k an0) = u at c0 hyes hnx
      have HY := hid hyes
      have HN := hid hnx
      clear hno hyes hnx
      by_cases he : u = s
      · have hb1 : (u.toList == s.toList) = true := by rw [he]; exact beq_self_eq_true _
        have HE := hid he
        clear he
        go_wp2
        go_ret
        exact ⟨.inl ⟨k, HY.out HE.out, rfl⟩, hbel⟩
      · have hb1 : (u.toList == s.toList) = false := by
          rw [beq_eq_false_iff_ne]
          intro h
          rw [ByteArray.toList_eq, ByteArray.toList_eq] at h
          exact he (data_ne.1 h)
        have HE := hid he
        clear he
        go_wp2
        refine ⟨⟨k + 1, by omega, by go_num, HN.out HE.out, hbel⟩, by simp [intOf]; omega⟩
    · obtain rfl : k = ls.length := by omega
      go_wp2
      go_ret
      exact ⟨.inr ⟨hno.out, rfl⟩, hbel⟩

set_option maxRecDepth 10000 in
set_option maxHeartbeats 1600000 in
theorem spec_l05of (a : Option Addr) (cap : Nat) (ls : List An) (s : ByteArray) (w : World) (hc : Ans w a ls) (hr : rightA ls = true) :
    Calls Try.prog 24 #[.slice a ls.length cap, .string s] w fun e w' => (∃ a' cap', e = .returned (av (kd (told ls s)) (nu (told ls s)) a' (cd (told ls s)).length cap' (tx (told ls s))) ∧ Codes w' a' (cd (told ls s)) ∧ (a' = none → cap' = 0)) ∧ Below w.heap.size w w' := by
  have HC : Hid (Ans w a ls) := hc
  have HRt := hid hr
  have hl := hc.1
  clear hc hr
  obtain ⟨q, hq⟩ : ∃ q, Hid (told ls s = q) := ⟨_, rfl⟩
  rw [hq.out]
  go_enter Try.func24, Try.ntmps24
  go_wp2_with fail
  refine (spec_at a cap ls s _ (HC.out.alloc _)).mono ?_
  rintro e w1 ⟨hcase, hB1⟩
  have HB1 : Hid (Below w.heap.size w w1) := ((Below.refl _ _).alloc (Nat.le_refl _) _).trans (hB1.mono (by simp))
  have hblk : w1.heap[w.heap.size]? = some (.cells #[.int .i64 0, .int .i64 0, .slice none 0 0, .string ⟨#[]⟩] 31 (0, 0)) := by
    rw [hB1.block _ (by simp)]; exact heap_alloc_new w _
  have x0 : w1.cell? ⟨w.heap.size, 0, none⟩ = some (.int .i64 0) := by simp [World.cell?, hblk]
  have x1 : w1.cell? ⟨w.heap.size, 1, none⟩ = some (.int .i64 0) := by simp [World.cell?, hblk]
  have x2 : w1.cell? ⟨w.heap.size, 2, none⟩ = some (.slice none 0 0) := by simp [World.cell?, hblk]
  have x3 : w1.cell? ⟨w.heap.size, 3, none⟩ = some (.string ⟨#[]⟩) := by simp [World.cell?, hblk]
  have xf : ∀ j, w1.frozen? ⟨w.heap.size, j, none⟩ = false := fun j => by simp [World.frozen?, hblk]
  clear hB1 hblk
  rcases hcase with ⟨i, hf, rfl⟩ | ⟨hlk, rfl⟩
  · have hqe : Hid (q = ls.getD i an0) := by show _ = _; rw [← hq.out]; exact told_found HRt.out hf
    have hil := hf.1
    obtain ⟨_, b, o, ai, ci, rfl, hb, hF0, hcd, hN⟩ := HC.out.atN (Below.refl _ _) hil
    have hF := hF0.on hb HB1.out
    clear hF0
    rw [← hqe.out] at hF hcd
    obtain ⟨s1, k, n, zs, t⟩ := q
    obtain ⟨c0, c1, c2, c3, c4⟩ := hF
    dsimp only [nm, kd, nu, cd, tx] at c0 c1 c2 c3 c4 hcd
    have HCd := hid hcd
    have hne : b < w.heap.size := hb
    have hne' : b ≠ w.heap.size := by omega
    clear hcd hf HC
    dsimp only [kd, nu, cd, tx]
    go_wp2
    refine bodyPost_ret (v := av k n ai zs.length ci t) (by simp [results, Try.results24, go_sem, x0, x1, x2, x3]) rfl ⟨⟨ai, ci, rfl, ?_, hN⟩, ?_⟩
    · refine HCd.out.on ?_
      repeat (refine Below.setCell ?_ (by simp) _)
      exact HB1.out
    · repeat (refine Below.setCell ?_ (by simp) _)
      exact HB1.out
  · have hqe : q = an0 := by rw [← hq.out]; exact told_lacks hlk
    subst hqe
    clear HC
    go_wp2
    refine bodyPost_ret (v := av 0 0 none 0 0 ByteArray.empty) (by simp [results, Try.results24, go_sem, x0, x1, x2, x3]; rfl) rfl ⟨⟨none, 0, rfl, Codes.nil _ _, fun _ => rfl⟩, ?_⟩
    repeat (refine Below.setCell ?_ (by simp) _)
    exact HB1.out

set_option maxRecDepth 10000 in
set_option maxHeartbeats 1600000 in
theorem spec_of (a : Option Addr) (cap : Nat) (ls : List An) (s : ByteArray) (w : World) (hc : Ans w a ls) (hs : s.size ≤ maxLen) :
    Calls Try.prog 10 #[.slice a ls.length cap, .string s] w fun e w' => (∃ a' cap', e = .returned (av (kd (told ls s)) (nu (told ls s)) a' (cd (told ls s)).length cap' (tx (told ls s))) ∧ Codes w' a' (cd (told ls s))) ∧ Below w.heap.size w w' := by
  have HC : Hid (Ans w a ls) := hc
  have hl := hc.1
  unfold maxLen at hs
  clear hc
  obtain ⟨r, hr⟩ : ∃ r, Hid (rightA ls = r) := ⟨_, rfl⟩
  obtain ⟨q, hq⟩ : ∃ q, Hid (told ls s = q) := ⟨_, rfl⟩
  rw [hq.out]
  by_cases hb1 : 400 < ls.length
  · have hqe : q = an0 := by rw [← hq.out]; exact told_wrong (rightA_long (by omega))
    subst hqe
    go_enter Try.func10, Try.ntmps10
    go_wp2
    refine bodyPost_ret (v := av 0 0 none 0 0 ByteArray.empty) (by simp [results, Try.results10, go_sem]; rfl) rfl ⟨⟨none, ⟨0, rfl⟩, Codes.nil _ _⟩, by go_grown⟩
  by_cases hb2 : 8000 < s.size
  · have hqe : q = an0 := by
      rw [← hq.out]
      cases r with
      | false => exact told_wrong hr.out
      | true => exact told_lacks (lacks_name hr.out (name_no s (.inr (by omega))))
    subst hqe
    go_enter Try.func10, Try.ntmps10
    go_wp2
    refine bodyPost_ret (v := av 0 0 none 0 0 ByteArray.empty) (by simp [results, Try.results10, go_sem]; rfl) rfl ⟨⟨none, ⟨0, rfl⟩, Codes.nil _ _⟩, by go_grown⟩
  cases r
  · have hqe : q = an0 := by rw [← hq.out]; exact told_wrong hr.out
    subst hqe
    go_enter Try.func10, Try.ntmps10
    go_wp2_with fail
    refine (spec_answers a cap ls _ (HC.out.alloc _)).mono ?_
    rintro e w1 ⟨rfl, hB1⟩
    rw [hr.out]
    have HB1 : Hid (Below w.heap.size w w1) := ((Below.refl _ _).alloc (Nat.le_refl _) _).trans (hB1.mono (by simp))
    have hblk : w1.heap[w.heap.size]? = some (.cells #[.int .i64 0, .int .i64 0, .slice none 0 0, .string ⟨#[]⟩] 31 (0, 0)) := by
      rw [hB1.block _ (by simp)]; exact heap_alloc_new w _
    have x0 : w1.cell? ⟨w.heap.size, 0, none⟩ = some (.int .i64 0) := by simp [World.cell?, hblk]
    have x1 : w1.cell? ⟨w.heap.size, 1, none⟩ = some (.int .i64 0) := by simp [World.cell?, hblk]
    have x2 : w1.cell? ⟨w.heap.size, 2, none⟩ = some (.slice none 0 0) := by simp [World.cell?, hblk]
    have x3 : w1.cell? ⟨w.heap.size, 3, none⟩ = some (.string ⟨#[]⟩) := by simp [World.cell?, hblk]
    have xf : ∀ j, w1.frozen? ⟨w.heap.size, j, none⟩ = false := fun j => by simp [World.frozen?, hblk]
    clear hB1 hblk HC
    go_wp2
    refine bodyPost_ret (v := av 0 0 none 0 0 ByteArray.empty) (by simp [results, Try.results10, go_sem, x0, x1, x2, x3]; rfl) rfl ⟨⟨none, 0, rfl, Codes.nil _ _⟩, ?_⟩
    repeat (refine Below.setCell ?_ (by simp) _)
    exact HB1.out
  · go_enter Try.func10, Try.ntmps10
    go_wp2_with fail
    refine (spec_answers a cap ls _ (HC.out.alloc _)).mono ?_
    rintro e w1 ⟨rfl, hB1⟩
    rw [hr.out]
    have hB1' := (Below.refl w.heap.size w).alloc (Nat.le_refl _) (.cells #[.int .i64 0, .int .i64 0, .slice none 0 0, .string ⟨#[]⟩] 31)
    have HB1 : Hid (Below w.heap.size w w1) := hB1'.trans (hB1.mono (by simp))
    have HK1 : Hid (w1.heap[w.heap.size]? = some (.cells #[.int .i64 0, .int .i64 0, .slice none 0 0, .string ⟨#[]⟩] 31 (0, 0))) := by
      show _ = _; rw [hB1.block _ (by simp)]; exact heap_alloc_new w _
    clear hB1 hB1'
    go_wp2_with fail
    refine (spec_l05of a cap ls s _ (HC.out.on HB1.out) hr.out).mono ?_
    rintro e w2 ⟨⟨a2, c2, rfl, hc2, hn2⟩, hB2⟩
    rw [hq.out] at hc2
    rw [hq.out]
    have HB2 : Hid (Below w.heap.size w w2) := HB1.out.trans (hB2.mono HB1.out.size)
    have HK2 : Hid (w2.heap[w.heap.size]? = some (.cells #[.int .i64 0, .int .i64 0, .slice none 0 0, .string ⟨#[]⟩] 31 (0, 0))) := by
      show _ = _; rw [hB2.block _ (blk_lt HK1.out)]; exact HK1.out
    have HC2 := hid hc2
    have HN2 := hid hn2
    clear hB2 hc2 HB1 HK1 hn2
    obtain ⟨s1, k, n, zs, t⟩ := q
    dsimp only [kd, nu, cd, tx] at HC2 ⊢
    go_wp2_with fail
    refine (DrawV.copy_any k n a2 c2 zs t _ HC2.out HN2.out).mono ?_
    rintro e w3 ⟨a3, c3, rfl, hc3, hf3, _, hB3⟩
    have HB3 : Hid (Below w.heap.size w w3) := HB2.out.trans (hB3.mono HB2.out.size)
    have hblk : w3.heap[w.heap.size]? = some (.cells #[.int .i64 0, .int .i64 0, .slice none 0 0, .string ⟨#[]⟩] 31 (0, 0)) := by
      rw [hB3.block _ (blk_lt HK2.out)]; exact HK2.out
    have hlt : w.heap.size < w2.heap.size := blk_lt HK2.out
    have x0 : w3.cell? ⟨w.heap.size, 0, none⟩ = some (.int .i64 0) := by simp [World.cell?, hblk]
    have x1 : w3.cell? ⟨w.heap.size, 1, none⟩ = some (.int .i64 0) := by simp [World.cell?, hblk]
    have x2 : w3.cell? ⟨w.heap.size, 2, none⟩ = some (.slice none 0 0) := by simp [World.cell?, hblk]
    have x3 : w3.cell? ⟨w.heap.size, 3, none⟩ = some (.string ⟨#[]⟩) := by simp [World.cell?, hblk]
    have xf : ∀ j, w3.frozen? ⟨w.heap.size, j, none⟩ = false := fun j => by simp [World.frozen?, hblk]
    have HC3 := hid hc3
    clear hB3 hblk hc3 HC HB2 HK2
    go_wp2
    refine bodyPost_ret (v := av k n a3 zs.length c3 t) (by simp [results, Try.results10, go_sem, x0, x1, x2, x3]) rfl ⟨⟨a3, c3, rfl, ?_⟩, ?_⟩
    · repeat (refine codes_set ?_ (fun b o hb => by have := hf3 b o hb; simp only; omega) _)
      exact HC3.out
    · repeat (refine Below.setCell ?_ (by simp) _)
      exact HB3.out
end Go.Proofs.Ytfnimiimplphkaa.AnsW
