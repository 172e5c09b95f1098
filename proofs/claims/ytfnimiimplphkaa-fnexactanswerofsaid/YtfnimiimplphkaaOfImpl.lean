/- AnswerOf: what the program says. -/
import Derived.Test.YtfnimiimplphkaaOfMath
import Derived.Test.YtfnimiimplphkaaAnsImpl
import Derived.Test.YtfnimiimplphkaaBookOf
namespace Go.Proofs.Ytfnimiimplphkaa.AnsW
open Go.RowKit
open ValW NameW RdS RdI BookW

theorem zeroV (w : World) : (zeroValue 31).run Try.prog w = .ok (av 0 0 none 0 0 ByteArray.empty) w := by kernel_rfl

/-- what the book says of a name -/
theorem book_look {w : World} {B : Nat} {ls : List An} {s : ByteArray} (h : Book w B ls) (hr : rightA ls = true) (hs : s.size ≤ maxLen) :
    ∃ v, (Instr.lookup 48 (.map (some B)) (.string s) false).run Try.prog w = .ok v w ∧ Cpy w (B + 1) (told ls s) v := by
  obtain ⟨D, hM, hH⟩ := h
  obtain ⟨v, ps, hrun, hv⟩ := World.ownsMap.lookup hM key_law Try.underlying48 (zeroV w) (rfl : heldR (av 0 0 none 0 0 ByteArray.empty) = some (.held (av 0 0 none 0 0 ByteArray.empty), [])) (Go.WideMaps.keyOf_string_mk Try.underlying9 hs)
  refine ⟨v, hrun, ?_⟩
  have hv1 := Option.some.inj hv
  injection hv1 with hv2 _
  rcases found_or ls s with ⟨i, hi⟩ | hl
  · obtain ⟨u, hu, hat⟩ := hH.1 i hi.1
    rw [hi.2] at hat
    rw [hat] at hv2
    injection hv2 with hv3
    rw [told_found hr hi, hv3]
    exact hu
  · rw [hH.2 s.data.toList (fun i hi e => hl i hi (data_ne.1 e))] at hv2
    injection hv2 with hv3
    rw [told_lacks hl, hv3]
    exact ⟨none, 0, rfl, Codes.nil _ _, free_nil _ _, fresh_none _⟩

/-- how bookFor ends -/
def BkEnd (ls : List An) (s : ByteArray) (w : World) (e : Ending) (w' : World) : Prop :=
  ((rightA ls = true ∧ nameB s = true) ∧ ∃ B, e = .returned (.tuple #[.map (some B), .nilIface]) ∧ w.heap.size ≤ B ∧ Book w' B ls) ∨
  (¬ (rightA ls = true ∧ nameB s = true) ∧ ∃ c : Int, e = .returned (.tuple #[.map none, .iface 61 (.agg #[.int .i64 c])]))

set_option maxRecDepth 10000 in
set_option maxHeartbeats 1600000 in
theorem book_for (a : Option Addr) (cap : Nat) (ls : List An) (s : ByteArray) (w : World) (hc : Ans w a ls) (hs : s.size ≤ maxLen) :
    Calls Try.prog 25 #[.slice a ls.length cap, .string s] w fun e w' => BkEnd ls s w e w' ∧ Below w.heap.size w w' := by
  have HC : Hid (Ans w a ls) := hc
  have HS := hid hs
  have hl := hc.1
  unfold maxLen at hs
  clear hc
  obtain ⟨r, hr⟩ : ∃ r, Hid (rightA ls = r) := ⟨_, rfl⟩
  obtain ⟨m, hm⟩ : ∃ m, Hid (nameB s = m) := ⟨_, rfl⟩
  by_cases hb1 : 400 < ls.length
  · have hno : Hid (¬ (rightA ls = true ∧ nameB s = true)) := fun h => by rw [rightA_long (by omega)] at h; cases h.1
    go_enter Try.func25, Try.ntmps25
    go_wp2
    refine bodyPost_ret (v := .tuple #[.map none, .iface 61 (.agg #[.int .i64 2])]) (by simp [results, Try.results25, go_sem]) rfl ⟨.inr ⟨hno.out, 2, rfl⟩, by go_grown⟩
  by_cases hb2 : 8000 < s.size
  · have hno : Hid (¬ (rightA ls = true ∧ nameB s = true)) := fun h => by rw [name_no s (.inr (by omega))] at h; cases h.2
    go_enter Try.func25, Try.ntmps25
    go_wp2
    refine bodyPost_ret (v := .tuple #[.map none, .iface 61 (.agg #[.int .i64 2])]) (by simp [results, Try.results25, go_sem]) rfl ⟨.inr ⟨hno.out, 2, rfl⟩, by go_grown⟩
  cases r
  · have hno : Hid (¬ (rightA ls = true ∧ nameB s = true)) := fun h => by rw [hr.out] at h; cases h.1
    go_enter Try.func25, Try.ntmps25
    go_wp2_with fail
    refine (impl_answers a cap ls w HC.out).mono ?_
    rintro e w1 ⟨rfl, hB1⟩
    rw [hr.out]
    have HB1 := hid hB1
    clear hB1
    go_wp2_with fail
    refine bodyPost_ret (v := .tuple #[.map none, .iface 61 (.agg #[.int .i64 1])]) (by simp [results, Try.results25, go_sem]) rfl ⟨.inr ⟨hno.out, 1, rfl⟩, HB1.out⟩
  cases m
  · have hno : Hid (¬ (rightA ls = true ∧ nameB s = true)) := fun h => by rw [hm.out] at h; cases h.2
    go_enter Try.func25, Try.ntmps25
    go_wp2_with fail
    refine (impl_answers a cap ls w HC.out).mono ?_
    rintro e w1 ⟨rfl, hB1⟩
    rw [hr.out]
    have HB1 := hid hB1
    clear hB1
    go_wp2_with fail
    refine (impl_name s w1 HS.out).mono ?_
    rintro e w2 ⟨rfl, rfl⟩
    rw [hm.out]
    go_wp2_with fail
    refine bodyPost_ret (v := .tuple #[.map none, .iface 61 (.agg #[.int .i64 1])]) (by simp [results, Try.results25, go_sem]) rfl ⟨.inr ⟨hno.out, 1, rfl⟩, HB1.out⟩
  · go_enter Try.func25, Try.ntmps25
    go_wp2_with fail
    refine (impl_answers a cap ls w HC.out).mono ?_
    rintro e w1 ⟨rfl, hB1⟩
    rw [hr.out]
    have HB1 := hid hB1
    clear hB1
    go_wp2_with fail
    refine (impl_name s w1 HS.out).mono ?_
    rintro e w2 ⟨rfl, rfl⟩
    rw [hm.out]
    go_wp2_with fail
    refine (book_of a cap ls _ (HC.out.on HB1.out) hr.out).mono ?_
    rintro e w3 ⟨rfl, hbk, hB3⟩
    have HB3 := hid (HB1.out.trans (hB3.mono HB1.out.size))
    have HBK := hid hbk
    have hsz := HB1.out.size
    clear hB3 hbk
    go_wp2_with fail
    refine bodyPost_ret (v := .tuple #[.map (some _), .nilIface]) (by simp [results, Try.results25, go_sem]) rfl ⟨.inl ⟨⟨hr.out, hm.out⟩, _, rfl, hsz, HBK.out⟩, HB3.out⟩

set_option maxRecDepth 10000 in
set_option maxHeartbeats 1600000 in
theorem impl_of (a : Option Addr) (cap : Nat) (ls : List An) (s : ByteArray) (w : World) (hc : Ans w a ls) (hs : s.size ≤ maxLen) :
    Calls Try.prog 11 #[.slice a ls.length cap, .string s] w fun e w' => (∃ a' cap', e = .returned (av (kd (told ls s)) (nu (told ls s)) a' (cd (told ls s)).length cap' (tx (told ls s))) ∧ Codes w' a' (cd (told ls s)) ∧ Free w' a' (cd (told ls s)) ∧ Fresh a' w.heap.size) ∧ Below w.heap.size w w' := by
  have HC : Hid (Ans w a ls) := hc
  have HS := hid hs
  clear hc hs
  obtain ⟨q, hq⟩ : ∃ q, Hid (told ls s = q) := ⟨_, rfl⟩
  rw [hq.out]
  go_enter Try.func11, Try.ntmps11
  go_wp2_with fail
  refine (book_for a cap ls s _ (HC.out.alloc _) HS.out).mono ?_
  rintro e w1 ⟨hcase, hB1⟩
  have HB1 : Hid (Below w.heap.size w w1) := ((Below.refl _ _).alloc (Nat.le_refl _) _).trans (hB1.mono (by simp))
  have hblk : w1.heap[w.heap.size]? = some (.cells #[.int .i64 0, .int .i64 0, .slice none 0 0, .string ⟨#[]⟩] 31 (0, 0)) := by
    rw [hB1.block _ (by simp)]; exact heap_alloc_new w _
  have x0 : w1.cell? ⟨w.heap.size, 0, none⟩ = some (.int .i64 0) := by simp [World.cell?, hblk]
  have x1 : w1.cell? ⟨w.heap.size, 1, none⟩ = some (.int .i64 0) := by simp [World.cell?, hblk]
  have x2 : w1.cell? ⟨w.heap.size, 2, none⟩ = some (.slice none 0 0) := by simp [World.cell?, hblk]
  have x3 : w1.cell? ⟨w.heap.size, 3, none⟩ = some (.string ⟨#[]⟩) := by simp [World.cell?, hblk]
  have xf : ∀ j, w1.frozen? ⟨w.heap.size, j, none⟩ = false := fun j => by simp [World.frozen?, hblk]
  clear hB1 hblk HC
  rcases hcase with ⟨hyes, B, rfl, hBl, hbk⟩ | ⟨hyes, c, rfl⟩
  · skip
    obtain ⟨v, hrun, a2, c2, rfl, hc2, hf2, hs2⟩ := book_look hbk hyes.1 HS.out
    rw [hq.out] at hc2 hf2 hrun
    have HC2 := hid hc2
    have HF2 := hid hf2
    have hfr : Fresh a2 (w.heap.size + 1) := fun b o hb => by have := hs2 b o hb; simp at hBl; omega
    clear hbk hc2 hf2 hyes hs2
    obtain ⟨s1, k, n, zs, t⟩ := q
    dsimp only [kd, nu, cd, tx] at HC2 HF2 hrun ⊢
    go_wp2_with fail
    refine bodyPost_ret (v := av k n a2 zs.length c2 t) (by simp [results, Try.results11, go_sem, x0, x1, x2, x3]) rfl ⟨⟨a2, c2, rfl, ?_, ?_, fun b o hb => by have := hfr b o hb; omega⟩, ?_⟩
    · repeat (refine codes_set ?_ (fun b o hb => by have := hfr b o hb; simp only; omega) _)
      exact HC2.out
    · repeat (refine free_set ?_ _ _)
      exact HF2.out
    · repeat (refine Below.setCell ?_ (by simp) _)
      exact HB1.out
  · have hqe : q = an0 := by
      rw [← hq.out]
      cases hr : rightA ls with
      | false => exact told_wrong hr
      | true => exact told_lacks (lacks_name hr (by cases hn : nameB s with | false => rfl | true => exact absurd ⟨hr, hn⟩ hyes))
    subst hqe
    clear hyes
    go_wp2_with fail
    refine bodyPost_ret (v := av 0 0 none 0 0 ByteArray.empty) (by simp [results, Try.results11, go_sem, x0, x1, x2, x3]; rfl) rfl ⟨⟨none, 0, rfl, Codes.nil _ _, free_nil _ _, fresh_none _⟩, ?_⟩
    repeat (refine Below.setCell ?_ (by simp) _)
    exact HB1.out
end Go.Proofs.Ytfnimiimplphkaa.AnsW
