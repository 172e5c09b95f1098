/- Texts of ours, laid together: PutTop, PutOut, PutLaw. -/
import Derived.Test.YtjnnkilmlngjgaaGreatDoorBd32
import Derived.Test.YtjnnkilmlngjgaaGreatDoorBd29
import Derived.Test.YtjnnkilmlngjgaaGreatDoorBd31
import Derived.Test.YtjnnkilmlngjgaaGreatDoorBd4
/- AnswerPut of both, told alike; marks over what they answer. -/
namespace Go.Proofs.YtjnnkilmlngjgaaGreatDoor.AnsL
open Go.RowKit
open AnsW AnsO ValW ValI ValK RdS RdI RdL BookW NameW

/-- what AnswerPut answers -/
def resA (ls : List An) (p : An) : List An := if putCode ls p = 0 then putA ls p else []
theorem resA_ok {ls : List An} {p : An} (h : putCode ls p = 0) : resA ls p = putA ls p := if_pos h
theorem resA_no {ls : List An} {p : An} (h : putCode ls p ≠ 0) : resA ls p = [] := if_neg h
theorem putA_good {ls : List An} {p : An} (h : putCode ls p = 0) : rightA (putA ls p) = true := by
  obtain ⟨h1, h2, h3⟩ := code_zero h
  exact putA_right h1 h2 h3
theorem resA_good {ls : List An} {p : An} : (resA ls p).length ≤ 30 ∧ ∀ q ∈ resA ls p, good q = true := by
  unfold resA
  split
  · next h => exact ⟨(right_ris (putA_good h)).1, (right_ris (putA_good h)).2.2⟩
  · exact ⟨by simp, fun _ h => (nomatch h)⟩
/-- the answers lie at a, whatever is written into an older block that holds an answer's frame -/
def Holey (w w' : World) (a : Option Addr) (R : List An) : Prop := ∀ gw, gw < w.heap.size → (∃ cs, w.heap[gw]? = some (.cells cs 30 (0, 0))) → ∀ v0 v1, Ans ((w'.setCell ⟨gw, 0, none⟩ v0).setCell ⟨gw, 1, none⟩ v1) a R

theorem spec_ap (a : Option Addr) (cap : Nat) (ls : List An) (s : ByteArray) (x n : Int) (ai : Option Addr) (ci : Nat) (zs : List Int) (t : ByteArray) (w : World) {R : List An} {c : Int} (hR : resA ls (s, x, n, zs, t) = R) (hcode : putCode ls (s, x, n, zs, t) = c) (hc : Ans w a ls) (hcd : Codes w ai zs) (hN : ai = none → ci = 0) (hs : s.size ≤ maxLen) (ht : t.size ≤ maxLen) :
    Calls Tryz.prog 6 #[.slice a ls.length cap, .string s, av x n ai zs.length ci t] w fun e w' => (∃ a' c', e = .returned (.agg #[.slice a' R.length c', .int .i64 c]) ∧ Ans w' a' R ∧ Holey w w' a' R) ∧ Below w.heap.size w w' := by
  subst hR
  subst hcode
  refine (spec_answer_put a cap ls s x n ai ci zs t w hc hcd hN hs ht).mono ?_
  rintro e w' ⟨hcase, hB⟩
  refine ⟨?_, hB⟩
  rcases hcase with ⟨hz, v, qs, rfl, hO, hq⟩ | ⟨hz, rfl⟩
  · obtain ⟨g, c', rfl⟩ := hO.2.2
    have hG := resA_good (ls := ls) (p := (s, x, n, zs, t))
    rw [resA_ok hz] at hG
    have hl : qs.length = (putA ls (s, x, n, zs, t)).length := by rw [← hq]; simp
    have hf : ∀ q ∈ qs, Fit q.1 := fun q hm => good_fit (hG.2 _ (by rw [← hq]; exact List.mem_map.2 ⟨q, hm, rfl⟩))
    refine ⟨some ⟨g, 0, none⟩, c', by rw [resA_ok hz, hl, hz], ?_, fun gw hgw hty v0 v1 => ?_⟩
    · rw [resA_ok hz, ← hq]
      exact hO.ans (by omega) hf
    · rw [resA_ok hz, ← hq]
      obtain ⟨cs, hcs⟩ := hty
      have hty : ∃ cs T fz, w'.heap[gw]? = some (.cells cs T fz) ∧ T ≠ 2 := ⟨cs, _, _, by rw [hB.block gw hgw]; exact hcs, by decide⟩
      exact ((hO.set hgw hty 0 v0).set hgw (ty_set hty _ _) 1 v1).ans (by omega) hf
  · refine ⟨none, 0, by rw [resA_no hz]; rfl, by rw [resA_no hz]; exact Ans.nil _ _, fun _ _ _ _ _ => by rw [resA_no hz]; exact Ans.nil _ _⟩

/-- answers of a call's own, in blocks from lo on and ahead of E -/
def OwnB (w : World) (lo E : Nat) (a : Option Addr) (R : List An) : Prop := E ≤ w.heap.size ∧ (0 < R.length → ∃ g ads F, a = some ⟨g, 0, none⟩ ∧ lo ≤ g ∧ lo ≤ F ∧ OwnA w F g R ads ∧ g < E ∧ ∀ i, i < R.length → ∀ b o, (ads i).1 = some ⟨b, o, none⟩ → 0 < (cd (R.getD i an0)).length → b < E)
/-- blocks from lo on lie as they lay -/
def Keep (w w' : World) (lo : Nat) : Prop := w.heap.size ≤ w'.heap.size ∧ ∀ j, lo ≤ j → j < w.heap.size → w'.heap[j]? = w.heap[j]?
theorem Keep.of {w w' : World} {lo : Nat} (hB : Below w.heap.size w w') : Keep w w' lo := ⟨hB.size, fun j _ hj => hB.block j hj⟩
theorem codes_keep {w w' : World} {a : Option Addr} {zs : List Int} {lo : Nat} (h : Codes w a zs) (hK : Keep w w' lo) (hf : Fresh a lo) : Codes w' a zs := by
  refine ⟨h.1, fun hp => ?_⟩
  obtain ⟨b, o, ha, hl, hc⟩ := h.2 hp
  exact ⟨b, o, ha, Nat.lt_of_lt_of_le hl hK.1, fun i hi => by rw [World.cell?_of_block (w := w) (hK.2 b (hf b o ha) hl)]; exact hc i hi⟩
theorem free_keep {w w' : World} {a : Option Addr} {zs : List Int} {lo : Nat} (h : Free w a zs) (hK : Keep w w' lo) (hf : Fresh a lo) : Free w' a zs := fun b o ha i hi => by
  obtain ⟨hl, h1⟩ := h b o ha i hi
  exact ⟨Nat.lt_of_lt_of_le hl hK.1, by rw [World.frozen?_of_block (w := w) (hK.2 b (hf b o ha) hl)]; exact h1⟩
theorem OwnB.keep {w w' : World} {lo E : Nat} {a : Option Addr} {R : List An} (h : OwnB w lo E a R) (hK : Keep w w' lo) : OwnB w' lo E a R := by
  refine ⟨Nat.le_trans h.1 hK.1, fun hp => ?_⟩
  obtain ⟨g, ads, F, ha, hg, hF, hO, hgE, hb⟩ := h.2 hp
  refine ⟨g, ads, F, ha, hg, hF, ⟨?_, fun i hi => ⟨?_, (hO.2.1 i hi).2⟩, hO.2.2⟩, hgE, hb⟩
  · obtain ⟨cs, h1, h2⟩ := hO.1
    exact ⟨cs, by rw [hK.2 g hg (blk_lt h1)]; exact h1, h2⟩
  · obtain ⟨k1, k2, k3, k4⟩ := (hO.2.1 i hi).1
    have hf : Fresh (ads i).1 lo := fun b o hb => Nat.le_trans hF (k3 b o hb)
    exact ⟨codes_keep k1 hK hf, free_keep k2 hK hf, k3, k4⟩
theorem own_ans {w : World} {F g : Nat} {ls : List An} {ads : Nat → Option Addr × Nat} (h : OwnA w F g ls ads) (hl : ls.length ≤ 30) (hg : ∀ q ∈ ls, good q = true) : Ans w (some ⟨g, 0, none⟩) ls := by
  refine ⟨by omega, fun i hi => good_fit (hg _ (getD_mem hi)), fun _ => ⟨g, 0, rfl, h.1.lt, fun i hi => ?_⟩⟩
  obtain ⟨⟨k1, _, _, k4⟩, _⟩ := h.2.1 i hi
  refine ⟨(ads i).1, (ads i).2, ?_, k1, k4⟩
  rw [Nat.zero_add]
  exact h.1.five hi
theorem OwnB.ans {w : World} {lo E : Nat} {a : Option Addr} {R : List An} (h : OwnB w lo E a R) (hl : R.length ≤ 30) (hg : ∀ q ∈ R, good q = true) : Ans w a R := by
  cases hR : R with
  | nil => exact Ans.nil _ _
  | cons q r =>
    obtain ⟨g, ads, F, ha, _, _, hO, _⟩ := h.2 (by rw [hR]; simp)
    rw [ha, ← hR]
    exact own_ans hO hl hg
theorem own_set {w : World} {F g : Nat} {ls : List An} {ads : Nat → Option Addr × Nat} (h : OwnA w F g ls ads) {x : Addr} (hg : x.block ≠ g) (hF : x.block < F) (v : Value) : OwnA (w.setCell x v) F g ls ads := by
  refine ⟨?_, fun i hi => ⟨?_, (h.2.1 i hi).2⟩, h.2.2⟩
  · obtain ⟨cs, h1, h2⟩ := h.1
    exact ⟨cs, by rw [Below.heap_setCell _ _ _ _ (fun e => hg e.symm)]; exact h1, h2⟩
  · obtain ⟨k1, k2, k3, k4⟩ := (h.2.1 i hi).1
    exact ⟨codes_set k1 (fun b o hb => by have := k3 b o hb; omega) v, free_set k2 x v, k3, k4⟩
theorem own_below {w : World} {F g : Nat} {ls : List An} {ads : Nat → Option Addr × Nat} (h : OwnA w F g ls ads) : ∀ i, i < ls.length → ∀ b o, (ads i).1 = some ⟨b, o, none⟩ → 0 < (cd (ls.getD i an0)).length → b < w.heap.size := fun i hi b o ha hp => codes_low (h.2.1 i hi).1.1 b o ha hp

set_option maxRecDepth 10000 in
set_option maxHeartbeats 3200000 in
theorem impl_ap (a : Option Addr) (cap : Nat) (ls : List An) (s : ByteArray) (x n : Int) (ai : Option Addr) (ci : Nat) (zs : List Int) (t : ByteArray) (w : World) {R : List An} {c : Int} (hR : resA ls (s, x, n, zs, t) = R) (hcode : putCode ls (s, x, n, zs, t) = c) (hc : Ans w a ls) (hcd : Codes w ai zs) (hs : s.size ≤ maxLen) (ht : t.size ≤ maxLen) (hE : EnvA w) :
    Calls Tryz.prog 9 #[.slice a ls.length cap, .string s, av x n ai zs.length ci t] w fun e w' => (∃ a', e = .returned (.agg #[.slice a' R.length R.length, .int .i64 c]) ∧ OwnB w' w.heap.size w'.heap.size a' R ∧ Holey w w' a' R) ∧ Below w.heap.size w w' := by
  have HG := hid (resA_good (ls := ls) (p := (s, x, n, zs, t)))
  rw [hR] at HG
  have HC := hid hc
  have HCd := hid hcd
  have HS := hid hs
  have HT := hid ht
  have HE := hid hE
  clear hc hcd hs ht hE
  have HF0 := hid (Fr.laid w x n ai zs.length ci t)
  have HB0 := hid (fr_below w x n ai zs.length ci t)
  go_enter Tryz.func9, Tryz.ntmps9
  go_wp2_with fail
  refine (put_answer a cap ls s x n ai ci zs t _ (HC.out.on HB0.out) (HCd.out.on HB0.out) HS.out HT.out).mono ?_
  rintro e w1 ⟨hcase, hB1⟩
  have HB1 : Hid (Below w.heap.size w w1) := HB0.out.trans (hB1.mono HB0.out.size)
  have HF1 := hid (HF0.out.on hB1)
  clear hB1 HF0
  rcases hcase with ⟨hz, g, ads, F, rfl, hg, hF, hO⟩ | ⟨hz, rfl⟩
  · have hRe : Hid (putA ls (s, x, n, zs, t) = R) := by rw [← hR, resA_ok hz]; exact rfl
    have hc0 : Hid ((0 : Int) = c) := by rw [← hcode, hz]; exact rfl
    rw [hRe.out] at hO ⊢
    have hgs : w.heap.size + 2 ≤ g := by simpa using hg
    have hFs : w.heap.size + 2 ≤ F := by simpa using hF
    have HO := hid hO
    clear hg hF hO hz hR hcode
    obtain ⟨x0, x1, x2, x3, r0, r1, rf, hlt⟩ := HF1.out.cells
    go_wp2_with fail
    refine (AsW.code_nil w1).mono ?_
    rintro e w2 ⟨rfl, hB2⟩
    have HB2 : Hid (Below w.heap.size w w2) := HB1.out.trans (hB2.mono HB1.out.size)
    have HF2 := hid (HF1.out.on hB2)
    have HO2 := hid (HO.out.on hB2)
    clear x0 x1 x2 x3 r0 r1 rf hlt hB2 HF1 HB1 HO
    obtain ⟨x0, x1, x2, x3, r0, r1, rf, hlt⟩ := HF2.out.cells
    go_wp2_with fail
    have hq : ∀ W, OwnA W F g R ads → w.heap.size + 2 ≤ W.heap.size → OwnB W w.heap.size W.heap.size (some ⟨g, 0, none⟩) R := fun W h _ => ⟨Nat.le_refl _, fun _ => ⟨g, ads, F, rfl, by omega, by omega, h, h.1.lt, own_below h⟩⟩
    refine bodyPost_ret (v := .agg #[.slice (some ⟨g, 0, none⟩) R.length R.length, .int .i64 0]) (by simp [results, Tryz.results9, go_sem, r0, r1]) rfl ⟨⟨_, by rw [hc0.out], hq _ ?own (by simp; omega), fun gw hgw _ v0 v1 => own_ans (own_set (own_set ?own (by simp only; omega) (by simp only; omega) v0) (by simp only; omega) (by simp only; omega) v1) HG.out.1 HG.out.2⟩, ?_⟩
    case own =>
      repeat (refine own_set ?_ (by simp only; omega) (by simp only; omega) _)
      exact HO2.out
    repeat (refine Below.setCell ?_ (by simp) _)
    exact HB2.out
  · have hRe : Hid ([] = R) := by rw [← hR, resA_no hz]; exact rfl
    rw [hcode] at hz ⊢
    obtain rfl := hRe.out
    clear hRe hR hcode HG
    obtain ⟨x0, x1, x2, x3, r0, r1, rf, hlt⟩ := HF1.out.cells
    go_wp2_with fail
    refine (AsW.code_hit c w1 (HE.out.on HB1.out)).mono ?_
    rintro e w2 ⟨rfl, hB2⟩
    have HB2 : Hid (Below w.heap.size w w2) := HB1.out.trans (hB2.mono HB1.out.size)
    have HF2 := hid (HF1.out.on hB2)
    clear x0 x1 x2 x3 r0 r1 rf hlt hB2 HF1 HB1
    obtain ⟨x0, x1, x2, x3, r0, r1, rf, hlt⟩ := HF2.out.cells
    go_wp2_with fail
    refine bodyPost_ret (v := .agg #[.slice none 0 0, .int .i64 c]) (by simp [results, Tryz.results9, go_sem, r0, r1]) rfl ⟨⟨none, rfl, ⟨Nat.le_refl _, fun h => absurd h (Nat.lt_irrefl _)⟩, fun _ _ _ _ _ => Ans.nil _ _⟩, ?_⟩
    repeat (refine Below.setCell ?_ (by simp) _)
    exact HB2.out
/-- as spec_ap says it -/
theorem impl_ap2 (a : Option Addr) (cap : Nat) (ls : List An) (s : ByteArray) (x n : Int) (ai : Option Addr) (ci : Nat) (zs : List Int) (t : ByteArray) (w : World) {R : List An} {c : Int} (hR : resA ls (s, x, n, zs, t) = R) (hcode : putCode ls (s, x, n, zs, t) = c) (hc : Ans w a ls) (hcd : Codes w ai zs) (hs : s.size ≤ maxLen) (ht : t.size ≤ maxLen) (hE : EnvA w) :
    Calls Tryz.prog 9 #[.slice a ls.length cap, .string s, av x n ai zs.length ci t] w fun e w' => (∃ a' c', e = .returned (.agg #[.slice a' R.length c', .int .i64 c]) ∧ Ans w' a' R ∧ Holey w w' a' R) ∧ Below w.heap.size w w' := by
  have HG := resA_good (ls := ls) (p := (s, x, n, zs, t))
  rw [hR] at HG
  refine (impl_ap a cap ls s x n ai ci zs t w hR hcode hc hcd hs ht hE).mono ?_
  rintro e w' ⟨⟨a', he, hO, hH⟩, hB⟩
  exact ⟨⟨a', _, he, hO.ans HG.1 HG.2, hH⟩, hB⟩
end Go.Proofs.YtjnnkilmlngjgaaGreatDoor.AnsL
/- What the laws ask of an answer of AnswerPut: that two are the same, and marks. -/
namespace Go.Proofs.YtjnnkilmlngjgaaGreatDoor.AnsL
open Go.RowKit
open AnsW ValW ValI RdS RdI RdL BookW

/-- two cells alone in a block: what AnswerPut answers -/
def AO (w : World) (b : Nat) (v0 v1 : Value) : Prop := w.heap[b]? = some (.cells #[v0, v1] 30 (0, 0))
theorem AO.on {w w' : World} {b : Nat} {v0 v1 : Value} (h : AO w b v0 v1) (hB : Below w.heap.size w w') : AO w' b v0 v1 := by
  unfold AO at h ⊢
  rw [hB.block b (blk_lt h)]; exact h
theorem AO.laid (w : World) (v0 v1 : Value) : AO (w.alloc (.cells #[v0, v1] 30)) w.heap.size v0 v1 := heap_alloc_new w _
theorem AO.cells {w : World} {b : Nat} {v0 v1 : Value} (h : AO w b v0 v1) : w.cell? ⟨b, 0, none⟩ = some v0 ∧ w.cell? ⟨b, 1, none⟩ = some v1 ∧ (∀ j, w.frozen? ⟨b, j, none⟩ = false) ∧ b < w.heap.size := by
  unfold AO at h
  exact ⟨by simp [World.cell?, h], by simp [World.cell?, h], fun j => by simp [World.frozen?, h], blk_lt h⟩
theorem out_box (w : World) (v0 v1 : Value) : Below w.heap.size w (w.alloc (.cells #[v0, v1] 30)) := (Below.refl _ _).alloc (Nat.le_refl _) _

set_option maxRecDepth 10000 in
set_option maxHeartbeats 1600000 in
theorem eq_out (a a' : Option Addr) (cap cap' : Nat) (R : List An) (c : Int) (w : World) (hc : Ans w a R) (hc' : Ans w a' R) :
    Calls Tryz.prog 10 #[.agg #[.slice a R.length cap, .int .i64 c], .agg #[.slice a' R.length cap', .int .i64 c]] w fun e w' => e = .returned (.bool true) ∧ Below w.heap.size w w' := by
  have hb := (out_box w (.slice a R.length cap) (.int .i64 c)).trans ((out_box (w.alloc (.cells #[.slice a R.length cap, .int .i64 c] 30)) (.slice a' R.length cap') (.int .i64 c)).mono (by simp))
  have HB := hid hb
  have HC := hid (hc.on hb)
  have HC' := hid (hc'.on hb)
  have h1 := (AO.laid w (.slice a R.length cap) (.int .i64 c)).on (out_box (w.alloc (.cells #[.slice a R.length cap, .int .i64 c] 30)) (.slice a' R.length cap') (.int .i64 c))
  have h2 := AO.laid (w.alloc (.cells #[.slice a R.length cap, .int .i64 c] 30)) (.slice a' R.length cap') (.int .i64 c)
  rw [World.size_alloc] at h2
  have H1 := hid h1
  have H2 := hid h2
  clear hc hc' hb h1 h2
  go_enter Tryz.func10, Tryz.ntmps10
  go_wp2_with fail
  refine (eqAnsL a a' cap cap' R _ HC.out HC'.out).mono ?_
  rintro e w1 ⟨rfl, hB1⟩
  have HB1 : Hid (Below w.heap.size w w1) := HB.out.trans (hB1.mono HB.out.size)
  obtain ⟨x0, x1, xf, xl⟩ := (H1.out.on hB1).cells
  obtain ⟨y0, y1, yf, yl⟩ := (H2.out.on hB1).cells
  clear hB1
  go_wp2_with fail
  go_ret
  exact ⟨rfl, HB1.out⟩

/-- answers at a, the first k of which bear marks -/
def MoB (w : World) (lo E : Nat) (a : Option Addr) (n k : Nat) (len : Nat → Nat) : Prop := 0 < n → ∃ g ads, a = some ⟨g, 0, none⟩ ∧ MoA w lo E g n k len ads
theorem MoB.on {w w' : World} {lo E n k : Nat} {a : Option Addr} {len : Nat → Nat} (h : MoB w lo E a n k len) (hB : Below w.heap.size w w') : MoB w' lo E a n k len := fun hp => by
  obtain ⟨g, ads, ha, hM⟩ := h hp
  exact ⟨g, ads, ha, hM.on hB⟩
theorem OwnB.mo {w : World} {lo E : Nat} {a : Option Addr} {R : List An} (h : OwnB w lo E a R) : MoB w lo E a R.length 0 fun i => (cd (R.getD i an0)).length := fun hp => by
  obtain ⟨g, ads, F, ha, hg, hF, hO, hgE, hb⟩ := h.2 hp
  refine ⟨g, ads, ha, ⟨hg, hgE, h.1⟩, ?_, fun i hi => absurd hi (Nat.not_lt_zero _), fun i _ hi => ⟨_, rfl, (hO.2.1 i hi).1.1, (hO.2.1 i hi).1.2.1⟩, fun i hi b o ha hl => ⟨Nat.le_trans hF ((hO.2.1 i hi).1.2.2.1 b o ha), hb i hi b o ha hl, (hO.2.1 i hi).2 b o ha hl⟩, hO.2.2⟩
  obtain ⟨cs, h1, h2, h3⟩ := hO.1
  exact ⟨cs, h1, h2, fun i hi => (h3 i hi).2.2.2.1, fun i hi => absurd hi (Nat.not_lt_zero _)⟩

set_option maxHeartbeats 1600000 in
theorem mark_list (lo E n cap : Nat) (a : Option Addr) (len : Nat → Nat) (w : World) (hM : MoB w lo E a n 0 len) (hn : n ≤ 1048576) (ht : tot len n ≤ 1048576) :
    Calls Tryz.prog 13 #[.slice a n cap, .int .i64 1] w fun r w' => r = .returned (.int .i64 (pos len n : Nat)) ∧ MoB w' lo E a n n len ∧ Within w w' lo E := by
  rcases Nat.eq_zero_or_pos n with rfl | hp
  · clear hM hn ht
    go_enter Tryz.func13, Tryz.ntmps13
    go_wp2
    go_loopw [1, 5] (fun k i wr => k = .int .i64 1 ∧ i = .int .i64 0 ∧ wr = w) (fun _ _ _ => 0)
    case atStart => exact ⟨rfl, rfl, rfl⟩
    case round =>
      obtain ⟨rfl, rfl, hw⟩ := hrel
      go_wp2
      go_ret
      obtain rfl := hw
      exact ⟨rfl, fun h => absurd h (Nat.lt_irrefl _), Within.refl _ _ _⟩
  · obtain ⟨g, ads, rfl, h⟩ := hM hp
    refine (mark_own lo E g n cap len ads w h hn ht).mono ?_
    rintro r w' ⟨rfl, h1, h2⟩
    exact ⟨rfl, fun _ => ⟨g, ads, rfl, h1⟩, h2⟩
set_option maxHeartbeats 1600000 in
theorem held_list (lo E n cap : Nat) (a : Option Addr) (len : Nat → Nat) (w : World) (hM : MoB w lo E a n n len) (hn : n ≤ 1048576) (ht : tot len n ≤ 1048576) :
    Calls Tryz.prog 32 #[.slice a n cap, .int .i64 1] w fun r w' => r = .returned (.int .i64 (pos len n : Nat)) ∧ Below w.heap.size w w' := by
  rcases Nat.eq_zero_or_pos n with rfl | hp
  · clear hM hn ht
    go_enter Tryz.func32, Tryz.ntmps32
    go_wp2
    go_loopw [1, 5] (fun k i wr => k = .int .i64 1 ∧ i = .int .i64 0 ∧ wr = w) (fun _ _ _ => 0)
    case atStart => exact ⟨rfl, rfl, rfl⟩
    case round =>
      obtain ⟨rfl, rfl, hw⟩ := hrel
      go_wp2
      go_ret
      obtain rfl := hw
      exact ⟨rfl, Below.refl _ _⟩
  · obtain ⟨g, ads, rfl, h⟩ := hM hp
    exact held_own lo E g n cap len ads w h hn ht
theorem within_box {w w' : World} {v0 v1 : Value} {lo E : Nat} (h : Within (w.alloc (.cells #[v0, v1] 30)) w' lo E) : Within w w' lo E :=
  ⟨h.1, h.2.1, h.2.2.1, by have := h.2.2.2.1; simp at this; omega, fun j hj hn => (h.2.2.2.2 j (by simp; omega) hn).trans (Below.heap_alloc _ _ _ hj)⟩
set_option maxHeartbeats 1600000 in
theorem mark_out (lo E n cap : Nat) (a : Option Addr) (c : Int) (len : Nat → Nat) (w : World) (hM : MoB w lo E a n 0 len) (hn : n ≤ 1048576) (ht : tot len n ≤ 1048576) :
    Calls Tryz.prog 15 #[.agg #[.slice a n cap, .int .i64 c], .int .i64 1] w fun r w' => r = .returned (.int .i64 (pos len n : Nat)) ∧ MoB w' lo E a n n len ∧ Within w w' lo E := by
  have HM := hid (hM.on (out_box w (.slice a n cap) (.int .i64 c)))
  clear hM
  go_enter Tryz.func15, Tryz.ntmps15
  go_wp2_with fail
  refine (mark_list lo E n cap a len _ HM.out hn ht).mono ?_
  rintro r w1 ⟨rfl, h1, h2⟩
  have H1 := hid h1
  have H2 := hid (within_box h2)
  clear h1 h2
  go_wp2_with fail
  go_ret
  exact ⟨rfl, H1.out, H2.out⟩
set_option maxHeartbeats 1600000 in
theorem held_out (lo E n cap : Nat) (a : Option Addr) (c : Int) (len : Nat → Nat) (w : World) (hM : MoB w lo E a n n len) (hn : n ≤ 1048576) (ht : tot len n ≤ 1048576) :
    Calls Tryz.prog 16 #[.agg #[.slice a n cap, .int .i64 c], .int .i64 1] w fun r w' => r = .returned (.int .i64 (pos len n : Nat)) ∧ Below w.heap.size w w' := by
  have HM := hid (hM.on (out_box w (.slice a n cap) (.int .i64 c)))
  have HB0 := hid (out_box w (.slice a n cap) (.int .i64 c))
  clear hM
  go_enter Tryz.func16, Tryz.ntmps16
  go_wp2_with fail
  refine (held_list lo E n cap a len _ HM.out hn ht).mono ?_
  rintro r w1 ⟨rfl, hB1⟩
  have HB1 : Hid (Below w.heap.size w w1) := HB0.out.trans (hB1.mono HB0.out.size)
  have h0 : ¬ ((pos len n : Nat) : Int) < 0 := by omega
  clear hB1
  go_wp2_with fail
  go_ret
  exact ⟨rfl, HB1.out⟩
end Go.Proofs.YtjnnkilmlngjgaaGreatDoor.AnsL
/- The walk of FnExactAnswerPut. -/
namespace Go.Proofs.YtjnnkilmlngjgaaGreatDoor.AnsL
open Go.RowKit
open AnsW ValW ValI RdS RdI RdL BookW

theorem raw_on {w w' : World} {a : Option Addr} {ls : List An} (h : AnsW.Raw w a ls) (hB : Below w.heap.size w w') : AnsW.Raw w' a ls := by
  refine ⟨h.1, h.2.1, fun hp => ?_⟩
  obtain ⟨b, o, ha, hb, hc⟩ := h.2.2 hp
  refine ⟨b, o, ha, Nat.lt_of_lt_of_le hb hB.size, fun i hi => ?_⟩
  obtain ⟨ai, cap, h1, h2, h3⟩ := hc i hi
  refine ⟨ai, cap, h1.on hb hB, ⟨h2.1, fun hp => ?_⟩, h3⟩
  obtain ⟨b1, o1, ha1, hb1, hc1⟩ := h2.2 hp
  exact ⟨b1, o1, ha1, Nat.lt_of_lt_of_le hb1 hB.size, fun i hi => by rw [hB.cell (p := ⟨b1, o1 + i, none⟩) hb1]; exact hc1 i hi⟩
theorem ao_put {w : World} {b : Nat} {u0 u1 : Value} (h : AO w b u0 u1) (v0 v1 : Value) : AO ((w.setCell ⟨b, 0, none⟩ v0).setCell ⟨b, 1, none⟩ v1) b v0 v1 := by
  unfold AO at h ⊢
  rw [blk_set _ _ _ _ _ _ (blk_set _ _ _ _ _ _ h)]
  simp only [List.setIfInBounds_toArray, List.set_cons_zero, List.set_cons_succ]
theorem codesR {w : World} {a : Option Addr} {zs : List Int} (h : CodesR w a zs) (hl : zs.length ≤ 1048576) : Codes w a zs := ⟨hl, h.2⟩
theorem val_box (w : World) (x n : Int) (ai : Option Addr) (len ci : Nat) (t : ByteArray) : Below w.heap.size w (w.alloc (.cells #[.int .i64 x, .int .i64 n, .slice ai len ci, .string t] 25)) := (Below.refl _ _).alloc (Nat.le_refl _) _

theorem pv_box (w : World) (x n : Int) (ai : Option Addr) (len ci : Nat) (t : ByteArray) : Below w.heap.size w (w.alloc (.cells #[.int .i64 x, .int .i64 n, .slice ai len ci, .string t] 33)) := (Below.refl _ _).alloc (Nat.le_refl _) _
theorem row_on {w w' : World} {g : Nat} {cs : Array Value} {T : TypeId} (h : w.heap[g]? = some (.cells cs T (0, 0))) (hB : Below w.heap.size w w') : w'.heap[g]? = some (.cells cs T (0, 0)) := by rw [hB.block g (blk_lt h)]; exact h
theorem free_row {w : World} {g : Nat} {cs : Array Value} {T : TypeId} {zs : List Int} (h : w.heap[g]? = some (.cells cs T (0, 0))) : Free w (some ⟨g, 0, none⟩) zs := fun b o hb i hi => by
  cases hb
  exact ⟨blk_lt h, by simp [World.frozen?, h]⟩
theorem eight_at {w w' : World} {b b' : Nat} {v0 v1 v2 v3 u0 u1 u2 u3 : Value} (hB : Below w.heap.size w w') (h : At4 w b v0 v1 v2 v3) (k : At4 w b' u0 u1 u2 u3) :
    Below w.heap.size w w' ∧ w'.cell? ⟨b, 0, none⟩ = some v0 ∧ w'.cell? ⟨b, 1, none⟩ = some v1 ∧ w'.cell? ⟨b, 2, none⟩ = some v2 ∧ w'.cell? ⟨b, 3, none⟩ = some v3 ∧ w'.cell? ⟨b', 0, none⟩ = some u0 ∧ w'.cell? ⟨b', 1, none⟩ = some u1 ∧ w'.cell? ⟨b', 2, none⟩ = some u2 ∧ w'.cell? ⟨b', 3, none⟩ = some u3 := by
  obtain ⟨h0, h1, h2, h3, _⟩ := h.on hB
  obtain ⟨k0, k1, k2, k3, _⟩ := k.on hB
  exact ⟨hB, h0, h1, h2, h3, k0, k1, k2, k3⟩
theorem ao_block {w w' : World} {b : Nat} {v0 v1 : Value} (h : AO w b v0 v1) (hb : w'.heap[b]? = w.heap[b]?) : AO w' b v0 v1 := hb.trans h
theorem good_codes {p : An} (h : good p = true) : (cd p).length ≤ 20 := by
  have h3 := (good_name h).2
  have hrt : ValM.right (kd p) (nu p) (cd p) (tx p) = true := by unfold ValK.answeredB at h3; simp at h3; exact h3.1
  rcases ValM.kinds hrt with ⟨_, _, h, _⟩ | ⟨_, _, _, h, _⟩ | ⟨_, _, _, h, _⟩ | ⟨_, _, h, _⟩ | ⟨_, _, h, _, _⟩
  · omega
  · omega
  · omega
  · exact ValM.rises_len h
  · omega
theorem res_tot {R : List An} (hl : R.length ≤ 30) (hg : ∀ q ∈ R, good q = true) : tot (fun i => (cd (R.getD i an0)).length) R.length ≤ 1048576 := by
  have : ∀ k, k ≤ R.length → tot (fun i => (cd (R.getD i an0)).length) k ≤ 20 * k := by
    intro k
    induction k with
    | zero => intro _; exact Nat.le_refl _
    | succ k ih =>
      intro hk
      have h1 := ih (by omega)
      have h2 := good_codes (hg _ (getD_mem (show k < R.length by omega)))
      show tot _ k + (cd (R.getD k an0)).length ≤ _
      omega
  have := this R.length (Nat.le_refl _)
  omega

set_option maxRecDepth 10000 in
set_option maxHeartbeats 6400000 in
theorem law_put (a : Option Addr) (cap : Nat) (ls : List An) (s : ByteArray) (x n : Int) (ai : Option Addr) (ci : Nat) (zs : List Int) (t : ByteArray) (w : World) (hR : Raw w a ls) (hs : s.size ≤ maxLen) (hcr : CodesR w ai zs) (ht : t.size ≤ maxLen) (hE : EnvA w) :
    Calls Tryz.prog 3 #[.slice a ls.length cap, .string s, av x n ai zs.length ci t] w fun e w' => e = .returned (.bool true) ∧ Below w.heap.size w w' := by
  have HR := hid hR
  have HS := hid hs
  have HT := hid ht
  have HE := hid hE
  have HCR := hid hcr
  have hzl := hcr.1
  unfold maxLen at hs ht hzl
  clear hR hE hcr
  have hb0 := val_box w x n ai zs.length ci t
  have HA0 := hid (At4.laid w 25 (.int .i64 x) (.int .i64 n) (.slice ai zs.length ci) (.string t))
  by_cases hsb : 1048576 < s.size
  · go_enter Tryz.func3, Tryz.ntmps3
    go_wp2
    go_ret
    exact ⟨rfl, hb0⟩
  have HB0 := hid hb0
  clear hb0
  go_enter Tryz.func3, Tryz.ntmps3
  go_wp2_with fail
  refine (szAnsL a cap ls 1048576 (Nat.le_refl _) _ (raw_on HR.out HB0.out)).mono ?_
  rintro e w1 ⟨⟨z, rfl, hz, hz2⟩, hB1⟩
  have HB1 : Hid (Below w.heap.size w w1) := HB0.out.trans (hB1.mono HB0.out.size)
  have HA1 := hid (HA0.out.on hB1)
  clear hB1 HA0
  by_cases hbig : 1048576 < ls.length + bulk ls
  · have hz0 : z < 0 := hz.2 hbig
    clear hz hz2
    go_wp2_with fail
    go_ret
    exact ⟨rfl, HB1.out⟩
  have hz0 : ¬ z < 0 := fun h => hbig (hz.1 h)
  have hzb : z ≤ 1048576 := by have := hz2 (by omega); omega
  have hl : ls.length ≤ 1048576 := by omega
  have htot : tot (fun i => (cd (ls.getD i an0)).length) ls.length ≤ 1048576 := by
    have h1 := tot_bulk ls ls.length (Nat.le_refl _)
    have h2 := bulk_le ls ls.length
    omega
  have HP := hid (HR.out.ans (by omega))
  clear hz hz2 hbig HR
  obtain ⟨x0, x1, x2, x3, xl⟩ := HA1.out
  by_cases hvb : z < zs.length + t.size
  · go_wp2_with fail
    refine (sz_no x n ai zs.length ci t z w1 (by omega) hzb hvb HCR.out.1 HT.out).mono ?_
    rintro e w2 ⟨rfl, hB2⟩
    have HB2 : Hid (Below w.heap.size w w2) := HB1.out.trans (hB2.mono HB1.out.size)
    clear hB2
    go_wp2_with fail
    go_ret
    exact ⟨rfl, HB2.out⟩
  go_wp2_with fail
  refine (sz_yes x n ai zs.length ci t z w1 hzb (by omega)).mono ?_
  rintro e w2 ⟨rfl, hB2⟩
  have HB2 : Hid (Below w.heap.size w w2) := HB1.out.trans (hB2.mono HB1.out.size)
  have HA2 := hid (HA1.out.on hB2)
  have HCd := hid (codesR HCR.out (by omega))
  have HP2 := hid (HP.out.on HB2.out)
  have HC2 := hid (HCd.out.on HB2.out)
  have hzl2 : zs.length ≤ 1048576 := by omega
  obtain ⟨z2, hz2⟩ : ∃ z2 : Int, z - zs.length - t.size = z2 := ⟨_, rfl⟩
  have hz3 : ¬ z2 < 0 := by omega
  rw [hz2]
  clear hB2 x0 x1 x2 x3 xl HB1 HA1 HCR hz2
  obtain ⟨R, hRe⟩ : ∃ R, Hid (resA ls (s, x, n, zs, t) = R) := ⟨_, rfl⟩
  obtain ⟨c, hce⟩ : ∃ c, Hid (putCode ls (s, x, n, zs, t) = c) := ⟨_, rfl⟩
  have HG := hid (resA_good (ls := ls) (p := (s, x, n, zs, t)))
  rw [hRe.out] at HG
  have hRl : R.length ≤ 30 := HG.out.1
  have HTR := hid (res_tot hRl HG.out.2)
  go_wp2_with fail
  refine AnyO.region_by2 8 (fun L act W => ∃ (g1 a2 : Nat) (a3 : Option Addr) (c3 gw : Nat) (x29 x30 x31 x32 x33 x34 x8 : Value),
      act = { tmps := #[.slice a ls.length cap, .string s, av x n ai zs.length ci t, undef, undef, .pointer (some ⟨w.heap.size, 0, none⟩), .bool false, .int .i64 z2, x8, undef, undef, undef, undef, undef, undef, undef, .string s, .int .i64 (s.size : Int), .bool (decide (1048576 < (s.size : Int))), .slice a ls.length cap, .int .i64 1048576, .int .i64 z, .int .i64 z, .bool (decide (z < 0)), .agg #[.int .i64 x, .int .i64 n, .slice ai zs.length ci, .string t], .int .i64 z, .int .i64 z2, .int .i64 z2, .bool (decide (z2 < 0)), x29, x30, x31, x32, x33, x34, undef, undef, undef, undef, undef, undef, undef, undef, undef, undef, undef, undef, undef, undef, undef, undef, undef, undef, undef, undef, undef, undef, undef, undef, undef, undef, undef, undef, undef, undef, undef, undef, undef, undef, undef, undef, undef, undef, undef, undef, undef, undef, undef, undef, undef, undef, undef, undef, undef, undef, undef, undef, undef, undef, undef, undef, undef, undef, undef, undef, undef, undef, undef, undef, undef], defers := [] } ∧ Below w2.heap.size w2 W ∧
      (L 0 = true → x29 = .slice a ls.length cap) ∧ (L 1 = true → x30 = .slice (some ⟨g1, 0, none⟩) ls.length ls.length ∧ (L 5 = false → Ans W (some ⟨g1, 0, none⟩) ls)) ∧ (L 2 = true → x31 = .string s) ∧ (L 3 = true → x32 = .agg #[.int .i64 x, .int .i64 n, .slice ai zs.length ci, .string t]) ∧
      (L 4 = true → x33 = av x n (some ⟨a2, 0, none⟩) zs.length zs.length t ∧ (L 5 = false → Codes W (some ⟨a2, 0, none⟩) zs)) ∧
      (L 5 = true → L 1 = true ∧ L 4 = true ∧ x34 = .agg #[.slice a3 R.length c3, .int .i64 c] ∧ (L 6 = false ∨ L 7 = true → Ans W a3 R) ∧ (L 6 = true → L 7 = false → ∀ v0 v1, Ans ((W.setCell ⟨gw, 0, none⟩ v0).setCell ⟨gw, 1, none⟩ v1) a3 R)) ∧
      (L 6 = true → x8 = .pointer (some ⟨gw, 0, none⟩) ∧ w2.heap.size ≤ gw ∧ (L 7 = false → AO W gw (.slice none 0 0) (.int .i64 0))) ∧
      (L 7 = true → L 5 = true ∧ L 6 = true ∧ AO W gw (.slice a3 R.length c3) (.int .i64 c))) (by kernel_rfl) (by kernel_rfl) (by kernel_rfl) ?start ?step ?fin
  case start => exact ⟨0, 0, none, 0, 0, undef, undef, undef, undef, undef, undef, undef, rfl, (Below.refl _ _).drew, by simp, by simp, by simp, by simp, by simp, by simp, by simp, by simp⟩
  case step =>
    rintro i hi L act W ⟨g1, a2, a3, c3, gw, x29, x30, x31, x32, x33, x34, x8, rfl, hW, f0, f1, f2, f3, f4, f5, f6, f7⟩ hl hd
    have hcases : i = 0 ∨ i = 1 ∨ i = 2 ∨ i = 3 ∨ i = 4 ∨ i = 5 ∨ i = 6 ∨ i = 7 := by omega
    rcases hcases with rfl | rfl | rfl | rfl | rfl | rfl | rfl | rfl
    · refine wpOp_step rfl (fun K hK => ?_)
      clear hi
      go_simp
      exact hK _ _ ⟨g1, a2, a3, c3, gw, _, _, _, _, _, _, _, rfl, hW, (fun _ => rfl), f1, f2, f3, f4, f5, f6, f7⟩
    · have hx := f0 (hd 0 (by kernel_rfl))
      subst hx
      refine wpOp_step rfl (fun K hK => ?_)
      clear hi
      go_simp
      refine (toAnsL a cap ls W (HP2.out.on hW)).mono ?_
      rintro e w' ⟨rfl, hA, hB⟩
      exact hK _ _ ⟨_, a2, a3, c3, gw, _, _, _, _, _, _, _, rfl, hW.trans (hB.mono hW.size), f0, (fun _ => ⟨rfl, fun _ => hA⟩), f2, f3, (fun h => ⟨(f4 h).1, fun h5 => ((f4 h).2 h5).on hB⟩), (fun h => absurd ((f5 h).1) (by rw [hl]; decide)), (fun h => ⟨(f6 h).1, (f6 h).2.1, fun h7 => ((f6 h).2.2 h7).on hB⟩), (fun h => absurd (f5 (f7 h).1).1 (by rw [hl]; decide))⟩
    · refine wpOp_step rfl (fun K hK => ?_)
      clear hi
      go_simp
      exact hK _ _ ⟨g1, a2, a3, c3, gw, _, _, _, _, _, _, _, rfl, hW, f0, f1, (fun _ => rfl), f3, f4, f5, f6, f7⟩
    · refine wpOp_step rfl (fun K hK => ?_)
      clear hi
      obtain ⟨q0, q1, q2, q3, ql⟩ := HA2.out.on hW
      go_simp
      exact hK _ _ ⟨g1, a2, a3, c3, gw, _, _, _, _, _, _, _, rfl, hW, f0, f1, f2, (fun _ => rfl), f4, f5, f6, f7⟩
    · have hx := f3 (hd 3 (by kernel_rfl))
      subst hx
      refine wpOp_step rfl (fun K hK => ?_)
      clear hi
      go_simp
      refine (toValO x n ai ci zs t W (HC2.out.on hW)).mono ?_
      rintro e w' ⟨ga, rfl, hga, hrow, hB⟩
      exact hK _ _ ⟨g1, ga, a3, c3, gw, _, _, _, _, _, _, _, rfl, hW.trans (hB.mono hW.size), f0, (fun h => ⟨(f1 h).1, fun h5 => ((f1 h).2 h5).on hB⟩), f2, f3, (fun _ => ⟨rfl, fun _ => codes_of_row (T := 2) hrow hzl2⟩), (fun h => absurd ((f5 h).2.1) (by rw [hl]; decide)), (fun h => ⟨(f6 h).1, (f6 h).2.1, fun h7 => ((f6 h).2.2 h7).on hB⟩), (fun h => absurd (f5 (f7 h).1).2.1 (by rw [hl]; decide))⟩
    · obtain ⟨hx1, hA1⟩ := f1 (hd 1 (by kernel_rfl))
      obtain ⟨hx4, hA4⟩ := f4 (hd 4 (by kernel_rfl))
      have hx2 := f2 (hd 2 (by kernel_rfl))
      have hA1 := hA1 hl
      have hA4 := hA4 hl
      subst hx1
      subst hx4
      subst hx2
      refine wpOp_step rfl (fun K hK => ?_)
      clear hi
      go_simp
      refine (spec_ap (some ⟨g1, 0, none⟩) ls.length ls s x n (some ⟨a2, 0, none⟩) zs.length zs t W hRe.out hce.out hA1 hA4 (fun h => by cases h) HS.out HT.out).mono ?_
      rintro e w' ⟨⟨a5, c5, rfl, hA5, hH5⟩, hB⟩
      have h70 : L 7 = false := by cases h : L 7 with | false => rfl | true => exact absurd (f7 h).1 (by rw [hl]; decide)
      exact hK _ _ ⟨g1, a2, a5, c5, gw, _, _, _, _, _, _, _, rfl, hW.trans (hB.mono hW.size), f0, (fun h => ⟨rfl, fun h5 => by simp [AnyO.more] at h5⟩), f2, f3, (fun h => ⟨rfl, fun h5 => by simp [AnyO.more] at h5⟩), (fun _ => ⟨hd 1 (by kernel_rfl), hd 4 (by kernel_rfl), rfl, fun _ => hA5, fun h6 _ => hH5 gw (blk_lt ((f6 h6).2.2 h70)) ⟨_, (f6 h6).2.2 h70⟩⟩), (fun h => ⟨(f6 h).1, (f6 h).2.1, fun h7 => ((f6 h).2.2 h7).on hB⟩), (fun h => absurd (f7 h).1 (by rw [hl]; decide))⟩
    · refine wpOp_step rfl (fun K hK => ?_)
      clear hi
      go_simp
      have hB := out_box W (.slice none 0 0) (.int .i64 0)
      exact hK _ _ ⟨g1, a2, a3, c3, _, _, _, _, _, _, _, _, rfl, hW.trans (hB.mono hW.size), f0, (fun h => ⟨(f1 h).1, fun h5 => ((f1 h).2 h5).on hB⟩), f2, f3, (fun h => ⟨(f4 h).1, fun h5 => ((f4 h).2 h5).on hB⟩), (fun h => ⟨(f5 h).1, (f5 h).2.1, (f5 h).2.2.1, fun _ => ((f5 h).2.2.2.1 (.inl hl)).on hB, fun _ _ v0 v1 => ((f5 h).2.2.2.1 (.inl hl)).on ((hB.setCell (Nat.le_refl _) _).setCell (Nat.le_refl _) _)⟩), (fun _ => ⟨rfl, hW.size, fun _ => AO.laid W _ _⟩), (fun h => absurd (f7 h).2.1 (by rw [hl]; decide))⟩
    · obtain ⟨hxa, hgw, hAO⟩ := f6 (hd 6 (by kernel_rfl))
      obtain ⟨h51, h54, hx5, _, h56⟩ := f5 (hd 5 (by kernel_rfl))
      have hAO := hAO hl
      have hHo := h56 (hd 6 (by kernel_rfl)) hl
      have H51 := hid h51
      have H54 := hid h54
      clear h51 h54
      subst hxa
      subst hx5
      refine wpOp_step rfl (fun K hK => ?_)
      clear hi
      obtain ⟨q0, q1, qf, ql⟩ := hAO.cells
      go_simp
      exact hK _ _ ⟨g1, a2, a3, c3, gw, _, _, _, _, _, _, _, rfl, (hW.setCell hgw _).setCell hgw _, f0, (fun h => ⟨(f1 h).1, fun h5 => absurd (show L 5 = true from hd 5 (by kernel_rfl)) (by rw [show L 5 = false from h5]; decide)⟩), f2, f3, (fun h => ⟨(f4 h).1, fun h5 => absurd (show L 5 = true from hd 5 (by kernel_rfl)) (by rw [show L 5 = false from h5]; decide)⟩), (fun _ => ⟨H51.out, H54.out, rfl, fun _ => hHo _ _, fun _ h7 => by simp [AnyO.more] at h7⟩), (fun h => ⟨rfl, hgw, fun h7 => by simp [AnyO.more] at h7⟩), (fun _ => ⟨hd 5 (by kernel_rfl), hd 6 (by kernel_rfl), ao_put hAO _ _⟩)⟩
  case fin =>
    rintro L act W ⟨g1, a2, a3, c3, gw, x29, x30, x31, x32, x33, x34, x8, rfl, hW, f0, f1, f2, f3, f4, f5, f6, f7⟩ hall
    obtain ⟨hxa, hgw, _⟩ := f6 (hall 6 (by omega))
    obtain ⟨_, _, hx5, hA, _⟩ := f5 (hall 5 (by omega))
    have hA := hA (.inr (hall 7 (by omega)))
    obtain ⟨_, _, hO⟩ := f7 (hall 7 (by omega))
    subst hxa
    clear f0 f1 f2 f3 f4 f5 f6 f7 hall hx5
    have HB3 : Hid (Below w.heap.size w W) := HB2.out.trans (hW.mono HB2.out.size)
    have HA3 := hid (HA2.out.on hW)
    have HO3 := hid hO
    have HR3 := hid hA
    have hbx : w.heap.size < W.heap.size := HA3.out.2.2.2.2
    obtain ⟨W3, hW3⟩ : ∃ V, V = W := ⟨_, rfl⟩
    subst hW3
    clear hW hO hA hgw HB2 HA2 HP2 HC2
    go_wp2_with fail
    refine (toAnsR a cap ls W3 (HP.out.on HB3.out)).mono ?_
    rintro e w4 ⟨rfl, hB4, hRow⟩
    have HP4 := hid (hRow.ans hl HP.out.2.1 HP.out.len)
    obtain ⟨E4, hE4⟩ : ∃ E, w4.heap.size = E := ⟨_, rfl⟩
    have HM4 : Hid (MkA w4 W3.heap.size E4 ls.length fun i => (cd (ls.getD i an0)).length) := by have h := hRow.mkA rfl; rw [hE4] at h; exact hid h
    have HK4 := hid hB4
    have HB4 : Hid (Below w.heap.size w w4) := HB3.out.trans (hB4.mono HB3.out.size)
    obtain ⟨q0, q1, q2, q3, ql⟩ := HA3.out.on hB4
    clear hRow hB4
    go_wp2_with fail
    refine (toValO x n ai ci zs t w4 (HCd.out.on HB4.out)).mono ?_
    rintro e w5 ⟨g5, rfl, hg5, hrow5, hB5⟩
    have hb5 := pv_box w5 x n (some ⟨g5, 0, none⟩) zs.length zs.length t
    have hB45 := hB5.trans (hb5.mono hB5.size)
    have HY5 : Hid (At4 (w5.alloc (.cells #[.int .i64 x, .int .i64 n, .slice (some ⟨g5, 0, none⟩) zs.length zs.length, .string t] 33)) w5.heap.size (.int .i64 x) (.int .i64 n) (.slice (some ⟨g5, 0, none⟩) zs.length zs.length) (.string t)) := At4.laid w5 33 _ _ _ _
    have HN5 : Hid ((w5.alloc (.cells #[.int .i64 x, .int .i64 n, .slice (some ⟨g5, 0, none⟩) zs.length zs.length, .string t] 33)).heap[g5]? = some (.cells (cellsI zs).toArray 2 (0, 0))) := by
      show _ = _
      rw [hb5.block g5 (blk_lt hrow5)]
      exact hrow5
    have HK5 : Hid (Below W3.heap.size W3 (w5.alloc (.cells #[.int .i64 x, .int .i64 n, .slice (some ⟨g5, 0, none⟩) zs.length zs.length, .string t] 33))) := HK4.out.trans (hB45.mono HK4.out.size)
    have HP5 := hid (HP4.out.on hB45)
    have HM5 := hid (HM4.out.on hB45)
    have hg5l : E4 ≤ g5 := by omega
    have hg5h : g5 < w5.heap.size := blk_lt hrow5
    have hE4l : W3.heap.size < E4 := HM4.out.1
    clear q0 q1 q2 q3 ql hb5 hB45 hB5 hrow5 hg5 HK4 HP4 HM4 HB4
    go_upto_region 13 with fail
    generalize w5.alloc (.cells #[.int .i64 x, .int .i64 n, .slice (some ⟨g5, 0, none⟩) zs.length zs.length, .string t] 33) = W5 at *
    generalize w5.heap.size = gy at *
    have HCN5 := hid (codes_of_row HN5.out hzl2)
    have hgy5 : gy < W5.heap.size := HY5.out.2.2.2.2
    obtain ⟨q0, q1, q2, q3, ql⟩ := HY5.out
    go_wp2_with fail
    refine (impl_ap (some ⟨W3.heap.size, 0, none⟩) ls.length ls s x n (some ⟨g5, 0, none⟩) zs.length zs t W5 hRe.out hce.out HP5.out HCN5.out HS.out HT.out (HE.out.on (HB3.out.trans (HK5.out.mono HB3.out.size)))).mono ?_
    rintro e w6 ⟨⟨a6, rfl, hO6, -⟩, hB6⟩
    obtain ⟨lo, hlo⟩ : ∃ l, W5.heap.size = l := ⟨_, rfl⟩
    rw [hlo] at hO6
    have hgy : gy < lo := by omega
    have hb6 := out_box w6 (.slice a6 R.length R.length) (.int .i64 c)
    have hB56 := hB6.trans (hb6.mono hB6.size)
    have HX6 : Hid (AO (w6.alloc (.cells #[.slice a6 R.length R.length, .int .i64 c] 30)) w6.heap.size (.slice a6 R.length R.length) (.int .i64 c)) := AO.laid w6 _ _
    have HOwn6 : Hid (OwnB (w6.alloc (.cells #[.slice a6 R.length R.length, .int .i64 c] 30)) lo w6.heap.size a6 R) := hO6.keep (Keep.of hb6)
    have HK6 : Hid (Below W3.heap.size W3 (w6.alloc (.cells #[.slice a6 R.length R.length, .int .i64 c] 30))) := HK5.out.trans (hB56.mono HK5.out.size)
    have HP6 := hid (HP5.out.on hB56)
    have HM6 := hid (HM5.out.on hB56)
    have HY6 := hid (HY5.out.on hB56)
    have HN6 := hid (row_on HN5.out hB56)
    have hlo6 : lo ≤ w6.heap.size := by rw [← hlo]; exact hB6.size
    clear q0 q1 q2 q3 ql hb6 hB56 hB6 hO6 HK5 HP5 HM5 HY5 HN5 HCN5 hlo hgy5
    go_upto_region 14 with fail
    generalize w6.alloc (.cells #[.slice a6 R.length R.length, .int .i64 c] 30) = W6 at *
    generalize w6.heap.size = gx at *
    obtain ⟨q0, q1, qf, ql⟩ := HX6.out.cells
    obtain ⟨p0, p1, pf, pl⟩ := (HO3.out.on HK6.out).cells
    go_wp2_with fail
    refine (eq_out a6 a3 R.length c3 R c W6 (HOwn6.out.ans hRl HG.out.2) (HR3.out.on HK6.out)).mono ?_
    rintro e w7 ⟨rfl, hB7⟩
    clear q0 q1 qf ql p0 p1 pf pl
    have HK7 : Hid (Below W3.heap.size W3 w7) := HK6.out.trans (hB7.mono HK6.out.size)
    have HOwn7 := hid (HOwn6.out.keep (Keep.of hB7))
    have HP7 := hid (HP6.out.on hB7)
    have HM7 := hid (HM6.out.on hB7)
    have HY7 := hid (HY6.out.on hB7)
    have HN7 := hid (row_on HN6.out hB7)
    have HX7 := hid (HX6.out.on hB7)
    clear hB7 HK6 HOwn6 HP6 HM6 HY6 HN6 HX6
    go_wp2_with fail
    refine (toAnsL a cap ls w7 (HP.out.on (HB3.out.trans (HK7.out.mono HB3.out.size)))).mono ?_
    rintro e w8 ⟨rfl, hQ8, hB8⟩
    have HQ8 := hid hQ8
    clear hQ8
    have HK8 : Hid (Below W3.heap.size W3 w8) := HK7.out.trans (hB8.mono HK7.out.size)
    have HOwn8 := hid (HOwn7.out.keep (Keep.of hB8))
    have HP8 := hid (HP7.out.on hB8)
    have HM8 := hid (HM7.out.on hB8)
    have HY8 := hid (HY7.out.on hB8)
    have HN8 := hid (row_on HN7.out hB8)
    have HX8 := hid (HX7.out.on hB8)
    clear hB8 HK7 HOwn7 HP7 HM7 HY7 HN7 HX7
    generalize w7.heap.size = g7 at *
    go_wp2_with fail
    refine (eqAnsL (some ⟨W3.heap.size, 0, none⟩) (some ⟨g7, 0, none⟩) ls.length ls.length ls w8 HP8.out HQ8.out).mono ?_
    rintro e w9 ⟨rfl, hB9⟩
    have HK9 : Hid (Below W3.heap.size W3 w9) := HK8.out.trans (hB9.mono HK8.out.size)
    have HOwn9 := hid (HOwn8.out.keep (Keep.of hB9))
    have HM9 := hid (HM8.out.on hB9)
    have HY9 := hid (HY8.out.on hB9)
    have HN9 := hid (row_on HN8.out hB9)
    have HX9 := hid (HX8.out.on hB9)
    clear hB9 HK8 HOwn8 HM8 HY8 HN8 HX8
    clear HP8 HQ8
    have HC9 := hid (HCd.out.on (HB3.out.trans (HK9.out.mono HB3.out.size)))
    have HV9 := hid (HA3.out.on HK9.out)
    have HCN9 := hid (codes_of_row HN9.out hzl2)
    go_wp2_with fail
    have hB0 : Below w9.heap.size w9 w9.drew := (Below.refl _ _).drew
    refine wp_region_held_drew (S := (fun w' => Below w9.heap.size w9 w' ∧ w'.cell? ⟨gy, 0, none⟩ = some (.int .i64 x) ∧ w'.cell? ⟨gy, 1, none⟩ = some (.int .i64 n) ∧ w'.cell? ⟨gy, 2, none⟩ = some (.slice (some ⟨g5, 0, none⟩) zs.length zs.length) ∧ w'.cell? ⟨gy, 3, none⟩ = some (.string t) ∧ w'.cell? ⟨w.heap.size, 0, none⟩ = some (.int .i64 x) ∧ w'.cell? ⟨w.heap.size, 1, none⟩ = some (.int .i64 n) ∧ w'.cell? ⟨w.heap.size, 2, none⟩ = some (.slice ai zs.length ci) ∧ w'.cell? ⟨w.heap.size, 3, none⟩ = some (.string t))) (by kernel_rfl) ?_ (fun hHeld => ?_)
    · (try dsimp only) <;> (first | exact eight_at hBn HY9.out HV9.out | exact eight_at hB0 HY9.out HV9.out)
    refine wpAnyH_take (i := 0) (oi := { dst := some 52, op := Go.Op.load 33 (Go.Operand.tmp 10), type := 33, pos := "exact.go:1724", after := #[], guard := none }) (v := ?_) rfl (by kernel_rfl) (by kernel_rfl) (by kernel_rfl) (fun _ _ _ h => h) (Or.inl ⟨by rfl, ?yld1⟩) hHeld ?nxt1
    case yld1 => (intro w hSw; (try dsimp only at hSw); go_simp) <;> with_reducible rfl
    (try simp only [Act.put, List.setIfInBounds_toArray, List.set_cons_zero, List.set_cons_succ])
    refine wpAnyH_take (i := 1) (oi := { dst := some 53, op := Go.Op.load 25 (Go.Operand.tmp 5), type := 25, pos := "exact.go:1724", after := #[], guard := none }) (v := ?_) rfl (by kernel_rfl) (by kernel_rfl) (by kernel_rfl) (fun _ _ _ h => h) (Or.inl ⟨by rfl, ?yld2⟩) hHeld ?nxt2
    case yld2 => (intro w hSw; (try dsimp only at hSw); go_simp) <;> with_reducible rfl
    (try simp only [Act.put, List.setIfInBounds_toArray, List.set_cons_zero, List.set_cons_succ])
    refine wpAnyH_ready (rs := [2]) (by kernel_rfl) (by simp) ?_
    refine AllReadyH.cons (o := { dst := some 54, op := Go.Op.call { callee := Go.Callee.value (Go.Operand.func 8), args := #[Go.Operand.tmp 53], argTypes := #[25] }, type := 33, pos := "exact.go:1724", after := #[{ on := 1, ground := Go.Ground.data }], guard := none }) rfl (fun K hK => ?_) AllReadyH.nil
    go_simp
    go_at_call 8
    have hp := hHeld.1
    refine (toVal x n ai ci zs t _ (HC9.out.on hp)).mono ?_
    rintro e w' ⟨a9, rfl, hcd9, hB⟩
    have HD9 := hid hcd9
    have hBn := hp.trans (hB.mono hp.size)
    clear hp hB hcd9
    (try go_wp2_with fail)
    refine hK.out _ _ ?_ (fun hHeld2 => ?_)
    · (try dsimp only) <;> (first | exact eight_at hBn HY9.out HV9.out | exact eight_at hB0 HY9.out HV9.out)
    clear hK K hHeld
    have hHeld := hHeld2
    clear hHeld2
    (try simp only [Act.put, List.setIfInBounds_toArray, List.set_cons_zero, List.set_cons_succ])
    refine wpAnyH_ready (rs := [3]) (by kernel_rfl) (by simp) ?_
    refine AllReadyH.cons (o := { dst := some 55, op := Go.Op.call { callee := Go.Callee.value (Go.Operand.func 12), args := #[Go.Operand.tmp 52, Go.Operand.tmp 54], argTypes := #[33, 33] }, type := 4, pos := "exact.go:1724", after := #[{ on := 0, ground := Go.Ground.data }, { on := 2, ground := Go.Ground.data }, { on := 2, ground := Go.Ground.chain }], guard := none }) rfl (fun K hK => ?_) AllReadyH.nil
    go_simp
    go_at_call 12
    have hp := hHeld.1
    refine (eqVal x n (some ⟨g5, 0, none⟩) a9 zs.length zs.length zs t _ (HCN9.out.on hp) HD9.out).mono ?_
    rintro e w' ⟨rfl, hB⟩
    have hBn := hp.trans (hB.mono hp.size)
    clear hp hB
    (try go_wp2_with fail)
    refine hK.out _ _ ?_ (fun hHeld2 => ?_)
    · (try dsimp only) <;> (first | exact eight_at hBn HY9.out HV9.out | exact eight_at hB0 HY9.out HV9.out)
    clear hK K hHeld
    have hHeld := hHeld2
    clear hHeld2
    (try simp only [Act.put, List.setIfInBounds_toArray, List.set_cons_zero, List.set_cons_succ])
    refine wpAnyH_take (i := 4) (oi := { dst := some 56, op := Go.Op.unOp Go.UnOp.not 4 (Go.Operand.tmp 55), type := 4, pos := "exact.go:1724", after := #[{ on := 3, ground := Go.Ground.data }], guard := none }) (v := ?_) rfl (by kernel_rfl) (by kernel_rfl) (by kernel_rfl) (fun _ _ _ h => h) (Or.inl ⟨by rfl, ?yld3⟩) hHeld ?nxt3
    case yld3 => (intro w hSw; (try dsimp only at hSw); go_simp) <;> with_reducible rfl
    (try simp only [Act.put, List.setIfInBounds_toArray, List.set_cons_zero, List.set_cons_succ])
    refine wpAnyH_done (by kernel_rfl) ?_ _
    obtain ⟨w10, hw10⟩ : ∃ V, V = w' := ⟨_, rfl⟩
    subst hw10
    have hB10 : Below w9.heap.size w9 w10 := hHeld.1
    clear hHeld hB0 HC9 HV9 HCN9
    have HK10 : Hid (Below W3.heap.size W3 w10) := HK9.out.trans (hB10.mono HK9.out.size)
    have HOwn10 := hid (HOwn9.out.keep (Keep.of hB10))
    have HM10 := hid (HM9.out.on hB10)
    have HY10 := hid (HY9.out.on hB10)
    have HN10 := hid (row_on HN9.out hB10)
    have HX10 := hid (HX9.out.on hB10)
    clear hB10 HK9 HOwn9 HM9 HY9 HN9 HX9
    go_wp2_with fail
    refine (mark_answers W3.heap.size E4 ls.length ls.length _ w10 HM10.out hl htot).mono ?_
    rintro e w11 ⟨⟨z11, rfl, hz11, hz11b⟩, hW11⟩
    have HK11 : Hid (Below W3.heap.size W3 w11) := HK10.out.trans (hW11.below (Nat.le_refl _) HK10.out.size)
    have HY11 := hid (at4_block HY10.out (hW11.2.2.2.2 gy HY10.out.2.2.2.2 (.inr (by omega))) hW11.2.2.2.1)
    have HN11 := hid ((hW11.2.2.2.2 g5 (blk_lt HN10.out) (.inr hg5l)).trans HN10.out)
    have HX11 := hid (ao_block HX10.out (hW11.2.2.2.2 gx (blk_lt HX10.out) (.inr (by omega))))
    have HOwn11 := hid (HOwn10.out.keep ⟨hW11.2.2.2.1, fun j hj hs => hW11.2.2.2.2 j hs (.inr (by omega))⟩)
    clear hW11 HM10 HY10 HN10 HX10 HOwn10 HK10
    obtain ⟨q0, q1, q2, q3, ql⟩ := HY11.out
    have HCN11 := hid (codes_of_row HN11.out hzl2)
    have HFN11 := hid (free_row (zs := zs) HN11.out)
    have hzz : z11 ≤ 100000000 := by omega
    go_wp2_with fail
    refine (mark_value x n (some ⟨g5, 0, none⟩) zs.length zs t z11 w11 HCN11.out HFN11.out hz11 hzz).mono ?_
    rintro e w12 ⟨rfl, hM12⟩
    have hne5 : ∀ j, j ≠ g5 → ∀ b o, (some ⟨g5, 0, none⟩ : Option Addr) = some ⟨b, o, none⟩ → 0 < zs.length → j ≠ b := fun j hj b o h _ => by cases h; exact hj
    have HK12 : Hid (Below W3.heap.size W3 w12) := HK11.out.trans (hM12.below (fun b o h => by cases h; omega) HK11.out.size)
    have HX12 := hid (ao_block HX11.out (marked_block hM12 (blk_lt HX11.out) (hne5 gx (by omega))))
    have HOwn12 := hid (HOwn11.out.keep ⟨hM12.2.2.2.1, fun j hj hs => marked_block hM12 hs (hne5 j (by omega))⟩)
    have hk0 : ¬ (z11 + (zs.length : Int)) < 0 := by omega
    have hk1 : decide ((z11 + (zs.length : Int)) < 0) = false := by simp; omega
    clear q0 q1 q2 q3 ql hM12 HY11 HN11 HX11 HOwn11 HK11 HCN11 HFN11 hne5
    obtain ⟨q0, q1, qf, ql⟩ := HX12.out.cells
    obtain ⟨p0, p1, pf, pl⟩ := (HO3.out.on HK12.out).cells
    go_wp2_with fail
    refine (eq_out a6 a3 R.length c3 R c w12 (HOwn12.out.ans hRl HG.out.2) (HR3.out.on HK12.out)).mono ?_
    rintro e w13 ⟨rfl, hB13⟩
    clear q0 q1 qf ql p0 p1 pf pl hk0 hk1
    have HK13 : Hid (Below W3.heap.size W3 w13) := HK12.out.trans (hB13.mono HK12.out.size)
    have HOwn13 := hid (HOwn12.out.keep (Keep.of hB13))
    have HX13 := hid (HX12.out.on hB13)
    clear hB13 HK12 HOwn12 HX12
    obtain ⟨q0, q1, qf, ql⟩ := HX13.out.cells
    have hRl2 : R.length ≤ 1048576 := by omega
    go_wp2_with fail
    refine (mark_out lo gx R.length R.length a6 c (fun i => (cd (R.getD i an0)).length) w13 HOwn13.out.mo hRl2 HTR.out).mono ?_
    rintro e w14 ⟨rfl, hMo14, hW14⟩
    have hlo3 : W3.heap.size ≤ lo := by omega
    have HK14 : Hid (Below W3.heap.size W3 w14) := HK13.out.trans (hW14.below hlo3 HK13.out.size)
    have HX14 := hid (ao_block HX13.out (hW14.2.2.2.2 gx (blk_lt HX13.out) (.inr (Nat.le_refl _))))
    have HMo14 := hid hMo14
    clear q0 q1 qf ql hMo14 hW14 HK13 HX13 HOwn13
    obtain ⟨q0, q1, qf, ql⟩ := HX14.out.cells
    obtain ⟨pp, hpp⟩ : ∃ p : Nat, pos (fun i => (cd (R.getD i an0)).length) R.length = p := ⟨_, rfl⟩
    have hpp0 : ¬ (pp : Int) < 0 := by omega
    rw [hpp]
    have HPP := hid hpp
    clear hpp
    go_wp2_with fail
    refine (held_out lo gx R.length R.length a6 c (fun i => (cd (R.getD i an0)).length) w14 HMo14.out hRl2 HTR.out).mono ?_
    rintro e w15 ⟨rfl, hB15⟩
    rw [HPP.out]
    clear q0 q1 qf ql
    have HK15 : Hid (Below W3.heap.size W3 w15) := HK14.out.trans (hB15.mono HK14.out.size)
    have HX15 := hid (HX14.out.on hB15)
    have HMo15 := hid (HMo14.out.on hB15)
    clear hB15 HK14 HX14 HMo14
    have HB15 : Hid (Below w.heap.size w w15) := HB3.out.trans (HK15.out.mono HB3.out.size)
    have HP15 := hid (HP.out.on HB15.out)
    have HA15 := hid (HA3.out.on HK15.out)
    have HC15 := hid (HCd.out.on HB15.out)
    have HE15 := hid (HE.out.on HB15.out)
    go_wp2_with fail
    refine AnyO.region_by2 8 (fun L act W => ∃ (f1g f2g : Nat) (b3 : Option Addr) (d3 gv : Nat) (x82 x83 x84 x85 x86 x87 x15 : Value),
          act = { tmps := #[.slice a ls.length cap, .string s, av x n ai zs.length ci t, undef, undef, .pointer (some ⟨w.heap.size, 0, none⟩), .bool false, .int .i64 z2, .pointer (some ⟨gw, 0, none⟩), .slice (some ⟨W3.heap.size, 0, none⟩) ls.length ls.length, .pointer (some ⟨gy, 0, none⟩), .pointer (some ⟨gx, 0, none⟩), .int .i64 (z11 + (zs.length : Int)), .int .i64 (pp : Int), .int .i64 (pp : Int), x15, .string s, .int .i64 (s.size : Int), .bool (decide (1048576 < (s.size : Int))), .slice a ls.length cap, .int .i64 1048576, .int .i64 z, .int .i64 z, .bool (decide (z < 0)), .agg #[.int .i64 x, .int .i64 n, .slice ai zs.length ci, .string t], .int .i64 z, .int .i64 z2, .int .i64 z2, .bool (decide (z2 < 0)), x29, x30, x31, x32, x33, x34, .slice a ls.length cap, .slice (some ⟨W3.heap.size, 0, none⟩) ls.length ls.length, .agg #[.int .i64 x, .int .i64 n, .slice ai zs.length ci, .string t], av x n (some ⟨g5, 0, none⟩) zs.length zs.length t, .slice (some ⟨W3.heap.size, 0, none⟩) ls.length ls.length, .string s, .agg #[.int .i64 x, .int .i64 n, .slice (some ⟨g5, 0, none⟩) zs.length zs.length, .string t], .agg #[.slice a6 R.length R.length, .int .i64 c], .agg #[.slice a6 R.length R.length, .int .i64 c], .agg #[.slice a3 R.length c3, .int .i64 c], .bool true, .bool false, .slice (some ⟨W3.heap.size, 0, none⟩) ls.length ls.length, .slice a ls.length cap, .slice (some ⟨g7, 0, none⟩) ls.length ls.length, .bool true, .bool false, .agg #[.int .i64 x, .int .i64 n, .slice (some ⟨g5, 0, none⟩) zs.length zs.length, .string t], .agg #[.int .i64 x, .int .i64 n, .slice ai zs.length ci, .string t], av x n a9 zs.length zs.length t, .bool true, .bool false, .slice (some ⟨W3.heap.size, 0, none⟩) ls.length ls.length, .int .i64 1, .int .i64 z11, .agg #[.int .i64 x, .int .i64 n, .slice (some ⟨g5, 0, none⟩) zs.length zs.length, .string t], .int .i64 z11, .int .i64 (z11 + (zs.length : Int)), .int .i64 (z11 + (zs.length : Int)), .bool false, .bool false, .agg #[.slice a6 R.length R.length, .int .i64 c], .agg #[.slice a3 R.length c3, .int .i64 c], .bool true, .bool false, .bool false, .agg #[.slice a6 R.length R.length, .int .i64 c], .int .i64 1, .int .i64 (pp : Int), .agg #[.slice a6 R.length R.length, .int .i64 c], .int .i64 1, .int .i64 (pp : Int), .int .i64 (pp : Int), .bool (decide ((pp : Int) < 0)), .int .i64 (pp : Int), .int .i64 (pp : Int), .bool false, x82, x83, x84, x85, x86, x87, undef, undef, undef, undef, undef, undef, undef, undef, undef, undef, undef, undef], defers := [] } ∧ Below w15.heap.size w15 W ∧
          (L 0 = true → x82 = .slice a ls.length cap) ∧ (L 1 = true → x83 = .slice (some ⟨f1g, 0, none⟩) ls.length ls.length ∧ (L 5 = false → Ans W (some ⟨f1g, 0, none⟩) ls)) ∧ (L 2 = true → x84 = .string s) ∧ (L 3 = true → x85 = .agg #[.int .i64 x, .int .i64 n, .slice ai zs.length ci, .string t]) ∧
          (L 4 = true → x86 = av x n (some ⟨f2g, 0, none⟩) zs.length zs.length t ∧ (L 5 = false → Codes W (some ⟨f2g, 0, none⟩) zs)) ∧
          (L 5 = true → L 1 = true ∧ L 4 = true ∧ x87 = .agg #[.slice b3 R.length d3, .int .i64 c] ∧ (L 6 = false ∨ L 7 = true → Ans W b3 R) ∧ (L 6 = true → L 7 = false → ∀ v0 v1, Ans ((W.setCell ⟨gv, 0, none⟩ v0).setCell ⟨gv, 1, none⟩ v1) b3 R)) ∧
          (L 6 = true → x15 = .pointer (some ⟨gv, 0, none⟩) ∧ w15.heap.size ≤ gv ∧ (L 7 = false → AO W gv (.slice none 0 0) (.int .i64 0))) ∧
          (L 7 = true → L 5 = true ∧ L 6 = true ∧ AO W gv (.slice b3 R.length d3) (.int .i64 c))) (by kernel_rfl) (by kernel_rfl) (by kernel_rfl) ?start ?step ?fin
    case start => exact ⟨0, 0, none, 0, 0, undef, undef, undef, undef, undef, undef, undef, rfl, (Below.refl _ _).drew, by simp, by simp, by simp, by simp, by simp, by simp, by simp, by simp⟩
    case step =>
      rintro i hi L act W ⟨f1g, f2g, b3, d3, gv, x82, x83, x84, x85, x86, x87, x15, rfl, hW, f0, f1, f2, f3, f4, f5, f6, f7⟩ hl hd
      have hcases : i = 0 ∨ i = 1 ∨ i = 2 ∨ i = 3 ∨ i = 4 ∨ i = 5 ∨ i = 6 ∨ i = 7 := by omega
      rcases hcases with rfl | rfl | rfl | rfl | rfl | rfl | rfl | rfl
      · refine wpOp_step rfl (fun K hK => ?_)
        clear hi
        go_simp
        exact hK _ _ ⟨f1g, f2g, b3, d3, gv, _, _, _, _, _, _, _, rfl, hW, (fun _ => rfl), f1, f2, f3, f4, f5, f6, f7⟩
      · have hx := f0 (hd 0 (by kernel_rfl))
        subst hx
        refine wpOp_step rfl (fun K hK => ?_)
        clear hi
        go_simp
        refine (toAnsL a cap ls W (HP15.out.on hW)).mono ?_
        rintro e w' ⟨rfl, hA, hB⟩
        exact hK _ _ ⟨_, f2g, b3, d3, gv, _, _, _, _, _, _, _, rfl, hW.trans (hB.mono hW.size), f0, (fun _ => ⟨rfl, fun _ => hA⟩), f2, f3, (fun h => ⟨(f4 h).1, fun h5 => ((f4 h).2 h5).on hB⟩), (fun h => absurd ((f5 h).1) (by rw [hl]; decide)), (fun h => ⟨(f6 h).1, (f6 h).2.1, fun h7 => ((f6 h).2.2 h7).on hB⟩), (fun h => absurd (f5 (f7 h).1).1 (by rw [hl]; decide))⟩
      · refine wpOp_step rfl (fun K hK => ?_)
        clear hi
        go_simp
        exact hK _ _ ⟨f1g, f2g, b3, d3, gv, _, _, _, _, _, _, _, rfl, hW, f0, f1, (fun _ => rfl), f3, f4, f5, f6, f7⟩
      · refine wpOp_step rfl (fun K hK => ?_)
        clear hi
        obtain ⟨q0, q1, q2, q3, ql⟩ := HA15.out.on hW
        go_simp
        exact hK _ _ ⟨f1g, f2g, b3, d3, gv, _, _, _, _, _, _, _, rfl, hW, f0, f1, f2, (fun _ => rfl), f4, f5, f6, f7⟩
      · have hx := f3 (hd 3 (by kernel_rfl))
        subst hx
        refine wpOp_step rfl (fun K hK => ?_)
        clear hi
        go_simp
        refine (toValO x n ai ci zs t W (HC15.out.on hW)).mono ?_
        rintro e w' ⟨ga, rfl, hga, hrow, hB⟩
        exact hK _ _ ⟨f1g, ga, b3, d3, gv, _, _, _, _, _, _, _, rfl, hW.trans (hB.mono hW.size), f0, (fun h => ⟨(f1 h).1, fun h5 => ((f1 h).2 h5).on hB⟩), f2, f3, (fun _ => ⟨rfl, fun _ => codes_of_row (T := 2) hrow hzl2⟩), (fun h => absurd ((f5 h).2.1) (by rw [hl]; decide)), (fun h => ⟨(f6 h).1, (f6 h).2.1, fun h7 => ((f6 h).2.2 h7).on hB⟩), (fun h => absurd (f5 (f7 h).1).2.1 (by rw [hl]; decide))⟩
      · obtain ⟨hx1, hA1⟩ := f1 (hd 1 (by kernel_rfl))
        obtain ⟨hx4, hA4⟩ := f4 (hd 4 (by kernel_rfl))
        have hx2 := f2 (hd 2 (by kernel_rfl))
        have hA1 := hA1 hl
        have hA4 := hA4 hl
        subst hx1
        subst hx4
        subst hx2
        refine wpOp_step rfl (fun K hK => ?_)
        clear hi
        go_simp
        refine (impl_ap2 (some ⟨f1g, 0, none⟩) ls.length ls s x n (some ⟨f2g, 0, none⟩) zs.length zs t W hRe.out hce.out hA1 hA4 HS.out HT.out (HE15.out.on hW)).mono ?_
        rintro e w' ⟨⟨a5, c5, rfl, hA5, hH5⟩, hB⟩
        have h70 : L 7 = false := by cases h : L 7 with | false => rfl | true => exact absurd (f7 h).1 (by rw [hl]; decide)
        exact hK _ _ ⟨f1g, f2g, a5, c5, gv, _, _, _, _, _, _, _, rfl, hW.trans (hB.mono hW.size), f0, (fun h => ⟨rfl, fun h5 => by simp [AnyO.more] at h5⟩), f2, f3, (fun h => ⟨rfl, fun h5 => by simp [AnyO.more] at h5⟩), (fun _ => ⟨hd 1 (by kernel_rfl), hd 4 (by kernel_rfl), rfl, fun _ => hA5, fun h6 _ => hH5 gv (blk_lt ((f6 h6).2.2 h70)) ⟨_, (f6 h6).2.2 h70⟩⟩), (fun h => ⟨(f6 h).1, (f6 h).2.1, fun h7 => ((f6 h).2.2 h7).on hB⟩), (fun h => absurd (f7 h).1 (by rw [hl]; decide))⟩
      · refine wpOp_step rfl (fun K hK => ?_)
        clear hi
        go_simp
        have hB := out_box W (.slice none 0 0) (.int .i64 0)
        exact hK _ _ ⟨f1g, f2g, b3, d3, _, _, _, _, _, _, _, _, rfl, hW.trans (hB.mono hW.size), f0, (fun h => ⟨(f1 h).1, fun h5 => ((f1 h).2 h5).on hB⟩), f2, f3, (fun h => ⟨(f4 h).1, fun h5 => ((f4 h).2 h5).on hB⟩), (fun h => ⟨(f5 h).1, (f5 h).2.1, (f5 h).2.2.1, fun _ => ((f5 h).2.2.2.1 (.inl hl)).on hB, fun _ _ v0 v1 => ((f5 h).2.2.2.1 (.inl hl)).on ((hB.setCell (Nat.le_refl _) _).setCell (Nat.le_refl _) _)⟩), (fun _ => ⟨rfl, hW.size, fun _ => AO.laid W _ _⟩), (fun h => absurd (f7 h).2.1 (by rw [hl]; decide))⟩
      · obtain ⟨hxa, hgw, hAO⟩ := f6 (hd 6 (by kernel_rfl))
        obtain ⟨h51, h54, hx5, _, h56⟩ := f5 (hd 5 (by kernel_rfl))
        have hAO := hAO hl
        have hHo := h56 (hd 6 (by kernel_rfl)) hl
        have H51 := hid h51
        have H54 := hid h54
        clear h51 h54
        subst hxa
        subst hx5
        refine wpOp_step rfl (fun K hK => ?_)
        clear hi
        obtain ⟨q0, q1, qf, ql⟩ := hAO.cells
        go_simp
        exact hK _ _ ⟨f1g, f2g, b3, d3, gv, _, _, _, _, _, _, _, rfl, (hW.setCell hgw _).setCell hgw _, f0, (fun h => ⟨(f1 h).1, fun h5 => absurd (show L 5 = true from hd 5 (by kernel_rfl)) (by rw [show L 5 = false from h5]; decide)⟩), f2, f3, (fun h => ⟨(f4 h).1, fun h5 => absurd (show L 5 = true from hd 5 (by kernel_rfl)) (by rw [show L 5 = false from h5]; decide)⟩), (fun _ => ⟨H51.out, H54.out, rfl, fun _ => hHo _ _, fun _ h7 => by simp [AnyO.more] at h7⟩), (fun h => ⟨rfl, hgw, fun h7 => by simp [AnyO.more] at h7⟩), (fun _ => ⟨hd 5 (by kernel_rfl), hd 6 (by kernel_rfl), ao_put hAO _ _⟩)⟩
    case fin =>
      rintro L act W ⟨f1g, f2g, b3, d3, gv, x82, x83, x84, x85, x86, x87, x15, rfl, hW, f0, f1, f2, f3, f4, f5, f6, f7⟩ hall
      obtain ⟨hxa, hgw, _⟩ := f6 (hall 6 (by omega))
      obtain ⟨_, _, hx5, hA, _⟩ := f5 (hall 5 (by omega))
      have hA := hA (.inr (hall 7 (by omega)))
      obtain ⟨_, _, hO⟩ := f7 (hall 7 (by omega))
      subst hxa
      clear f0 f1 f2 f3 f4 f5 f6 f7 hall hx5
      obtain ⟨w16, hw16⟩ : ∃ V, V = W := ⟨_, rfl⟩
      subst hw16
      have HK16 : Hid (Below W3.heap.size W3 w16) := HK15.out.trans (hW.mono HK15.out.size)
      have HX16 := hid (HX15.out.on hW)
      have HMo16 := hid (HMo15.out.on hW)
      have HZ16 := hid hO
      have HR16 := hid hA
      clear hW hO hA hgw HK15 HX15 HMo15 HP15 HA15 HC15 HE15 HB15
      obtain ⟨q0, q1, qf, ql⟩ := HZ16.out.cells
      obtain ⟨p0, p1, pf, pl⟩ := (HO3.out.on HK16.out).cells
      go_wp2_with fail
      refine (eq_out b3 a3 d3 c3 R c w16 HR16.out (HR3.out.on HK16.out)).mono ?_
      rintro e w17 ⟨rfl, hB17⟩
      clear q0 q1 qf ql p0 p1 pf pl
      have HK17 : Hid (Below W3.heap.size W3 w17) := HK16.out.trans (hB17.mono HK16.out.size)
      have HX17 := hid (HX16.out.on hB17)
      have HMo17 := hid (HMo16.out.on hB17)
      clear hB17 HK16 HX16 HMo16 HZ16 HR16
      obtain ⟨q0, q1, qf, ql⟩ := HX17.out.cells
      go_wp2_with fail
      refine (held_out lo gx R.length R.length a6 c (fun i => (cd (R.getD i an0)).length) w17 HMo17.out hRl2 HTR.out).mono ?_
      rintro e w18 ⟨rfl, hB18⟩
      rw [HPP.out]
      have HB18 : Hid (Below w.heap.size w w18) := HB3.out.trans ((HK17.out.trans (hB18.mono HK17.out.size)).mono HB3.out.size)
      clear hB18 HK17 HX17 HMo17 q0 q1 qf ql
      go_wp2_with fail
      go_ret
      exact ⟨rfl, HB18.out⟩
end Go.Proofs.YtjnnkilmlngjgaaGreatDoor.AnsL
