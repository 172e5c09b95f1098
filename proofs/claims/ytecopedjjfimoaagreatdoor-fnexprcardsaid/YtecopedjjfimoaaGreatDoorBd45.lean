/- Texts of ours, laid together: ErpRead, ExrLaw. -/
import Derived.Test.YtecopedjjfimoaaGreatDoorBd44
import Derived.Test.YtecopedjjfimoaaGreatDoorBd39
import Derived.Test.YtecopedjjfimoaaGreatDoorBd33
import Derived.Test.YtecopedjjfimoaaGreatDoorBd8
import Derived.Test.YtecopedjjfimoaaGreatDoorBd27
/- ExprRead of the program. -/
namespace Go.Proofs.YtecopedjjfimoaaGreatDoor.ErpI
open Go.RowKit
open StrW (Nm)
open PrtI PrtW PrtM TexM
open RdI (EnvR)
open ErdS (Reads oe zero2)

/-- what the program's reading asks of the world -/
def EnvE (w : World) : Prop := EnvR w ∧ EnvS w
theorem EnvE.on {w w' : World} (h : EnvE w) (hB : Below w.heap.size w w') : EnvE w' := ⟨h.1.on hB, h.2.on hB⟩
theorem EnvE.dec {w : World} (h : EnvE w) : DecI.Env w := h.1.1.1
theorem reads_yes {u : ByteArray} (hs : u.size ≤ 8000) (h1 : rightB (likelyM u) = true) (h2 : textB (likelyM u) = u) : Reads u (likelyM u) 0 := .inr (.inl ⟨hs, h1, h2.symm, rfl⟩)
theorem reads_no {u : ByteArray} (hs : u.size ≤ 8000) (h : rightB (likelyM u) = false ∨ textB (likelyM u) ≠ u) : Reads u [] 3 := by
  refine .inr (.inr ⟨hs, rfl, rfl, fun qs hq e => ?_⟩)
  have e2 : likelyM u = qs := by rw [e]; exact likely_back hq
  rcases h with h | h
  · rw [e2, hq] at h; cases h
  · rw [e2] at h; exact h e.symm
def errC (c : Int) : Value := if c = 0 then .nilIface else .iface 126 (.agg #[.int .i64 c])
theorem code_any (c : Int) (w : World) (hE : EnvR w) : Calls Tryz.prog 54 #[errC c] w fun e w' => e = .returned (.int .i64 c) ∧ Below w.heap.size w w' := by
  unfold errC
  by_cases h : c = 0
  · subst h; rw [if_pos rfl]; exact AsW.code_nil w
  · rw [if_neg h]; exact AsW.code_hit c w hE.2.2.2
/-- parts that are owned, as a value -/
def Own (w : World) (base : Nat) (v : Value) (ps : List Pt) : Prop := w.ownsRow base 99 3 v ps.length (cellsP ps) ∧ (∀ p ∈ ps, Fit p) ∧ ps.length ≤ 20001
theorem Own.nil (w : World) (base : Nat) : Own w base (.slice none 0 0) [] := ⟨World.ownsRow_nil _ _ _ _, (fun _ h => absurd h List.not_mem_nil), Nat.zero_le _⟩
theorem Own.on {w w' : World} {base : Nat} {v : Value} {ps : List Pt} (h : Own w base v ps) (hB : Below w.heap.size w w') : Own w' base v ps := ⟨own_below h.1 hB, h.2⟩
theorem fit_at {ps : List Pt} (h : ∀ p ∈ ps, Fit p) : ∀ i, i < ps.length → Fit (ps.getD i pt0) := fun i hi => h _ (by
  rw [List.getD_eq_getElem?_getD, List.getElem?_eq_getElem hi]; exact List.getElem_mem _)
theorem Own.parts {w : World} {base : Nat} {v : Value} {ps : List Pt} (h : Own w base v ps) : ∃ a cap, v = .slice a ps.length cap ∧ Parts w a ps ∧ ps.length ≤ cap ∧ (a = none ∧ ps.length = 0 ∨ ∃ g, a = some ⟨g, 0, none⟩ ∧ base ≤ g) :=
  parts_own h.1 (by have := h.2.2; omega) (fit_at h.2.1)

set_option maxHeartbeats 1000000 in
theorem read_big (s : ByteArray) (w : World) (hs : 8000 < s.size) (hm : s.size ≤ maxLen) :
    Calls Tryz.prog 71 #[.string s] w fun e w' => e = .returned (.tuple #[.slice none 0 0, errC 2]) ∧ w' = w := by
  unfold maxLen at hm
  go_enter Tryz.func71, Tryz.ntmps71
  go_wp2
  go_ret2
  exact ⟨rfl, rfl⟩
set_option maxRecDepth 10000 in
set_option maxHeartbeats 2000000 in
theorem read_in (s : ByteArray) (w : World) (hm : s.size ≤ maxLen) (hE : EnvE w) :
    Calls Tryz.prog 71 #[.string s] w fun e w' => ∃ ps v c, e = .returned (.tuple #[v, errC c]) ∧ Below w.heap.size w w' ∧ Own w' w.heap.size v ps ∧ Reads s ps c := by
  by_cases hs : s.size ≤ 8000
  case neg =>
    refine (read_big s w (by omega) hm).mono ?_
    rintro e w' ⟨h1, h2⟩
    subst h2
    exact ⟨[], _, 2, h1, Below.refl _ _, Own.nil _ _, .inl ⟨by omega, rfl, rfl⟩⟩
  have HE := hid hE
  have HS := hid hs
  obtain ⟨ps, hps⟩ : ∃ ps, Hid (likelyM s = ps) := ⟨_, rfl⟩
  clear hE hm
  go_enter Tryz.func71, Tryz.ntmps71
  go_wp2_with fail
  refine (likely_of s w hs HE.out.1 HE.out.2).mono ?_
  rw [hps.out]
  rintro e w1 ⟨⟨v, rfl, hown⟩, hf, hl, hB1⟩
  have HO : Hid (Own w1 w.heap.size v ps) := ⟨hown, hf, hl⟩
  have HB := hid hB1
  obtain ⟨a, cap, rfl, hP, hcap, -⟩ := HO.out.parts
  have HP := hid hP
  clear hown hf hB1 hP
  obtain ⟨r, hr⟩ : ∃ r, Hid (rightB ps = r) := ⟨_, rfl⟩
  go_wp2_with fail
  refine (impl_right a cap ps w1 HP.out hcap (HE.out.on HB.out).2).mono ?_
  rw [hr.out]
  rintro e w2 ⟨rfl, hB2⟩
  have HO2 := hid (HO.out.on hB2)
  have HP2 := hid (HP.out.on hB2)
  have HB2 : Hid (Below w.heap.size w w2) := HB.out.trans (hB2.mono HB.out.size)
  clear hB2 HO HP HB
  cases r
  · have HRD : Hid (Reads s [] 3) := reads_no HS.out (.inl (by rw [hps.out]; exact hr.out))
    go_wp2_with fail
    go_ret2
    exact ⟨[], _, 3, rfl, HB2.out, Own.nil _ _, HRD.out⟩
  · obtain ⟨x, hx⟩ : ∃ x, Hid (textB ps = x) := ⟨_, rfl⟩
    go_wp2_with fail
    refine (TexI.impl_text a cap ps w2 HP2.out hcap ⟨(HE.out.on HB2.out).2, (HE.out.on HB2.out).dec⟩).mono ?_
    rw [hx.out]
    rintro e w3 ⟨rfl, hB3⟩
    have HO3 := hid (HO2.out.on hB3)
    have HB3 : Hid (Below w.heap.size w w3) := HB2.out.trans (hB3.mono HB2.out.size)
    clear hB3 HO2 HP2 HB2
    by_cases he : x.toList = s.toList
    · have q : (x.toList == s.toList) = true := by simp [he]
      have HRD : Hid (Reads s ps 0) := by
        have := reads_yes HS.out (by rw [hps.out]; exact hr.out) (by rw [hps.out, hx.out]; exact BytM.toList_inj he)
        rw [hps.out] at this; exact this
      clear he
      go_wp2_with fail
      go_ret2
      exact ⟨ps, _, 0, rfl, HB3.out, HO3.out, HRD.out⟩
    · have q : (x.toList == s.toList) = false := by simp [he]
      have HRD : Hid (Reads s [] 3) := reads_no HS.out (.inr (by rw [hps.out, hx.out]; intro e; exact he (by rw [e])))
      clear he
      go_wp2_with fail
      go_ret2
      exact ⟨[], _, 3, rfl, HB3.out, Own.nil _ _, HRD.out⟩
set_option maxRecDepth 10000 in
set_option maxHeartbeats 2000000 in
theorem impl_read (s : ByteArray) (w : World) (hm : s.size ≤ maxLen) (hE : EnvE w) :
    Calls Tryz.prog 29 #[.string s] w fun e w' => ∃ ps a cap c, e = .returned (oe a ps.length cap c) ∧ Below w.heap.size w w' ∧ Own w' w.heap.size (.slice a ps.length cap) ps ∧ Reads s ps c := by
  have HE := hid hE
  clear hE
  go_enter Tryz.func29, Tryz.ntmps29
  go_wp2_with fail
  refine (read_in s _ hm (HE.out.on (StrW.below_one w _))).mono ?_
  rintro e w1 ⟨ps, v, c, rfl, hB1, hO1, hrd⟩
  rw [World.size_alloc] at hO1
  have HZ1 : Hid (w1.heap[w.heap.size]? = some (.cells #[.slice none 0 0, .int .i64 0] 44 (0, 0))) := by
    show _ = _; rw [hB1.block _ (by simp)]; exact heap_alloc_new w _
  have hlt1 : w.heap.size < w1.heap.size := (Array.getElem?_eq_some_iff.1 HZ1.out).1
  have HB1 : Hid (Below w.heap.size w w1) := (StrW.below_one w _).trans (hB1.mono (by simp))
  have HO1 := hid hO1
  have HRD := hid hrd
  obtain ⟨a, cap, rfl, -, -, -⟩ := hO1.parts
  clear hB1 hO1 hrd
  obtain ⟨ev, hev⟩ : ∃ ev, Hid (errC c = ev) := ⟨_, rfl⟩
  rw [hev.out]
  go_wp2_with fail
  have hcode := code_any c w1 (HE.out.on HB1.out).1
  rw [hev.out] at hcode
  refine hcode.mono ?_
  rintro e w2 ⟨rfl, hB2⟩
  have HB2 : Hid (Below w.heap.size w w2) := HB1.out.trans (hB2.mono HB1.out.size)
  have HO2 := hid (HO1.out.on hB2)
  obtain ⟨z0, z1, zf⟩ := zero2 ((hB2.block _ hlt1).trans HZ1.out)
  have hlt2 : w.heap.size < w2.heap.size := Nat.lt_of_lt_of_le hlt1 hB2.size
  have zf0 := zf 0
  have zf1 := zf 1
  clear zf hB2 HB1 HO1 HZ1
  go_wp2_with fail
  refine bodyPost_ret (v := oe a ps.length cap c) (by simp [results, Tryz.results29, go_sem, z0, z1]) rfl ⟨ps, a, cap, c, rfl, ?_, ?_, HRD.out⟩
  · repeat (refine Below.setCell ?_ (show w.heap.size ≤ _ by simp only; omega) _)
    exact HB2.out
  · refine ⟨own_cell (own_cell HO2.out.1 (Nat.lt_succ_self _) _ _) (Nat.lt_succ_self _) _ _ |> fun h => own_base h (Nat.le_succ _), HO2.out.2⟩
end Go.Proofs.YtecopedjjfimoaaGreatDoor.ErpI
/- The walk of FnExactExprRead. -/
namespace Go.Proofs.YtecopedjjfimoaaGreatDoor.ErpL
open Go.RowKit
open PrtI PrtW PrtM TexM
open RdI (EnvR)
open ErdS (Reads oe reads_same reads_len)
open ErpI
open FldK (Mkd mark_row held_row)

set_option maxHeartbeats 1000000 in
theorem eq_out (a a' : Option Addr) (cap cap' : Nat) (ps : List Pt) (c : Int) (w : World) (h : Parts w a ps) (h' : Parts w a' ps) :
    Calls Tryz.prog 40 #[oe a ps.length cap c, oe a' ps.length cap' c] w fun e w' => e = .returned (.bool true) ∧ Below w.heap.size w w' := by
  have hB0 : Below w.heap.size w ((w.alloc (.cells #[.slice a ps.length cap, .int .i64 c] 44)).alloc (.cells #[.slice a' ps.length cap', .int .i64 c] 44)) := (StrW.below_one w _).trans ((StrW.below_one _ _).mono (by simp))
  have HP := hid (h.on hB0)
  have HP' := hid (h'.on hB0)
  have HB0 := hid hB0
  clear h h' hB0
  go_enter Tryz.func40, Tryz.ntmps40
  go_wp2_with fail
  have k0 : ((w.alloc (.cells #[.slice a ps.length cap, .int .i64 c] 44)).alloc (.cells #[.slice a' ps.length cap', .int .i64 c] 44)).cell? ⟨w.heap.size, 1, none⟩ = some (.int .i64 c) := by go_simp
  have k1 : ((w.alloc (.cells #[.slice a ps.length cap, .int .i64 c] 44)).alloc (.cells #[.slice a' ps.length cap', .int .i64 c] 44)).cell? ⟨w.heap.size + 1, 1, none⟩ = some (.int .i64 c) := by go_simp
  have hz : w.heap.size + 1 < ((w.alloc (.cells #[.slice a ps.length cap, .int .i64 c] 44)).alloc (.cells #[.slice a' ps.length cap', .int .i64 c] 44)).heap.size := by simp
  refine (eqParts a a' cap cap' ps _ HP.out HP'.out).mono ?_
  rintro e w1 ⟨rfl, hB1⟩
  have HB1 : Hid (Below w.heap.size w w1) := HB0.out.trans (hB1.mono HB0.out.size)
  rw [← hB1.cell (p := ⟨w.heap.size, 1, none⟩) (Nat.lt_of_succ_lt hz)] at k0
  rw [← hB1.cell (p := ⟨w.heap.size + 1, 1, none⟩) hz] at k1
  clear hB1 HB0 HP HP' hz
  go_wp2_with fail
  go_ret
  exact ⟨rfl, HB1.out⟩
set_option maxHeartbeats 1000000 in
theorem mark_out (a : Option Addr) (n cap base : Nat) (xs : List Value) (c : Int) (w : World) (hown : w.ownsRow base 99 3 (.slice a n cap) n xs) (hl : n ≤ 1048576) :
    Calls Tryz.prog 41 #[oe a n cap c, .int .i64 1] w fun e w' => e = .returned (.int .i64 (1 + 3 * (n : Int))) ∧ w.grownBy w' (Value.slice a n cap).ownBlock ∧ Mkd w' a n := by
  have HO := hid (hown.alloc (.cells #[.slice a n cap, .int .i64 c] 44))
  clear hown
  go_enter Tryz.func41, Tryz.ntmps41
  go_wp2_with fail
  refine (mark_row base (.slice a n cap) n xs _ HO.out hl).mono ?_
  rintro e w1 ⟨rfl, hg1, hm1⟩
  have HG : Hid (w.grownBy w1 (Value.slice a n cap).ownBlock) := ⟨hg1.os, hg1.tape, hg1.output, by have := hg1.size; simp at this; omega, fun k hk hne => (hg1.block k (by simp; omega) hne).trans (Below.heap_alloc _ _ _ hk)⟩
  have HM := hid (hm1 _ _ _ rfl)
  clear hg1 hm1 HO
  go_wp2_with fail
  go_ret
  exact ⟨rfl, HG.out, HM.out⟩
set_option maxHeartbeats 1000000 in
theorem held_out (a : Option Addr) (n cap : Nat) (c : Int) (w : World) (hM : Mkd w a n) :
    Calls Tryz.prog 42 #[oe a n cap c, .int .i64 1] w fun e w' => e = .returned (.int .i64 (1 + 3 * (n : Int))) ∧ Below w.heap.size w w' := by
  have HM := hid (hM.on (StrW.below_one w (.cells #[.slice a n cap, .int .i64 c] 44)))
  have hl := hM.1
  clear hM
  go_enter Tryz.func42, Tryz.ntmps42
  go_wp2_with fail
  refine (held_row a n cap _ HM.out).mono ?_
  rintro e w1 ⟨rfl, hB1⟩
  have HB1 : Hid (Below w.heap.size w w1) := (StrW.below_one w _).trans (hB1.mono (by simp))
  clear hB1 HM
  have hm0 : ¬ (1 + 3 * (n : Int)) < 0 := by omega
  go_wp2_with fail
  go_ret
  exact ⟨rfl, HB1.out⟩

/-- an answer with its code, as it lies in a block -/
def Out2 (w : World) (b : Nat) (a : Option Addr) (len cap : Nat) (c : Int) : Prop := w.heap[b]? = some (.cells #[.slice a len cap, .int .i64 c] 44 (0, 0))
section
variable {w w' : World} {b : Nat} {a : Option Addr} {len cap : Nat} {c : Int}
theorem Out2.lt (h : Out2 w b a len cap c) : b < w.heap.size := (Array.getElem?_eq_some_iff.1 h).1
theorem Out2.on (h : Out2 w b a len cap c) (hB : Below w.heap.size w w') : Out2 w' b a len cap c := (hB.block b h.lt).trans h
theorem Out2.laid (w : World) (a : Option Addr) (len cap : Nat) (c : Int) : Out2 (w.alloc (.cells #[.slice a len cap, .int .i64 c] 44)) w.heap.size a len cap c := heap_alloc_new w _
theorem Out2.cells (h : Out2 w b a len cap c) : w.cell? ⟨b, 0, none⟩ = some (.slice a len cap) ∧ w.cell? ⟨b, 1, none⟩ = some (.int .i64 c) := by
  unfold Out2 at h
  exact ⟨by simp [World.cell?, h], by simp [World.cell?, h]⟩
theorem Out2.grown {row : Option Nat} (h : Out2 w b a len cap c) (hg : w.grownBy w' row) (hr : some b ≠ row) : Out2 w' b a len cap c := (hg.block b h.lt hr).trans h
end
theorem parts_grown {w w' : World} {a : Option Addr} {ps : List Pt} {row : Option Nat} (h : Parts w a ps) (hg : w.grownBy w' row) (hne : ∀ b o, a = some ⟨b, o, none⟩ → 0 < ps.length → some b ≠ row) : Parts w' a ps := by
  refine ⟨h.1, h.2.1, fun hp => ?_⟩
  obtain ⟨b, o, ha, hb, hc⟩ := h.2.2 hp
  have e : ∀ i, w'.cell? ⟨b, i, none⟩ = w.cell? ⟨b, i, none⟩ := fun i => World.cell?_of_block (w := w) (a := ⟨b, i, none⟩) (hg.block b hb (hne b o ha hp))
  exact ⟨b, o, ha, Nat.lt_of_lt_of_le hb hg.size, fun i hi => by rw [e, e, e]; exact hc i hi⟩

set_option maxRecDepth 10000 in
set_option maxHeartbeats 4000000 in
theorem walk_read (s : ByteArray) (w : World) (hm : s.size ≤ maxLen) (hE : EnvE w) :
    Calls Tryz.prog 5 #[.string s] w fun e w' => e = .returned (.bool true) ∧ Below w.heap.size w w' := by
  have HE := hid hE
  have HM := hid hm
  unfold maxLen at hm
  clear hE
  by_cases hbig : 1048576 < s.size
  · go_enter Tryz.func5, Tryz.ntmps5
    go_wp2
    go_ret
    exact ⟨rfl, Below.refl _ _⟩
  go_enter Tryz.func5, Tryz.ntmps5
  go_wp2_with fail
  refine (ErdS.spec_read s _ HM.out).mono ?_
  rintro e w1 ⟨ps, a1, cap1, c, rfl, hB1, hP1, hrd1⟩
  have hpl := reads_len hrd1
  have HRD := hid hrd1
  have HA1 : Hid (∀ b o, a1 = some ⟨b, o, none⟩ → 0 < ps.length → b < w1.heap.size) := fun b o ha hp => by
    obtain ⟨b', o', ha', hb', _⟩ := hP1.2.2 hp
    rw [ha] at ha'; cases ha'; exact hb'
  have hw1 := hB1.size
  generalize hW1 : w1.alloc (.cells #[.slice a1 ps.length cap1, .int .i64 c] 44) = W1
  have HB1 : Hid (Below w.heap.size w W1) := by rw [← hW1]; exact hB1.alloc hB1.size _
  have HP1 : Hid (Parts W1 a1 ps) := by rw [← hW1]; exact hP1.alloc _
  have HO1 : Hid (Out2 W1 w1.heap.size a1 ps.length cap1 c) := by rw [← hW1]; exact Out2.laid _ _ _ _ _
  have hz1 : W1.heap.size = w1.heap.size + 1 := by rw [← hW1]; simp
  clear hB1 hP1 hrd1
  go_wp2_with fail
  clear hW1
  refine (impl_read s W1 HM.out (HE.out.on HB1.out)).mono ?_
  rintro e w2 ⟨ps', a2, cap2, c', rfl, hB2, hO2, hrd2⟩
  obtain ⟨rfl, rfl⟩ := reads_same HRD.out hrd2
  have hw2 := hB2.size
  generalize hW2 : w2.alloc (.cells #[.slice a2 ps.length cap2, .int .i64 c] 44) = W2
  have hB2' : Below W1.heap.size W1 W2 := by rw [← hW2]; exact hB2.alloc hB2.size _
  have HB2 : Hid (Below w.heap.size w W2) := HB1.out.trans (hB2'.mono HB1.out.size)
  have HP2 := hid (HP1.out.on hB2')
  have HO2 := hid (HO1.out.on hB2')
  have HW2 : Hid (Own W2 W1.heap.size (.slice a2 ps.length cap2) ps) := by rw [← hW2]; exact hO2.on (StrW.below_one _ _)
  have HG2 : Hid (Out2 W2 w2.heap.size a2 ps.length cap2 c) := by rw [← hW2]; exact Out2.laid _ _ _ _ _
  have hz2 : W2.heap.size = w2.heap.size + 1 := by rw [← hW2]; simp
  have HN2 : Hid (∀ g, (Value.slice a2 ps.length cap2).ownBlock = some g → W1.heap.size ≤ g ∧ g < w2.heap.size) := fun g hg => hO2.1.lt g hg
  clear hB2 hO2 hrd2 hB2' HB1 HP1 HO1
  obtain ⟨aq, capq, eq, hPq, -, -⟩ := HW2.out.parts
  cases eq
  have HQ2 := hid hPq
  clear hPq
  obtain ⟨g0, g1⟩ := HG2.out.cells
  obtain ⟨o0, o1⟩ := HO2.out.cells
  have hl1 := HO2.out.lt
  have hl2 := HG2.out.lt
  go_wp2_with fail
  clear hW2
  refine (eq_out a2 a1 cap2 cap1 ps c W2 HQ2.out HP2.out).mono ?_
  rintro e w3 ⟨rfl, hB3⟩
  have HB3 : Hid (Below w.heap.size w w3) := HB2.out.trans (hB3.mono HB2.out.size)
  have HP3 := hid (HP2.out.on hB3)
  have HO3 := hid (HO2.out.on hB3)
  have HG3 := hid (HG2.out.on hB3)
  have HW3 := hid (HW2.out.on hB3)
  clear hB3 HB2 HP2 HO2 HG2 HW2 HQ2 o0 o1 g0 g1 hl1 hl2
  obtain ⟨g0, g1⟩ := HG3.out.cells
  have hl3 := HG3.out.lt
  go_wp2_with fail
  refine (mark_out a2 ps.length cap2 W1.heap.size (cellsP ps) c w3 HW3.out.1 (by omega)).mono ?_
  rintro e w4 ⟨rfl, hg4, hm4⟩
  have HB4 : Hid (Below w.heap.size w w4) := HB3.out.grown hg4 HB3.out.size (fun g hg => by have := HN2.out g hg; omega)
  have HP4 : Hid (Parts w4 a1 ps) := parts_grown HP3.out hg4 (fun b o hb hp e => by have := HA1.out b o hb hp; have := HN2.out b e.symm; omega)
  have HO4 : Hid (Out2 w4 w1.heap.size a1 ps.length cap1 c) := HO3.out.grown hg4 (fun e => by have := HN2.out _ e.symm; omega)
  have HG4 : Hid (Out2 w4 w2.heap.size a2 ps.length cap2 c) := HG3.out.grown hg4 (fun e => by have := HN2.out _ e.symm; omega)
  have HM4 := hid hm4
  clear hg4 hm4 HB3 HP3 HO3 HG3 HW3 g0 g1 hl3
  obtain ⟨g0, g1⟩ := HG4.out.cells
  have hl4 := HG4.out.lt
  go_wp2_with fail
  refine (held_out a2 ps.length cap2 c w4 HM4.out).mono ?_
  rintro e w5 ⟨rfl, hB5⟩
  have HB5 : Hid (Below w.heap.size w w5) := HB4.out.trans (hB5.mono HB4.out.size)
  have HP5 := hid (HP4.out.on hB5)
  have HO5 := hid (HO4.out.on hB5)
  have HG5 := hid (HG4.out.on hB5)
  have HM5 := hid (HM4.out.on hB5)
  have hm0 : ¬ (1 + 3 * (ps.length : Int)) < 0 := by omega
  clear hB5 HB4 HP4 HO4 HG4 HM4 g0 g1 hl4
  go_wp2_with fail
  refine (impl_read s w5 HM.out (HE.out.on HB5.out)).mono ?_
  rintro e w6 ⟨ps', a3, cap3, c', rfl, hB6, hO6, hrd6⟩
  obtain ⟨rfl, rfl⟩ := reads_same HRD.out hrd6
  obtain ⟨aq, capq, eq, hPq, -, -⟩ := hO6.parts
  cases eq
  generalize hW6 : w6.alloc (.cells #[.slice a3 ps.length cap3, .int .i64 c] 44) = W6
  have hB6' : Below w5.heap.size w5 W6 := by rw [← hW6]; exact hB6.alloc hB6.size _
  have HB6 : Hid (Below w.heap.size w W6) := HB5.out.trans (hB6'.mono HB5.out.size)
  have HP6 := hid (HP5.out.on hB6')
  have HO6 := hid (HO5.out.on hB6')
  have HG6 := hid (HG5.out.on hB6')
  have HM6 := hid (HM5.out.on hB6')
  have HQ6 : Hid (Parts W6 a3 ps) := by rw [← hW6]; exact hPq.alloc _
  have HH6 : Hid (Out2 W6 w6.heap.size a3 ps.length cap3 c) := by rw [← hW6]; exact Out2.laid _ _ _ _ _
  obtain ⟨h0, h1⟩ := HH6.out.cells
  obtain ⟨o0, o1⟩ := HO6.out.cells
  have hl6 := HO6.out.lt
  have hl7 := HH6.out.lt
  clear hB6 hO6 hrd6 hPq hB6' HB5 HP5 HO5 HG5 HM5
  go_wp2_with fail
  clear hW6
  refine (eq_out a3 a1 cap3 cap1 ps c W6 HQ6.out HP6.out).mono ?_
  rintro e w7 ⟨rfl, hB7⟩
  have HB7 : Hid (Below w.heap.size w w7) := HB6.out.trans (hB7.mono HB6.out.size)
  have HG7 := hid (HG6.out.on hB7)
  have HM7 := hid (HM6.out.on hB7)
  clear hB7 HB6 HP6 HO6 HG6 HM6 HQ6 HH6 o0 o1 h0 h1 hl6 hl7
  obtain ⟨g0, g1⟩ := HG7.out.cells
  have hl7 := HG7.out.lt
  go_wp2_with fail
  refine (held_out a2 ps.length cap2 c w7 HM7.out).mono ?_
  rintro e w8 ⟨rfl, hB8⟩
  have HB8 : Hid (Below w.heap.size w w8) := HB7.out.trans (hB8.mono HB7.out.size)
  clear hB8 HB7 HG7 HM7 g0 g1 hl7
  go_wp2_with fail
  go_ret
  exact ⟨rfl, HB8.out⟩
end Go.Proofs.YtecopedjjfimoaaGreatDoor.ErpL
