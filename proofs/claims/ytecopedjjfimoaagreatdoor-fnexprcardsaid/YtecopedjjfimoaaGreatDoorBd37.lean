/- Texts of ours, laid together: ErdPut, ErdPut0. -/
import Derived.Test.YtecopedjjfimoaaGreatDoorBd36
import Derived.Test.YtecopedjjfimoaaGreatDoorBd19
/- The model's reader: a part put to the list. -/
namespace Go.Proofs.YtecopedjjfimoaaGreatDoor.ErdS
open Go.RowKit
open PrtW
open FldK (Only only_trans)
open ErdM

/-- a part put to a list at a place -/
def putL (xs : List Pt) (k : Nat) (p : Pt) : List Pt := xs.take k ++ [p] ++ xs.drop k
theorem putL_len (xs : List Pt) (k : Nat) (p : Pt) (h : k ≤ xs.length) : (putL xs k p).length = xs.length + 1 := by unfold putL; simp; omega
theorem putL_fit {xs : List Pt} {k : Nat} {p : Pt} (hx : ∀ i, i < xs.length → Fit (xs.getD i pt0)) (hp : Fit p) : ∀ i, i < (putL xs k p).length → Fit ((putL xs k p).getD i pt0) := by
  have hm : ∀ q ∈ xs, Fit q := fun q hq => by
    obtain ⟨i, hi, e⟩ := List.mem_iff_getElem.1 hq
    have := hx i hi
    rw [List.getD_eq_getElem?_getD, List.getElem?_eq_getElem hi] at this
    rw [← e]; exact this
  intro i hi
  rw [List.getD_eq_getElem?_getD, List.getElem?_eq_getElem hi]
  have hmem : (putL xs k p)[i] ∈ putL xs k p := List.getElem_mem hi
  show Fit (putL xs k p)[i]
  generalize (putL xs k p)[i] = q at hmem
  unfold putL at hmem
  rcases List.mem_append.1 hmem with h | h
  · rcases List.mem_append.1 h with h | h
    · exact hm q (List.mem_of_mem_take h)
    · obtain rfl := List.mem_singleton.1 h; exact hp
  · exact hm q (List.mem_of_mem_drop h)
theorem rd_other {w w' : World} {R : Nat} {t : ByteArray} {s : St} {a : Option Addr} {n cap : Nat} (h : Rd w R t s a n cap) (hB : Below w.heap.size w w') : Rd w' R t s a n cap := h.on hB
theorem below_one' (w : World) (o : Obj) : Below w.heap.size w (w.alloc o) := (Below.refl _ _).alloc (Nat.le_refl _) o

theorem below_two (w : World) (o o' : Obj) : Below w.heap.size w ((w.alloc o).alloc o') := (below_one' w o).trans ((below_one' (w.alloc o) o').mono (by simp))
theorem below_only {w w' : World} (h : Below w.heap.size w w') (R : Nat) : Only w w' R := ⟨h.os, h.tape, h.output, h.size, fun k hk _ => h.block k hk⟩
theorem own_made (w : World) (o : Obj) : ((w.alloc o).alloc (.cells #[] 99)).ownsRow w.heap.size 99 3 (.slice (some ⟨w.heap.size + 1, 0, none⟩) 0 0) 0 [] := by
  have h := World.ownsRow_made (base := w.heap.size) (e := 99) (size := 3) (w.alloc o) #[] 0 (by simp) (by unfold maxLen; omega) rfl
  simpa using h
theorem parts_set {w : World} {g R : Nat} {ps : List Pt} (h : Parts w (some ⟨g, 0, none⟩) ps) (hne : g ≠ R) (o : Nat) (v : Value) : Parts (w.setCell ⟨R, o, none⟩ v) (some ⟨g, 0, none⟩) ps := by
  refine ⟨h.1, h.2.1, fun hp => ?_⟩
  obtain ⟨b, o1, ha, hb, hc⟩ := h.2.2 hp
  cases ha
  have e : ∀ j, (w.setCell ⟨R, o, none⟩ v).cell? ⟨g, j, none⟩ = w.cell? ⟨g, j, none⟩ := fun j => World.cell?_of_block (w := w) (Below.heap_setCell _ _ _ _ hne)
  exact ⟨g, 0, rfl, by simpa using hb, fun i hi => by rw [e, e, e]; exact hc i hi⟩

set_option maxRecDepth 10000 in
set_option maxHeartbeats 3200000 in
theorem spec_put (R : Nat) (t : ByteArray) (s : St) (b o cap k : Nat) (xs : List Pt) (x m : Int) (u : ByteArray) (w : World) (h : Rd w R t s (some ⟨b, o, none⟩) xs.length cap) (hP : Parts w (some ⟨b, o, none⟩) xs) (hl : xs.length ≤ 1000) (hk : k ≤ xs.length) (hcap : xs.length ≤ cap) (hfp : Fit (x, m, u)) :
    Calls Tryz.prog 112 #[.pointer (some ⟨R, 0, none⟩), .int .i64 k, .agg #[.int .i64 x, .int .i64 m, .string u]] w fun e w' => e = .returned (.tuple #[]) ∧ (∃ g cap', Rd w' R t s (some ⟨g, 0, none⟩) (xs.length + 1) cap' ∧ Parts w' (some ⟨g, 0, none⟩) (putL xs k (x, m, u)) ∧ xs.length + 1 ≤ cap' ∧ w.heap.size ≤ g) ∧ Only w w' R := by
  obtain ⟨i0, hi0, hz0, hz1, hz2⟩ := info_parts Tryz.infoP
  have HR := hid h
  have HP := hid hP
  have hRl := h.lt
  obtain ⟨c0, c1, c2, c3, hf⟩ := h.c
  clear h hP
  have hkc : k ≤ cap := by omega
  have hkc' : (k : Int) ≤ (cap : Int) := by omega
  have hkl' : (k : Int) ≤ (xs.length : Int) := by omega
  have hnl : ¬ cap < k := by omega
  have HB0 : Hid (Below w.heap.size w (w.alloc (.cells #[.int .i64 x, .int .i64 m, .string u] 99))) := below_one' w _
  by_cases hck0 : cap = k
  · have HCK := hid hck0
    clear hck0
    go_enter Tryz.func112, Tryz.ntmps112
    go_wp2_with (first | (at_builtin; refine wpList_append_own _ rfl _ _ 40 rfl w.heap.size 99 i0 (.agg #[.int .i64 0, .int .i64 0, .string ByteArray.empty]) 3 32 Tryz.underlying40 hi0 hz0 hz1 hz2 rfl (by decide) _ 0 [] rfl ?xp0 ⟨b, o, none⟩ k _ (cellsP (xs.take k)) rfl ?xp1 ?xp2 ?xp3 ?xp4 ?xp5 ?xp6 ?_))
    (try case xp0 => exact own_made w _)
    (try case xp1 => rw [cellsP_len, List.length_take]; omega)
    (try case xp2 => exact fun j v hj => by rw [addr_plain]; exact parts_cells (parts_take (HP.out.on (below_two w _ _))) hj)
    (try case xp3 => exact cellsP_one _)
    (try case xp4 => unfold maxLen; omega)
    (try case xp5 => omega)
    (try case xp6 => simp; omega)
    intro v1 w1 hown1 hgrow1 _
    have hB1 : Below w.heap.size w w1 := (below_two w _ _).grown hgrow1 (by simp; omega) (fun g hg => by cases hg; simp)
    have hR1 := HR.out.on hB1
    have k0 : w1.cell? ⟨w.heap.size, 0, none⟩ = some (.int .i64 x) ∧ w1.cell? ⟨w.heap.size, 1, none⟩ = some (.int .i64 m) ∧ w1.cell? ⟨w.heap.size, 2, none⟩ = some (.string u) := by
      have e : w1.heap[w.heap.size]? = some (.cells #[.int .i64 x, .int .i64 m, .string u] 99 (0, 0)) := by
        rw [hgrow1.block w.heap.size (by simp; omega) (fun e => by have := Option.some.inj e; simp at this), Below.heap_alloc _ _ _ (by simp)]
        show (w.heap.push _)[w.heap.size]? = _
        rw [Array.getElem?_push_size]
      refine ⟨?_, ?_, ?_⟩ <;> simp [World.cell?, e]
    obtain ⟨k0, k1, k2⟩ := k0
    have hown1' : w1.ownsRow w.heap.size 99 3 v1 k (cellsP (xs.take k)) := by simpa using hown1
    obtain ⟨d0, d1, d2, d3, -⟩ := hR1.c
    have HR1 := hid hR1
    clear hown1 hgrow1 c0 c1 c2 c3 hR1
    go_wp2_with (first | (at_builtin; refine wpList_append_own _ rfl _ _ 40 rfl w.heap.size 99 i0 (.agg #[.int .i64 0, .int .i64 0, .string ByteArray.empty]) 3 32 Tryz.underlying40 hi0 hz0 hz1 hz2 rfl (by decide) _ k (cellsP (xs.take k)) rfl (hown1'.alloc _) ⟨w1.heap.size, 0, none⟩ 1 1 (cellsP [(x, m, u)]) rfl rfl ?yp2 ?yp3 ?yp4 ?yp5 ?yp6 ?_))
    (try case yp2 =>
      intro j v hj
      match j, hj with
      | 0, hj => (simp [cellsP] at hj; subst hj; simp [Addr.add])
      | 1, hj => (simp [cellsP] at hj; subst hj; simp [Addr.add])
      | 2, hj => (simp [cellsP] at hj; subst hj; simp [Addr.add])
      | (j + 3), hj => (simp [cellsP] at hj))
    (try case yp3 => exact cellsP_one _)
    (try case yp4 => unfold maxLen; omega)
    (try case yp5 => omega)
    (try case yp6 => have := hB1.size; simp; omega)
    intro v2 w2 hown2 hgrow2 _
    have hB2 : Below w.heap.size w w2 := (hB1.alloc hB1.size (Obj.cells #[.int .i64 x, .int .i64 m, .string u] 99)).grown hgrow2 (by have := hB1.size; simp; omega) (fun g hg => (hown1'.lt g hg).1)
    have hown2' : w2.ownsRow w.heap.size 99 3 v2 (k + 1) (cellsP (xs.take k ++ [(x, m, u)])) := by rw [cellsP_append]; exact hown2
    have hR2 := HR.out.on hB2
    obtain ⟨e0, e1, e2, e3, -⟩ := hR2.c
    have HR2 := hid hR2
    clear hown1' hown2 hgrow2 hB1 d0 d1 d2 d3 k0 k1 k2 hR2 HR1
    have hck := HCK.out
    go_wp2_with (first | (at_builtin; refine wpList_append_own _ rfl _ _ 40 rfl w.heap.size 99 i0 (.agg #[.int .i64 0, .int .i64 0, .string ByteArray.empty]) 3 32 Tryz.underlying40 hi0 hz0 hz1 hz2 rfl (by decide) _ (k + 1) (cellsP (xs.take k ++ [(x, m, u)])) rfl hown2' ⟨b, o, none⟩ _ _ (cellsP (xs.drop k)) rfl ?zp1 ?zp2 ?zp3 ?zp4 ?zp5 ?zp6 ?_))
    (try case zp1 => rw [cellsP_len, List.length_drop])
    (try case zp2 => intro j v hj; rw [List.drop_of_length_le (by omega)] at hj; simp [cellsP] at hj)
    (try case zp3 => exact cellsP_one _)
    (try case zp4 => unfold maxLen; omega)
    (try case zp5 => omega)
    (try case zp6 => exact hB2.size)
    intro v3 w3 hown3 hgrow3 _
    have hB3 : Below w.heap.size w w3 := hB2.grown hgrow3 hB2.size (fun g hg => (hown2'.lt g hg).1)
    have hpl := putL_len xs k (x, m, u) hk
    have hown3' : w3.ownsRow w.heap.size 99 3 v3 (putL xs k (x, m, u)).length (cellsP (putL xs k (x, m, u))) := by
      rw [hpl]
      unfold putL
      rw [cellsP_append, show xs.length + 1 = k + 1 + (xs.length - k) by omega]
      exact hown3
    obtain ⟨a3, cap3, rfl, hP3, hc3, hor⟩ := parts_own hown3' (by omega) (putL_fit HP.out.2.1 hfp)
    rw [hpl] at hc3 ⊢
    obtain ⟨g3, rfl, hg3⟩ : ∃ g, a3 = some ⟨g, 0, none⟩ ∧ w.heap.size ≤ g := by
      rcases hor with ⟨_, h⟩ | h
      · omega
      · exact h
    have hR3 := HR.out.on hB3
    obtain ⟨f0, f1, f2, f3, hfz⟩ := hR3.c
    have hfz2 := hfz 2
    have HR3 := hid (hR3.setX (some ⟨g3, 0, none⟩) (xs.length + 1) cap3)
    have HO3 : Hid (Only w (w3.setCell ⟨R, 2, none⟩ (.slice (some ⟨g3, 0, none⟩) (xs.length + 1) cap3)) R) := (below_only hB3 R).set _ _
    have HP3 := hid (parts_set hP3 (show g3 ≠ R by omega) 2 (.slice (some ⟨g3, 0, none⟩) (xs.length + 1) cap3))
    clear hown2' hown3 hown3' hgrow3 hB2 hP3 hB3 hR3 hfz e0 e1 e2 e3 hor
    go_wp2_with fail
    refine bodyPost_end (results_none rfl _ _ _) rfl ?_
    exact ⟨rfl, ⟨g3, cap3, HR3.out, HP3.out, hc3, hg3⟩, HO3.out⟩
  · have hck2 : ¬ (cap : Int) = (k : Int) := by omega
    go_enter Tryz.func112, Tryz.ntmps112
    go_wp2_with (first | (at_builtin; refine wpList_append_own _ rfl _ _ 40 rfl w.heap.size 99 i0 (.agg #[.int .i64 0, .int .i64 0, .string ByteArray.empty]) 3 32 Tryz.underlying40 hi0 hz0 hz1 hz2 rfl (by decide) _ 0 [] rfl ?xq0 ⟨b, o, none⟩ k _ (cellsP (xs.take k)) rfl ?xq1 ?xq2 ?xq3 ?xq4 ?xq5 ?xq6 ?_))
    (try case xq0 => exact own_made w _)
    (try case xq1 => rw [cellsP_len, List.length_take]; omega)
    (try case xq2 => exact fun j v hj => by rw [addr_plain]; exact parts_cells (parts_take (HP.out.on (below_two w _ _))) hj)
    (try case xq3 => exact cellsP_one _)
    (try case xq4 => unfold maxLen; omega)
    (try case xq5 => omega)
    (try case xq6 => simp; omega)
    intro v1 w1 hown1 hgrow1 _
    have hB1 : Below w.heap.size w w1 := (below_two w _ _).grown hgrow1 (by simp; omega) (fun g hg => by cases hg; simp)
    have hR1 := HR.out.on hB1
    have k0 : w1.cell? ⟨w.heap.size, 0, none⟩ = some (.int .i64 x) ∧ w1.cell? ⟨w.heap.size, 1, none⟩ = some (.int .i64 m) ∧ w1.cell? ⟨w.heap.size, 2, none⟩ = some (.string u) := by
      have e : w1.heap[w.heap.size]? = some (.cells #[.int .i64 x, .int .i64 m, .string u] 99 (0, 0)) := by
        rw [hgrow1.block w.heap.size (by simp; omega) (fun e => by have := Option.some.inj e; simp at this), Below.heap_alloc _ _ _ (by simp)]
        show (w.heap.push _)[w.heap.size]? = _
        rw [Array.getElem?_push_size]
      refine ⟨?_, ?_, ?_⟩ <;> simp [World.cell?, e]
    obtain ⟨k0, k1, k2⟩ := k0
    have hown1' : w1.ownsRow w.heap.size 99 3 v1 k (cellsP (xs.take k)) := by simpa using hown1
    obtain ⟨d0, d1, d2, d3, -⟩ := hR1.c
    have HR1 := hid hR1
    clear hown1 hgrow1 c0 c1 c2 c3 hR1
    go_wp2_with (first | (at_builtin; refine wpList_append_own _ rfl _ _ 40 rfl w.heap.size 99 i0 (.agg #[.int .i64 0, .int .i64 0, .string ByteArray.empty]) 3 32 Tryz.underlying40 hi0 hz0 hz1 hz2 rfl (by decide) _ k (cellsP (xs.take k)) rfl (hown1'.alloc _) ⟨w1.heap.size, 0, none⟩ 1 1 (cellsP [(x, m, u)]) rfl rfl ?yq2 ?yq3 ?yq4 ?yq5 ?yq6 ?_))
    (try case yq2 =>
      intro j v hj
      match j, hj with
      | 0, hj => (simp [cellsP] at hj; subst hj; simp [Addr.add])
      | 1, hj => (simp [cellsP] at hj; subst hj; simp [Addr.add])
      | 2, hj => (simp [cellsP] at hj; subst hj; simp [Addr.add])
      | (j + 3), hj => (simp [cellsP] at hj))
    (try case yq3 => exact cellsP_one _)
    (try case yq4 => unfold maxLen; omega)
    (try case yq5 => omega)
    (try case yq6 => have := hB1.size; simp; omega)
    intro v2 w2 hown2 hgrow2 _
    have hB2 : Below w.heap.size w w2 := (hB1.alloc hB1.size (Obj.cells #[.int .i64 x, .int .i64 m, .string u] 99)).grown hgrow2 (by have := hB1.size; simp; omega) (fun g hg => (hown1'.lt g hg).1)
    have hown2' : w2.ownsRow w.heap.size 99 3 v2 (k + 1) (cellsP (xs.take k ++ [(x, m, u)])) := by rw [cellsP_append]; exact hown2
    have hR2 := HR.out.on hB2
    obtain ⟨e0, e1, e2, e3, -⟩ := hR2.c
    have HR2 := hid hR2
    clear hown1' hown2 hgrow2 hB1 d0 d1 d2 d3 k0 k1 k2 hR2 HR1
    go_wp2_with (first | (at_builtin; refine wpList_append_own _ rfl _ _ 40 rfl w.heap.size 99 i0 (.agg #[.int .i64 0, .int .i64 0, .string ByteArray.empty]) 3 32 Tryz.underlying40 hi0 hz0 hz1 hz2 rfl (by decide) _ (k + 1) (cellsP (xs.take k ++ [(x, m, u)])) rfl hown2' ⟨b, o + k * 3, none⟩ _ _ (cellsP (xs.drop k)) rfl ?zq1 ?zq2 ?zq3 ?zq4 ?zq5 ?zq6 ?_))
    (try case zq1 => rw [cellsP_len, List.length_drop])
    (try case zq2 => exact fun j v hj => by rw [addr_plain]; exact parts_cells (parts_drop (HP.out.on hB2)) hj)
    (try case zq3 => exact cellsP_one _)
    (try case zq4 => unfold maxLen; omega)
    (try case zq5 => omega)
    (try case zq6 => exact hB2.size)
    intro v3 w3 hown3 hgrow3 _
    have hB3 : Below w.heap.size w w3 := hB2.grown hgrow3 hB2.size (fun g hg => (hown2'.lt g hg).1)
    have hpl := putL_len xs k (x, m, u) hk
    have hown3' : w3.ownsRow w.heap.size 99 3 v3 (putL xs k (x, m, u)).length (cellsP (putL xs k (x, m, u))) := by
      rw [hpl]
      unfold putL
      rw [cellsP_append, show xs.length + 1 = k + 1 + (xs.length - k) by omega]
      exact hown3
    obtain ⟨a3, cap3, rfl, hP3, hc3, hor⟩ := parts_own hown3' (by omega) (putL_fit HP.out.2.1 hfp)
    rw [hpl] at hc3 ⊢
    obtain ⟨g3, rfl, hg3⟩ : ∃ g, a3 = some ⟨g, 0, none⟩ ∧ w.heap.size ≤ g := by
      rcases hor with ⟨_, h⟩ | h
      · omega
      · exact h
    have hR3 := HR.out.on hB3
    obtain ⟨f0, f1, f2, f3, hfz⟩ := hR3.c
    have hfz2 := hfz 2
    have HR3 := hid (hR3.setX (some ⟨g3, 0, none⟩) (xs.length + 1) cap3)
    have HO3 : Hid (Only w (w3.setCell ⟨R, 2, none⟩ (.slice (some ⟨g3, 0, none⟩) (xs.length + 1) cap3)) R) := (below_only hB3 R).set _ _
    have HP3 := hid (parts_set hP3 (show g3 ≠ R by omega) 2 (.slice (some ⟨g3, 0, none⟩) (xs.length + 1) cap3))
    clear hown2' hown3 hown3' hgrow3 hB2 hP3 hB3 hR3 hfz e0 e1 e2 e3 hor
    go_wp2_with fail
    refine bodyPost_end (results_none rfl _ _ _) rfl ?_
    exact ⟨rfl, ⟨g3, cap3, HR3.out, HP3.out, hc3, hg3⟩, HO3.out⟩
end Go.Proofs.YtecopedjjfimoaaGreatDoor.ErdS
/- The model's reader: the first part put to the list; the list as the reader has it. -/
namespace Go.Proofs.YtecopedjjfimoaaGreatDoor.ErdS
open Go.RowKit
open PrtW
open FldK (Only only_trans)
open ErdM

theorem alloc_cells (W : World) (g : Nat) (hg : W.heap.size = g) {x m : Int} {u : ByteArray} {j : Nat} {v : Value} (hj : (cellsP [(x, m, u)])[j]? = some v) : (W.alloc (.cells #[.int .i64 x, .int .i64 m, .string u] 99)).cell? ((⟨g, 0, none⟩ : Addr).add j) = some v := by
  have e : (W.alloc (.cells #[.int .i64 x, .int .i64 m, .string u] 99)).heap[g]? = some (.cells #[.int .i64 x, .int .i64 m, .string u] 99 (0, 0)) := by
    rw [← hg]
    show (W.heap.push _)[W.heap.size]? = _
    rw [Array.getElem?_push_size]
  rw [addr_plain]
  unfold World.cell?
  simp only [e, Nat.zero_add]
  match j, hj with
  | 0, hj => exact hj
  | 1, hj => exact hj
  | 2, hj => exact hj
  | (j + 3), hj => simp [cellsP] at hj

set_option maxRecDepth 10000 in
set_option maxHeartbeats 3200000 in
theorem spec_put_nil (R : Nat) (t : ByteArray) (s : St) (x m : Int) (u : ByteArray) (w : World) (h : Rd w R t s none 0 0) (hfp : Fit (x, m, u)) :
    Calls Tryz.prog 112 #[.pointer (some ⟨R, 0, none⟩), .int .i64 0, .agg #[.int .i64 x, .int .i64 m, .string u]] w fun e w' => e = .returned (.tuple #[]) ∧ (∃ g cap', Rd w' R t s (some ⟨g, 0, none⟩) 1 cap' ∧ Parts w' (some ⟨g, 0, none⟩) [(x, m, u)] ∧ 1 ≤ cap' ∧ w.heap.size ≤ g) ∧ Only w w' R := by
  obtain ⟨i0, hi0, hz0, hz1, hz2⟩ := info_parts Tryz.infoP
  have HR := hid h
  have hRl := h.lt
  obtain ⟨c0, c1, c2, c3, hf⟩ := h.c
  clear h
  go_enter Tryz.func112, Tryz.ntmps112
  go_wp2_with (first | (at_builtin; refine wpList_append_own _ rfl _ _ 40 rfl w.heap.size 99 i0 (.agg #[.int .i64 0, .int .i64 0, .string ByteArray.empty]) 3 32 Tryz.underlying40 hi0 hz0 hz1 hz2 rfl (by decide) _ 0 [] rfl ?y1 ⟨w.heap.size + 1 + 1, 0, none⟩ 1 1 (cellsP [(x, m, u)]) rfl rfl ?y2 ?y3 ?y4 ?y5 ?y6 ?_))
  (try case y1 => exact (own_made w _).alloc _)
  case y2 => exact fun j v hj => alloc_cells _ _ (by simp) hj
  (try case y3 => exact cellsP_one _)
  (try case y4 => unfold maxLen; omega)
  (try case y5 => omega)
  (try case y6 => simp; omega)
  intro v2 w2 hown2 hgrow2 _
  have hB2 : Below w.heap.size w w2 := ((below_two w _ _).alloc (by simp; omega) (Obj.cells #[.int .i64 x, .int .i64 m, .string u] 99)).grown hgrow2 (by simp; omega) (fun g hg => by cases hg; simp)
  have hown2' : w2.ownsRow w.heap.size 99 3 v2 [(x, m, u)].length (cellsP [(x, m, u)]) := by simpa using hown2
  obtain ⟨a3, cap3, rfl, hP3, hc3, hor⟩ := parts_own hown2' (by simp) (fun i hi => by
    have : i = 0 := by simpa using hi
    subst this; exact hfp)
  obtain ⟨g3, rfl, hg3⟩ : ∃ g, a3 = some ⟨g, 0, none⟩ ∧ w.heap.size ≤ g := by
    rcases hor with ⟨_, h⟩ | h
    · simp at h
    · exact h
  have hR3 := HR.out.on hB2
  obtain ⟨f0, f1, f2, f3, hfz⟩ := hR3.c
  have hfz2 := hfz 2
  have HR3 := hid (hR3.setX (some ⟨g3, 0, none⟩) 1 cap3)
  have HO3 : Hid (Only w (w2.setCell ⟨R, 2, none⟩ (.slice (some ⟨g3, 0, none⟩) 1 cap3)) R) := (below_only hB2 R).set _ _
  have HP3 := hid (parts_set hP3 (show g3 ≠ R by omega) 2 (.slice (some ⟨g3, 0, none⟩) 1 cap3))
  have hc4 : 1 ≤ cap3 := by simpa using hc3
  clear hown2 hown2' hgrow2 hB2 hP3 hR3 hfz c0 c1 c2 c3 hor hf
  go_wp2_with fail
  refine bodyPost_end (results_none rfl _ _ _) rfl ?_
  exact ⟨rfl, ⟨g3, cap3, HR3.out, HP3.out, hc4, hg3⟩, HO3.out⟩

theorem parts_lt {w : World} {g o : Nat} {xs : List Pt} (h : Parts w (some ⟨g, o, none⟩) xs) (hp : 0 < xs.length) : g < w.heap.size := by
  obtain ⟨b, o1, ha, hb, _⟩ := h.2.2 hp
  cases ha; exact hb
/-- the reader, with its list -/
def RX (w : World) (R : Nat) (t : ByteArray) (s : St) (xs : List Pt) : Prop :=
  (xs = [] ∧ Rd w R t s none 0 0) ∨ ∃ g o cap, Rd w R t s (some ⟨g, o, none⟩) xs.length cap ∧ Parts w (some ⟨g, o, none⟩) xs ∧ xs.length ≤ cap ∧ g ≠ R ∧ g < w.heap.size
theorem RX.rd {w : World} {R : Nat} {t : ByteArray} {s : St} {xs : List Pt} (h : RX w R t s xs) : ∃ a cap, Rd w R t s a xs.length cap := by
  rcases h with ⟨rfl, h⟩ | ⟨g, o, cap, h, _⟩
  · exact ⟨_, _, h⟩
  · exact ⟨_, _, h⟩
theorem RX.lt {w : World} {R : Nat} {t : ByteArray} {s : St} {xs : List Pt} (h : RX w R t s xs) : R < w.heap.size := by
  obtain ⟨a, cap, h⟩ := h.rd; exact h.lt
theorem parts_only {w w' : World} {R g o : Nat} {xs : List Pt} (h : Parts w (some ⟨g, o, none⟩) xs) (hO : Only w w' R) (hne : g ≠ R) : Parts w' (some ⟨g, o, none⟩) xs := by
  refine ⟨h.1, h.2.1, fun hp => ?_⟩
  obtain ⟨b, o1, ha, hb, hc⟩ := h.2.2 hp
  cases ha
  have e : ∀ j, w'.cell? ⟨g, j, none⟩ = w.cell? ⟨g, j, none⟩ := fun j => World.cell?_of_block (w := w) (hO.block g hb (fun e => hne (Option.some.inj e)))
  exact ⟨g, o, rfl, Nat.lt_of_lt_of_le hb hO.size, fun i hi => by rw [e, e, e]; exact hc i hi⟩
/-- a step that leaves the list -/
theorem RX.step {w w' : World} {R : Nat} {t : ByteArray} {s s' : St} {xs : List Pt} (h : RX w R t s xs) (hO : Only w w' R) (hR : ∀ a n cap, Rd w R t s a n cap → Rd w' R t s' a n cap) : RX w' R t s' xs := by
  rcases h with ⟨rfl, h⟩ | ⟨g, o, cap, h, hp, hc, hg⟩
  · exact .inl ⟨rfl, hR _ _ _ h⟩
  · exact .inr ⟨g, o, cap, hR _ _ _ h, parts_only hp hO hg.1, hc, hg.1, Nat.lt_of_lt_of_le hg.2 hO.size⟩
theorem rx_is (R : Nat) (t W : ByteArray) (s : St) (xs : List Pt) (w : World) (h : RX w R t s xs) (ht : t.size ≤ 8000) (hW : W.size ≤ 20) :
    Calls Tryz.prog 111 #[.pointer (some ⟨R, 0, none⟩), .string W] w fun e w' => e = .returned (.bool (isB t.data.toList s W.data.toList)) ∧ RX w' R t (isS t.data.toList s W.data.toList) xs ∧ Only w w' R := by
  rcases h with ⟨rfl, h⟩ | ⟨g, o, cap, h, hp, hc, hg⟩
  · exact (spec_is R t W s _ _ _ w h ht hW).mono fun e w' ⟨h1, h2, h3⟩ => ⟨h1, .inl ⟨rfl, h2⟩, h3⟩
  · exact (spec_is R t W s _ _ _ w h ht hW).mono fun e w' ⟨h1, h2, h3⟩ => ⟨h1, .inr ⟨g, o, cap, h2, parts_only hp h3 hg.1, hc, hg.1, Nat.lt_of_lt_of_le hg.2 h3.size⟩, h3⟩
theorem rx_must (R : Nat) (t W : ByteArray) (s : St) (xs : List Pt) (w : World) (h : RX w R t s xs) (ht : t.size ≤ 8000) (hW : W.size ≤ 20) :
    Calls Tryz.prog 114 #[.pointer (some ⟨R, 0, none⟩), .string W] w fun e w' => e = .returned (.tuple #[]) ∧ RX w' R t (mustS t.data.toList s W.data.toList) xs ∧ Only w w' R := by
  rcases h with ⟨rfl, h⟩ | ⟨g, o, cap, h, hp, hc, hg⟩
  · exact (spec_must R t W s _ _ _ w h ht hW).mono fun e w' ⟨h1, h2, h3⟩ => ⟨h1, .inl ⟨rfl, h2⟩, h3⟩
  · exact (spec_must R t W s _ _ _ w h ht hW).mono fun e w' ⟨h1, h2, h3⟩ => ⟨h1, .inr ⟨g, o, cap, h2, parts_only hp h3 hg.1, hc, hg.1, Nat.lt_of_lt_of_le hg.2 h3.size⟩, h3⟩
theorem rx_word (R : Nat) (t : ByteArray) (s : St) (xs : List Pt) (w : World) (h : RX w R t s xs) (ht : t.size ≤ 8000) :
    Calls Tryz.prog 113 #[.pointer (some ⟨R, 0, none⟩)] w fun e w' => e = .returned (.string (nm (wordL t.data.toList s))) ∧ RX w' R t (wordS t.data.toList s) xs ∧ Only w w' R := by
  rcases h with ⟨rfl, h⟩ | ⟨g, o, cap, h, hp, hc, hg⟩
  · exact (spec_word R t s _ _ _ w h ht).mono fun e w' ⟨h1, h2, h3⟩ => ⟨h1, .inl ⟨rfl, h2⟩, h3⟩
  · exact (spec_word R t s _ _ _ w h ht).mono fun e w' ⟨h1, h2, h3⟩ => ⟨h1, .inr ⟨g, o, cap, h2, parts_only hp h3 hg.1, hc, hg.1, Nat.lt_of_lt_of_le hg.2 h3.size⟩, h3⟩
theorem rx_sign (R : Nat) (t : ByteArray) (s : St) (xs : List Pt) (w : World) (h : RX w R t s xs) (ht : t.size ≤ 8000) :
    Calls Tryz.prog 115 #[.pointer (some ⟨R, 0, none⟩)] w fun e w' => e = .returned (.int .i64 (signFrom t.data.toList s 10).1) ∧ RX w' R t (signFrom t.data.toList s 10).2 xs ∧ Only w w' R := by
  rcases h with ⟨rfl, h⟩ | ⟨g, o, cap, h, hp, hc, hg⟩
  · exact (spec_sgn R t s _ _ _ w h ht).mono fun e w' ⟨h1, h2, h3⟩ => ⟨h1, .inl ⟨rfl, h2⟩, h3⟩
  · exact (spec_sgn R t s _ _ _ w h ht).mono fun e w' ⟨h1, h2, h3⟩ => ⟨h1, .inr ⟨g, o, cap, h2, parts_only hp h3 hg.1, hc, hg.1, Nat.lt_of_lt_of_le hg.2 h3.size⟩, h3⟩
theorem rx_put (R : Nat) (t : ByteArray) (s : St) (k : Nat) (xs : List Pt) (x m : Int) (u : ByteArray) (w : World) (h : RX w R t s xs) (hl : xs.length ≤ 1000) (hk : k ≤ xs.length) (hfp : Fit (x, m, u)) :
    Calls Tryz.prog 112 #[.pointer (some ⟨R, 0, none⟩), .int .i64 k, .agg #[.int .i64 x, .int .i64 m, .string u]] w fun e w' => e = .returned (.tuple #[]) ∧ RX w' R t s (putL xs k (x, m, u)) ∧ Only w w' R := by
  have hRl := h.lt
  rcases h with ⟨rfl, h⟩ | ⟨g, o, cap, h, hp, hc, hg⟩
  · obtain rfl : k = 0 := by simpa using hk
    refine (spec_put_nil R t s x m u w h hfp).mono fun e w' ⟨h1, ⟨g, cap', h2, h3, h4, h5⟩, h6⟩ => ⟨h1, .inr ⟨g, 0, cap', h2, h3, h4, by omega, parts_lt h3 (by simp)⟩, h6⟩
  · refine (spec_put R t s g o cap k xs x m u w h hp hl hk hc hfp).mono fun e w' ⟨h1, ⟨g, cap', h2, h3, h4, h5⟩, h6⟩ => ⟨h1, .inr ⟨g, 0, cap', ?_, h3, ?_, by omega, parts_lt h3 (by rw [putL_len xs k _ hk]; omega)⟩, h6⟩
    · rw [putL_len xs k _ hk]; exact h2
    · rw [putL_len xs k _ hk]; exact h4

/-- the reader, with its list, which does not lie in block P -/
def RXn (w : World) (R : Nat) (t : ByteArray) (s : St) (xs : List Pt) (P : Nat) : Prop :=
  (xs = [] ∧ Rd w R t s none 0 0) ∨ ∃ g o cap, Rd w R t s (some ⟨g, o, none⟩) xs.length cap ∧ Parts w (some ⟨g, o, none⟩) xs ∧ xs.length ≤ cap ∧ g ≠ R ∧ g < w.heap.size ∧ g ≠ P
theorem RXn.rx {w : World} {R : Nat} {t : ByteArray} {s : St} {xs : List Pt} {P : Nat} (h : RXn w R t s xs P) : RX w R t s xs := by
  rcases h with h | ⟨g, o, cap, h1, h2, h3, h4, h5, _⟩
  · exact .inl h
  · exact .inr ⟨g, o, cap, h1, h2, h3, h4, h5⟩
theorem RX.new {w : World} {R : Nat} {t : ByteArray} {s : St} {xs : List Pt} (h : RX w R t s xs) (ob : Obj) : RXn (w.alloc ob) R t s xs w.heap.size := by
  rcases h with ⟨h1, h2⟩ | ⟨g, o, cap, h1, h2, h3, h4, h5⟩
  · exact .inl ⟨h1, h2.on (below_one' w ob)⟩
  · exact .inr ⟨g, o, cap, h1.on (below_one' w ob), h2.on (below_one' w ob), h3, h4, by simp; omega, by omega⟩
theorem rxn_must (R : Nat) (t W : ByteArray) (s : St) (xs : List Pt) (P : Nat) (w : World) (h : RXn w R t s xs P) (ht : t.size ≤ 8000) (hW : W.size ≤ 20) :
    Calls Tryz.prog 114 #[.pointer (some ⟨R, 0, none⟩), .string W] w fun e w' => e = .returned (.tuple #[]) ∧ RXn w' R t (mustS t.data.toList s W.data.toList) xs P ∧ Only w w' R := by
  rcases h with ⟨rfl, h⟩ | ⟨g, o, cap, h, hp, hc, hg, hgl, hgP⟩
  · exact (spec_must R t W s _ _ _ w h ht hW).mono fun e w' ⟨h1, h2, h3⟩ => ⟨h1, .inl ⟨rfl, h2⟩, h3⟩
  · exact (spec_must R t W s _ _ _ w h ht hW).mono fun e w' ⟨h1, h2, h3⟩ => ⟨h1, .inr ⟨g, o, cap, h2, parts_only hp h3 hg, hc, hg, Nat.lt_of_lt_of_le hgl h3.size, hgP⟩, h3⟩
theorem rxn_word (R : Nat) (t : ByteArray) (s : St) (xs : List Pt) (P : Nat) (w : World) (h : RXn w R t s xs P) (ht : t.size ≤ 8000) :
    Calls Tryz.prog 113 #[.pointer (some ⟨R, 0, none⟩)] w fun e w' => e = .returned (.string (nm (wordL t.data.toList s))) ∧ RXn w' R t (wordS t.data.toList s) xs P ∧ Only w w' R := by
  rcases h with ⟨rfl, h⟩ | ⟨g, o, cap, h, hp, hc, hg, hgl, hgP⟩
  · exact (spec_word R t s _ _ _ w h ht).mono fun e w' ⟨h1, h2, h3⟩ => ⟨h1, .inl ⟨rfl, h2⟩, h3⟩
  · exact (spec_word R t s _ _ _ w h ht).mono fun e w' ⟨h1, h2, h3⟩ => ⟨h1, .inr ⟨g, o, cap, h2, parts_only hp h3 hg, hc, hg, Nat.lt_of_lt_of_le hgl h3.size, hgP⟩, h3⟩
theorem RXn.put {w : World} {R : Nat} {t : ByteArray} {s : St} {xs : List Pt} {P : Nat} (h : RXn w R t s xs P) (hne : P ≠ R) (j : Nat) (v : Value) : RXn (w.setCell ⟨P, j, none⟩ v) R t s xs P := by
  have hr : ∀ a n cap, Rd w R t s a n cap → Rd (w.setCell ⟨P, j, none⟩ v) R t s a n cap := fun a n cap hR => ⟨by rw [Below.heap_setCell _ _ _ _ (Ne.symm hne)]; exact hR.1, hR.2⟩
  rcases h with ⟨h1, h2⟩ | ⟨g, o, cap, h1, h2, h3, h4, h5, h6⟩
  · exact .inl ⟨h1, hr _ _ _ h2⟩
  · refine .inr ⟨g, o, cap, hr _ _ _ h1, ?_, h3, h4, by simpa using h5, h6⟩
    refine ⟨h2.1, h2.2.1, fun hp => ?_⟩
    obtain ⟨b, o1, ha, hb, hc⟩ := h2.2.2 hp
    cases ha
    have e : ∀ i, (w.setCell ⟨P, j, none⟩ v).cell? ⟨g, i, none⟩ = w.cell? ⟨g, i, none⟩ := fun i => World.cell?_of_block (w := w) (Below.heap_setCell _ _ _ _ h6)
    exact ⟨g, o, rfl, by simpa using hb, fun i hi => by rw [e, e, e]; exact hc i hi⟩
theorem only_cell {w w' : World} {R P : Nat} (h : Only w w' R) (hP : P < w.heap.size) (hne : P ≠ R) : (∀ j, w'.cell? ⟨P, j, none⟩ = w.cell? ⟨P, j, none⟩) ∧ ∀ j, w'.frozen? ⟨P, j, none⟩ = w.frozen? ⟨P, j, none⟩ := by
  have e := h.block P hP (fun e => hne (Option.some.inj e))
  exact ⟨fun j => World.cell?_of_block (w := w) (a := ⟨P, j, none⟩) e, fun j => World.frozen?_of_block (w := w) (a := ⟨P, j, none⟩) e⟩
/-- what is new may change as it likes -/
theorem Only.new {w w' : World} {R P : Nat} (h : Only w w' R) (hP : w.heap.size ≤ P) (j : Nat) (v : Value) : Only w (w'.setCell ⟨P, j, none⟩ v) R :=
  ⟨h.os, h.tape, h.output, by have := h.size; simpa using this, fun k hk hne => by
    rw [Below.heap_setCell _ _ _ _ (show k ≠ P by omega)]; exact h.block k hk hne⟩
end Go.Proofs.YtecopedjjfimoaaGreatDoor.ErdS
