/- ExprFields of the model. -/
import Derived.Test.YtppfimbbkbpmoaaDoorFldName
import Derived.Test.YtppfimbbkbpmoaaDoorPrtRight
namespace Go.Proofs.YtppfimbbkbpmoaaDoor.FldS
open Go.RowKit
open StrW FldM
open PrtW (Parts Pt pt0)
open PrtM (rightB)

theorem ins_len (t : List UInt8) : ∀ l : List (List UInt8), (ins l t).length ≤ l.length + 1 := by
  intro l
  induction l with
  | nil => simp [ins]
  | cons x r ih =>
    unfold ins
    split
    · simp; omega
    · split
      · simp
      · simp
theorem fold_len (ps : List Pt) : (fold ps).length ≤ ps.length := by
  refine snoc_rec (P := fun ps => (fold ps).length ≤ ps.length) (by simp [fold]) ?_ ps
  intro l p ih
  rw [fold_snoc]
  have := ins_len (nameL p) (fold l)
  split <;> simp <;> omega
theorem take_snoc (ps : List Pt) (k : Nat) (h : k < ps.length) : ps.take (k + 1) = ps.take k ++ [ps.getD k pt0] := by
  rw [List.take_succ_eq_append_getElem h]; simp [List.getD, List.getElem?_eq_getElem h]

set_option maxRecDepth 10000 in
set_option maxHeartbeats 1600000 in
theorem spec_fields_in (a : Option Addr) (cap : Nat) (ps : List Pt) (w : World) (hP : Parts w a ps) (hl : ps.length ≤ 20) :
    Calls Tryd.prog 30 #[.slice a ps.length cap] w fun e w' => (∃ b' o' cap', e = .returned (.slice (some ⟨b', o', none⟩) (fold ps).length cap') ∧ Strs w' (some ⟨b', o', none⟩) (fold ps) ∧ (fold ps).length ≤ cap') ∧ Below w.heap.size w w' := by
  have HP := hid hP
  clear hP
  go_enter Tryd.func30, Tryd.ntmps30
  go_wp2
  go_loopw [3, 4] (fun u i wr => ∃ (k b' o' cap' : Nat), k ≤ ps.length ∧ i = .int .i64 k ∧ u = .slice (some ⟨b', o', none⟩) (fold (ps.take k)).length cap' ∧ Hid (Strs wr (some ⟨b', o', none⟩) (fold (ps.take k))) ∧ (fold (ps.take k)).length ≤ cap' ∧ Below w.heap.size w wr) (fun _ i _ => ps.length - (intOf i).toNat)
  case atStart => exact ⟨0, _, _, _, Nat.zero_le _, rfl, rfl, Strs.nil _ _, Nat.zero_le _, by go_grown⟩
  case round =>
    obtain ⟨k, b', o', cap', hk, rfl, rfl, hS, hc, hbel⟩ := hrel
    by_cases hlt : k < ps.length
    · obtain ⟨b, o, x, n, t, rfl, hb, hg, hf, c0, c1, c2⟩ := PrtS.parts_at HP.out hlt
      have hfl := fold_len (ps.take k)
      have hfl2 : (fold (ps.take k)).length ≤ 400 := by rw [List.length_take] at hfl; omega
      have hsn := take_snoc ps k hlt
      rw [hg] at hsn
      have hfo := fold_snoc (ps.take k) (x, n, t)
      rw [← hsn] at hfo
      rw [← hbel.cell (p := ⟨b, _, none⟩) hb] at c2
      have HFO := hid hfo
      have HB := hid hbel
      clear hfo hsn hg hf c0 c1 hbel hfl
      obtain ⟨r, hr⟩ : ∃ r, t.toList.isEmpty = r := ⟨_, rfl⟩
      have hnm : Hid ((nameL (x, n, t)).isEmpty = r) := by show _ = _; rw [← hr, BytM.toList_eq]; rfl
      generalize hF : fold (List.take k ps) = F at *
      generalize hF2 : fold (List.take (k + 1) ps) = F2 at *
      have HF2 := hid hF2
      have HF := hid hF
      clear hF hF2
      cases r
      · rw [hnm.out, if_neg (by decide)] at HFO
        go_wp2_with fail
        have hcall := spec_name b' o' cap' F t.data.toList wr hS.out hfl2 hc
        rw [enc_data] at hcall
        refine hcall.mono ?_
        clear hcall
        rintro e w2 ⟨⟨b2, o2, cap2, rfl, hS2, hc2⟩, hB2⟩
        have HS2 : Hid (Strs w2 (some ⟨b2, o2, none⟩) (ins F t.data.toList)) := hS2
        have HB2 : Hid (Below w.heap.size w w2) := HB.out.trans (hB2.mono HB.out.size)
        have hE : F2 = ins F t.data.toList := HFO.out
        rw [← hE] at HS2 hc2 ⊢
        clear hB2 hS2 hE
        go_wp2_with fail
        refine ⟨⟨k + 1, b2, o2, cap2, by omega, by go_num, by rw [HF2.out], by rw [HF2.out]; exact HS2, by rw [HF2.out]; exact hc2, HB2.out⟩, by simp [intOf]; omega⟩
      · rw [hnm.out, if_pos rfl] at HFO
        obtain rfl := HFO.out
        go_wp2_with fail
        refine ⟨⟨k + 1, b', o', cap', by omega, by go_num, by rw [HF2.out], by rw [HF2.out]; exact hS, by rw [HF2.out]; exact hc, HB.out⟩, by simp [intOf]; omega⟩
    · obtain rfl : k = ps.length := by omega
      rw [List.take_length] at *
      go_wp2_with fail
      go_ret
      exact ⟨⟨_, _, _, rfl, hS.out, hc⟩, hbel⟩

/-- the names in a right expression, rising; else none -/
def fieldsL (ps : List Pt) : List (List UInt8) := if rightB ps = true then fold ps else []
theorem spec_fields (a : Option Addr) (cap : Nat) (ps : List Pt) (w : World) (hP : Parts w a ps) :
    Calls Tryd.prog 16 #[.slice a ps.length cap] w fun e w' => (∃ a' cap', e = .returned (.slice a' (fieldsL ps).length cap') ∧ Strs w' a' (fieldsL ps)) ∧ Below w.heap.size w w' := by
  have hl := hP.1
  have HP := hid hP
  clear hP
  unfold fieldsL
  obtain ⟨r, hr⟩ : ∃ r, Hid (rightB ps = r) := ⟨_, rfl⟩
  rw [hr.out]
  cases r
  · rw [if_neg (by decide)]
    by_cases h4 : 400 < ps.length
    · go_enter Tryd.func16, Tryd.ntmps16
      go_wp2_with fail
      go_ret
      refine ⟨?_, by go_grown⟩
      first
        | exact ⟨_, _, rfl, Strs.nil _ _⟩
        | exact ⟨_, ⟨_, rfl⟩, Strs.nil _ _⟩
    · go_enter Tryd.func16, Tryd.ntmps16
      go_wp2_with fail
      refine (PrtS.spec_right a cap ps w HP.out).mono ?_
      rintro e w1 ⟨rfl, hB⟩
      rw [hr.out]
      have HB := hid hB
      clear hB
      go_wp2_with fail
      go_ret
      exact ⟨⟨_, _, rfl, Strs.nil _ _⟩, HB.out.alloc HB.out.size _⟩
  · rw [if_pos rfl]
    have h20 := (TexM.right_behind hr.out).1
    obtain ⟨F, hF⟩ : ∃ F, Hid (fold ps = F) := ⟨_, rfl⟩
    rw [hF.out]
    go_enter Tryd.func16, Tryd.ntmps16
    go_wp2_with fail
    refine (PrtS.spec_right a cap ps w HP.out).mono ?_
    rintro e w1 ⟨rfl, hB⟩
    rw [hr.out]
    have HB := hid hB
    have HP1 := hid (HP.out.on hB)
    clear hB
    go_wp2_with fail
    refine (spec_fields_in a cap ps w1 HP1.out h20).mono ?_
    rw [hF.out]
    rintro e w2 ⟨⟨b2, o2, cap2, rfl, hS2, -⟩, hB2⟩
    have HB2 : Hid (Below w.heap.size w w2) := HB.out.trans (hB2.mono HB.out.size)
    have HS2 := hid hS2
    clear hB2 hS2
    go_wp2_with fail
    go_ret
    exact ⟨⟨_, _, rfl, HS2.out⟩, HB2.out⟩
end Go.Proofs.YtppfimbbkbpmoaaDoor.FldS
