/- Texts of ours, laid together: PrtRightT, PrtTopT, LwExpr, FldImpl, EXLaw. -/
import Derived.Test.YtecopedjjfimoaaGreatDoorBd13
import Derived.Test.YtecopedjjfimoaaGreatDoorBd18
import Derived.Test.YtecopedjjfimoaaGreatDoorBd12
import Derived.Laws.StructEq
import Derived.Test.YtecopedjjfimoaaGreatDoorBd51
import Derived.Test.YtecopedjjfimoaaGreatDoorBd33
import Derived.Test.YtecopedjjfimoaaGreatDoorShelf
import Derived.Sort.OwnSorted
import Derived.Lib.OwnBridge
import Derived.Test.YtecopedjjfimoaaGreatDoorBd54
import Derived.Test.YtecopedjjfimoaaGreatDoorBd39
import Derived.Deep.RegionHeld3
/- ExprTruth: what it says. -/
namespace Go.Proofs.YtecopedjjfimoaaGreatDoor.PrtS
open Go.RowKit
open PrtW PrtM NameW

set_option maxHeartbeats 400000 in
theorem spec_truth (a : Option Addr) (cap : Nat) (ps : List Pt) (w : World) (hP : Parts w a ps) :
    Calls Tryz.prog 34 #[.slice a ps.length cap] w fun e w' => e = .returned (.bool (truthB ps)) ∧ Below w.heap.size w w' := by
  have hl := hP.1
  have HP := hid hP
  clear hP
  unfold truthB
  obtain ⟨r, hr⟩ : ∃ r, Hid (rightB ps = r) := ⟨_, rfl⟩
  rw [hr.out]
  cases r
  · rw [Bool.false_and]
    go_enter Tryz.func34, Tryz.ntmps34
    go_wp2_with fail
    refine (spec_right a cap ps w HP.out).mono ?_
    rintro e w1 ⟨rfl, hB⟩
    rw [hr.out]
    have HB := hid hB
    clear hB
    go_wp2_with fail
    go_ret
    exact ⟨rfl, HB.out⟩
  · rw [Bool.true_and]
    have hpos := right_pos hr.out
    obtain ⟨b, o, x, n, t, rfl, hb, hg, hf, c0, c1, c2⟩ := parts_at HP.out hpos
    have hh : (ps.headD pt0).1 = x := by
      have e := drop_at ps 0 hpos
      rw [List.drop_zero] at e
      rw [e, hg]; rfl
    rw [hh]
    clear hh hg hf c1 c2
    rw [Nat.zero_mul, Nat.add_zero] at c0
    go_enter Tryz.func34, Tryz.ntmps34
    go_wp2_with fail
    refine (spec_right _ cap ps w HP.out).mono ?_
    rintro e w1 ⟨rfl, hB⟩
    rw [hr.out]
    have HB := hid hB
    rw [← hB.cell (p := ⟨b, _, none⟩) hb] at c0
    clear hB
    go_wp2_with fail
    refine (spec_number x w1).mono ?_
    rintro e w2 ⟨rfl, rfl⟩
    go_wp2_with fail
    go_ret
    exact ⟨rfl, HB.out⟩
end Go.Proofs.YtecopedjjfimoaaGreatDoor.PrtS
/- ExprTruth: what it says. -/
namespace Go.Proofs.YtecopedjjfimoaaGreatDoor.PrtI
open Go.RowKit
open PrtW PrtM NameW PrtS

set_option maxHeartbeats 800000 in
theorem impl_truth (a : Option Addr) (cap : Nat) (ps : List Pt) (w : World) (hP : Parts w a ps) (hcap : ps.length ≤ cap) (hE : EnvS w) :
    Calls Tryz.prog 33 #[.slice a ps.length cap] w fun e w' => e = .returned (.bool (truthB ps)) ∧ Below w.heap.size w w' := by
  have hl := hP.1
  have HP := hid hP
  have HE := hid hE
  clear hP hE
  unfold truthB
  obtain ⟨r, hr⟩ : ∃ r, Hid (rightB ps = r) := ⟨_, rfl⟩
  rw [hr.out]
  cases r
  · rw [Bool.false_and]
    go_enter Tryz.func33, Tryz.ntmps33
    go_wp2_with fail
    refine (impl_right a cap ps w HP.out hcap HE.out).mono ?_
    rintro e w1 ⟨rfl, hB⟩
    rw [hr.out]
    have HB := hid hB
    clear hB
    go_wp2_with fail
    go_ret
    exact ⟨rfl, HB.out⟩
  · rw [Bool.true_and]
    have hpos := right_pos hr.out
    have hbd : behind 6 ps = some [] := by
      have h := hr.out
      unfold rightB at h
      rw [Bool.and_eq_true, decide_eq_true_iff, decide_eq_true_iff] at h
      exact h.2
    obtain ⟨_, hj1, hj2⟩ := behind_head hbd
    obtain ⟨b, o, x, n, t, rfl, hb, hg, hf, c0, c1, c2⟩ := parts_at HP.out hpos
    have hh : (ps.headD pt0).1 = x := by
      have e := drop_at ps 0 hpos
      rw [List.drop_zero] at e
      rw [e, hg]; rfl
    rw [hh] at hj1 hj2 ⊢
    obtain ⟨j, rfl⟩ : ∃ j : Nat, x = j := ⟨x.toNat, by omega⟩
    rw [num_truth j (by omega) (by omega), Bool.not_not]
    have hj14 : j < 14 := by omega
    have hj14' : (j : Int) < 14 := by omega
    clear hh hg hf c1 c2 hbd
    rw [Nat.zero_mul, Nat.add_zero] at c0
    obtain ⟨tj, htj⟩ : ∃ tj, truthF j = tj := ⟨_, rfl⟩
    rw [htj]
    have HTJ := hid htj
    clear htj
    go_enter Tryz.func33, Tryz.ntmps33
    go_wp2_with fail
    refine (impl_right _ cap ps w HP.out hcap HE.out).mono ?_
    rintro e w1 ⟨rfl, hB⟩
    rw [hr.out]
    have HB := hid hB
    rw [← hB.cell (p := ⟨b, _, none⟩) hb] at c0
    obtain ⟨e0, -⟩ := (HE.out.on hB).2 j hj14
    rw [HTJ.out] at e0
    clear hB
    go_wp2_with fail
    go_ret
    exact ⟨rfl, HB.out⟩
end Go.Proofs.YtecopedjjfimoaaGreatDoor.PrtI
/- What the laws compare: lists of parts, lists of texts. -/
namespace Go.Proofs.YtecopedjjfimoaaGreatDoor.LwX
open Go.RowKit
open PrtW (Pt pt0 Parts)
open StrW

set_option maxRecDepth 10000 in
set_option maxHeartbeats 800000 in
theorem lwParts (a a' : Option Addr) (cap cap' : Nat) (ps : List Pt) (w : World) (hc : Parts w a ps) (hc' : Parts w a' ps) :
    Calls Tryz.prog 38 #[.slice a ps.length cap, .slice a' ps.length cap'] w fun e w' => e = .returned (.bool true) ∧ Below w.heap.size w w' := by
  have HC := hid hc
  have HC' := hid hc'
  have hl := hc.1
  clear hc hc'
  go_enter Tryz.func38, Tryz.ntmps38
  go_wp2
  go_loopw [5] (fun i wr => ∃ k : Nat, k ≤ ps.length ∧ i = .int .i64 k ∧ Below w.heap.size w wr) (fun i _ => ps.length - (intOf i).toNat)
  case atStart => exact ⟨0, Nat.zero_le _, rfl, Below.refl _ _⟩
  case round =>
    obtain ⟨k, hk, rfl, hbel⟩ := hrel
    by_cases hlt : k < ps.length
    · obtain ⟨_, _, h1⟩ := HC.out
      obtain ⟨_, _, h2⟩ := HC'.out
      obtain ⟨b, o, rfl, hb, hcs⟩ := h1 (by omega)
      obtain ⟨b', o', rfl, hb', hcs'⟩ := h2 (by omega)
      obtain ⟨c0, c1, c2⟩ := hcs k hlt
      obtain ⟨d0, d1, d2⟩ := hcs' k hlt
      rw [← hbel.cell (p := ⟨b, _, none⟩) hb] at c0 c1 c2
      rw [← hbel.cell (p := ⟨b', _, none⟩) hb'] at d0 d1 d2
      generalize ps.getD k pt0 = p at c0 c1 c2 d0 d1 d2
      obtain ⟨x, n, t⟩ := p
      simp only at c0 c1 c2 d0 d1 d2
      have HB := hid hbel
      clear hcs hcs' h1 h2 HC HC' hbel
      go_wp2_with fail
      go_region
      go_wp2
      refine ⟨⟨k + 1, by omega, by go_num, HB.out.drew⟩, by simp [intOf]; omega⟩
    · go_wp2
      go_ret
      exact ⟨rfl, hbel⟩

set_option maxRecDepth 10000 in
set_option maxHeartbeats 400000 in
/-- the same texts twice -/
theorem lwStrs (a a' : Option Addr) (cap cap' : Nat) (ss : List Nm) (w : World) (hc : Strs w a ss) (hc' : Strs w a' ss) :
    Calls Tryz.prog 35 #[.slice a ss.length cap, .slice a' ss.length cap'] w fun e w' => e = .returned (.bool true) ∧ Below w.heap.size w w' := by
  have HC := hid hc
  have HC' := hid hc'
  have hl := hc.1
  clear hc hc'
  go_enter Tryz.func35, Tryz.ntmps35
  go_wp2
  go_loopw [5] (fun i wr => ∃ k : Nat, k ≤ ss.length ∧ i = .int .i64 k ∧ Below w.heap.size w wr) (fun i _ => ss.length - (intOf i).toNat)
  case atStart => exact ⟨0, Nat.zero_le _, rfl, Below.refl _ _⟩
  case round =>
    obtain ⟨k, hk, rfl, hbel⟩ := hrel
    by_cases hlt : k < ss.length
    · obtain ⟨b, o, rfl, hb, c0⟩ := Strs.at HC.out hlt
      obtain ⟨b', o', rfl, hb', d0⟩ := Strs.at HC'.out hlt
      rw [← hbel.cell (p := ⟨b, _, none⟩) hb] at c0
      rw [← hbel.cell (p := ⟨b', _, none⟩) hb'] at d0
      unfold StrW.encS at c0 d0
      generalize (⟨(ss.getD k []).toArray⟩ : ByteArray) = v at c0 d0
      have HB := hid hbel
      clear HC HC' hbel
      go_wp2
      go_region
      go_wp2
      refine ⟨⟨k + 1, by omega, by go_num, HB.out.drew⟩, by simp [intOf]; omega⟩
    · go_wp2
      go_ret
      exact ⟨rfl, hbel⟩
end Go.Proofs.YtecopedjjfimoaaGreatDoor.LwX
/- ExprFields of the program. -/
namespace Go.Proofs.YtecopedjjfimoaaGreatDoor.FldI
open Go.RowKit Go.Sort
open StrW FldM FldS
open PrtW (Parts Pt pt0)
open PrtM (rightB)
open PrtI (EnvS)

/-- each part of a right expression is right -/
theorem all_parts : ∀ d (l r : List Pt), PrtM.behind d l = some r → ∃ q, l = q ++ r ∧ ∀ p ∈ q, PrtM.partB p = true := by
  intro d
  induction d with
  | zero => intro l r h; cases h
  | succ d ih =>
    intro l r h
    cases l with
    | nil => cases h
    | cons p q =>
      obtain ⟨hp, hc⟩ := TexM.behind_cases h
      rcases hc with ⟨h0, rfl⟩ | ⟨h0, hb⟩ | ⟨h0, r1, hb1, hb2⟩
      · exact ⟨[p], rfl, fun x hx => by simp at hx; subst hx; exact hp⟩
      · obtain ⟨q1, rfl, h1⟩ := ih _ _ hb
        exact ⟨p :: q1, rfl, fun x hx => by
          rcases List.mem_cons.1 hx with rfl | h
          · exact hp
          · exact h1 x h⟩
      · obtain ⟨q1, rfl, h1⟩ := ih _ _ hb1
        obtain ⟨q2, rfl, h2⟩ := ih _ _ hb2
        refine ⟨p :: (q1 ++ q2), by simp, fun x hx => ?_⟩
        rcases List.mem_cons.1 hx with rfl | h
        · exact hp
        · rcases List.mem_append.1 h with h | h
          · exact h1 x h
          · exact h2 x h
theorem right_all {ps : List Pt} (h : rightB ps = true) : ∀ k, k < ps.length → PrtM.partB (ps.getD k pt0) = true := by
  intro k hk
  obtain ⟨q, e, hq⟩ := all_parts _ _ _ (TexM.right_behind h).2
  rw [List.append_nil] at e
  subst e
  apply hq
  rw [List.getD_eq_getElem?_getD, List.getElem?_eq_getElem hk]
  exact List.getElem_mem hk
/-- what has a name is what the table says -/
theorem named_iff (k : Nat) (n : Int) (t : ByteArray) (h1 : 1 ≤ k) (h2 : k ≤ 13) (h : PrtM.partB ((k : Int), n, t) = true) : PrtI.namedF k = !(nameL ((k : Int), n, t)).isEmpty := by
  rw [PrtI.tab_part k n t h1 h2] at h
  unfold PrtI.tabB at h
  have h3 := (Bool.and_eq_true_iff.1 h).1
  cases hk : PrtI.namedF k
  · rw [hk, if_neg (by decide)] at h3
    unfold PrtM.emptyB at h3
    rw [BytM.toList_eq] at h3
    show false = !t.data.toList.isEmpty
    rw [h3]; rfl
  · rw [hk, if_pos rfl] at h3
    unfold NameW.nameB at h3
    rw [decide_eq_true_iff] at h3
    show true = !t.data.toList.isEmpty
    have : t.data.toList ≠ [] := fun e => by
      have hs : t.size = t.data.toList.length := (Array.length_toList).symm
      have hz : t.size = 0 := by rw [hs, e]; rfl
      omega
    cases he : t.data.toList with
    | nil => exact absurd he this
    | cons => rfl
theorem own_below {w w' : World} {base : Nat} {v : Value} {n : Nat} {xs : List Value} (h : w.ownsRow base 9 1 v n xs) (hB : Below w.heap.size w w') : w'.ownsRow base 9 1 v n xs := by
  obtain ⟨h1, h2⟩ := h
  refine ⟨h1, ?_⟩
  rcases h2 with h2 | ⟨g, cap, cur, hv, hb, hg, r⟩
  · exact .inl h2
  · exact .inr ⟨g, cap, cur, hv, hb, by rw [hB.block g (Array.getElem?_eq_some_iff.1 hg).1]; exact hg, r⟩
theorem names_snoc (l : List Pt) (p : Pt) : namesL (l ++ [p]) = if (nameL p).isEmpty = true then namesL l else namesL l ++ [nameL p] := by
  unfold namesL
  rw [List.map_append, List.filter_append]
  cases h : (nameL p).isEmpty <;> simp [h]
theorem names_len (l : List Pt) : (namesL l).length ≤ l.length := by
  unfold namesL
  exact Nat.le_trans (List.length_filter_le _ _) (by simp)

set_option maxRecDepth 10000 in
set_option maxHeartbeats 1600000 in
theorem impl_fields (a : Option Addr) (cap : Nat) (ps : List Pt) (w : World) (hP : Parts w a ps) (hcap : ps.length ≤ cap) (hE : EnvS w) :
    Calls Tryz.prog 36 #[.slice a ps.length cap] w fun e w' => (∃ v, e = .returned v ∧ w'.ownsRow w.heap.size 9 1 v (fieldsL ps).length (strs (fieldsL ps))) ∧ Below w.heap.size w w' := by
  have HP := hid hP
  have HE := hid hE
  have hl := hP.1
  clear hP hE
  obtain ⟨i0, hi0, hz0, hz1, hz2⟩ := info_parts Tryz.infoS
  unfold fieldsL
  obtain ⟨r, hr⟩ : ∃ r, Hid (rightB ps = r) := ⟨_, rfl⟩
  rw [hr.out]
  cases r
  · rw [if_neg (by decide)]
    go_enter Tryz.func36, Tryz.ntmps36
    go_wp2_with fail
    refine (PrtI.impl_right a cap ps w HP.out hcap HE.out).mono ?_
    rintro e w1 ⟨rfl, hB⟩
    rw [hr.out]
    have HB := hid hB
    clear hB
    go_wp2_with fail
    go_ret
    exact ⟨⟨_, rfl, ⟨rfl, .inl ⟨rfl, rfl⟩⟩⟩, HB.out⟩
  · rw [if_pos rfl]
    have h20 := (TexM.right_behind hr.out).1
    have HALL := hid (right_all hr.out)
    obtain ⟨F, hF⟩ : ∃ F, Hid (fold ps = F) := ⟨_, rfl⟩
    rw [hF.out]
    go_enter Tryz.func36, Tryz.ntmps36
    go_wp2_with fail
    refine (PrtI.impl_right a cap ps w HP.out hcap HE.out).mono ?_
    rintro e w1 ⟨rfl, hB⟩
    rw [hr.out]
    have HB := hid hB
    have HP1 := hid (HP.out.on hB)
    have HE1 := hid (HE.out.on hB)
    clear hB
    go_wp2_with fail
    go_loopw [3, 11] (fun u i wr => ∃ k : Nat, k ≤ ps.length ∧ i = .int .i64 k ∧ wr.ownsRow w.heap.size 9 1 u (namesL (ps.take k)).length (strs (namesL (ps.take k))) ∧ Below w.heap.size w wr) (fun _ i _ => ps.length - (intOf i).toNat)
    case atStart => exact ⟨0, Nat.zero_le _, rfl, ⟨rfl, .inl ⟨rfl, rfl⟩⟩, HB.out⟩
    case round =>
      obtain ⟨k, hk, rfl, hown, hbel⟩ := hrel
      by_cases hlt : k < ps.length
      · obtain ⟨b, o, x, n, t, rfl, hb, hg, hf, c0, c1, c2⟩ := PrtS.parts_at HP.out hlt
        have hpb := HALL.out k hlt
        rw [hg] at hpb
        have hsz := TexM.part_size hpb
        have hin := PrtI.part_in hpb
        obtain ⟨j, rfl⟩ : ∃ j : Nat, x = j := ⟨x.toNat, by omega⟩
        have hj14 : j < 14 := by omega
        have hj14' : (j : Int) < 14 := by omega
        have hnm := named_iff j n t (by omega) (by omega) hpb
        have hsn := take_snoc ps k hlt
        rw [hg] at hsn
        have hfo := names_snoc (ps.take k) ((j : Int), n, t)
        rw [← hsn] at hfo
        have hnl := names_len (ps.take k)
        have hnl2 : (namesL (ps.take k)).length ≤ 20 := by rw [List.length_take] at hnl; omega
        rw [← hbel.cell (p := ⟨b, _, none⟩) hb] at c0 c1 c2
        obtain ⟨-, -, -, e3, -⟩ := (HE.out.on hbel).2 j hj14
        have hg0 := (HE.out.on hbel).1
        obtain ⟨nm, hnm2⟩ : ∃ nm, PrtI.namedF j = nm := ⟨_, rfl⟩
        rw [hnm2] at e3 hnm
        have HNM := hid hnm
        have HFO := hid hfo
        clear hnm hnm2 hfo hsn hg hf hpb hnl
        generalize hN : namesL (List.take k ps) = N at *
        have HN := hid hN
        clear hN
        have hszw := hbel.size
        cases nm
        · have he : (nameL ((j : Int), n, t)).isEmpty = true := by have := HNM.out; cases h : (nameL ((j : Int), n, t)).isEmpty <;> rw [h] at this <;> first | rfl | cases this
          rw [he, if_pos rfl] at HFO
          clear he HNM
          go_wp2_with fail
          refine ⟨⟨k + 1, by omega, by go_num, ?_, hbel.alloc hbel.size _⟩, by simp [intOf]; omega⟩
          rw [HFO.out]
          exact hown.alloc _
        · have he : (nameL ((j : Int), n, t)).isEmpty = false := by have := HNM.out; cases h : (nameL ((j : Int), n, t)).isEmpty <;> rw [h] at this <;> first | rfl | cases this
          rw [he, if_neg (by decide)] at HFO
          clear he HNM
          go_wp2_with fail
          refine (TexI.laid_1 t (wr.alloc (.cells #[.int .i64 j, .int .i64 n, .string t] 99)) (wr.heap.size + 1) (by simp) (by omega)).mono ?_
          rintro e w2 ⟨rfl, hB2⟩
          rw [StrW.mk_data]
          have hB2' : Below wr.heap.size wr w2 := (below_one wr _).trans (hB2.mono (by simp))
          have hbel2 : Below w.heap.size w w2 := hbel.trans (hB2'.mono hbel.size)
          have hown2 : w2.ownsRow w.heap.size 9 1 _ N.length (strs N) := own_below hown hB2'
          clear hown hB2 hB2' c0 c1 c2 e3 hbel hg0 hszw
          have hszw := hbel2.size
          go_wp2_with (first | (at_builtin; refine wpList_append_own _ rfl _ _ 48 rfl w.heap.size 9 i0 (.string ByteArray.empty) 1 16 Tryz.underlying48 hi0 hz0 hz1 hz2 rfl (by decide) _ N.length (strs N) rfl (hown2.alloc _) ⟨w2.heap.size, 0, none⟩ 1 1 [.string t] rfl rfl ?y2 ?y3 ?y4 ?y5 ?y6 ?_))
          case y2 =>
            intro j u hj
            match j, hj with
            | 0, hj => simp at hj; subst hj; simp [Addr.add]
          case y3 => intro u hu; simp at hu; subst hu; rfl
          case y4 => unfold maxLen; omega
          case y5 => omega
          case y6 => simp; omega
          intro v3 w3 hown3 hgrow3 _
          have hbel3 : Below w.heap.size w w3 := (hbel2.alloc hbel2.size (Obj.cells #[Value.string t] 9)).grown hgrow3 (by simp; omega) (fun g hg => (hown2.lt g hg).1)
          have hown3' : w3.ownsRow w.heap.size 9 1 v3 (N ++ [nameL ((j : Int), n, t)]).length (strs (N ++ [nameL ((j : Int), n, t)])) := by
            rw [strs_append, show strs [nameL ((j : Int), n, t)] = [.string t] by unfold strs nameL; rw [List.map_singleton, enc_data]]
            simpa using hown3
          clear hown2 hown3 hgrow3 hbel2
          go_wp2_with fail
          refine ⟨⟨k + 1, by omega, by go_num, ?_, hbel3⟩, by simp [intOf]; omega⟩
          rw [HFO.out]
          exact hown3'
      · obtain rfl : k = ps.length := by omega
        rw [List.take_length] at hown
        have hFc : Hid (F = Lib.compact ((namesL ps).mergeSort fun x y => decide (x ≤ y))) := by
          show _ = _
          rw [← hF.out, ← fold_eq]; rfl
        have hnl := names_len ps
        generalize hN : namesL ps = N at *
        clear hN
        by_cases hn0 : N = []
        · subst hn0
          have hF0 : F = [] := by rw [hFc.out, List.mergeSort_nil]; rfl
          subst hF0
          obtain ⟨a3, c3, hv, _, _, _⟩ := strs_own hown (by simp)
          obtain rfl := hv
          go_wp2_with fail
          refine (Tryz.slices_Sort_string_none a3 c3 wr).mono ?_
          rintro e w4 ⟨rfl, rfl⟩
          go_wp2_with fail
          refine (Tryz.slices_Compact_string_empty a3 c3 w4).mono ?_
          rintro e w5 ⟨rfl, rfl⟩
          go_wp2_with fail
          go_ret
          exact ⟨⟨_, rfl, hown⟩, hbel⟩
        · have hpos : 0 < N.length := List.length_pos_iff.2 hn0
          have hown' : wr.ownsRow w.heap.size 9 1 u3 N.length (N.map encStr) := hown
          obtain ⟨g, cap3, rfl, hbg, hgl, hnc, hcm, -, hH⟩ := Lib.holds_of_ownsRow hown' (fun h => by
            rcases hown.2 with ⟨_, h0⟩ | ⟨g, c, cu, h0, _⟩
            · omega
            · rw [h] at h0; cases h0)
          have HOWN := hid hown'
          have HH := hid hH
          have HBL := hid hbel
          clear hown hown' hH hbel hn0
          go_wp2_with fail
          refine (Tryz.slices_Sort_string g 0 cap3 N wr HH.out hgl (by omega)).mono ?_
          rintro e w4 ⟨rfl, nn, os, hw4⟩
          obtain ⟨Q, hQ⟩ : ∃ Q, Hid ((N.mergeSort fun x y => decide (x ≤ y)) = Q) := ⟨_, rfl⟩
          have hQl : Hid (Q.length = N.length) := by show _ = _; rw [← hQ.out]; exact List.length_mergeSort N
          rw [hQ.out] at hw4 hFc
          have hown4 : w4.ownsRow w.heap.size 9 1 (.slice (some ⟨g, 0, none⟩) N.length cap3) N.length (Q.map encStr) := by
            rcases HOWN.out.2 with ⟨h0, _⟩ | ⟨g', cap', cur, hv, hbase, hb, h1, h2, h3, h4⟩
            · cases h0
            · cases hv
              rw [hw4]
              exact ownsRow_sorted hQl.out hbase hb h1 h2 h3
          have hbel4 : Below w.heap.size w w4 := by rw [hw4]; exact HBL.out.grown (grownBy_sorted _) HBL.out.size (fun j hj => by cases hj; exact hbg)
          have HOWN4 := hid hown4
          have HBL4 := hid hbel4
          clear hw4 hown4 hbel4
          obtain ⟨g4, cap4, hv4, -, hgl4, -, -, -, hH4⟩ := Lib.holds_of_ownsRow HOWN4.out (fun h => by cases h)
          cases hv4
          have HH4 := hid hH4
          have hlen : ∀ m, m = Q.length → m = N.length := fun m h => by rw [h, hQl.out]
          clear hH4
          go_wp2_with fail
          have hcomp := Tryz.slices_Compact_string g 0 cap3 Q w4 HH4.out (by have := hQl.out; omega) (by have := hQl.out; omega)
          rw [hQl.out] at hcomp
          refine hcomp.mono ?_
          clear hcomp
          rintro e w5 ⟨rfl, q, hw5⟩
          have hle := Lib.compact_length_le Q
          have hown5 : w5.ownsRow w.heap.size 9 1 (.slice (some ⟨g, 0, none⟩) F.length cap3) F.length (strs F) := by
            have hc := Lib.ownsRow_putRow (q := q) (k := (Lib.compact Q).length) (ys := Lib.compact Q ++ List.replicate (N.length - (Lib.compact Q).length) []) HOWN4.out (by have := hQl.out; simp; omega) (by have := hQl.out; omega)
            rw [List.take_left] at hc
            rw [hw5, hFc.out]
            exact hc
          have hbel5 : Below w.heap.size w w5 := by rw [hw5]; exact Lib.below_putRow HBL4.out hbg
          rw [← hFc.out]
          have HOWN5 := hid hown5
          have HBL5 := hid hbel5
          clear hw5 hown5 hbel5 hle hlen
          go_wp2_with fail
          go_ret
          exact ⟨⟨_, rfl, HOWN5.out⟩, HBL5.out⟩
end Go.Proofs.YtecopedjjfimoaaGreatDoor.FldI
/- The walk of FnExpr. -/
namespace Go.Proofs.YtecopedjjfimoaaGreatDoor.DrawX
open Go.RowKit
open DrawW StrW
open PrtW (Pt pt0 Fit cellsP Parts)
open PrtM (rightB truthB)
open TexM (textB txt)
open ErpI (Own EnvE)
open ErdS (Reads oe)
open FldS (fieldsL)

@[go_sem] theorem out_expr (a : Option Addr) (len cap : Nat) (c : Int) (w : World) : (Instr.field 44 (.agg #[.slice a len cap, .int .i64 c]) 0).run Tryz.prog w = .ok (.slice a len cap) w := by kernel_rfl
@[go_sem] theorem out_ecode (a : Option Addr) (len cap : Nat) (c : Int) (w : World) : (Instr.field 44 (.agg #[.slice a len cap, .int .i64 c]) 1).run Tryz.prog w = .ok (.int .i64 c) w := by kernel_rfl
theorem fields_len' (ps : List Pt) (h : ps.length ≤ 1048576) : (fieldsL ps).length ≤ 1048576 := by
  unfold fieldsL
  have := FldS.fold_len ps
  split
  · omega
  · simp
theorem right_of_text {ps : List Pt} (h : (textB ps).toList.isEmpty = false) : rightB ps = true := by
  cases hr : rightB ps with
  | true => rfl
  | false =>
    rw [show textB ps = ByteArray.empty by unfold textB; rw [if_neg (by rw [hr]; decide)]] at h
    exact absurd h (by rw [BytM.toList_eq]; decide)

set_option maxRecDepth 100000 in
set_option maxHeartbeats 8000000 in
theorem law_expr (w : World) (a b : Option Addr) (la ca lb cb : Nat) (hA : CodeAt w w.heap.size a la) (hB : CodeAt w w.heap.size b lb) (hE : EnvE w) :
    Calls Tryz.prog 4 #[.slice a la ca, .slice b lb cb] w fun e w' => e = .returned (.bool true) ∧ Below w.heap.size w w' := by
  have HA := hid hA
  have HBC := hid hB
  have HE := hid hE
  have hla := hA.1
  have hlb := hB.1
  clear hA hB hE
  go_enter Tryz.func4, Tryz.ntmps4
  go_wp2_with fail
  refine (drawExpr_any w a la ca HA.out).mono ?_
  rintro e w1 ⟨v1, ps, rfl, hO1, hpl, hB1⟩
  have HB1 := hid hB1
  obtain ⟨xa, xc, rfl, hP1, hxc, -⟩ := hO1.parts
  have HP1 := hid hP1
  clear hO1 hB1 hP1
  obtain ⟨t, ht⟩ : ∃ t, Hid (textB ps = t) := ⟨_, rfl⟩
  have hts := textB_small ps
  rw [ht.out] at hts
  go_wp2_with fail
  refine (TexI.impl_text xa xc ps w1 HP1.out hxc ⟨(HE.out.on HB1.out).2, (HE.out.on HB1.out).dec⟩).mono ?_
  rw [ht.out]
  rintro e w2 ⟨rfl, hB2⟩
  have HP2 := hid (HP1.out.on hB2)
  have HB2 : Hid (Below w.heap.size w w2) := HB1.out.trans (hB2.mono HB1.out.size)
  clear hB2 HP1 HB1
  go_wp2_with fail
  refine (drawERead_any w2 b lb cb (code_more HBC.out HB2.out.size fun k hk => HB2.out.block k hk)).mono ?_
  rintro e w3 ⟨u, rfl, hus, hB3⟩
  have HP3 := hid (HP2.out.on hB3)
  have HB3 : Hid (Below w.heap.size w w3) := HB2.out.trans (hB3.mono HB2.out.size)
  clear hB3 HP2 HB2
  go_wp2_with fail
  refine (ErpI.impl_read u w3 (by unfold maxLen; omega) (HE.out.on HB3.out)).mono ?_
  rintro e w4 ⟨ys, ya, yc, cy, rfl, hB4, hO4, hR4⟩
  have HR := hid hR4
  obtain ⟨aq, capq, eq4, hQ4, hyc, -⟩ := hO4.parts
  cases eq4
  obtain ⟨W, hW⟩ : ∃ W, w4.alloc (.cells #[.slice ya ys.length yc, .int .i64 cy] 44) = W := ⟨_, rfl⟩
  have hB4' : Below w3.heap.size w3 W := by rw [← hW]; exact hB4.alloc hB4.size _
  have HP : Hid (Parts W xa ps) := HP3.out.on hB4'
  have HQ : Hid (Parts W ya ys) := by rw [← hW]; exact hQ4.alloc _
  have HBW : Hid (Below w.heap.size w W) := HB3.out.trans (hB4'.mono HB3.out.size)
  have HEW := hid (HE.out.on HBW.out)
  have k0 : W.cell? ⟨w4.heap.size, 0, none⟩ = some (.slice ya ys.length yc) := by rw [← hW]; simp
  have k1 : W.cell? ⟨w4.heap.size, 1, none⟩ = some (.int .i64 cy) := by rw [← hW]; simp
  have hYl : w4.heap.size < W.heap.size := by rw [← hW]; simp
  obtain ⟨Y, hY⟩ : ∃ Y, w4.heap.size = Y := ⟨_, rfl⟩
  obtain ⟨r, hr⟩ : ∃ r, Hid (rightB ps = r) := ⟨_, rfl⟩
  obtain ⟨th, hth⟩ : ∃ r, Hid (truthB ps = r) := ⟨_, rfl⟩
  obtain ⟨F, hF⟩ : ∃ F, Hid (fieldsL ps = F) := ⟨_, rfl⟩
  have hfl := fields_len' ps (by omega)
  rw [hF.out] at hfl
  have HTE : Hid (t.toList.isEmpty = false → Reads t ps 0) := fun h => .inr (.inl ⟨by omega, right_of_text (by rw [ht.out]; exact h), ht.out.symm, rfl⟩)
  have HYU : Hid (cy = 0 → textB ys = u) := fun h => by
    rcases HR.out with ⟨_, _, e⟩ | ⟨_, _, e, _⟩ | ⟨_, _, e, _⟩
    · rw [h] at e; cases e
    · exact e.symm
    · rw [h] at e; cases e
  clear hB4 hO4 hR4 hQ4 hB4' HP3 HB3 HA HBC HE
  go_wp2_with fail
  rw [hY] at k0 k1 hYl
  clear hW hY
  have hB0 : Below W.heap.size W W.drew := (Below.refl _ _).drew
  cases q0 : t.toList.isEmpty
  · have q1 : (t.toList == []) = false := by rw [← q0]; cases t.toList <;> rfl
    have HTR := hid (HTE.out q0)
    by_cases hcy : cy = 0
    · have HYT := hid (HYU.out hcy)
      have q3 : (cy == 0) = true := by simp [hcy]
      refine wp_region_held_drew (S := (fun w' => Below W.heap.size W w' ∧ w'.cell? ⟨Y, 0, none⟩ = some (.slice ya ys.length yc) ∧ w'.cell? ⟨Y, 1, none⟩ = some (.int .i64 cy))) (by kernel_rfl) ?_ (fun hHeld => ?_)
      · (try dsimp only) <;> (first | exact ⟨hBn, (hBn.cell (p := ⟨Y, 0, none⟩) hYl).trans k0, (hBn.cell (p := ⟨Y, 1, none⟩) hYl).trans k1⟩ | exact ⟨hB0, k0, k1⟩)
      refine wpAnyH_take (i := 0) (oi := { dst := some 25, op := Go.Op.move (Go.Operand.tmp 6), type := 9, pos := "laws.go:199", after := #[], guard := none }) (v := ?_) rfl (by kernel_rfl) (by kernel_rfl) (by kernel_rfl) (fun _ _ _ h => h) (Or.inl ⟨by rfl, ?yld233⟩) hHeld ?nxt233
      case yld233 => (intro w hSw; (try dsimp only at hSw); go_simp) <;> with_reducible rfl
      (try simp only [Act.put, List.setIfInBounds_toArray, List.set_cons_zero, List.set_cons_succ])
      refine wpAnyH_take (i := 1) (oi := { dst := some 26, op := Go.Op.move (Go.Operand.tmp 5), type := 40, pos := "laws.go:199", after := #[], guard := none }) (v := ?_) rfl (by kernel_rfl) (by kernel_rfl) (by kernel_rfl) (fun _ _ _ h => h) (Or.inl ⟨by rfl, ?yld234⟩) hHeld ?nxt234
      case yld234 => (intro w hSw; (try dsimp only at hSw); go_simp) <;> with_reducible rfl
      (try simp only [Act.put, List.setIfInBounds_toArray, List.set_cons_zero, List.set_cons_succ])
      refine wpAnyH_ready (rs := [2]) (by kernel_rfl) (by simp) ?_
      refine AllReadyH.cons (o := { dst := some 27, op := Go.Op.call { callee := Go.Callee.value (Go.Operand.func 30), args := #[Go.Operand.tmp 26], argTypes := #[40] }, type := 9, pos := "laws.go:199", after := #[{ on := 1, ground := Go.Ground.data }], guard := none }) rfl (fun K hK => ?_) AllReadyH.nil
      go_simp
      go_at_call 30
      have hp := hHeld.1
      refine (TexS.spec_text xa xc ps _ (HP.out.on hp)).mono ?_
      rintro e w' ⟨rfl, hB⟩
      rw [ht.out]
      have hBn := hp.trans (hB.mono hp.size)
      clear hp hB
      (try go_wp2_with fail)
      refine hK.out _ _ ?_ (fun hHeld2 => ?_)
      · (try dsimp only) <;> (first | exact ⟨hBn, (hBn.cell (p := ⟨Y, 0, none⟩) hYl).trans k0, (hBn.cell (p := ⟨Y, 1, none⟩) hYl).trans k1⟩ | exact ⟨hB0, k0, k1⟩)
      clear hK K hHeld
      have hHeld := hHeld2
      clear hHeld2
      (try simp only [Act.put, List.setIfInBounds_toArray, List.set_cons_zero, List.set_cons_succ])
      refine wpAnyH_take (i := 3) (oi := { dst := some 28, op := Go.Op.binOp Go.BinOp.eql 9 (Go.Operand.tmp 25) (Go.Operand.tmp 27) 9, type := 4, pos := "laws.go:199", after := #[{ on := 0, ground := Go.Ground.data }, { on := 2, ground := Go.Ground.data }], guard := none }) (v := ?_) rfl (by kernel_rfl) (by kernel_rfl) (by kernel_rfl) (fun _ _ _ h => h) (Or.inl ⟨by rfl, ?yld235⟩) hHeld ?nxt235
      case yld235 => (intro w hSw; (try dsimp only at hSw); go_simp) <;> with_reducible rfl
      (try simp only [Act.put, List.setIfInBounds_toArray, List.set_cons_zero, List.set_cons_succ])
      refine wpAnyH_take (i := 4) (oi := { dst := some 29, op := Go.Op.move (Go.Operand.tmp 28), type := 4, pos := "laws.go:199", after := #[{ on := 3, ground := Go.Ground.data }, { on := 2, ground := Go.Ground.chain }], guard := none }) (v := ?_) rfl (by kernel_rfl) (by kernel_rfl) (by kernel_rfl) (fun _ _ _ h => h) (Or.inl ⟨by rfl, ?yld236⟩) hHeld ?nxt236
      case yld236 => (intro w hSw; (try dsimp only at hSw); go_simp) <;> with_reducible rfl
      (try simp only [Act.put, List.setIfInBounds_toArray, List.set_cons_zero, List.set_cons_succ])
      refine wpAnyH_take (i := 5) (oi := { dst := some 30, op := Go.Op.move (Go.Operand.tmp 5), type := 40, pos := "laws.go:199", after := #[{ on := 4, ground := Go.Ground.guard }], guard := some (4, true) }) (v := ?_) rfl (by kernel_rfl) (by kernel_rfl) (by kernel_rfl) (fun _ _ _ h => h) (Or.inl ⟨by rfl, ?yld237⟩) hHeld ?nxt237
      case yld237 => (intro w hSw; (try dsimp only at hSw); go_simp) <;> with_reducible rfl
      (try simp only [Act.put, List.setIfInBounds_toArray, List.set_cons_zero, List.set_cons_succ])
      refine wpAnyH_take (i := 7) (oi := { dst := some 32, op := Go.Op.move (Go.Operand.tmp 5), type := 40, pos := "laws.go:199", after := #[{ on := 4, ground := Go.Ground.guard }], guard := some (4, true) }) (v := ?_) rfl (by kernel_rfl) (by kernel_rfl) (by kernel_rfl) (fun _ _ _ h => h) (Or.inl ⟨by rfl, ?yld238⟩) hHeld ?nxt238
      case yld238 => (intro w hSw; (try dsimp only at hSw); go_simp) <;> with_reducible rfl
      (try simp only [Act.put, List.setIfInBounds_toArray, List.set_cons_zero, List.set_cons_succ])
      refine wpAnyH_ready (rs := [6]) (by kernel_rfl) (by simp) ?_
      refine AllReadyH.cons (o := { dst := some 31, op := Go.Op.call { callee := Go.Callee.value (Go.Operand.func 31), args := #[Go.Operand.tmp 30], argTypes := #[40] }, type := 4, pos := "laws.go:199", after := #[{ on := 5, ground := Go.Ground.data }, { on := 4, ground := Go.Ground.chain }, { on := 4, ground := Go.Ground.guard }], guard := some (4, true) }) rfl (fun K hK => ?_) AllReadyH.nil
      go_simp
      go_at_call 31
      have hp := hHeld.1
      refine (PrtI.impl_right xa xc ps _ (HP.out.on hp) hxc (HEW.out.on hp).2).mono ?_
      rintro e w' ⟨rfl, hB⟩
      rw [hr.out]
      have hBn := hp.trans (hB.mono hp.size)
      clear hp hB
      (try go_wp2_with fail)
      refine hK.out _ _ ?_ (fun hHeld2 => ?_)
      · (try dsimp only) <;> (first | exact ⟨hBn, (hBn.cell (p := ⟨Y, 0, none⟩) hYl).trans k0, (hBn.cell (p := ⟨Y, 1, none⟩) hYl).trans k1⟩ | exact ⟨hB0, k0, k1⟩)
      clear hK K hHeld
      have hHeld := hHeld2
      clear hHeld2
      (try simp only [Act.put, List.setIfInBounds_toArray, List.set_cons_zero, List.set_cons_succ])
      refine wpAnyH_ready (rs := [8]) (by kernel_rfl) (by simp) ?_
      refine AllReadyH.cons (o := { dst := some 33, op := Go.Op.call { callee := Go.Callee.value (Go.Operand.func 32), args := #[Go.Operand.tmp 32], argTypes := #[40] }, type := 4, pos := "laws.go:199", after := #[{ on := 7, ground := Go.Ground.data }, { on := 6, ground := Go.Ground.chain }, { on := 4, ground := Go.Ground.guard }], guard := some (4, true) }) rfl (fun K hK => ?_) AllReadyH.nil
      go_simp
      go_at_call 32
      have hp := hHeld.1
      refine (PrtS.spec_right xa xc ps _ (HP.out.on hp)).mono ?_
      rintro e w' ⟨rfl, hB⟩
      rw [hr.out]
      have hBn := hp.trans (hB.mono hp.size)
      clear hp hB
      (try go_wp2_with fail)
      refine hK.out _ _ ?_ (fun hHeld2 => ?_)
      · (try dsimp only) <;> (first | exact ⟨hBn, (hBn.cell (p := ⟨Y, 0, none⟩) hYl).trans k0, (hBn.cell (p := ⟨Y, 1, none⟩) hYl).trans k1⟩ | exact ⟨hB0, k0, k1⟩)
      clear hK K hHeld
      have hHeld := hHeld2
      clear hHeld2
      (try simp only [Act.put, List.setIfInBounds_toArray, List.set_cons_zero, List.set_cons_succ])
      refine wpAnyH_take (i := 9) (oi := { dst := some 34, op := Go.Op.binOp Go.BinOp.eql 4 (Go.Operand.tmp 31) (Go.Operand.tmp 33) 4, type := 4, pos := "laws.go:199", after := #[{ on := 6, ground := Go.Ground.data }, { on := 8, ground := Go.Ground.data }, { on := 4, ground := Go.Ground.guard }], guard := some (4, true) }) (v := ?_) rfl (by kernel_rfl) (by kernel_rfl) (by kernel_rfl) (fun _ _ _ h => h) (Or.inl ⟨by rfl, ?yld239⟩) hHeld ?nxt239
      case yld239 => (intro w hSw; (try dsimp only at hSw); go_simp) <;> with_reducible rfl
      (try simp only [Act.put, List.setIfInBounds_toArray, List.set_cons_zero, List.set_cons_succ])
      refine wpAnyH_take (i := 10) (oi := { dst := some 35, op := Go.Op.pick (Go.Operand.tmp 29) (Go.Operand.tmp 34) (Go.Operand.const (Go.Value.bool false)), type := 4, pos := "laws.go:199", after := #[{ on := 4, ground := Go.Ground.data }, { on := 9, ground := Go.Ground.data }], guard := none }) (v := ?_) rfl (by kernel_rfl) (by kernel_rfl) (by kernel_rfl) (fun _ _ _ h => h) (Or.inl ⟨by rfl, ?yld240⟩) hHeld ?nxt240
      case yld240 => (intro w hSw; (try dsimp only at hSw); go_simp) <;> with_reducible rfl
      (try simp only [Act.put, List.setIfInBounds_toArray, List.set_cons_zero, List.set_cons_succ])
      refine wpAnyH_take (i := 11) (oi := { dst := some 36, op := Go.Op.move (Go.Operand.tmp 35), type := 4, pos := "laws.go:199", after := #[{ on := 10, ground := Go.Ground.data }, { on := 8, ground := Go.Ground.chain }], guard := none }) (v := ?_) rfl (by kernel_rfl) (by kernel_rfl) (by kernel_rfl) (fun _ _ _ h => h) (Or.inl ⟨by rfl, ?yld241⟩) hHeld ?nxt241
      case yld241 => (intro w hSw; (try dsimp only at hSw); go_simp) <;> with_reducible rfl
      (try simp only [Act.put, List.setIfInBounds_toArray, List.set_cons_zero, List.set_cons_succ])
      refine wpAnyH_take (i := 12) (oi := { dst := some 37, op := Go.Op.move (Go.Operand.tmp 5), type := 40, pos := "laws.go:199", after := #[{ on := 11, ground := Go.Ground.guard }], guard := some (11, true) }) (v := ?_) rfl (by kernel_rfl) (by kernel_rfl) (by kernel_rfl) (fun _ _ _ h => h) (Or.inl ⟨by rfl, ?yld242⟩) hHeld ?nxt242
      case yld242 => (intro w hSw; (try dsimp only at hSw); go_simp) <;> with_reducible rfl
      (try simp only [Act.put, List.setIfInBounds_toArray, List.set_cons_zero, List.set_cons_succ])
      refine wpAnyH_take (i := 14) (oi := { dst := some 39, op := Go.Op.move (Go.Operand.tmp 5), type := 40, pos := "laws.go:199", after := #[{ on := 11, ground := Go.Ground.guard }], guard := some (11, true) }) (v := ?_) rfl (by kernel_rfl) (by kernel_rfl) (by kernel_rfl) (fun _ _ _ h => h) (Or.inl ⟨by rfl, ?yld243⟩) hHeld ?nxt243
      case yld243 => (intro w hSw; (try dsimp only at hSw); go_simp) <;> with_reducible rfl
      (try simp only [Act.put, List.setIfInBounds_toArray, List.set_cons_zero, List.set_cons_succ])
      refine wpAnyH_ready (rs := [13]) (by kernel_rfl) (by simp) ?_
      refine AllReadyH.cons (o := { dst := some 38, op := Go.Op.call { callee := Go.Callee.value (Go.Operand.func 33), args := #[Go.Operand.tmp 37], argTypes := #[40] }, type := 4, pos := "laws.go:199", after := #[{ on := 12, ground := Go.Ground.data }, { on := 11, ground := Go.Ground.chain }, { on := 11, ground := Go.Ground.guard }], guard := some (11, true) }) rfl (fun K hK => ?_) AllReadyH.nil
      go_simp
      go_at_call 33
      have hp := hHeld.1
      refine (PrtI.impl_truth xa xc ps _ (HP.out.on hp) hxc (HEW.out.on hp).2).mono ?_
      rintro e w' ⟨rfl, hB⟩
      rw [hth.out]
      have hBn := hp.trans (hB.mono hp.size)
      clear hp hB
      (try go_wp2_with fail)
      refine hK.out _ _ ?_ (fun hHeld2 => ?_)
      · (try dsimp only) <;> (first | exact ⟨hBn, (hBn.cell (p := ⟨Y, 0, none⟩) hYl).trans k0, (hBn.cell (p := ⟨Y, 1, none⟩) hYl).trans k1⟩ | exact ⟨hB0, k0, k1⟩)
      clear hK K hHeld
      have hHeld := hHeld2
      clear hHeld2
      (try simp only [Act.put, List.setIfInBounds_toArray, List.set_cons_zero, List.set_cons_succ])
      refine wpAnyH_ready (rs := [15]) (by kernel_rfl) (by simp) ?_
      refine AllReadyH.cons (o := { dst := some 40, op := Go.Op.call { callee := Go.Callee.value (Go.Operand.func 34), args := #[Go.Operand.tmp 39], argTypes := #[40] }, type := 4, pos := "laws.go:199", after := #[{ on := 14, ground := Go.Ground.data }, { on := 13, ground := Go.Ground.chain }, { on := 11, ground := Go.Ground.guard }], guard := some (11, true) }) rfl (fun K hK => ?_) AllReadyH.nil
      go_simp
      go_at_call 34
      have hp := hHeld.1
      refine (PrtS.spec_truth xa xc ps _ (HP.out.on hp)).mono ?_
      rintro e w' ⟨rfl, hB⟩
      rw [hth.out]
      have hBn := hp.trans (hB.mono hp.size)
      clear hp hB
      (try go_wp2_with fail)
      refine hK.out _ _ ?_ (fun hHeld2 => ?_)
      · (try dsimp only) <;> (first | exact ⟨hBn, (hBn.cell (p := ⟨Y, 0, none⟩) hYl).trans k0, (hBn.cell (p := ⟨Y, 1, none⟩) hYl).trans k1⟩ | exact ⟨hB0, k0, k1⟩)
      clear hK K hHeld
      have hHeld := hHeld2
      clear hHeld2
      (try simp only [Act.put, List.setIfInBounds_toArray, List.set_cons_zero, List.set_cons_succ])
      refine wpAnyH_take (i := 16) (oi := { dst := some 41, op := Go.Op.binOp Go.BinOp.eql 4 (Go.Operand.tmp 38) (Go.Operand.tmp 40) 4, type := 4, pos := "laws.go:199", after := #[{ on := 13, ground := Go.Ground.data }, { on := 15, ground := Go.Ground.data }, { on := 11, ground := Go.Ground.guard }], guard := some (11, true) }) (v := ?_) rfl (by kernel_rfl) (by kernel_rfl) (by kernel_rfl) (fun _ _ _ h => h) (Or.inl ⟨by rfl, ?yld244⟩) hHeld ?nxt244
      case yld244 => (intro w hSw; (try dsimp only at hSw); go_simp) <;> with_reducible rfl
      (try simp only [Act.put, List.setIfInBounds_toArray, List.set_cons_zero, List.set_cons_succ])
      refine wpAnyH_take (i := 17) (oi := { dst := some 42, op := Go.Op.pick (Go.Operand.tmp 36) (Go.Operand.tmp 41) (Go.Operand.const (Go.Value.bool false)), type := 4, pos := "laws.go:199", after := #[{ on := 11, ground := Go.Ground.data }, { on := 16, ground := Go.Ground.data }], guard := none }) (v := ?_) rfl (by kernel_rfl) (by kernel_rfl) (by kernel_rfl) (fun _ _ _ h => h) (Or.inl ⟨by rfl, ?yld245⟩) hHeld ?nxt245
      case yld245 => (intro w hSw; (try dsimp only at hSw); go_simp) <;> with_reducible rfl
      (try simp only [Act.put, List.setIfInBounds_toArray, List.set_cons_zero, List.set_cons_succ])
      refine wpAnyH_take (i := 18) (oi := { dst := some 43, op := Go.Op.move (Go.Operand.tmp 42), type := 4, pos := "laws.go:199", after := #[{ on := 17, ground := Go.Ground.data }, { on := 15, ground := Go.Ground.chain }], guard := none }) (v := ?_) rfl (by kernel_rfl) (by kernel_rfl) (by kernel_rfl) (fun _ _ _ h => h) (Or.inl ⟨by rfl, ?yld246⟩) hHeld ?nxt246
      case yld246 => (intro w hSw; (try dsimp only at hSw); go_simp) <;> with_reducible rfl
      (try simp only [Act.put, List.setIfInBounds_toArray, List.set_cons_zero, List.set_cons_succ])
      refine wpAnyH_take (i := 19) (oi := { dst := some 44, op := Go.Op.move (Go.Operand.tmp 5), type := 40, pos := "laws.go:199", after := #[{ on := 18, ground := Go.Ground.guard }], guard := some (18, true) }) (v := ?_) rfl (by kernel_rfl) (by kernel_rfl) (by kernel_rfl) (fun _ _ _ h => h) (Or.inl ⟨by rfl, ?yld247⟩) hHeld ?nxt247
      case yld247 => (intro w hSw; (try dsimp only at hSw); go_simp) <;> with_reducible rfl
      (try simp only [Act.put, List.setIfInBounds_toArray, List.set_cons_zero, List.set_cons_succ])
      refine wpAnyH_take (i := 21) (oi := { dst := some 46, op := Go.Op.move (Go.Operand.tmp 5), type := 40, pos := "laws.go:199", after := #[{ on := 18, ground := Go.Ground.guard }], guard := some (18, true) }) (v := ?_) rfl (by kernel_rfl) (by kernel_rfl) (by kernel_rfl) (fun _ _ _ h => h) (Or.inl ⟨by rfl, ?yld248⟩) hHeld ?nxt248
      case yld248 => (intro w hSw; (try dsimp only at hSw); go_simp) <;> with_reducible rfl
      (try simp only [Act.put, List.setIfInBounds_toArray, List.set_cons_zero, List.set_cons_succ])
      refine wpAnyH_ready (rs := [20]) (by kernel_rfl) (by simp) ?_
      refine AllReadyH.cons (o := { dst := some 45, op := Go.Op.call { callee := Go.Callee.value (Go.Operand.func 36), args := #[Go.Operand.tmp 44], argTypes := #[40] }, type := 48, pos := "laws.go:199", after := #[{ on := 19, ground := Go.Ground.data }, { on := 18, ground := Go.Ground.chain }, { on := 18, ground := Go.Ground.guard }], guard := some (18, true) }) rfl (fun K hK => ?_) AllReadyH.nil
      go_simp
      go_at_call 36
      have hp := hHeld.1
      refine (FldI.impl_fields xa xc ps _ (HP.out.on hp) hxc (HEW.out.on hp).2).mono ?_
      rw [hF.out]
      rintro e w' ⟨⟨v1, rfl, hown1⟩, hB⟩
      obtain ⟨f1, c1, hv1, hS1, -, -⟩ := StrW.strs_own hown1 hfl
      subst hv1
      have hBn := hp.trans (hB.mono hp.size)
      have HS1 := hid hS1
      clear hp hB hown1 hS1
      (try go_wp2_with fail)
      refine hK.out _ _ ?_ (fun hHeld2 => ?_)
      · (try dsimp only) <;> (first | exact ⟨hBn, (hBn.cell (p := ⟨Y, 0, none⟩) hYl).trans k0, (hBn.cell (p := ⟨Y, 1, none⟩) hYl).trans k1⟩ | exact ⟨hB0, k0, k1⟩)
      clear hK K hHeld
      have hHeld := hHeld2
      clear hHeld2
      (try simp only [Act.put, List.setIfInBounds_toArray, List.set_cons_zero, List.set_cons_succ])
      refine wpAnyH_ready (rs := [22]) (by kernel_rfl) (by simp) ?_
      refine AllReadyH.cons (o := { dst := some 47, op := Go.Op.call { callee := Go.Callee.value (Go.Operand.func 37), args := #[Go.Operand.tmp 46], argTypes := #[40] }, type := 48, pos := "laws.go:199", after := #[{ on := 21, ground := Go.Ground.data }, { on := 20, ground := Go.Ground.chain }, { on := 18, ground := Go.Ground.guard }], guard := some (18, true) }) rfl (fun K hK => ?_) AllReadyH.nil
      go_simp
      go_at_call 37
      have hp := hHeld.1
      refine (FldS.spec_fields xa xc ps _ (HP.out.on hp)).mono ?_
      rw [hF.out]
      rintro e w' ⟨⟨f2, c2, rfl, hS2⟩, hB⟩
      have hBn := hp.trans (hB.mono hp.size)
      have HS2 := hid hS2
      have HS1' := hid (HS1.out.on hB)
      clear hp hB hS2
      (try go_wp2_with fail)
      refine hK.out _ _ ?_ (fun hHeld2 => ?_)
      · (try dsimp only) <;> (first | exact ⟨hBn, (hBn.cell (p := ⟨Y, 0, none⟩) hYl).trans k0, (hBn.cell (p := ⟨Y, 1, none⟩) hYl).trans k1⟩ | exact ⟨hB0, k0, k1⟩)
      clear hK K hHeld
      have hHeld := hHeld2
      clear hHeld2
      (try simp only [Act.put, List.setIfInBounds_toArray, List.set_cons_zero, List.set_cons_succ])
      refine wpAnyH_ready (rs := [23]) (by kernel_rfl) (by simp) ?_
      refine AllReadyH.cons (o := { dst := some 48, op := Go.Op.call { callee := Go.Callee.value (Go.Operand.func 35), args := #[Go.Operand.tmp 45, Go.Operand.tmp 47], argTypes := #[48, 48] }, type := 4, pos := "laws.go:199", after := #[{ on := 20, ground := Go.Ground.data }, { on := 22, ground := Go.Ground.data }, { on := 22, ground := Go.Ground.chain }, { on := 18, ground := Go.Ground.guard }], guard := some (18, true) }) rfl (fun K hK => ?_) AllReadyH.nil
      go_simp
      go_at_call 35
      have hp := hHeld.1
      refine (LwX.lwStrs f1 f2 c1 c2 F _ HS1'.out HS2.out).mono ?_
      rintro e w' ⟨rfl, hB⟩
      have hBn := hp.trans (hB.mono hp.size)
      clear hp hB
      (try go_wp2_with fail)
      refine hK.out _ _ ?_ (fun hHeld2 => ?_)
      · (try dsimp only) <;> (first | exact ⟨hBn, (hBn.cell (p := ⟨Y, 0, none⟩) hYl).trans k0, (hBn.cell (p := ⟨Y, 1, none⟩) hYl).trans k1⟩ | exact ⟨hB0, k0, k1⟩)
      clear hK K hHeld
      have hHeld := hHeld2
      clear hHeld2
      (try simp only [Act.put, List.setIfInBounds_toArray, List.set_cons_zero, List.set_cons_succ])
      refine wpAnyH_take (i := 24) (oi := { dst := some 49, op := Go.Op.pick (Go.Operand.tmp 43) (Go.Operand.tmp 48) (Go.Operand.const (Go.Value.bool false)), type := 4, pos := "laws.go:199", after := #[{ on := 18, ground := Go.Ground.data }, { on := 23, ground := Go.Ground.data }], guard := none }) (v := ?_) rfl (by kernel_rfl) (by kernel_rfl) (by kernel_rfl) (fun _ _ _ h => h) (Or.inl ⟨by rfl, ?yld249⟩) hHeld ?nxt249
      case yld249 => (intro w hSw; (try dsimp only at hSw); go_simp) <;> with_reducible rfl
      (try simp only [Act.put, List.setIfInBounds_toArray, List.set_cons_zero, List.set_cons_succ])
      refine wpAnyH_take (i := 25) (oi := { dst := some 50, op := Go.Op.move (Go.Operand.tmp 49), type := 4, pos := "laws.go:199", after := #[{ on := 24, ground := Go.Ground.data }, { on := 23, ground := Go.Ground.chain }], guard := none }) (v := ?_) rfl (by kernel_rfl) (by kernel_rfl) (by kernel_rfl) (fun _ _ _ h => h) (Or.inl ⟨by rfl, ?yld250⟩) hHeld ?nxt250
      case yld250 => (intro w hSw; (try dsimp only at hSw); go_simp) <;> with_reducible rfl
      (try simp only [Act.put, List.setIfInBounds_toArray, List.set_cons_zero, List.set_cons_succ])
      refine wpAnyH_take (i := 26) (oi := { dst := some 51, op := Go.Op.move (Go.Operand.tmp 6), type := 9, pos := "laws.go:199", after := #[{ on := 25, ground := Go.Ground.guard }], guard := some (25, true) }) (v := ?_) rfl (by kernel_rfl) (by kernel_rfl) (by kernel_rfl) (fun _ _ _ h => h) (Or.inl ⟨by rfl, ?yld251⟩) hHeld ?nxt251
      case yld251 => (intro w hSw; (try dsimp only at hSw); go_simp) <;> with_reducible rfl
      (try simp only [Act.put, List.setIfInBounds_toArray, List.set_cons_zero, List.set_cons_succ])
      refine wpAnyH_take (i := 27) (oi := { dst := some 52, op := Go.Op.binOp Go.BinOp.eql 9 (Go.Operand.tmp 51) (Go.Operand.const (Go.Value.string { data := #[] })) 9, type := 4, pos := "laws.go:199", after := #[{ on := 26, ground := Go.Ground.data }, { on := 25, ground := Go.Ground.guard }], guard := some (25, true) }) (v := ?_) rfl (by kernel_rfl) (by kernel_rfl) (by kernel_rfl) (fun _ _ _ h => h) (Or.inl ⟨by rfl, ?yld252⟩) hHeld ?nxt252
      case yld252 => (intro w hSw; (try dsimp only at hSw); go_simp) <;> with_reducible rfl
      (try simp only [Act.put, List.setIfInBounds_toArray, List.set_cons_zero, List.set_cons_succ])
      refine wpAnyH_take (i := 28) (oi := { dst := some 53, op := Go.Op.move (Go.Operand.tmp 52), type := 4, pos := "laws.go:199", after := #[{ on := 27, ground := Go.Ground.data }, { on := 25, ground := Go.Ground.chain }, { on := 25, ground := Go.Ground.guard }], guard := some (25, true) }) (v := ?_) rfl (by kernel_rfl) (by kernel_rfl) (by kernel_rfl) (fun _ _ _ h => h) (Or.inl ⟨by rfl, ?yld253⟩) hHeld ?nxt253
      case yld253 => (intro w hSw; (try dsimp only at hSw); go_simp) <;> with_reducible rfl
      (try simp only [Act.put, List.setIfInBounds_toArray, List.set_cons_zero, List.set_cons_succ])
      refine wpAnyH_take (i := 29) (oi := { dst := some 54, op := Go.Op.move (Go.Operand.tmp 6), type := 9, pos := "laws.go:199", after := #[{ on := 28, ground := Go.Ground.guard }], guard := some (28, false) }) (v := ?_) rfl (by kernel_rfl) (by kernel_rfl) (by kernel_rfl) (fun _ _ _ h => h) (Or.inl ⟨by rfl, ?yld254⟩) hHeld ?nxt254
      case yld254 => (intro w hSw; (try dsimp only at hSw); go_simp) <;> with_reducible rfl
      (try simp only [Act.put, List.setIfInBounds_toArray, List.set_cons_zero, List.set_cons_succ])
      refine wpAnyH_take (i := 32) (oi := { dst := some 57, op := Go.Op.move (Go.Operand.tmp 5), type := 40, pos := "laws.go:199", after := #[{ on := 28, ground := Go.Ground.guard }], guard := some (28, false) }) (v := ?_) rfl (by kernel_rfl) (by kernel_rfl) (by kernel_rfl) (fun _ _ _ h => h) (Or.inl ⟨by rfl, ?yld255⟩) hHeld ?nxt255
      case yld255 => (intro w hSw; (try dsimp only at hSw); go_simp) <;> with_reducible rfl
      (try simp only [Act.put, List.setIfInBounds_toArray, List.set_cons_zero, List.set_cons_succ])
      refine wpAnyH_ready (rs := [30]) (by kernel_rfl) (by simp) ?_
      refine AllReadyH.cons (o := { dst := some 55, op := Go.Op.call { callee := Go.Callee.value (Go.Operand.func 29), args := #[Go.Operand.tmp 54], argTypes := #[9] }, type := 44, pos := "laws.go:199", after := #[{ on := 29, ground := Go.Ground.data }, { on := 28, ground := Go.Ground.chain }, { on := 28, ground := Go.Ground.guard }], guard := some (28, false) }) rfl (fun K hK => ?_) AllReadyH.nil
      go_simp
      go_at_call 29
      have hp := hHeld.1
      refine (ErpI.impl_read t _ (by unfold maxLen; omega) (HEW.out.on hp)).mono ?_
      rintro e w' ⟨qs, qa, qc, c4, rfl, hB, hO4, hR4⟩
      obtain ⟨rfl, rfl⟩ := ErdS.reads_same (HTR.out) hR4
      unfold ErdS.oe
      obtain ⟨aq, capq, eq4, hP4, -, -⟩ := hO4.parts
      cases eq4
      have hBn := hp.trans (hB.mono hp.size)
      have HP4 := hid hP4
      clear hp hB hO4 hR4 hP4
      (try go_wp2_with fail)
      refine hK.out _ _ ?_ (fun hHeld2 => ?_)
      · (try dsimp only) <;> (first | exact ⟨hBn, (hBn.cell (p := ⟨Y, 0, none⟩) hYl).trans k0, (hBn.cell (p := ⟨Y, 1, none⟩) hYl).trans k1⟩ | exact ⟨hB0, k0, k1⟩)
      clear hK K hHeld
      have hHeld := hHeld2
      clear hHeld2
      (try simp only [Act.put, List.setIfInBounds_toArray, List.set_cons_zero, List.set_cons_succ])
      refine wpAnyH_take (i := 31) (oi := { dst := some 56, op := Go.Op.field 44 (Go.Operand.tmp 55) 0, type := 40, pos := "laws.go:199", after := #[{ on := 30, ground := Go.Ground.data }, { on := 28, ground := Go.Ground.guard }], guard := some (28, false) }) (v := ?_) rfl (by kernel_rfl) (by kernel_rfl) (by kernel_rfl) (fun _ _ _ h => h) (Or.inl ⟨by rfl, ?yld256⟩) hHeld ?nxt256
      case yld256 => (intro w hSw; (try dsimp only at hSw); go_simp) <;> with_reducible rfl
      (try simp only [Act.put, List.setIfInBounds_toArray, List.set_cons_zero, List.set_cons_succ])
      refine wpAnyH_ready (rs := [33]) (by kernel_rfl) (by simp) ?_
      refine AllReadyH.cons (o := { dst := some 58, op := Go.Op.call { callee := Go.Callee.value (Go.Operand.func 38), args := #[Go.Operand.tmp 56, Go.Operand.tmp 57], argTypes := #[40, 40] }, type := 4, pos := "laws.go:199", after := #[{ on := 31, ground := Go.Ground.data }, { on := 32, ground := Go.Ground.data }, { on := 30, ground := Go.Ground.chain }, { on := 28, ground := Go.Ground.guard }], guard := some (28, false) }) rfl (fun K hK => ?_) AllReadyH.nil
      go_simp
      go_at_call 38
      have hp := hHeld.1
      refine (LwX.lwParts qa xa qc xc ps _ HP4.out (HP.out.on hp)).mono ?_
      rintro e w' ⟨rfl, hB⟩
      have hBn := hp.trans (hB.mono hp.size)
      clear hp hB
      (try go_wp2_with fail)
      refine hK.out _ _ ?_ (fun hHeld2 => ?_)
      · (try dsimp only) <;> (first | exact ⟨hBn, (hBn.cell (p := ⟨Y, 0, none⟩) hYl).trans k0, (hBn.cell (p := ⟨Y, 1, none⟩) hYl).trans k1⟩ | exact ⟨hB0, k0, k1⟩)
      clear hK K hHeld
      have hHeld := hHeld2
      clear hHeld2
      (try simp only [Act.put, List.setIfInBounds_toArray, List.set_cons_zero, List.set_cons_succ])
      refine wpAnyH_take (i := 34) (oi := { dst := some 59, op := Go.Op.pick (Go.Operand.tmp 53) (Go.Operand.const (Go.Value.bool true)) (Go.Operand.tmp 58), type := 4, pos := "laws.go:199", after := #[{ on := 28, ground := Go.Ground.data }, { on := 33, ground := Go.Ground.data }, { on := 25, ground := Go.Ground.guard }], guard := some (25, true) }) (v := ?_) rfl (by kernel_rfl) (by kernel_rfl) (by kernel_rfl) (fun _ _ _ h => h) (Or.inl ⟨by rfl, ?yld257⟩) hHeld ?nxt257
      case yld257 => (intro w hSw; (try dsimp only at hSw); go_simp) <;> with_reducible rfl
      (try simp only [Act.put, List.setIfInBounds_toArray, List.set_cons_zero, List.set_cons_succ])
      refine wpAnyH_take (i := 35) (oi := { dst := some 60, op := Go.Op.pick (Go.Operand.tmp 50) (Go.Operand.tmp 59) (Go.Operand.const (Go.Value.bool false)), type := 4, pos := "laws.go:199", after := #[{ on := 25, ground := Go.Ground.data }, { on := 34, ground := Go.Ground.data }], guard := none }) (v := ?_) rfl (by kernel_rfl) (by kernel_rfl) (by kernel_rfl) (fun _ _ _ h => h) (Or.inl ⟨by rfl, ?yld258⟩) hHeld ?nxt258
      case yld258 => (intro w hSw; (try dsimp only at hSw); go_simp) <;> with_reducible rfl
      (try simp only [Act.put, List.setIfInBounds_toArray, List.set_cons_zero, List.set_cons_succ])
      refine wpAnyH_take (i := 36) (oi := { dst := some 61, op := Go.Op.move (Go.Operand.tmp 60), type := 4, pos := "laws.go:199", after := #[{ on := 35, ground := Go.Ground.data }, { on := 33, ground := Go.Ground.chain }], guard := none }) (v := ?_) rfl (by kernel_rfl) (by kernel_rfl) (by kernel_rfl) (fun _ _ _ h => h) (Or.inl ⟨by rfl, ?yld259⟩) hHeld ?nxt259
      case yld259 => (intro w hSw; (try dsimp only at hSw); go_simp) <;> with_reducible rfl
      (try simp only [Act.put, List.setIfInBounds_toArray, List.set_cons_zero, List.set_cons_succ])
      refine wpAnyH_take (i := 37) (oi := { dst := some 62, op := Go.Op.fieldAddr 44 (Go.Operand.tmp 8) 1, type := 0, pos := "laws.go:199", after := #[{ on := 36, ground := Go.Ground.guard }], guard := some (36, true) }) (v := ?_) rfl (by kernel_rfl) (by kernel_rfl) (by kernel_rfl) (fun _ _ _ h => h) (Or.inl ⟨by rfl, ?yld260⟩) hHeld ?nxt260
      case yld260 => (intro w hSw; (try dsimp only at hSw); go_simp) <;> with_reducible rfl
      (try simp only [Act.put, List.setIfInBounds_toArray, List.set_cons_zero, List.set_cons_succ])
      refine wpAnyH_take (i := 38) (oi := { dst := some 63, op := Go.Op.load 2 (Go.Operand.tmp 62), type := 2, pos := "laws.go:199", after := #[{ on := 37, ground := Go.Ground.data }, { on := 36, ground := Go.Ground.guard }], guard := some (36, true) }) (v := ?_) rfl (by kernel_rfl) (by kernel_rfl) (by kernel_rfl) (fun _ _ _ h => h) (Or.inl ⟨by rfl, ?yld261⟩) hHeld ?nxt261
      case yld261 => (intro w hSw; (try dsimp only at hSw); go_simp) <;> with_reducible rfl
      (try simp only [Act.put, List.setIfInBounds_toArray, List.set_cons_zero, List.set_cons_succ])
      refine wpAnyH_take (i := 39) (oi := { dst := some 64, op := Go.Op.move (Go.Operand.tmp 7), type := 9, pos := "laws.go:199", after := #[{ on := 36, ground := Go.Ground.guard }], guard := some (36, true) }) (v := ?_) rfl (by kernel_rfl) (by kernel_rfl) (by kernel_rfl) (fun _ _ _ h => h) (Or.inl ⟨by rfl, ?yld262⟩) hHeld ?nxt262
      case yld262 => (intro w hSw; (try dsimp only at hSw); go_simp) <;> with_reducible rfl
      (try simp only [Act.put, List.setIfInBounds_toArray, List.set_cons_zero, List.set_cons_succ])
      refine wpAnyH_ready (rs := [40]) (by kernel_rfl) (by simp) ?_
      refine AllReadyH.cons (o := { dst := some 65, op := Go.Op.call { callee := Go.Callee.value (Go.Operand.func 39), args := #[Go.Operand.tmp 64], argTypes := #[9] }, type := 44, pos := "laws.go:199", after := #[{ on := 39, ground := Go.Ground.data }, { on := 36, ground := Go.Ground.chain }, { on := 36, ground := Go.Ground.guard }], guard := some (36, true) }) rfl (fun K hK => ?_) AllReadyH.nil
      go_simp
      go_at_call 39
      have hp := hHeld.1
      refine (ErdS.spec_read u _ (by unfold maxLen; omega)).mono ?_
      rintro e w' ⟨q5, a5, c5, cc5, rfl, hB, hP5, hR5⟩
      obtain ⟨rfl, rfl⟩ := ErdS.reads_same HR.out hR5
      unfold ErdS.oe
      have hBn := hp.trans (hB.mono hp.size)
      clear hp hB hP5 hR5
      (try go_wp2_with fail)
      refine hK.out _ _ ?_ (fun hHeld2 => ?_)
      · (try dsimp only) <;> (first | exact ⟨hBn, (hBn.cell (p := ⟨Y, 0, none⟩) hYl).trans k0, (hBn.cell (p := ⟨Y, 1, none⟩) hYl).trans k1⟩ | exact ⟨hB0, k0, k1⟩)
      clear hK K hHeld
      have hHeld := hHeld2
      clear hHeld2
      (try simp only [Act.put, List.setIfInBounds_toArray, List.set_cons_zero, List.set_cons_succ])
      refine wpAnyH_take (i := 41) (oi := { dst := some 66, op := Go.Op.field 44 (Go.Operand.tmp 65) 1, type := 2, pos := "laws.go:199", after := #[{ on := 40, ground := Go.Ground.data }, { on := 36, ground := Go.Ground.guard }], guard := some (36, true) }) (v := ?_) rfl (by kernel_rfl) (by kernel_rfl) (by kernel_rfl) (fun _ _ _ h => h) (Or.inl ⟨by rfl, ?yld263⟩) hHeld ?nxt263
      case yld263 => (intro w hSw; (try dsimp only at hSw); go_simp) <;> with_reducible rfl
      (try simp only [Act.put, List.setIfInBounds_toArray, List.set_cons_zero, List.set_cons_succ])
      refine wpAnyH_take (i := 42) (oi := { dst := some 67, op := Go.Op.binOp Go.BinOp.eql 2 (Go.Operand.tmp 63) (Go.Operand.tmp 66) 2, type := 4, pos := "laws.go:199", after := #[{ on := 38, ground := Go.Ground.data }, { on := 41, ground := Go.Ground.data }, { on := 36, ground := Go.Ground.guard }], guard := some (36, true) }) (v := ?_) rfl (by kernel_rfl) (by kernel_rfl) (by kernel_rfl) (fun _ _ _ h => h) (Or.inl ⟨by rfl, ?yld264⟩) hHeld ?nxt264
      case yld264 => (intro w hSw; (try dsimp only at hSw); go_simp) <;> with_reducible rfl
      (try simp only [Act.put, List.setIfInBounds_toArray, List.set_cons_zero, List.set_cons_succ])
      refine wpAnyH_take (i := 43) (oi := { dst := some 68, op := Go.Op.pick (Go.Operand.tmp 61) (Go.Operand.tmp 67) (Go.Operand.const (Go.Value.bool false)), type := 4, pos := "laws.go:199", after := #[{ on := 36, ground := Go.Ground.data }, { on := 42, ground := Go.Ground.data }], guard := none }) (v := ?_) rfl (by kernel_rfl) (by kernel_rfl) (by kernel_rfl) (fun _ _ _ h => h) (Or.inl ⟨by rfl, ?yld265⟩) hHeld ?nxt265
      case yld265 => (intro w hSw; (try dsimp only at hSw); go_simp) <;> with_reducible rfl
      (try simp only [Act.put, List.setIfInBounds_toArray, List.set_cons_zero, List.set_cons_succ])
      refine wpAnyH_take (i := 44) (oi := { dst := some 69, op := Go.Op.move (Go.Operand.tmp 68), type := 4, pos := "laws.go:199", after := #[{ on := 43, ground := Go.Ground.data }, { on := 40, ground := Go.Ground.chain }], guard := none }) (v := ?_) rfl (by kernel_rfl) (by kernel_rfl) (by kernel_rfl) (fun _ _ _ h => h) (Or.inl ⟨by rfl, ?yld266⟩) hHeld ?nxt266
      case yld266 => (intro w hSw; (try dsimp only at hSw); go_simp) <;> with_reducible rfl
      (try simp only [Act.put, List.setIfInBounds_toArray, List.set_cons_zero, List.set_cons_succ])
      refine wpAnyH_take (i := 45) (oi := { dst := some 70, op := Go.Op.fieldAddr 44 (Go.Operand.tmp 8) 0, type := 0, pos := "laws.go:199", after := #[{ on := 44, ground := Go.Ground.guard }], guard := some (44, true) }) (v := ?_) rfl (by kernel_rfl) (by kernel_rfl) (by kernel_rfl) (fun _ _ _ h => h) (Or.inl ⟨by rfl, ?yld267⟩) hHeld ?nxt267
      case yld267 => (intro w hSw; (try dsimp only at hSw); go_simp) <;> with_reducible rfl
      (try simp only [Act.put, List.setIfInBounds_toArray, List.set_cons_zero, List.set_cons_succ])
      refine wpAnyH_take (i := 46) (oi := { dst := some 71, op := Go.Op.load 40 (Go.Operand.tmp 70), type := 40, pos := "laws.go:199", after := #[{ on := 45, ground := Go.Ground.data }, { on := 44, ground := Go.Ground.guard }], guard := some (44, true) }) (v := ?_) rfl (by kernel_rfl) (by kernel_rfl) (by kernel_rfl) (fun _ _ _ h => h) (Or.inl ⟨by rfl, ?yld268⟩) hHeld ?nxt268
      case yld268 => (intro w hSw; (try dsimp only at hSw); go_simp) <;> with_reducible rfl
      (try simp only [Act.put, List.setIfInBounds_toArray, List.set_cons_zero, List.set_cons_succ])
      refine wpAnyH_take (i := 47) (oi := { dst := some 72, op := Go.Op.move (Go.Operand.tmp 7), type := 9, pos := "laws.go:199", after := #[{ on := 44, ground := Go.Ground.guard }], guard := some (44, true) }) (v := ?_) rfl (by kernel_rfl) (by kernel_rfl) (by kernel_rfl) (fun _ _ _ h => h) (Or.inl ⟨by rfl, ?yld269⟩) hHeld ?nxt269
      case yld269 => (intro w hSw; (try dsimp only at hSw); go_simp) <;> with_reducible rfl
      (try simp only [Act.put, List.setIfInBounds_toArray, List.set_cons_zero, List.set_cons_succ])
      refine wpAnyH_ready (rs := [48]) (by kernel_rfl) (by simp) ?_
      refine AllReadyH.cons (o := { dst := some 73, op := Go.Op.call { callee := Go.Callee.value (Go.Operand.func 39), args := #[Go.Operand.tmp 72], argTypes := #[9] }, type := 44, pos := "laws.go:199", after := #[{ on := 47, ground := Go.Ground.data }, { on := 44, ground := Go.Ground.chain }, { on := 44, ground := Go.Ground.guard }], guard := some (44, true) }) rfl (fun K hK => ?_) AllReadyH.nil
      go_simp
      go_at_call 39
      have hp := hHeld.1
      refine (ErdS.spec_read u _ (by unfold maxLen; omega)).mono ?_
      rintro e w' ⟨q6, a6, c6, cc6, rfl, hB, hP6, hR6⟩
      obtain ⟨rfl, rfl⟩ := ErdS.reads_same HR.out hR6
      unfold ErdS.oe
      have hBn := hp.trans (hB.mono hp.size)
      have HP6 := hid hP6
      clear hp hB hP6 hR6
      (try go_wp2_with fail)
      refine hK.out _ _ ?_ (fun hHeld2 => ?_)
      · (try dsimp only) <;> (first | exact ⟨hBn, (hBn.cell (p := ⟨Y, 0, none⟩) hYl).trans k0, (hBn.cell (p := ⟨Y, 1, none⟩) hYl).trans k1⟩ | exact ⟨hB0, k0, k1⟩)
      clear hK K hHeld
      have hHeld := hHeld2
      clear hHeld2
      (try simp only [Act.put, List.setIfInBounds_toArray, List.set_cons_zero, List.set_cons_succ])
      refine wpAnyH_take (i := 49) (oi := { dst := some 74, op := Go.Op.field 44 (Go.Operand.tmp 73) 0, type := 40, pos := "laws.go:199", after := #[{ on := 48, ground := Go.Ground.data }, { on := 44, ground := Go.Ground.guard }], guard := some (44, true) }) (v := ?_) rfl (by kernel_rfl) (by kernel_rfl) (by kernel_rfl) (fun _ _ _ h => h) (Or.inl ⟨by rfl, ?yld270⟩) hHeld ?nxt270
      case yld270 => (intro w hSw; (try dsimp only at hSw); go_simp) <;> with_reducible rfl
      (try simp only [Act.put, List.setIfInBounds_toArray, List.set_cons_zero, List.set_cons_succ])
      refine wpAnyH_ready (rs := [50]) (by kernel_rfl) (by simp) ?_
      refine AllReadyH.cons (o := { dst := some 75, op := Go.Op.call { callee := Go.Callee.value (Go.Operand.func 38), args := #[Go.Operand.tmp 71, Go.Operand.tmp 74], argTypes := #[40, 40] }, type := 4, pos := "laws.go:199", after := #[{ on := 46, ground := Go.Ground.data }, { on := 49, ground := Go.Ground.data }, { on := 48, ground := Go.Ground.chain }, { on := 44, ground := Go.Ground.guard }], guard := some (44, true) }) rfl (fun K hK => ?_) AllReadyH.nil
      go_simp
      go_at_call 38
      have hp := hHeld.1
      refine (LwX.lwParts ya a6 yc c6 ys _ (HQ.out.on hp) HP6.out).mono ?_
      rintro e w' ⟨rfl, hB⟩
      have hBn := hp.trans (hB.mono hp.size)
      clear hp hB
      (try go_wp2_with fail)
      refine hK.out _ _ ?_ (fun hHeld2 => ?_)
      · (try dsimp only) <;> (first | exact ⟨hBn, (hBn.cell (p := ⟨Y, 0, none⟩) hYl).trans k0, (hBn.cell (p := ⟨Y, 1, none⟩) hYl).trans k1⟩ | exact ⟨hB0, k0, k1⟩)
      clear hK K hHeld
      have hHeld := hHeld2
      clear hHeld2
      (try simp only [Act.put, List.setIfInBounds_toArray, List.set_cons_zero, List.set_cons_succ])
      refine wpAnyH_take (i := 51) (oi := { dst := some 76, op := Go.Op.pick (Go.Operand.tmp 69) (Go.Operand.tmp 75) (Go.Operand.const (Go.Value.bool false)), type := 4, pos := "laws.go:199", after := #[{ on := 44, ground := Go.Ground.data }, { on := 50, ground := Go.Ground.data }], guard := none }) (v := ?_) rfl (by kernel_rfl) (by kernel_rfl) (by kernel_rfl) (fun _ _ _ h => h) (Or.inl ⟨by rfl, ?yld271⟩) hHeld ?nxt271
      case yld271 => (intro w hSw; (try dsimp only at hSw); go_simp) <;> with_reducible rfl
      (try simp only [Act.put, List.setIfInBounds_toArray, List.set_cons_zero, List.set_cons_succ])
      refine wpAnyH_take (i := 52) (oi := { dst := some 77, op := Go.Op.move (Go.Operand.tmp 76), type := 4, pos := "laws.go:199", after := #[{ on := 51, ground := Go.Ground.data }, { on := 50, ground := Go.Ground.chain }], guard := none }) (v := ?_) rfl (by kernel_rfl) (by kernel_rfl) (by kernel_rfl) (fun _ _ _ h => h) (Or.inl ⟨by rfl, ?yld272⟩) hHeld ?nxt272
      case yld272 => (intro w hSw; (try dsimp only at hSw); go_simp) <;> with_reducible rfl
      (try simp only [Act.put, List.setIfInBounds_toArray, List.set_cons_zero, List.set_cons_succ])
      refine wpAnyH_take (i := 53) (oi := { dst := some 78, op := Go.Op.fieldAddr 44 (Go.Operand.tmp 8) 1, type := 0, pos := "laws.go:199", after := #[{ on := 52, ground := Go.Ground.guard }], guard := some (52, true) }) (v := ?_) rfl (by kernel_rfl) (by kernel_rfl) (by kernel_rfl) (fun _ _ _ h => h) (Or.inl ⟨by rfl, ?yld273⟩) hHeld ?nxt273
      case yld273 => (intro w hSw; (try dsimp only at hSw); go_simp) <;> with_reducible rfl
      (try simp only [Act.put, List.setIfInBounds_toArray, List.set_cons_zero, List.set_cons_succ])
      refine wpAnyH_take (i := 54) (oi := { dst := some 79, op := Go.Op.load 2 (Go.Operand.tmp 78), type := 2, pos := "laws.go:199", after := #[{ on := 53, ground := Go.Ground.data }, { on := 52, ground := Go.Ground.guard }], guard := some (52, true) }) (v := ?_) rfl (by kernel_rfl) (by kernel_rfl) (by kernel_rfl) (fun _ _ _ h => h) (Or.inl ⟨by rfl, ?yld274⟩) hHeld ?nxt274
      case yld274 => (intro w hSw; (try dsimp only at hSw); go_simp) <;> with_reducible rfl
      (try simp only [Act.put, List.setIfInBounds_toArray, List.set_cons_zero, List.set_cons_succ])
      refine wpAnyH_take (i := 55) (oi := { dst := some 80, op := Go.Op.binOp Go.BinOp.neq 2 (Go.Operand.tmp 79) (Go.Operand.const (Go.Value.int Go.IntKind.i64 0)) 2, type := 4, pos := "laws.go:199", after := #[{ on := 54, ground := Go.Ground.data }, { on := 52, ground := Go.Ground.guard }], guard := some (52, true) }) (v := ?_) rfl (by kernel_rfl) (by kernel_rfl) (by kernel_rfl) (fun _ _ _ h => h) (Or.inl ⟨by rfl, ?yld275⟩) hHeld ?nxt275
      case yld275 => (intro w hSw; (try dsimp only at hSw); go_simp) <;> with_reducible rfl
      (try simp only [Act.put, List.setIfInBounds_toArray, List.set_cons_zero, List.set_cons_succ])
      refine wpAnyH_take (i := 56) (oi := { dst := some 81, op := Go.Op.move (Go.Operand.tmp 80), type := 4, pos := "laws.go:199", after := #[{ on := 55, ground := Go.Ground.data }, { on := 52, ground := Go.Ground.chain }, { on := 52, ground := Go.Ground.guard }], guard := some (52, true) }) (v := ?_) rfl (by kernel_rfl) (by kernel_rfl) (by kernel_rfl) (fun _ _ _ h => h) (Or.inl ⟨by rfl, ?yld276⟩) hHeld ?nxt276
      case yld276 => (intro w hSw; (try dsimp only at hSw); go_simp) <;> with_reducible rfl
      (try simp only [Act.put, List.setIfInBounds_toArray, List.set_cons_zero, List.set_cons_succ])
      refine wpAnyH_take (i := 57) (oi := { dst := some 82, op := Go.Op.fieldAddr 44 (Go.Operand.tmp 8) 0, type := 0, pos := "laws.go:199", after := #[{ on := 56, ground := Go.Ground.guard }], guard := some (56, false) }) (v := ?_) rfl (by kernel_rfl) (by kernel_rfl) (by kernel_rfl) (fun _ _ _ h => h) (Or.inl ⟨by rfl, ?yld277⟩) hHeld ?nxt277
      case yld277 => (intro w hSw; (try dsimp only at hSw); go_simp) <;> with_reducible rfl
      (try simp only [Act.put, List.setIfInBounds_toArray, List.set_cons_zero, List.set_cons_succ])
      refine wpAnyH_take (i := 58) (oi := { dst := some 83, op := Go.Op.load 40 (Go.Operand.tmp 82), type := 40, pos := "laws.go:199", after := #[{ on := 57, ground := Go.Ground.data }, { on := 56, ground := Go.Ground.guard }], guard := some (56, false) }) (v := ?_) rfl (by kernel_rfl) (by kernel_rfl) (by kernel_rfl) (fun _ _ _ h => h) (Or.inl ⟨by rfl, ?yld278⟩) hHeld ?nxt278
      case yld278 => (intro w hSw; (try dsimp only at hSw); go_simp) <;> with_reducible rfl
      (try simp only [Act.put, List.setIfInBounds_toArray, List.set_cons_zero, List.set_cons_succ])
      refine wpAnyH_take (i := 60) (oi := { dst := some 85, op := Go.Op.move (Go.Operand.tmp 7), type := 9, pos := "laws.go:199", after := #[{ on := 56, ground := Go.Ground.guard }], guard := some (56, false) }) (v := ?_) rfl (by kernel_rfl) (by kernel_rfl) (by kernel_rfl) (fun _ _ _ h => h) (Or.inl ⟨by rfl, ?yld279⟩) hHeld ?nxt279
      case yld279 => (intro w hSw; (try dsimp only at hSw); go_simp) <;> with_reducible rfl
      (try simp only [Act.put, List.setIfInBounds_toArray, List.set_cons_zero, List.set_cons_succ])
      refine wpAnyH_ready (rs := [59]) (by kernel_rfl) (by simp) ?_
      refine AllReadyH.cons (o := { dst := some 84, op := Go.Op.call { callee := Go.Callee.value (Go.Operand.func 27), args := #[Go.Operand.tmp 83], argTypes := #[40] }, type := 9, pos := "laws.go:199", after := #[{ on := 58, ground := Go.Ground.data }, { on := 56, ground := Go.Ground.chain }, { on := 56, ground := Go.Ground.guard }], guard := some (56, false) }) rfl (fun K hK => ?_) AllReadyH.nil
      go_simp
      go_at_call 27
      have hp := hHeld.1
      refine (TexI.impl_text ya yc ys _ (HQ.out.on hp) hyc ⟨(HEW.out.on hp).2, (HEW.out.on hp).dec⟩).mono ?_
      rintro e w' ⟨rfl, hB⟩
      rw [HYT.out]
      have hBn := hp.trans (hB.mono hp.size)
      clear hp hB
      (try go_wp2_with fail)
      refine hK.out _ _ ?_ (fun hHeld2 => ?_)
      · (try dsimp only) <;> (first | exact ⟨hBn, (hBn.cell (p := ⟨Y, 0, none⟩) hYl).trans k0, (hBn.cell (p := ⟨Y, 1, none⟩) hYl).trans k1⟩ | exact ⟨hB0, k0, k1⟩)
      clear hK K hHeld
      have hHeld := hHeld2
      clear hHeld2
      (try simp only [Act.put, List.setIfInBounds_toArray, List.set_cons_zero, List.set_cons_succ])
      refine wpAnyH_take (i := 61) (oi := { dst := some 86, op := Go.Op.binOp Go.BinOp.eql 9 (Go.Operand.tmp 84) (Go.Operand.tmp 85) 9, type := 4, pos := "laws.go:199", after := #[{ on := 59, ground := Go.Ground.data }, { on := 60, ground := Go.Ground.data }, { on := 56, ground := Go.Ground.guard }], guard := some (56, false) }) (v := ?_) rfl (by kernel_rfl) (by kernel_rfl) (by kernel_rfl) (fun _ _ _ h => h) (Or.inl ⟨by rfl, ?yld280⟩) hHeld ?nxt280
      case yld280 => (intro w hSw; (try dsimp only at hSw); go_simp) <;> with_reducible rfl
      (try simp only [Act.put, List.setIfInBounds_toArray, List.set_cons_zero, List.set_cons_succ])
      refine wpAnyH_take (i := 62) (oi := { dst := some 87, op := Go.Op.pick (Go.Operand.tmp 81) (Go.Operand.const (Go.Value.bool true)) (Go.Operand.tmp 86), type := 4, pos := "laws.go:199", after := #[{ on := 56, ground := Go.Ground.data }, { on := 61, ground := Go.Ground.data }, { on := 52, ground := Go.Ground.guard }], guard := some (52, true) }) (v := ?_) rfl (by kernel_rfl) (by kernel_rfl) (by kernel_rfl) (fun _ _ _ h => h) (Or.inl ⟨by rfl, ?yld281⟩) hHeld ?nxt281
      case yld281 => (intro w hSw; (try dsimp only at hSw); go_simp) <;> with_reducible rfl
      (try simp only [Act.put, List.setIfInBounds_toArray, List.set_cons_zero, List.set_cons_succ])
      refine wpAnyH_take (i := 63) (oi := { dst := some 88, op := Go.Op.pick (Go.Operand.tmp 77) (Go.Operand.tmp 87) (Go.Operand.const (Go.Value.bool false)), type := 4, pos := "laws.go:199", after := #[{ on := 52, ground := Go.Ground.data }, { on := 62, ground := Go.Ground.data }], guard := none }) (v := ?_) rfl (by kernel_rfl) (by kernel_rfl) (by kernel_rfl) (fun _ _ _ h => h) (Or.inl ⟨by rfl, ?yld282⟩) hHeld ?nxt282
      case yld282 => (intro w hSw; (try dsimp only at hSw); go_simp) <;> with_reducible rfl
      (try simp only [Act.put, List.setIfInBounds_toArray, List.set_cons_zero, List.set_cons_succ])
      refine wpAnyH_take (i := 64) (oi := { dst := some 4, op := Go.Op.assign (Go.Operand.tmp 88), type := 4, pos := "laws.go:199", after := ([{ on := 63, ground := Go.Ground.data }, { on := 59, ground := Go.Ground.chain }, { on := 0, ground := Go.Ground.phase }, { on := 1, ground := Go.Ground.phase }, { on := 2, ground := Go.Ground.phase }, { on := 3, ground := Go.Ground.phase }, { on := 4, ground := Go.Ground.phase }, { on := 5, ground := Go.Ground.phase }, { on := 6, ground := Go.Ground.phase }, { on := 7, ground := Go.Ground.phase }, { on := 8, ground := Go.Ground.phase }, { on := 9, ground := Go.Ground.phase }, { on := 10, ground := Go.Ground.phase }, { on := 11, ground := Go.Ground.phase }, { on := 12, ground := Go.Ground.phase }, { on := 13, ground := Go.Ground.phase }, { on := 14, ground := Go.Ground.phase }, { on := 15, ground := Go.Ground.phase }, { on := 16, ground := Go.Ground.phase }, { on := 17, ground := Go.Ground.phase }, { on := 18, ground := Go.Ground.phase }, { on := 19, ground := Go.Ground.phase }, { on := 20, ground := Go.Ground.phase }, { on := 21, ground := Go.Ground.phase }, { on := 22, ground := Go.Ground.phase }, { on := 23, ground := Go.Ground.phase }, { on := 24, ground := Go.Ground.phase }, { on := 25, ground := Go.Ground.phase }, { on := 26, ground := Go.Ground.phase }, { on := 27, ground := Go.Ground.phase }, { on := 28, ground := Go.Ground.phase }, { on := 29, ground := Go.Ground.phase }, { on := 30, ground := Go.Ground.phase }].append [{ on := 31, ground := Go.Ground.phase }, { on := 32, ground := Go.Ground.phase }, { on := 33, ground := Go.Ground.phase }, { on := 34, ground := Go.Ground.phase }, { on := 35, ground := Go.Ground.phase }, { on := 36, ground := Go.Ground.phase }, { on := 37, ground := Go.Ground.phase }, { on := 38, ground := Go.Ground.phase }, { on := 39, ground := Go.Ground.phase }, { on := 40, ground := Go.Ground.phase }, { on := 41, ground := Go.Ground.phase }, { on := 42, ground := Go.Ground.phase }, { on := 43, ground := Go.Ground.phase }, { on := 44, ground := Go.Ground.phase }, { on := 45, ground := Go.Ground.phase }, { on := 46, ground := Go.Ground.phase }, { on := 47, ground := Go.Ground.phase }, { on := 48, ground := Go.Ground.phase }, { on := 49, ground := Go.Ground.phase }, { on := 50, ground := Go.Ground.phase }, { on := 51, ground := Go.Ground.phase }, { on := 52, ground := Go.Ground.phase }, { on := 53, ground := Go.Ground.phase }, { on := 54, ground := Go.Ground.phase }, { on := 55, ground := Go.Ground.phase }, { on := 56, ground := Go.Ground.phase }, { on := 57, ground := Go.Ground.phase }, { on := 58, ground := Go.Ground.phase }, { on := 59, ground := Go.Ground.phase }, { on := 60, ground := Go.Ground.phase }, { on := 61, ground := Go.Ground.phase }, { on := 62, ground := Go.Ground.phase }, { on := 63, ground := Go.Ground.phase }]).toArray, guard := none }) (v := ?_) rfl (by kernel_rfl) (by kernel_rfl) (by kernel_rfl) (fun _ _ _ h => h) (Or.inl ⟨by rfl, ?yld283⟩) hHeld ?nxt283
      case yld283 => (intro w hSw; (try dsimp only at hSw); go_simp) <;> with_reducible rfl
      (try simp only [Act.put, List.setIfInBounds_toArray, List.set_cons_zero, List.set_cons_succ])
      refine wpAnyH_done (by kernel_rfl) ?_ _
      have HBL := hid hHeld.1
      clear hHeld hB0
      go_wp2_with fail
      go_ret
      exact ⟨rfl, HBW.out.trans (HBL.out.mono HBW.out.size)⟩
    · have q3 : (cy == 0) = false := by simp [hcy]
      have q4 : (cy != 0) = true := by simp [hcy]
      refine wp_region_held_drew (S := (fun w' => Below W.heap.size W w' ∧ w'.cell? ⟨Y, 0, none⟩ = some (.slice ya ys.length yc) ∧ w'.cell? ⟨Y, 1, none⟩ = some (.int .i64 cy))) (by kernel_rfl) ?_ (fun hHeld => ?_)
      · (try dsimp only) <;> (first | exact ⟨hBn, (hBn.cell (p := ⟨Y, 0, none⟩) hYl).trans k0, (hBn.cell (p := ⟨Y, 1, none⟩) hYl).trans k1⟩ | exact ⟨hB0, k0, k1⟩)
      refine wpAnyH_take (i := 0) (oi := { dst := some 25, op := Go.Op.move (Go.Operand.tmp 6), type := 9, pos := "laws.go:199", after := #[], guard := none }) (v := ?_) rfl (by kernel_rfl) (by kernel_rfl) (by kernel_rfl) (fun _ _ _ h => h) (Or.inl ⟨by rfl, ?yld284⟩) hHeld ?nxt284
      case yld284 => (intro w hSw; (try dsimp only at hSw); go_simp) <;> with_reducible rfl
      (try simp only [Act.put, List.setIfInBounds_toArray, List.set_cons_zero, List.set_cons_succ])
      refine wpAnyH_take (i := 1) (oi := { dst := some 26, op := Go.Op.move (Go.Operand.tmp 5), type := 40, pos := "laws.go:199", after := #[], guard := none }) (v := ?_) rfl (by kernel_rfl) (by kernel_rfl) (by kernel_rfl) (fun _ _ _ h => h) (Or.inl ⟨by rfl, ?yld285⟩) hHeld ?nxt285
      case yld285 => (intro w hSw; (try dsimp only at hSw); go_simp) <;> with_reducible rfl
      (try simp only [Act.put, List.setIfInBounds_toArray, List.set_cons_zero, List.set_cons_succ])
      refine wpAnyH_ready (rs := [2]) (by kernel_rfl) (by simp) ?_
      refine AllReadyH.cons (o := { dst := some 27, op := Go.Op.call { callee := Go.Callee.value (Go.Operand.func 30), args := #[Go.Operand.tmp 26], argTypes := #[40] }, type := 9, pos := "laws.go:199", after := #[{ on := 1, ground := Go.Ground.data }], guard := none }) rfl (fun K hK => ?_) AllReadyH.nil
      go_simp
      go_at_call 30
      have hp := hHeld.1
      refine (TexS.spec_text xa xc ps _ (HP.out.on hp)).mono ?_
      rintro e w' ⟨rfl, hB⟩
      rw [ht.out]
      have hBn := hp.trans (hB.mono hp.size)
      clear hp hB
      (try go_wp2_with fail)
      refine hK.out _ _ ?_ (fun hHeld2 => ?_)
      · (try dsimp only) <;> (first | exact ⟨hBn, (hBn.cell (p := ⟨Y, 0, none⟩) hYl).trans k0, (hBn.cell (p := ⟨Y, 1, none⟩) hYl).trans k1⟩ | exact ⟨hB0, k0, k1⟩)
      clear hK K hHeld
      have hHeld := hHeld2
      clear hHeld2
      (try simp only [Act.put, List.setIfInBounds_toArray, List.set_cons_zero, List.set_cons_succ])
      refine wpAnyH_take (i := 3) (oi := { dst := some 28, op := Go.Op.binOp Go.BinOp.eql 9 (Go.Operand.tmp 25) (Go.Operand.tmp 27) 9, type := 4, pos := "laws.go:199", after := #[{ on := 0, ground := Go.Ground.data }, { on := 2, ground := Go.Ground.data }], guard := none }) (v := ?_) rfl (by kernel_rfl) (by kernel_rfl) (by kernel_rfl) (fun _ _ _ h => h) (Or.inl ⟨by rfl, ?yld286⟩) hHeld ?nxt286
      case yld286 => (intro w hSw; (try dsimp only at hSw); go_simp) <;> with_reducible rfl
      (try simp only [Act.put, List.setIfInBounds_toArray, List.set_cons_zero, List.set_cons_succ])
      refine wpAnyH_take (i := 4) (oi := { dst := some 29, op := Go.Op.move (Go.Operand.tmp 28), type := 4, pos := "laws.go:199", after := #[{ on := 3, ground := Go.Ground.data }, { on := 2, ground := Go.Ground.chain }], guard := none }) (v := ?_) rfl (by kernel_rfl) (by kernel_rfl) (by kernel_rfl) (fun _ _ _ h => h) (Or.inl ⟨by rfl, ?yld287⟩) hHeld ?nxt287
      case yld287 => (intro w hSw; (try dsimp only at hSw); go_simp) <;> with_reducible rfl
      (try simp only [Act.put, List.setIfInBounds_toArray, List.set_cons_zero, List.set_cons_succ])
      refine wpAnyH_take (i := 5) (oi := { dst := some 30, op := Go.Op.move (Go.Operand.tmp 5), type := 40, pos := "laws.go:199", after := #[{ on := 4, ground := Go.Ground.guard }], guard := some (4, true) }) (v := ?_) rfl (by kernel_rfl) (by kernel_rfl) (by kernel_rfl) (fun _ _ _ h => h) (Or.inl ⟨by rfl, ?yld288⟩) hHeld ?nxt288
      case yld288 => (intro w hSw; (try dsimp only at hSw); go_simp) <;> with_reducible rfl
      (try simp only [Act.put, List.setIfInBounds_toArray, List.set_cons_zero, List.set_cons_succ])
      refine wpAnyH_take (i := 7) (oi := { dst := some 32, op := Go.Op.move (Go.Operand.tmp 5), type := 40, pos := "laws.go:199", after := #[{ on := 4, ground := Go.Ground.guard }], guard := some (4, true) }) (v := ?_) rfl (by kernel_rfl) (by kernel_rfl) (by kernel_rfl) (fun _ _ _ h => h) (Or.inl ⟨by rfl, ?yld289⟩) hHeld ?nxt289
      case yld289 => (intro w hSw; (try dsimp only at hSw); go_simp) <;> with_reducible rfl
      (try simp only [Act.put, List.setIfInBounds_toArray, List.set_cons_zero, List.set_cons_succ])
      refine wpAnyH_ready (rs := [6]) (by kernel_rfl) (by simp) ?_
      refine AllReadyH.cons (o := { dst := some 31, op := Go.Op.call { callee := Go.Callee.value (Go.Operand.func 31), args := #[Go.Operand.tmp 30], argTypes := #[40] }, type := 4, pos := "laws.go:199", after := #[{ on := 5, ground := Go.Ground.data }, { on := 4, ground := Go.Ground.chain }, { on := 4, ground := Go.Ground.guard }], guard := some (4, true) }) rfl (fun K hK => ?_) AllReadyH.nil
      go_simp
      go_at_call 31
      have hp := hHeld.1
      refine (PrtI.impl_right xa xc ps _ (HP.out.on hp) hxc (HEW.out.on hp).2).mono ?_
      rintro e w' ⟨rfl, hB⟩
      rw [hr.out]
      have hBn := hp.trans (hB.mono hp.size)
      clear hp hB
      (try go_wp2_with fail)
      refine hK.out _ _ ?_ (fun hHeld2 => ?_)
      · (try dsimp only) <;> (first | exact ⟨hBn, (hBn.cell (p := ⟨Y, 0, none⟩) hYl).trans k0, (hBn.cell (p := ⟨Y, 1, none⟩) hYl).trans k1⟩ | exact ⟨hB0, k0, k1⟩)
      clear hK K hHeld
      have hHeld := hHeld2
      clear hHeld2
      (try simp only [Act.put, List.setIfInBounds_toArray, List.set_cons_zero, List.set_cons_succ])
      refine wpAnyH_ready (rs := [8]) (by kernel_rfl) (by simp) ?_
      refine AllReadyH.cons (o := { dst := some 33, op := Go.Op.call { callee := Go.Callee.value (Go.Operand.func 32), args := #[Go.Operand.tmp 32], argTypes := #[40] }, type := 4, pos := "laws.go:199", after := #[{ on := 7, ground := Go.Ground.data }, { on := 6, ground := Go.Ground.chain }, { on := 4, ground := Go.Ground.guard }], guard := some (4, true) }) rfl (fun K hK => ?_) AllReadyH.nil
      go_simp
      go_at_call 32
      have hp := hHeld.1
      refine (PrtS.spec_right xa xc ps _ (HP.out.on hp)).mono ?_
      rintro e w' ⟨rfl, hB⟩
      rw [hr.out]
      have hBn := hp.trans (hB.mono hp.size)
      clear hp hB
      (try go_wp2_with fail)
      refine hK.out _ _ ?_ (fun hHeld2 => ?_)
      · (try dsimp only) <;> (first | exact ⟨hBn, (hBn.cell (p := ⟨Y, 0, none⟩) hYl).trans k0, (hBn.cell (p := ⟨Y, 1, none⟩) hYl).trans k1⟩ | exact ⟨hB0, k0, k1⟩)
      clear hK K hHeld
      have hHeld := hHeld2
      clear hHeld2
      (try simp only [Act.put, List.setIfInBounds_toArray, List.set_cons_zero, List.set_cons_succ])
      refine wpAnyH_take (i := 9) (oi := { dst := some 34, op := Go.Op.binOp Go.BinOp.eql 4 (Go.Operand.tmp 31) (Go.Operand.tmp 33) 4, type := 4, pos := "laws.go:199", after := #[{ on := 6, ground := Go.Ground.data }, { on := 8, ground := Go.Ground.data }, { on := 4, ground := Go.Ground.guard }], guard := some (4, true) }) (v := ?_) rfl (by kernel_rfl) (by kernel_rfl) (by kernel_rfl) (fun _ _ _ h => h) (Or.inl ⟨by rfl, ?yld290⟩) hHeld ?nxt290
      case yld290 => (intro w hSw; (try dsimp only at hSw); go_simp) <;> with_reducible rfl
      (try simp only [Act.put, List.setIfInBounds_toArray, List.set_cons_zero, List.set_cons_succ])
      refine wpAnyH_take (i := 10) (oi := { dst := some 35, op := Go.Op.pick (Go.Operand.tmp 29) (Go.Operand.tmp 34) (Go.Operand.const (Go.Value.bool false)), type := 4, pos := "laws.go:199", after := #[{ on := 4, ground := Go.Ground.data }, { on := 9, ground := Go.Ground.data }], guard := none }) (v := ?_) rfl (by kernel_rfl) (by kernel_rfl) (by kernel_rfl) (fun _ _ _ h => h) (Or.inl ⟨by rfl, ?yld291⟩) hHeld ?nxt291
      case yld291 => (intro w hSw; (try dsimp only at hSw); go_simp) <;> with_reducible rfl
      (try simp only [Act.put, List.setIfInBounds_toArray, List.set_cons_zero, List.set_cons_succ])
      refine wpAnyH_take (i := 11) (oi := { dst := some 36, op := Go.Op.move (Go.Operand.tmp 35), type := 4, pos := "laws.go:199", after := #[{ on := 10, ground := Go.Ground.data }, { on := 8, ground := Go.Ground.chain }], guard := none }) (v := ?_) rfl (by kernel_rfl) (by kernel_rfl) (by kernel_rfl) (fun _ _ _ h => h) (Or.inl ⟨by rfl, ?yld292⟩) hHeld ?nxt292
      case yld292 => (intro w hSw; (try dsimp only at hSw); go_simp) <;> with_reducible rfl
      (try simp only [Act.put, List.setIfInBounds_toArray, List.set_cons_zero, List.set_cons_succ])
      refine wpAnyH_take (i := 12) (oi := { dst := some 37, op := Go.Op.move (Go.Operand.tmp 5), type := 40, pos := "laws.go:199", after := #[{ on := 11, ground := Go.Ground.guard }], guard := some (11, true) }) (v := ?_) rfl (by kernel_rfl) (by kernel_rfl) (by kernel_rfl) (fun _ _ _ h => h) (Or.inl ⟨by rfl, ?yld293⟩) hHeld ?nxt293
      case yld293 => (intro w hSw; (try dsimp only at hSw); go_simp) <;> with_reducible rfl
      (try simp only [Act.put, List.setIfInBounds_toArray, List.set_cons_zero, List.set_cons_succ])
      refine wpAnyH_take (i := 14) (oi := { dst := some 39, op := Go.Op.move (Go.Operand.tmp 5), type := 40, pos := "laws.go:199", after := #[{ on := 11, ground := Go.Ground.guard }], guard := some (11, true) }) (v := ?_) rfl (by kernel_rfl) (by kernel_rfl) (by kernel_rfl) (fun _ _ _ h => h) (Or.inl ⟨by rfl, ?yld294⟩) hHeld ?nxt294
      case yld294 => (intro w hSw; (try dsimp only at hSw); go_simp) <;> with_reducible rfl
      (try simp only [Act.put, List.setIfInBounds_toArray, List.set_cons_zero, List.set_cons_succ])
      refine wpAnyH_ready (rs := [13]) (by kernel_rfl) (by simp) ?_
      refine AllReadyH.cons (o := { dst := some 38, op := Go.Op.call { callee := Go.Callee.value (Go.Operand.func 33), args := #[Go.Operand.tmp 37], argTypes := #[40] }, type := 4, pos := "laws.go:199", after := #[{ on := 12, ground := Go.Ground.data }, { on := 11, ground := Go.Ground.chain }, { on := 11, ground := Go.Ground.guard }], guard := some (11, true) }) rfl (fun K hK => ?_) AllReadyH.nil
      go_simp
      go_at_call 33
      have hp := hHeld.1
      refine (PrtI.impl_truth xa xc ps _ (HP.out.on hp) hxc (HEW.out.on hp).2).mono ?_
      rintro e w' ⟨rfl, hB⟩
      rw [hth.out]
      have hBn := hp.trans (hB.mono hp.size)
      clear hp hB
      (try go_wp2_with fail)
      refine hK.out _ _ ?_ (fun hHeld2 => ?_)
      · (try dsimp only) <;> (first | exact ⟨hBn, (hBn.cell (p := ⟨Y, 0, none⟩) hYl).trans k0, (hBn.cell (p := ⟨Y, 1, none⟩) hYl).trans k1⟩ | exact ⟨hB0, k0, k1⟩)
      clear hK K hHeld
      have hHeld := hHeld2
      clear hHeld2
      (try simp only [Act.put, List.setIfInBounds_toArray, List.set_cons_zero, List.set_cons_succ])
      refine wpAnyH_ready (rs := [15]) (by kernel_rfl) (by simp) ?_
      refine AllReadyH.cons (o := { dst := some 40, op := Go.Op.call { callee := Go.Callee.value (Go.Operand.func 34), args := #[Go.Operand.tmp 39], argTypes := #[40] }, type := 4, pos := "laws.go:199", after := #[{ on := 14, ground := Go.Ground.data }, { on := 13, ground := Go.Ground.chain }, { on := 11, ground := Go.Ground.guard }], guard := some (11, true) }) rfl (fun K hK => ?_) AllReadyH.nil
      go_simp
      go_at_call 34
      have hp := hHeld.1
      refine (PrtS.spec_truth xa xc ps _ (HP.out.on hp)).mono ?_
      rintro e w' ⟨rfl, hB⟩
      rw [hth.out]
      have hBn := hp.trans (hB.mono hp.size)
      clear hp hB
      (try go_wp2_with fail)
      refine hK.out _ _ ?_ (fun hHeld2 => ?_)
      · (try dsimp only) <;> (first | exact ⟨hBn, (hBn.cell (p := ⟨Y, 0, none⟩) hYl).trans k0, (hBn.cell (p := ⟨Y, 1, none⟩) hYl).trans k1⟩ | exact ⟨hB0, k0, k1⟩)
      clear hK K hHeld
      have hHeld := hHeld2
      clear hHeld2
      (try simp only [Act.put, List.setIfInBounds_toArray, List.set_cons_zero, List.set_cons_succ])
      refine wpAnyH_take (i := 16) (oi := { dst := some 41, op := Go.Op.binOp Go.BinOp.eql 4 (Go.Operand.tmp 38) (Go.Operand.tmp 40) 4, type := 4, pos := "laws.go:199", after := #[{ on := 13, ground := Go.Ground.data }, { on := 15, ground := Go.Ground.data }, { on := 11, ground := Go.Ground.guard }], guard := some (11, true) }) (v := ?_) rfl (by kernel_rfl) (by kernel_rfl) (by kernel_rfl) (fun _ _ _ h => h) (Or.inl ⟨by rfl, ?yld295⟩) hHeld ?nxt295
      case yld295 => (intro w hSw; (try dsimp only at hSw); go_simp) <;> with_reducible rfl
      (try simp only [Act.put, List.setIfInBounds_toArray, List.set_cons_zero, List.set_cons_succ])
      refine wpAnyH_take (i := 17) (oi := { dst := some 42, op := Go.Op.pick (Go.Operand.tmp 36) (Go.Operand.tmp 41) (Go.Operand.const (Go.Value.bool false)), type := 4, pos := "laws.go:199", after := #[{ on := 11, ground := Go.Ground.data }, { on := 16, ground := Go.Ground.data }], guard := none }) (v := ?_) rfl (by kernel_rfl) (by kernel_rfl) (by kernel_rfl) (fun _ _ _ h => h) (Or.inl ⟨by rfl, ?yld296⟩) hHeld ?nxt296
      case yld296 => (intro w hSw; (try dsimp only at hSw); go_simp) <;> with_reducible rfl
      (try simp only [Act.put, List.setIfInBounds_toArray, List.set_cons_zero, List.set_cons_succ])
      refine wpAnyH_take (i := 18) (oi := { dst := some 43, op := Go.Op.move (Go.Operand.tmp 42), type := 4, pos := "laws.go:199", after := #[{ on := 17, ground := Go.Ground.data }, { on := 15, ground := Go.Ground.chain }], guard := none }) (v := ?_) rfl (by kernel_rfl) (by kernel_rfl) (by kernel_rfl) (fun _ _ _ h => h) (Or.inl ⟨by rfl, ?yld297⟩) hHeld ?nxt297
      case yld297 => (intro w hSw; (try dsimp only at hSw); go_simp) <;> with_reducible rfl
      (try simp only [Act.put, List.setIfInBounds_toArray, List.set_cons_zero, List.set_cons_succ])
      refine wpAnyH_take (i := 19) (oi := { dst := some 44, op := Go.Op.move (Go.Operand.tmp 5), type := 40, pos := "laws.go:199", after := #[{ on := 18, ground := Go.Ground.guard }], guard := some (18, true) }) (v := ?_) rfl (by kernel_rfl) (by kernel_rfl) (by kernel_rfl) (fun _ _ _ h => h) (Or.inl ⟨by rfl, ?yld298⟩) hHeld ?nxt298
      case yld298 => (intro w hSw; (try dsimp only at hSw); go_simp) <;> with_reducible rfl
      (try simp only [Act.put, List.setIfInBounds_toArray, List.set_cons_zero, List.set_cons_succ])
      refine wpAnyH_take (i := 21) (oi := { dst := some 46, op := Go.Op.move (Go.Operand.tmp 5), type := 40, pos := "laws.go:199", after := #[{ on := 18, ground := Go.Ground.guard }], guard := some (18, true) }) (v := ?_) rfl (by kernel_rfl) (by kernel_rfl) (by kernel_rfl) (fun _ _ _ h => h) (Or.inl ⟨by rfl, ?yld299⟩) hHeld ?nxt299
      case yld299 => (intro w hSw; (try dsimp only at hSw); go_simp) <;> with_reducible rfl
      (try simp only [Act.put, List.setIfInBounds_toArray, List.set_cons_zero, List.set_cons_succ])
      refine wpAnyH_ready (rs := [20]) (by kernel_rfl) (by simp) ?_
      refine AllReadyH.cons (o := { dst := some 45, op := Go.Op.call { callee := Go.Callee.value (Go.Operand.func 36), args := #[Go.Operand.tmp 44], argTypes := #[40] }, type := 48, pos := "laws.go:199", after := #[{ on := 19, ground := Go.Ground.data }, { on := 18, ground := Go.Ground.chain }, { on := 18, ground := Go.Ground.guard }], guard := some (18, true) }) rfl (fun K hK => ?_) AllReadyH.nil
      go_simp
      go_at_call 36
      have hp := hHeld.1
      refine (FldI.impl_fields xa xc ps _ (HP.out.on hp) hxc (HEW.out.on hp).2).mono ?_
      rw [hF.out]
      rintro e w' ⟨⟨v1, rfl, hown1⟩, hB⟩
      obtain ⟨f1, c1, hv1, hS1, -, -⟩ := StrW.strs_own hown1 hfl
      subst hv1
      have hBn := hp.trans (hB.mono hp.size)
      have HS1 := hid hS1
      clear hp hB hown1 hS1
      (try go_wp2_with fail)
      refine hK.out _ _ ?_ (fun hHeld2 => ?_)
      · (try dsimp only) <;> (first | exact ⟨hBn, (hBn.cell (p := ⟨Y, 0, none⟩) hYl).trans k0, (hBn.cell (p := ⟨Y, 1, none⟩) hYl).trans k1⟩ | exact ⟨hB0, k0, k1⟩)
      clear hK K hHeld
      have hHeld := hHeld2
      clear hHeld2
      (try simp only [Act.put, List.setIfInBounds_toArray, List.set_cons_zero, List.set_cons_succ])
      refine wpAnyH_ready (rs := [22]) (by kernel_rfl) (by simp) ?_
      refine AllReadyH.cons (o := { dst := some 47, op := Go.Op.call { callee := Go.Callee.value (Go.Operand.func 37), args := #[Go.Operand.tmp 46], argTypes := #[40] }, type := 48, pos := "laws.go:199", after := #[{ on := 21, ground := Go.Ground.data }, { on := 20, ground := Go.Ground.chain }, { on := 18, ground := Go.Ground.guard }], guard := some (18, true) }) rfl (fun K hK => ?_) AllReadyH.nil
      go_simp
      go_at_call 37
      have hp := hHeld.1
      refine (FldS.spec_fields xa xc ps _ (HP.out.on hp)).mono ?_
      rw [hF.out]
      rintro e w' ⟨⟨f2, c2, rfl, hS2⟩, hB⟩
      have hBn := hp.trans (hB.mono hp.size)
      have HS2 := hid hS2
      have HS1' := hid (HS1.out.on hB)
      clear hp hB hS2
      (try go_wp2_with fail)
      refine hK.out _ _ ?_ (fun hHeld2 => ?_)
      · (try dsimp only) <;> (first | exact ⟨hBn, (hBn.cell (p := ⟨Y, 0, none⟩) hYl).trans k0, (hBn.cell (p := ⟨Y, 1, none⟩) hYl).trans k1⟩ | exact ⟨hB0, k0, k1⟩)
      clear hK K hHeld
      have hHeld := hHeld2
      clear hHeld2
      (try simp only [Act.put, List.setIfInBounds_toArray, List.set_cons_zero, List.set_cons_succ])
      refine wpAnyH_ready (rs := [23]) (by kernel_rfl) (by simp) ?_
      refine AllReadyH.cons (o := { dst := some 48, op := Go.Op.call { callee := Go.Callee.value (Go.Operand.func 35), args := #[Go.Operand.tmp 45, Go.Operand.tmp 47], argTypes := #[48, 48] }, type := 4, pos := "laws.go:199", after := #[{ on := 20, ground := Go.Ground.data }, { on := 22, ground := Go.Ground.data }, { on := 22, ground := Go.Ground.chain }, { on := 18, ground := Go.Ground.guard }], guard := some (18, true) }) rfl (fun K hK => ?_) AllReadyH.nil
      go_simp
      go_at_call 35
      have hp := hHeld.1
      refine (LwX.lwStrs f1 f2 c1 c2 F _ HS1'.out HS2.out).mono ?_
      rintro e w' ⟨rfl, hB⟩
      have hBn := hp.trans (hB.mono hp.size)
      clear hp hB
      (try go_wp2_with fail)
      refine hK.out _ _ ?_ (fun hHeld2 => ?_)
      · (try dsimp only) <;> (first | exact ⟨hBn, (hBn.cell (p := ⟨Y, 0, none⟩) hYl).trans k0, (hBn.cell (p := ⟨Y, 1, none⟩) hYl).trans k1⟩ | exact ⟨hB0, k0, k1⟩)
      clear hK K hHeld
      have hHeld := hHeld2
      clear hHeld2
      (try simp only [Act.put, List.setIfInBounds_toArray, List.set_cons_zero, List.set_cons_succ])
      refine wpAnyH_take (i := 24) (oi := { dst := some 49, op := Go.Op.pick (Go.Operand.tmp 43) (Go.Operand.tmp 48) (Go.Operand.const (Go.Value.bool false)), type := 4, pos := "laws.go:199", after := #[{ on := 18, ground := Go.Ground.data }, { on := 23, ground := Go.Ground.data }], guard := none }) (v := ?_) rfl (by kernel_rfl) (by kernel_rfl) (by kernel_rfl) (fun _ _ _ h => h) (Or.inl ⟨by rfl, ?yld300⟩) hHeld ?nxt300
      case yld300 => (intro w hSw; (try dsimp only at hSw); go_simp) <;> with_reducible rfl
      (try simp only [Act.put, List.setIfInBounds_toArray, List.set_cons_zero, List.set_cons_succ])
      refine wpAnyH_take (i := 25) (oi := { dst := some 50, op := Go.Op.move (Go.Operand.tmp 49), type := 4, pos := "laws.go:199", after := #[{ on := 24, ground := Go.Ground.data }, { on := 23, ground := Go.Ground.chain }], guard := none }) (v := ?_) rfl (by kernel_rfl) (by kernel_rfl) (by kernel_rfl) (fun _ _ _ h => h) (Or.inl ⟨by rfl, ?yld301⟩) hHeld ?nxt301
      case yld301 => (intro w hSw; (try dsimp only at hSw); go_simp) <;> with_reducible rfl
      (try simp only [Act.put, List.setIfInBounds_toArray, List.set_cons_zero, List.set_cons_succ])
      refine wpAnyH_take (i := 26) (oi := { dst := some 51, op := Go.Op.move (Go.Operand.tmp 6), type := 9, pos := "laws.go:199", after := #[{ on := 25, ground := Go.Ground.guard }], guard := some (25, true) }) (v := ?_) rfl (by kernel_rfl) (by kernel_rfl) (by kernel_rfl) (fun _ _ _ h => h) (Or.inl ⟨by rfl, ?yld302⟩) hHeld ?nxt302
      case yld302 => (intro w hSw; (try dsimp only at hSw); go_simp) <;> with_reducible rfl
      (try simp only [Act.put, List.setIfInBounds_toArray, List.set_cons_zero, List.set_cons_succ])
      refine wpAnyH_take (i := 27) (oi := { dst := some 52, op := Go.Op.binOp Go.BinOp.eql 9 (Go.Operand.tmp 51) (Go.Operand.const (Go.Value.string { data := #[] })) 9, type := 4, pos := "laws.go:199", after := #[{ on := 26, ground := Go.Ground.data }, { on := 25, ground := Go.Ground.guard }], guard := some (25, true) }) (v := ?_) rfl (by kernel_rfl) (by kernel_rfl) (by kernel_rfl) (fun _ _ _ h => h) (Or.inl ⟨by rfl, ?yld303⟩) hHeld ?nxt303
      case yld303 => (intro w hSw; (try dsimp only at hSw); go_simp) <;> with_reducible rfl
      (try simp only [Act.put, List.setIfInBounds_toArray, List.set_cons_zero, List.set_cons_succ])
      refine wpAnyH_take (i := 28) (oi := { dst := some 53, op := Go.Op.move (Go.Operand.tmp 52), type := 4, pos := "laws.go:199", after := #[{ on := 27, ground := Go.Ground.data }, { on := 25, ground := Go.Ground.chain }, { on := 25, ground := Go.Ground.guard }], guard := some (25, true) }) (v := ?_) rfl (by kernel_rfl) (by kernel_rfl) (by kernel_rfl) (fun _ _ _ h => h) (Or.inl ⟨by rfl, ?yld304⟩) hHeld ?nxt304
      case yld304 => (intro w hSw; (try dsimp only at hSw); go_simp) <;> with_reducible rfl
      (try simp only [Act.put, List.setIfInBounds_toArray, List.set_cons_zero, List.set_cons_succ])
      refine wpAnyH_take (i := 29) (oi := { dst := some 54, op := Go.Op.move (Go.Operand.tmp 6), type := 9, pos := "laws.go:199", after := #[{ on := 28, ground := Go.Ground.guard }], guard := some (28, false) }) (v := ?_) rfl (by kernel_rfl) (by kernel_rfl) (by kernel_rfl) (fun _ _ _ h => h) (Or.inl ⟨by rfl, ?yld305⟩) hHeld ?nxt305
      case yld305 => (intro w hSw; (try dsimp only at hSw); go_simp) <;> with_reducible rfl
      (try simp only [Act.put, List.setIfInBounds_toArray, List.set_cons_zero, List.set_cons_succ])
      refine wpAnyH_take (i := 32) (oi := { dst := some 57, op := Go.Op.move (Go.Operand.tmp 5), type := 40, pos := "laws.go:199", after := #[{ on := 28, ground := Go.Ground.guard }], guard := some (28, false) }) (v := ?_) rfl (by kernel_rfl) (by kernel_rfl) (by kernel_rfl) (fun _ _ _ h => h) (Or.inl ⟨by rfl, ?yld306⟩) hHeld ?nxt306
      case yld306 => (intro w hSw; (try dsimp only at hSw); go_simp) <;> with_reducible rfl
      (try simp only [Act.put, List.setIfInBounds_toArray, List.set_cons_zero, List.set_cons_succ])
      refine wpAnyH_ready (rs := [30]) (by kernel_rfl) (by simp) ?_
      refine AllReadyH.cons (o := { dst := some 55, op := Go.Op.call { callee := Go.Callee.value (Go.Operand.func 29), args := #[Go.Operand.tmp 54], argTypes := #[9] }, type := 44, pos := "laws.go:199", after := #[{ on := 29, ground := Go.Ground.data }, { on := 28, ground := Go.Ground.chain }, { on := 28, ground := Go.Ground.guard }], guard := some (28, false) }) rfl (fun K hK => ?_) AllReadyH.nil
      go_simp
      go_at_call 29
      have hp := hHeld.1
      refine (ErpI.impl_read t _ (by unfold maxLen; omega) (HEW.out.on hp)).mono ?_
      rintro e w' ⟨qs, qa, qc, c4, rfl, hB, hO4, hR4⟩
      obtain ⟨rfl, rfl⟩ := ErdS.reads_same (HTR.out) hR4
      unfold ErdS.oe
      obtain ⟨aq, capq, eq4, hP4, -, -⟩ := hO4.parts
      cases eq4
      have hBn := hp.trans (hB.mono hp.size)
      have HP4 := hid hP4
      clear hp hB hO4 hR4 hP4
      (try go_wp2_with fail)
      refine hK.out _ _ ?_ (fun hHeld2 => ?_)
      · (try dsimp only) <;> (first | exact ⟨hBn, (hBn.cell (p := ⟨Y, 0, none⟩) hYl).trans k0, (hBn.cell (p := ⟨Y, 1, none⟩) hYl).trans k1⟩ | exact ⟨hB0, k0, k1⟩)
      clear hK K hHeld
      have hHeld := hHeld2
      clear hHeld2
      (try simp only [Act.put, List.setIfInBounds_toArray, List.set_cons_zero, List.set_cons_succ])
      refine wpAnyH_take (i := 31) (oi := { dst := some 56, op := Go.Op.field 44 (Go.Operand.tmp 55) 0, type := 40, pos := "laws.go:199", after := #[{ on := 30, ground := Go.Ground.data }, { on := 28, ground := Go.Ground.guard }], guard := some (28, false) }) (v := ?_) rfl (by kernel_rfl) (by kernel_rfl) (by kernel_rfl) (fun _ _ _ h => h) (Or.inl ⟨by rfl, ?yld307⟩) hHeld ?nxt307
      case yld307 => (intro w hSw; (try dsimp only at hSw); go_simp) <;> with_reducible rfl
      (try simp only [Act.put, List.setIfInBounds_toArray, List.set_cons_zero, List.set_cons_succ])
      refine wpAnyH_ready (rs := [33]) (by kernel_rfl) (by simp) ?_
      refine AllReadyH.cons (o := { dst := some 58, op := Go.Op.call { callee := Go.Callee.value (Go.Operand.func 38), args := #[Go.Operand.tmp 56, Go.Operand.tmp 57], argTypes := #[40, 40] }, type := 4, pos := "laws.go:199", after := #[{ on := 31, ground := Go.Ground.data }, { on := 32, ground := Go.Ground.data }, { on := 30, ground := Go.Ground.chain }, { on := 28, ground := Go.Ground.guard }], guard := some (28, false) }) rfl (fun K hK => ?_) AllReadyH.nil
      go_simp
      go_at_call 38
      have hp := hHeld.1
      refine (LwX.lwParts qa xa qc xc ps _ HP4.out (HP.out.on hp)).mono ?_
      rintro e w' ⟨rfl, hB⟩
      have hBn := hp.trans (hB.mono hp.size)
      clear hp hB
      (try go_wp2_with fail)
      refine hK.out _ _ ?_ (fun hHeld2 => ?_)
      · (try dsimp only) <;> (first | exact ⟨hBn, (hBn.cell (p := ⟨Y, 0, none⟩) hYl).trans k0, (hBn.cell (p := ⟨Y, 1, none⟩) hYl).trans k1⟩ | exact ⟨hB0, k0, k1⟩)
      clear hK K hHeld
      have hHeld := hHeld2
      clear hHeld2
      (try simp only [Act.put, List.setIfInBounds_toArray, List.set_cons_zero, List.set_cons_succ])
      refine wpAnyH_take (i := 34) (oi := { dst := some 59, op := Go.Op.pick (Go.Operand.tmp 53) (Go.Operand.const (Go.Value.bool true)) (Go.Operand.tmp 58), type := 4, pos := "laws.go:199", after := #[{ on := 28, ground := Go.Ground.data }, { on := 33, ground := Go.Ground.data }, { on := 25, ground := Go.Ground.guard }], guard := some (25, true) }) (v := ?_) rfl (by kernel_rfl) (by kernel_rfl) (by kernel_rfl) (fun _ _ _ h => h) (Or.inl ⟨by rfl, ?yld308⟩) hHeld ?nxt308
      case yld308 => (intro w hSw; (try dsimp only at hSw); go_simp) <;> with_reducible rfl
      (try simp only [Act.put, List.setIfInBounds_toArray, List.set_cons_zero, List.set_cons_succ])
      refine wpAnyH_take (i := 35) (oi := { dst := some 60, op := Go.Op.pick (Go.Operand.tmp 50) (Go.Operand.tmp 59) (Go.Operand.const (Go.Value.bool false)), type := 4, pos := "laws.go:199", after := #[{ on := 25, ground := Go.Ground.data }, { on := 34, ground := Go.Ground.data }], guard := none }) (v := ?_) rfl (by kernel_rfl) (by kernel_rfl) (by kernel_rfl) (fun _ _ _ h => h) (Or.inl ⟨by rfl, ?yld309⟩) hHeld ?nxt309
      case yld309 => (intro w hSw; (try dsimp only at hSw); go_simp) <;> with_reducible rfl
      (try simp only [Act.put, List.setIfInBounds_toArray, List.set_cons_zero, List.set_cons_succ])
      refine wpAnyH_take (i := 36) (oi := { dst := some 61, op := Go.Op.move (Go.Operand.tmp 60), type := 4, pos := "laws.go:199", after := #[{ on := 35, ground := Go.Ground.data }, { on := 33, ground := Go.Ground.chain }], guard := none }) (v := ?_) rfl (by kernel_rfl) (by kernel_rfl) (by kernel_rfl) (fun _ _ _ h => h) (Or.inl ⟨by rfl, ?yld310⟩) hHeld ?nxt310
      case yld310 => (intro w hSw; (try dsimp only at hSw); go_simp) <;> with_reducible rfl
      (try simp only [Act.put, List.setIfInBounds_toArray, List.set_cons_zero, List.set_cons_succ])
      refine wpAnyH_take (i := 37) (oi := { dst := some 62, op := Go.Op.fieldAddr 44 (Go.Operand.tmp 8) 1, type := 0, pos := "laws.go:199", after := #[{ on := 36, ground := Go.Ground.guard }], guard := some (36, true) }) (v := ?_) rfl (by kernel_rfl) (by kernel_rfl) (by kernel_rfl) (fun _ _ _ h => h) (Or.inl ⟨by rfl, ?yld311⟩) hHeld ?nxt311
      case yld311 => (intro w hSw; (try dsimp only at hSw); go_simp) <;> with_reducible rfl
      (try simp only [Act.put, List.setIfInBounds_toArray, List.set_cons_zero, List.set_cons_succ])
      refine wpAnyH_take (i := 38) (oi := { dst := some 63, op := Go.Op.load 2 (Go.Operand.tmp 62), type := 2, pos := "laws.go:199", after := #[{ on := 37, ground := Go.Ground.data }, { on := 36, ground := Go.Ground.guard }], guard := some (36, true) }) (v := ?_) rfl (by kernel_rfl) (by kernel_rfl) (by kernel_rfl) (fun _ _ _ h => h) (Or.inl ⟨by rfl, ?yld312⟩) hHeld ?nxt312
      case yld312 => (intro w hSw; (try dsimp only at hSw); go_simp) <;> with_reducible rfl
      (try simp only [Act.put, List.setIfInBounds_toArray, List.set_cons_zero, List.set_cons_succ])
      refine wpAnyH_take (i := 39) (oi := { dst := some 64, op := Go.Op.move (Go.Operand.tmp 7), type := 9, pos := "laws.go:199", after := #[{ on := 36, ground := Go.Ground.guard }], guard := some (36, true) }) (v := ?_) rfl (by kernel_rfl) (by kernel_rfl) (by kernel_rfl) (fun _ _ _ h => h) (Or.inl ⟨by rfl, ?yld313⟩) hHeld ?nxt313
      case yld313 => (intro w hSw; (try dsimp only at hSw); go_simp) <;> with_reducible rfl
      (try simp only [Act.put, List.setIfInBounds_toArray, List.set_cons_zero, List.set_cons_succ])
      refine wpAnyH_ready (rs := [40]) (by kernel_rfl) (by simp) ?_
      refine AllReadyH.cons (o := { dst := some 65, op := Go.Op.call { callee := Go.Callee.value (Go.Operand.func 39), args := #[Go.Operand.tmp 64], argTypes := #[9] }, type := 44, pos := "laws.go:199", after := #[{ on := 39, ground := Go.Ground.data }, { on := 36, ground := Go.Ground.chain }, { on := 36, ground := Go.Ground.guard }], guard := some (36, true) }) rfl (fun K hK => ?_) AllReadyH.nil
      go_simp
      go_at_call 39
      have hp := hHeld.1
      refine (ErdS.spec_read u _ (by unfold maxLen; omega)).mono ?_
      rintro e w' ⟨q5, a5, c5, cc5, rfl, hB, hP5, hR5⟩
      obtain ⟨rfl, rfl⟩ := ErdS.reads_same HR.out hR5
      unfold ErdS.oe
      have hBn := hp.trans (hB.mono hp.size)
      clear hp hB hP5 hR5
      (try go_wp2_with fail)
      refine hK.out _ _ ?_ (fun hHeld2 => ?_)
      · (try dsimp only) <;> (first | exact ⟨hBn, (hBn.cell (p := ⟨Y, 0, none⟩) hYl).trans k0, (hBn.cell (p := ⟨Y, 1, none⟩) hYl).trans k1⟩ | exact ⟨hB0, k0, k1⟩)
      clear hK K hHeld
      have hHeld := hHeld2
      clear hHeld2
      (try simp only [Act.put, List.setIfInBounds_toArray, List.set_cons_zero, List.set_cons_succ])
      refine wpAnyH_take (i := 41) (oi := { dst := some 66, op := Go.Op.field 44 (Go.Operand.tmp 65) 1, type := 2, pos := "laws.go:199", after := #[{ on := 40, ground := Go.Ground.data }, { on := 36, ground := Go.Ground.guard }], guard := some (36, true) }) (v := ?_) rfl (by kernel_rfl) (by kernel_rfl) (by kernel_rfl) (fun _ _ _ h => h) (Or.inl ⟨by rfl, ?yld314⟩) hHeld ?nxt314
      case yld314 => (intro w hSw; (try dsimp only at hSw); go_simp) <;> with_reducible rfl
      (try simp only [Act.put, List.setIfInBounds_toArray, List.set_cons_zero, List.set_cons_succ])
      refine wpAnyH_take (i := 42) (oi := { dst := some 67, op := Go.Op.binOp Go.BinOp.eql 2 (Go.Operand.tmp 63) (Go.Operand.tmp 66) 2, type := 4, pos := "laws.go:199", after := #[{ on := 38, ground := Go.Ground.data }, { on := 41, ground := Go.Ground.data }, { on := 36, ground := Go.Ground.guard }], guard := some (36, true) }) (v := ?_) rfl (by kernel_rfl) (by kernel_rfl) (by kernel_rfl) (fun _ _ _ h => h) (Or.inl ⟨by rfl, ?yld315⟩) hHeld ?nxt315
      case yld315 => (intro w hSw; (try dsimp only at hSw); go_simp) <;> with_reducible rfl
      (try simp only [Act.put, List.setIfInBounds_toArray, List.set_cons_zero, List.set_cons_succ])
      refine wpAnyH_take (i := 43) (oi := { dst := some 68, op := Go.Op.pick (Go.Operand.tmp 61) (Go.Operand.tmp 67) (Go.Operand.const (Go.Value.bool false)), type := 4, pos := "laws.go:199", after := #[{ on := 36, ground := Go.Ground.data }, { on := 42, ground := Go.Ground.data }], guard := none }) (v := ?_) rfl (by kernel_rfl) (by kernel_rfl) (by kernel_rfl) (fun _ _ _ h => h) (Or.inl ⟨by rfl, ?yld316⟩) hHeld ?nxt316
      case yld316 => (intro w hSw; (try dsimp only at hSw); go_simp) <;> with_reducible rfl
      (try simp only [Act.put, List.setIfInBounds_toArray, List.set_cons_zero, List.set_cons_succ])
      refine wpAnyH_take (i := 44) (oi := { dst := some 69, op := Go.Op.move (Go.Operand.tmp 68), type := 4, pos := "laws.go:199", after := #[{ on := 43, ground := Go.Ground.data }, { on := 40, ground := Go.Ground.chain }], guard := none }) (v := ?_) rfl (by kernel_rfl) (by kernel_rfl) (by kernel_rfl) (fun _ _ _ h => h) (Or.inl ⟨by rfl, ?yld317⟩) hHeld ?nxt317
      case yld317 => (intro w hSw; (try dsimp only at hSw); go_simp) <;> with_reducible rfl
      (try simp only [Act.put, List.setIfInBounds_toArray, List.set_cons_zero, List.set_cons_succ])
      refine wpAnyH_take (i := 45) (oi := { dst := some 70, op := Go.Op.fieldAddr 44 (Go.Operand.tmp 8) 0, type := 0, pos := "laws.go:199", after := #[{ on := 44, ground := Go.Ground.guard }], guard := some (44, true) }) (v := ?_) rfl (by kernel_rfl) (by kernel_rfl) (by kernel_rfl) (fun _ _ _ h => h) (Or.inl ⟨by rfl, ?yld318⟩) hHeld ?nxt318
      case yld318 => (intro w hSw; (try dsimp only at hSw); go_simp) <;> with_reducible rfl
      (try simp only [Act.put, List.setIfInBounds_toArray, List.set_cons_zero, List.set_cons_succ])
      refine wpAnyH_take (i := 46) (oi := { dst := some 71, op := Go.Op.load 40 (Go.Operand.tmp 70), type := 40, pos := "laws.go:199", after := #[{ on := 45, ground := Go.Ground.data }, { on := 44, ground := Go.Ground.guard }], guard := some (44, true) }) (v := ?_) rfl (by kernel_rfl) (by kernel_rfl) (by kernel_rfl) (fun _ _ _ h => h) (Or.inl ⟨by rfl, ?yld319⟩) hHeld ?nxt319
      case yld319 => (intro w hSw; (try dsimp only at hSw); go_simp) <;> with_reducible rfl
      (try simp only [Act.put, List.setIfInBounds_toArray, List.set_cons_zero, List.set_cons_succ])
      refine wpAnyH_take (i := 47) (oi := { dst := some 72, op := Go.Op.move (Go.Operand.tmp 7), type := 9, pos := "laws.go:199", after := #[{ on := 44, ground := Go.Ground.guard }], guard := some (44, true) }) (v := ?_) rfl (by kernel_rfl) (by kernel_rfl) (by kernel_rfl) (fun _ _ _ h => h) (Or.inl ⟨by rfl, ?yld320⟩) hHeld ?nxt320
      case yld320 => (intro w hSw; (try dsimp only at hSw); go_simp) <;> with_reducible rfl
      (try simp only [Act.put, List.setIfInBounds_toArray, List.set_cons_zero, List.set_cons_succ])
      refine wpAnyH_ready (rs := [48]) (by kernel_rfl) (by simp) ?_
      refine AllReadyH.cons (o := { dst := some 73, op := Go.Op.call { callee := Go.Callee.value (Go.Operand.func 39), args := #[Go.Operand.tmp 72], argTypes := #[9] }, type := 44, pos := "laws.go:199", after := #[{ on := 47, ground := Go.Ground.data }, { on := 44, ground := Go.Ground.chain }, { on := 44, ground := Go.Ground.guard }], guard := some (44, true) }) rfl (fun K hK => ?_) AllReadyH.nil
      go_simp
      go_at_call 39
      have hp := hHeld.1
      refine (ErdS.spec_read u _ (by unfold maxLen; omega)).mono ?_
      rintro e w' ⟨q6, a6, c6, cc6, rfl, hB, hP6, hR6⟩
      obtain ⟨rfl, rfl⟩ := ErdS.reads_same HR.out hR6
      unfold ErdS.oe
      have hBn := hp.trans (hB.mono hp.size)
      have HP6 := hid hP6
      clear hp hB hP6 hR6
      (try go_wp2_with fail)
      refine hK.out _ _ ?_ (fun hHeld2 => ?_)
      · (try dsimp only) <;> (first | exact ⟨hBn, (hBn.cell (p := ⟨Y, 0, none⟩) hYl).trans k0, (hBn.cell (p := ⟨Y, 1, none⟩) hYl).trans k1⟩ | exact ⟨hB0, k0, k1⟩)
      clear hK K hHeld
      have hHeld := hHeld2
      clear hHeld2
      (try simp only [Act.put, List.setIfInBounds_toArray, List.set_cons_zero, List.set_cons_succ])
      refine wpAnyH_take (i := 49) (oi := { dst := some 74, op := Go.Op.field 44 (Go.Operand.tmp 73) 0, type := 40, pos := "laws.go:199", after := #[{ on := 48, ground := Go.Ground.data }, { on := 44, ground := Go.Ground.guard }], guard := some (44, true) }) (v := ?_) rfl (by kernel_rfl) (by kernel_rfl) (by kernel_rfl) (fun _ _ _ h => h) (Or.inl ⟨by rfl, ?yld321⟩) hHeld ?nxt321
      case yld321 => (intro w hSw; (try dsimp only at hSw); go_simp) <;> with_reducible rfl
      (try simp only [Act.put, List.setIfInBounds_toArray, List.set_cons_zero, List.set_cons_succ])
      refine wpAnyH_ready (rs := [50]) (by kernel_rfl) (by simp) ?_
      refine AllReadyH.cons (o := { dst := some 75, op := Go.Op.call { callee := Go.Callee.value (Go.Operand.func 38), args := #[Go.Operand.tmp 71, Go.Operand.tmp 74], argTypes := #[40, 40] }, type := 4, pos := "laws.go:199", after := #[{ on := 46, ground := Go.Ground.data }, { on := 49, ground := Go.Ground.data }, { on := 48, ground := Go.Ground.chain }, { on := 44, ground := Go.Ground.guard }], guard := some (44, true) }) rfl (fun K hK => ?_) AllReadyH.nil
      go_simp
      go_at_call 38
      have hp := hHeld.1
      refine (LwX.lwParts ya a6 yc c6 ys _ (HQ.out.on hp) HP6.out).mono ?_
      rintro e w' ⟨rfl, hB⟩
      have hBn := hp.trans (hB.mono hp.size)
      clear hp hB
      (try go_wp2_with fail)
      refine hK.out _ _ ?_ (fun hHeld2 => ?_)
      · (try dsimp only) <;> (first | exact ⟨hBn, (hBn.cell (p := ⟨Y, 0, none⟩) hYl).trans k0, (hBn.cell (p := ⟨Y, 1, none⟩) hYl).trans k1⟩ | exact ⟨hB0, k0, k1⟩)
      clear hK K hHeld
      have hHeld := hHeld2
      clear hHeld2
      (try simp only [Act.put, List.setIfInBounds_toArray, List.set_cons_zero, List.set_cons_succ])
      refine wpAnyH_take (i := 51) (oi := { dst := some 76, op := Go.Op.pick (Go.Operand.tmp 69) (Go.Operand.tmp 75) (Go.Operand.const (Go.Value.bool false)), type := 4, pos := "laws.go:199", after := #[{ on := 44, ground := Go.Ground.data }, { on := 50, ground := Go.Ground.data }], guard := none }) (v := ?_) rfl (by kernel_rfl) (by kernel_rfl) (by kernel_rfl) (fun _ _ _ h => h) (Or.inl ⟨by rfl, ?yld322⟩) hHeld ?nxt322
      case yld322 => (intro w hSw; (try dsimp only at hSw); go_simp) <;> with_reducible rfl
      (try simp only [Act.put, List.setIfInBounds_toArray, List.set_cons_zero, List.set_cons_succ])
      refine wpAnyH_take (i := 52) (oi := { dst := some 77, op := Go.Op.move (Go.Operand.tmp 76), type := 4, pos := "laws.go:199", after := #[{ on := 51, ground := Go.Ground.data }, { on := 50, ground := Go.Ground.chain }], guard := none }) (v := ?_) rfl (by kernel_rfl) (by kernel_rfl) (by kernel_rfl) (fun _ _ _ h => h) (Or.inl ⟨by rfl, ?yld323⟩) hHeld ?nxt323
      case yld323 => (intro w hSw; (try dsimp only at hSw); go_simp) <;> with_reducible rfl
      (try simp only [Act.put, List.setIfInBounds_toArray, List.set_cons_zero, List.set_cons_succ])
      refine wpAnyH_take (i := 53) (oi := { dst := some 78, op := Go.Op.fieldAddr 44 (Go.Operand.tmp 8) 1, type := 0, pos := "laws.go:199", after := #[{ on := 52, ground := Go.Ground.guard }], guard := some (52, true) }) (v := ?_) rfl (by kernel_rfl) (by kernel_rfl) (by kernel_rfl) (fun _ _ _ h => h) (Or.inl ⟨by rfl, ?yld324⟩) hHeld ?nxt324
      case yld324 => (intro w hSw; (try dsimp only at hSw); go_simp) <;> with_reducible rfl
      (try simp only [Act.put, List.setIfInBounds_toArray, List.set_cons_zero, List.set_cons_succ])
      refine wpAnyH_take (i := 54) (oi := { dst := some 79, op := Go.Op.load 2 (Go.Operand.tmp 78), type := 2, pos := "laws.go:199", after := #[{ on := 53, ground := Go.Ground.data }, { on := 52, ground := Go.Ground.guard }], guard := some (52, true) }) (v := ?_) rfl (by kernel_rfl) (by kernel_rfl) (by kernel_rfl) (fun _ _ _ h => h) (Or.inl ⟨by rfl, ?yld325⟩) hHeld ?nxt325
      case yld325 => (intro w hSw; (try dsimp only at hSw); go_simp) <;> with_reducible rfl
      (try simp only [Act.put, List.setIfInBounds_toArray, List.set_cons_zero, List.set_cons_succ])
      refine wpAnyH_take (i := 55) (oi := { dst := some 80, op := Go.Op.binOp Go.BinOp.neq 2 (Go.Operand.tmp 79) (Go.Operand.const (Go.Value.int Go.IntKind.i64 0)) 2, type := 4, pos := "laws.go:199", after := #[{ on := 54, ground := Go.Ground.data }, { on := 52, ground := Go.Ground.guard }], guard := some (52, true) }) (v := ?_) rfl (by kernel_rfl) (by kernel_rfl) (by kernel_rfl) (fun _ _ _ h => h) (Or.inl ⟨by rfl, ?yld326⟩) hHeld ?nxt326
      case yld326 => (intro w hSw; (try dsimp only at hSw); go_simp) <;> with_reducible rfl
      (try simp only [Act.put, List.setIfInBounds_toArray, List.set_cons_zero, List.set_cons_succ])
      refine wpAnyH_take (i := 56) (oi := { dst := some 81, op := Go.Op.move (Go.Operand.tmp 80), type := 4, pos := "laws.go:199", after := #[{ on := 55, ground := Go.Ground.data }, { on := 52, ground := Go.Ground.chain }, { on := 52, ground := Go.Ground.guard }], guard := some (52, true) }) (v := ?_) rfl (by kernel_rfl) (by kernel_rfl) (by kernel_rfl) (fun _ _ _ h => h) (Or.inl ⟨by rfl, ?yld327⟩) hHeld ?nxt327
      case yld327 => (intro w hSw; (try dsimp only at hSw); go_simp) <;> with_reducible rfl
      (try simp only [Act.put, List.setIfInBounds_toArray, List.set_cons_zero, List.set_cons_succ])
      refine wpAnyH_take (i := 57) (oi := { dst := some 82, op := Go.Op.fieldAddr 44 (Go.Operand.tmp 8) 0, type := 0, pos := "laws.go:199", after := #[{ on := 56, ground := Go.Ground.guard }], guard := some (56, false) }) (v := undef) rfl (by kernel_rfl) (by kernel_rfl) (by kernel_rfl) (fun _ _ _ h => h) (Or.inr ⟨by rfl, rfl⟩) hHeld ?_
      (try simp only [Act.put, List.setIfInBounds_toArray, List.set_cons_zero, List.set_cons_succ])
      refine wpAnyH_take (i := 58) (oi := { dst := some 83, op := Go.Op.load 40 (Go.Operand.tmp 82), type := 40, pos := "laws.go:199", after := #[{ on := 57, ground := Go.Ground.data }, { on := 56, ground := Go.Ground.guard }], guard := some (56, false) }) (v := undef) rfl (by kernel_rfl) (by kernel_rfl) (by kernel_rfl) (fun _ _ _ h => h) (Or.inr ⟨by rfl, rfl⟩) hHeld ?_
      (try simp only [Act.put, List.setIfInBounds_toArray, List.set_cons_zero, List.set_cons_succ])
      refine wpAnyH_take (i := 59) (oi := { dst := some 84, op := Go.Op.call { callee := Go.Callee.value (Go.Operand.func 27), args := #[Go.Operand.tmp 83], argTypes := #[40] }, type := 9, pos := "laws.go:199", after := #[{ on := 58, ground := Go.Ground.data }, { on := 56, ground := Go.Ground.chain }, { on := 56, ground := Go.Ground.guard }], guard := some (56, false) }) (v := undef) rfl (by kernel_rfl) (by kernel_rfl) (by kernel_rfl) (fun _ _ _ h => h) (Or.inr ⟨by rfl, rfl⟩) hHeld ?_
      (try simp only [Act.put, List.setIfInBounds_toArray, List.set_cons_zero, List.set_cons_succ])
      refine wpAnyH_take (i := 60) (oi := { dst := some 85, op := Go.Op.move (Go.Operand.tmp 7), type := 9, pos := "laws.go:199", after := #[{ on := 56, ground := Go.Ground.guard }], guard := some (56, false) }) (v := undef) rfl (by kernel_rfl) (by kernel_rfl) (by kernel_rfl) (fun _ _ _ h => h) (Or.inr ⟨by rfl, rfl⟩) hHeld ?_
      (try simp only [Act.put, List.setIfInBounds_toArray, List.set_cons_zero, List.set_cons_succ])
      refine wpAnyH_take (i := 61) (oi := { dst := some 86, op := Go.Op.binOp Go.BinOp.eql 9 (Go.Operand.tmp 84) (Go.Operand.tmp 85) 9, type := 4, pos := "laws.go:199", after := #[{ on := 59, ground := Go.Ground.data }, { on := 60, ground := Go.Ground.data }, { on := 56, ground := Go.Ground.guard }], guard := some (56, false) }) (v := undef) rfl (by kernel_rfl) (by kernel_rfl) (by kernel_rfl) (fun _ _ _ h => h) (Or.inr ⟨by rfl, rfl⟩) hHeld ?_
      (try simp only [Act.put, List.setIfInBounds_toArray, List.set_cons_zero, List.set_cons_succ])
      refine wpAnyH_take (i := 62) (oi := { dst := some 87, op := Go.Op.pick (Go.Operand.tmp 81) (Go.Operand.const (Go.Value.bool true)) (Go.Operand.tmp 86), type := 4, pos := "laws.go:199", after := #[{ on := 56, ground := Go.Ground.data }, { on := 61, ground := Go.Ground.data }, { on := 52, ground := Go.Ground.guard }], guard := some (52, true) }) (v := ?_) rfl (by kernel_rfl) (by kernel_rfl) (by kernel_rfl) (fun _ _ _ h => h) (Or.inl ⟨by rfl, ?yld328⟩) hHeld ?nxt328
      case yld328 => (intro w hSw; (try dsimp only at hSw); go_simp) <;> with_reducible rfl
      (try simp only [Act.put, List.setIfInBounds_toArray, List.set_cons_zero, List.set_cons_succ])
      refine wpAnyH_take (i := 63) (oi := { dst := some 88, op := Go.Op.pick (Go.Operand.tmp 77) (Go.Operand.tmp 87) (Go.Operand.const (Go.Value.bool false)), type := 4, pos := "laws.go:199", after := #[{ on := 52, ground := Go.Ground.data }, { on := 62, ground := Go.Ground.data }], guard := none }) (v := ?_) rfl (by kernel_rfl) (by kernel_rfl) (by kernel_rfl) (fun _ _ _ h => h) (Or.inl ⟨by rfl, ?yld329⟩) hHeld ?nxt329
      case yld329 => (intro w hSw; (try dsimp only at hSw); go_simp) <;> with_reducible rfl
      (try simp only [Act.put, List.setIfInBounds_toArray, List.set_cons_zero, List.set_cons_succ])
      refine wpAnyH_take (i := 64) (oi := { dst := some 4, op := Go.Op.assign (Go.Operand.tmp 88), type := 4, pos := "laws.go:199", after := ([{ on := 63, ground := Go.Ground.data }, { on := 59, ground := Go.Ground.chain }, { on := 0, ground := Go.Ground.phase }, { on := 1, ground := Go.Ground.phase }, { on := 2, ground := Go.Ground.phase }, { on := 3, ground := Go.Ground.phase }, { on := 4, ground := Go.Ground.phase }, { on := 5, ground := Go.Ground.phase }, { on := 6, ground := Go.Ground.phase }, { on := 7, ground := Go.Ground.phase }, { on := 8, ground := Go.Ground.phase }, { on := 9, ground := Go.Ground.phase }, { on := 10, ground := Go.Ground.phase }, { on := 11, ground := Go.Ground.phase }, { on := 12, ground := Go.Ground.phase }, { on := 13, ground := Go.Ground.phase }, { on := 14, ground := Go.Ground.phase }, { on := 15, ground := Go.Ground.phase }, { on := 16, ground := Go.Ground.phase }, { on := 17, ground := Go.Ground.phase }, { on := 18, ground := Go.Ground.phase }, { on := 19, ground := Go.Ground.phase }, { on := 20, ground := Go.Ground.phase }, { on := 21, ground := Go.Ground.phase }, { on := 22, ground := Go.Ground.phase }, { on := 23, ground := Go.Ground.phase }, { on := 24, ground := Go.Ground.phase }, { on := 25, ground := Go.Ground.phase }, { on := 26, ground := Go.Ground.phase }, { on := 27, ground := Go.Ground.phase }, { on := 28, ground := Go.Ground.phase }, { on := 29, ground := Go.Ground.phase }, { on := 30, ground := Go.Ground.phase }].append [{ on := 31, ground := Go.Ground.phase }, { on := 32, ground := Go.Ground.phase }, { on := 33, ground := Go.Ground.phase }, { on := 34, ground := Go.Ground.phase }, { on := 35, ground := Go.Ground.phase }, { on := 36, ground := Go.Ground.phase }, { on := 37, ground := Go.Ground.phase }, { on := 38, ground := Go.Ground.phase }, { on := 39, ground := Go.Ground.phase }, { on := 40, ground := Go.Ground.phase }, { on := 41, ground := Go.Ground.phase }, { on := 42, ground := Go.Ground.phase }, { on := 43, ground := Go.Ground.phase }, { on := 44, ground := Go.Ground.phase }, { on := 45, ground := Go.Ground.phase }, { on := 46, ground := Go.Ground.phase }, { on := 47, ground := Go.Ground.phase }, { on := 48, ground := Go.Ground.phase }, { on := 49, ground := Go.Ground.phase }, { on := 50, ground := Go.Ground.phase }, { on := 51, ground := Go.Ground.phase }, { on := 52, ground := Go.Ground.phase }, { on := 53, ground := Go.Ground.phase }, { on := 54, ground := Go.Ground.phase }, { on := 55, ground := Go.Ground.phase }, { on := 56, ground := Go.Ground.phase }, { on := 57, ground := Go.Ground.phase }, { on := 58, ground := Go.Ground.phase }, { on := 59, ground := Go.Ground.phase }, { on := 60, ground := Go.Ground.phase }, { on := 61, ground := Go.Ground.phase }, { on := 62, ground := Go.Ground.phase }, { on := 63, ground := Go.Ground.phase }]).toArray, guard := none }) (v := ?_) rfl (by kernel_rfl) (by kernel_rfl) (by kernel_rfl) (fun _ _ _ h => h) (Or.inl ⟨by rfl, ?yld330⟩) hHeld ?nxt330
      case yld330 => (intro w hSw; (try dsimp only at hSw); go_simp) <;> with_reducible rfl
      (try simp only [Act.put, List.setIfInBounds_toArray, List.set_cons_zero, List.set_cons_succ])
      refine wpAnyH_done (by kernel_rfl) ?_ _
      have HBL := hid hHeld.1
      clear hHeld hB0
      go_wp2_with fail
      go_ret
      exact ⟨rfl, HBW.out.trans (HBL.out.mono HBW.out.size)⟩
  · have q1 : (t.toList == []) = true := by rw [← q0]; cases t.toList <;> rfl
    by_cases hcy : cy = 0
    · have HYT := hid (HYU.out hcy)
      have q3 : (cy == 0) = true := by simp [hcy]
      refine wp_region_held_drew (S := (fun w' => Below W.heap.size W w' ∧ w'.cell? ⟨Y, 0, none⟩ = some (.slice ya ys.length yc) ∧ w'.cell? ⟨Y, 1, none⟩ = some (.int .i64 cy))) (by kernel_rfl) ?_ (fun hHeld => ?_)
      · (try dsimp only) <;> (first | exact ⟨hBn, (hBn.cell (p := ⟨Y, 0, none⟩) hYl).trans k0, (hBn.cell (p := ⟨Y, 1, none⟩) hYl).trans k1⟩ | exact ⟨hB0, k0, k1⟩)
      refine wpAnyH_take (i := 0) (oi := { dst := some 25, op := Go.Op.move (Go.Operand.tmp 6), type := 9, pos := "laws.go:199", after := #[], guard := none }) (v := ?_) rfl (by kernel_rfl) (by kernel_rfl) (by kernel_rfl) (fun _ _ _ h => h) (Or.inl ⟨by rfl, ?yld331⟩) hHeld ?nxt331
      case yld331 => (intro w hSw; (try dsimp only at hSw); go_simp) <;> with_reducible rfl
      (try simp only [Act.put, List.setIfInBounds_toArray, List.set_cons_zero, List.set_cons_succ])
      refine wpAnyH_take (i := 1) (oi := { dst := some 26, op := Go.Op.move (Go.Operand.tmp 5), type := 40, pos := "laws.go:199", after := #[], guard := none }) (v := ?_) rfl (by kernel_rfl) (by kernel_rfl) (by kernel_rfl) (fun _ _ _ h => h) (Or.inl ⟨by rfl, ?yld332⟩) hHeld ?nxt332
      case yld332 => (intro w hSw; (try dsimp only at hSw); go_simp) <;> with_reducible rfl
      (try simp only [Act.put, List.setIfInBounds_toArray, List.set_cons_zero, List.set_cons_succ])
      refine wpAnyH_ready (rs := [2]) (by kernel_rfl) (by simp) ?_
      refine AllReadyH.cons (o := { dst := some 27, op := Go.Op.call { callee := Go.Callee.value (Go.Operand.func 30), args := #[Go.Operand.tmp 26], argTypes := #[40] }, type := 9, pos := "laws.go:199", after := #[{ on := 1, ground := Go.Ground.data }], guard := none }) rfl (fun K hK => ?_) AllReadyH.nil
      go_simp
      go_at_call 30
      have hp := hHeld.1
      refine (TexS.spec_text xa xc ps _ (HP.out.on hp)).mono ?_
      rintro e w' ⟨rfl, hB⟩
      rw [ht.out]
      have hBn := hp.trans (hB.mono hp.size)
      clear hp hB
      (try go_wp2_with fail)
      refine hK.out _ _ ?_ (fun hHeld2 => ?_)
      · (try dsimp only) <;> (first | exact ⟨hBn, (hBn.cell (p := ⟨Y, 0, none⟩) hYl).trans k0, (hBn.cell (p := ⟨Y, 1, none⟩) hYl).trans k1⟩ | exact ⟨hB0, k0, k1⟩)
      clear hK K hHeld
      have hHeld := hHeld2
      clear hHeld2
      (try simp only [Act.put, List.setIfInBounds_toArray, List.set_cons_zero, List.set_cons_succ])
      refine wpAnyH_take (i := 3) (oi := { dst := some 28, op := Go.Op.binOp Go.BinOp.eql 9 (Go.Operand.tmp 25) (Go.Operand.tmp 27) 9, type := 4, pos := "laws.go:199", after := #[{ on := 0, ground := Go.Ground.data }, { on := 2, ground := Go.Ground.data }], guard := none }) (v := ?_) rfl (by kernel_rfl) (by kernel_rfl) (by kernel_rfl) (fun _ _ _ h => h) (Or.inl ⟨by rfl, ?yld333⟩) hHeld ?nxt333
      case yld333 => (intro w hSw; (try dsimp only at hSw); go_simp) <;> with_reducible rfl
      (try simp only [Act.put, List.setIfInBounds_toArray, List.set_cons_zero, List.set_cons_succ])
      refine wpAnyH_take (i := 4) (oi := { dst := some 29, op := Go.Op.move (Go.Operand.tmp 28), type := 4, pos := "laws.go:199", after := #[{ on := 3, ground := Go.Ground.data }, { on := 2, ground := Go.Ground.chain }], guard := none }) (v := ?_) rfl (by kernel_rfl) (by kernel_rfl) (by kernel_rfl) (fun _ _ _ h => h) (Or.inl ⟨by rfl, ?yld334⟩) hHeld ?nxt334
      case yld334 => (intro w hSw; (try dsimp only at hSw); go_simp) <;> with_reducible rfl
      (try simp only [Act.put, List.setIfInBounds_toArray, List.set_cons_zero, List.set_cons_succ])
      refine wpAnyH_take (i := 5) (oi := { dst := some 30, op := Go.Op.move (Go.Operand.tmp 5), type := 40, pos := "laws.go:199", after := #[{ on := 4, ground := Go.Ground.guard }], guard := some (4, true) }) (v := ?_) rfl (by kernel_rfl) (by kernel_rfl) (by kernel_rfl) (fun _ _ _ h => h) (Or.inl ⟨by rfl, ?yld335⟩) hHeld ?nxt335
      case yld335 => (intro w hSw; (try dsimp only at hSw); go_simp) <;> with_reducible rfl
      (try simp only [Act.put, List.setIfInBounds_toArray, List.set_cons_zero, List.set_cons_succ])
      refine wpAnyH_take (i := 7) (oi := { dst := some 32, op := Go.Op.move (Go.Operand.tmp 5), type := 40, pos := "laws.go:199", after := #[{ on := 4, ground := Go.Ground.guard }], guard := some (4, true) }) (v := ?_) rfl (by kernel_rfl) (by kernel_rfl) (by kernel_rfl) (fun _ _ _ h => h) (Or.inl ⟨by rfl, ?yld336⟩) hHeld ?nxt336
      case yld336 => (intro w hSw; (try dsimp only at hSw); go_simp) <;> with_reducible rfl
      (try simp only [Act.put, List.setIfInBounds_toArray, List.set_cons_zero, List.set_cons_succ])
      refine wpAnyH_ready (rs := [6]) (by kernel_rfl) (by simp) ?_
      refine AllReadyH.cons (o := { dst := some 31, op := Go.Op.call { callee := Go.Callee.value (Go.Operand.func 31), args := #[Go.Operand.tmp 30], argTypes := #[40] }, type := 4, pos := "laws.go:199", after := #[{ on := 5, ground := Go.Ground.data }, { on := 4, ground := Go.Ground.chain }, { on := 4, ground := Go.Ground.guard }], guard := some (4, true) }) rfl (fun K hK => ?_) AllReadyH.nil
      go_simp
      go_at_call 31
      have hp := hHeld.1
      refine (PrtI.impl_right xa xc ps _ (HP.out.on hp) hxc (HEW.out.on hp).2).mono ?_
      rintro e w' ⟨rfl, hB⟩
      rw [hr.out]
      have hBn := hp.trans (hB.mono hp.size)
      clear hp hB
      (try go_wp2_with fail)
      refine hK.out _ _ ?_ (fun hHeld2 => ?_)
      · (try dsimp only) <;> (first | exact ⟨hBn, (hBn.cell (p := ⟨Y, 0, none⟩) hYl).trans k0, (hBn.cell (p := ⟨Y, 1, none⟩) hYl).trans k1⟩ | exact ⟨hB0, k0, k1⟩)
      clear hK K hHeld
      have hHeld := hHeld2
      clear hHeld2
      (try simp only [Act.put, List.setIfInBounds_toArray, List.set_cons_zero, List.set_cons_succ])
      refine wpAnyH_ready (rs := [8]) (by kernel_rfl) (by simp) ?_
      refine AllReadyH.cons (o := { dst := some 33, op := Go.Op.call { callee := Go.Callee.value (Go.Operand.func 32), args := #[Go.Operand.tmp 32], argTypes := #[40] }, type := 4, pos := "laws.go:199", after := #[{ on := 7, ground := Go.Ground.data }, { on := 6, ground := Go.Ground.chain }, { on := 4, ground := Go.Ground.guard }], guard := some (4, true) }) rfl (fun K hK => ?_) AllReadyH.nil
      go_simp
      go_at_call 32
      have hp := hHeld.1
      refine (PrtS.spec_right xa xc ps _ (HP.out.on hp)).mono ?_
      rintro e w' ⟨rfl, hB⟩
      rw [hr.out]
      have hBn := hp.trans (hB.mono hp.size)
      clear hp hB
      (try go_wp2_with fail)
      refine hK.out _ _ ?_ (fun hHeld2 => ?_)
      · (try dsimp only) <;> (first | exact ⟨hBn, (hBn.cell (p := ⟨Y, 0, none⟩) hYl).trans k0, (hBn.cell (p := ⟨Y, 1, none⟩) hYl).trans k1⟩ | exact ⟨hB0, k0, k1⟩)
      clear hK K hHeld
      have hHeld := hHeld2
      clear hHeld2
      (try simp only [Act.put, List.setIfInBounds_toArray, List.set_cons_zero, List.set_cons_succ])
      refine wpAnyH_take (i := 9) (oi := { dst := some 34, op := Go.Op.binOp Go.BinOp.eql 4 (Go.Operand.tmp 31) (Go.Operand.tmp 33) 4, type := 4, pos := "laws.go:199", after := #[{ on := 6, ground := Go.Ground.data }, { on := 8, ground := Go.Ground.data }, { on := 4, ground := Go.Ground.guard }], guard := some (4, true) }) (v := ?_) rfl (by kernel_rfl) (by kernel_rfl) (by kernel_rfl) (fun _ _ _ h => h) (Or.inl ⟨by rfl, ?yld337⟩) hHeld ?nxt337
      case yld337 => (intro w hSw; (try dsimp only at hSw); go_simp) <;> with_reducible rfl
      (try simp only [Act.put, List.setIfInBounds_toArray, List.set_cons_zero, List.set_cons_succ])
      refine wpAnyH_take (i := 10) (oi := { dst := some 35, op := Go.Op.pick (Go.Operand.tmp 29) (Go.Operand.tmp 34) (Go.Operand.const (Go.Value.bool false)), type := 4, pos := "laws.go:199", after := #[{ on := 4, ground := Go.Ground.data }, { on := 9, ground := Go.Ground.data }], guard := none }) (v := ?_) rfl (by kernel_rfl) (by kernel_rfl) (by kernel_rfl) (fun _ _ _ h => h) (Or.inl ⟨by rfl, ?yld338⟩) hHeld ?nxt338
      case yld338 => (intro w hSw; (try dsimp only at hSw); go_simp) <;> with_reducible rfl
      (try simp only [Act.put, List.setIfInBounds_toArray, List.set_cons_zero, List.set_cons_succ])
      refine wpAnyH_take (i := 11) (oi := { dst := some 36, op := Go.Op.move (Go.Operand.tmp 35), type := 4, pos := "laws.go:199", after := #[{ on := 10, ground := Go.Ground.data }, { on := 8, ground := Go.Ground.chain }], guard := none }) (v := ?_) rfl (by kernel_rfl) (by kernel_rfl) (by kernel_rfl) (fun _ _ _ h => h) (Or.inl ⟨by rfl, ?yld339⟩) hHeld ?nxt339
      case yld339 => (intro w hSw; (try dsimp only at hSw); go_simp) <;> with_reducible rfl
      (try simp only [Act.put, List.setIfInBounds_toArray, List.set_cons_zero, List.set_cons_succ])
      refine wpAnyH_take (i := 12) (oi := { dst := some 37, op := Go.Op.move (Go.Operand.tmp 5), type := 40, pos := "laws.go:199", after := #[{ on := 11, ground := Go.Ground.guard }], guard := some (11, true) }) (v := ?_) rfl (by kernel_rfl) (by kernel_rfl) (by kernel_rfl) (fun _ _ _ h => h) (Or.inl ⟨by rfl, ?yld340⟩) hHeld ?nxt340
      case yld340 => (intro w hSw; (try dsimp only at hSw); go_simp) <;> with_reducible rfl
      (try simp only [Act.put, List.setIfInBounds_toArray, List.set_cons_zero, List.set_cons_succ])
      refine wpAnyH_take (i := 14) (oi := { dst := some 39, op := Go.Op.move (Go.Operand.tmp 5), type := 40, pos := "laws.go:199", after := #[{ on := 11, ground := Go.Ground.guard }], guard := some (11, true) }) (v := ?_) rfl (by kernel_rfl) (by kernel_rfl) (by kernel_rfl) (fun _ _ _ h => h) (Or.inl ⟨by rfl, ?yld341⟩) hHeld ?nxt341
      case yld341 => (intro w hSw; (try dsimp only at hSw); go_simp) <;> with_reducible rfl
      (try simp only [Act.put, List.setIfInBounds_toArray, List.set_cons_zero, List.set_cons_succ])
      refine wpAnyH_ready (rs := [13]) (by kernel_rfl) (by simp) ?_
      refine AllReadyH.cons (o := { dst := some 38, op := Go.Op.call { callee := Go.Callee.value (Go.Operand.func 33), args := #[Go.Operand.tmp 37], argTypes := #[40] }, type := 4, pos := "laws.go:199", after := #[{ on := 12, ground := Go.Ground.data }, { on := 11, ground := Go.Ground.chain }, { on := 11, ground := Go.Ground.guard }], guard := some (11, true) }) rfl (fun K hK => ?_) AllReadyH.nil
      go_simp
      go_at_call 33
      have hp := hHeld.1
      refine (PrtI.impl_truth xa xc ps _ (HP.out.on hp) hxc (HEW.out.on hp).2).mono ?_
      rintro e w' ⟨rfl, hB⟩
      rw [hth.out]
      have hBn := hp.trans (hB.mono hp.size)
      clear hp hB
      (try go_wp2_with fail)
      refine hK.out _ _ ?_ (fun hHeld2 => ?_)
      · (try dsimp only) <;> (first | exact ⟨hBn, (hBn.cell (p := ⟨Y, 0, none⟩) hYl).trans k0, (hBn.cell (p := ⟨Y, 1, none⟩) hYl).trans k1⟩ | exact ⟨hB0, k0, k1⟩)
      clear hK K hHeld
      have hHeld := hHeld2
      clear hHeld2
      (try simp only [Act.put, List.setIfInBounds_toArray, List.set_cons_zero, List.set_cons_succ])
      refine wpAnyH_ready (rs := [15]) (by kernel_rfl) (by simp) ?_
      refine AllReadyH.cons (o := { dst := some 40, op := Go.Op.call { callee := Go.Callee.value (Go.Operand.func 34), args := #[Go.Operand.tmp 39], argTypes := #[40] }, type := 4, pos := "laws.go:199", after := #[{ on := 14, ground := Go.Ground.data }, { on := 13, ground := Go.Ground.chain }, { on := 11, ground := Go.Ground.guard }], guard := some (11, true) }) rfl (fun K hK => ?_) AllReadyH.nil
      go_simp
      go_at_call 34
      have hp := hHeld.1
      refine (PrtS.spec_truth xa xc ps _ (HP.out.on hp)).mono ?_
      rintro e w' ⟨rfl, hB⟩
      rw [hth.out]
      have hBn := hp.trans (hB.mono hp.size)
      clear hp hB
      (try go_wp2_with fail)
      refine hK.out _ _ ?_ (fun hHeld2 => ?_)
      · (try dsimp only) <;> (first | exact ⟨hBn, (hBn.cell (p := ⟨Y, 0, none⟩) hYl).trans k0, (hBn.cell (p := ⟨Y, 1, none⟩) hYl).trans k1⟩ | exact ⟨hB0, k0, k1⟩)
      clear hK K hHeld
      have hHeld := hHeld2
      clear hHeld2
      (try simp only [Act.put, List.setIfInBounds_toArray, List.set_cons_zero, List.set_cons_succ])
      refine wpAnyH_take (i := 16) (oi := { dst := some 41, op := Go.Op.binOp Go.BinOp.eql 4 (Go.Operand.tmp 38) (Go.Operand.tmp 40) 4, type := 4, pos := "laws.go:199", after := #[{ on := 13, ground := Go.Ground.data }, { on := 15, ground := Go.Ground.data }, { on := 11, ground := Go.Ground.guard }], guard := some (11, true) }) (v := ?_) rfl (by kernel_rfl) (by kernel_rfl) (by kernel_rfl) (fun _ _ _ h => h) (Or.inl ⟨by rfl, ?yld342⟩) hHeld ?nxt342
      case yld342 => (intro w hSw; (try dsimp only at hSw); go_simp) <;> with_reducible rfl
      (try simp only [Act.put, List.setIfInBounds_toArray, List.set_cons_zero, List.set_cons_succ])
      refine wpAnyH_take (i := 17) (oi := { dst := some 42, op := Go.Op.pick (Go.Operand.tmp 36) (Go.Operand.tmp 41) (Go.Operand.const (Go.Value.bool false)), type := 4, pos := "laws.go:199", after := #[{ on := 11, ground := Go.Ground.data }, { on := 16, ground := Go.Ground.data }], guard := none }) (v := ?_) rfl (by kernel_rfl) (by kernel_rfl) (by kernel_rfl) (fun _ _ _ h => h) (Or.inl ⟨by rfl, ?yld343⟩) hHeld ?nxt343
      case yld343 => (intro w hSw; (try dsimp only at hSw); go_simp) <;> with_reducible rfl
      (try simp only [Act.put, List.setIfInBounds_toArray, List.set_cons_zero, List.set_cons_succ])
      refine wpAnyH_take (i := 18) (oi := { dst := some 43, op := Go.Op.move (Go.Operand.tmp 42), type := 4, pos := "laws.go:199", after := #[{ on := 17, ground := Go.Ground.data }, { on := 15, ground := Go.Ground.chain }], guard := none }) (v := ?_) rfl (by kernel_rfl) (by kernel_rfl) (by kernel_rfl) (fun _ _ _ h => h) (Or.inl ⟨by rfl, ?yld344⟩) hHeld ?nxt344
      case yld344 => (intro w hSw; (try dsimp only at hSw); go_simp) <;> with_reducible rfl
      (try simp only [Act.put, List.setIfInBounds_toArray, List.set_cons_zero, List.set_cons_succ])
      refine wpAnyH_take (i := 19) (oi := { dst := some 44, op := Go.Op.move (Go.Operand.tmp 5), type := 40, pos := "laws.go:199", after := #[{ on := 18, ground := Go.Ground.guard }], guard := some (18, true) }) (v := ?_) rfl (by kernel_rfl) (by kernel_rfl) (by kernel_rfl) (fun _ _ _ h => h) (Or.inl ⟨by rfl, ?yld345⟩) hHeld ?nxt345
      case yld345 => (intro w hSw; (try dsimp only at hSw); go_simp) <;> with_reducible rfl
      (try simp only [Act.put, List.setIfInBounds_toArray, List.set_cons_zero, List.set_cons_succ])
      refine wpAnyH_take (i := 21) (oi := { dst := some 46, op := Go.Op.move (Go.Operand.tmp 5), type := 40, pos := "laws.go:199", after := #[{ on := 18, ground := Go.Ground.guard }], guard := some (18, true) }) (v := ?_) rfl (by kernel_rfl) (by kernel_rfl) (by kernel_rfl) (fun _ _ _ h => h) (Or.inl ⟨by rfl, ?yld346⟩) hHeld ?nxt346
      case yld346 => (intro w hSw; (try dsimp only at hSw); go_simp) <;> with_reducible rfl
      (try simp only [Act.put, List.setIfInBounds_toArray, List.set_cons_zero, List.set_cons_succ])
      refine wpAnyH_ready (rs := [20]) (by kernel_rfl) (by simp) ?_
      refine AllReadyH.cons (o := { dst := some 45, op := Go.Op.call { callee := Go.Callee.value (Go.Operand.func 36), args := #[Go.Operand.tmp 44], argTypes := #[40] }, type := 48, pos := "laws.go:199", after := #[{ on := 19, ground := Go.Ground.data }, { on := 18, ground := Go.Ground.chain }, { on := 18, ground := Go.Ground.guard }], guard := some (18, true) }) rfl (fun K hK => ?_) AllReadyH.nil
      go_simp
      go_at_call 36
      have hp := hHeld.1
      refine (FldI.impl_fields xa xc ps _ (HP.out.on hp) hxc (HEW.out.on hp).2).mono ?_
      rw [hF.out]
      rintro e w' ⟨⟨v1, rfl, hown1⟩, hB⟩
      obtain ⟨f1, c1, hv1, hS1, -, -⟩ := StrW.strs_own hown1 hfl
      subst hv1
      have hBn := hp.trans (hB.mono hp.size)
      have HS1 := hid hS1
      clear hp hB hown1 hS1
      (try go_wp2_with fail)
      refine hK.out _ _ ?_ (fun hHeld2 => ?_)
      · (try dsimp only) <;> (first | exact ⟨hBn, (hBn.cell (p := ⟨Y, 0, none⟩) hYl).trans k0, (hBn.cell (p := ⟨Y, 1, none⟩) hYl).trans k1⟩ | exact ⟨hB0, k0, k1⟩)
      clear hK K hHeld
      have hHeld := hHeld2
      clear hHeld2
      (try simp only [Act.put, List.setIfInBounds_toArray, List.set_cons_zero, List.set_cons_succ])
      refine wpAnyH_ready (rs := [22]) (by kernel_rfl) (by simp) ?_
      refine AllReadyH.cons (o := { dst := some 47, op := Go.Op.call { callee := Go.Callee.value (Go.Operand.func 37), args := #[Go.Operand.tmp 46], argTypes := #[40] }, type := 48, pos := "laws.go:199", after := #[{ on := 21, ground := Go.Ground.data }, { on := 20, ground := Go.Ground.chain }, { on := 18, ground := Go.Ground.guard }], guard := some (18, true) }) rfl (fun K hK => ?_) AllReadyH.nil
      go_simp
      go_at_call 37
      have hp := hHeld.1
      refine (FldS.spec_fields xa xc ps _ (HP.out.on hp)).mono ?_
      rw [hF.out]
      rintro e w' ⟨⟨f2, c2, rfl, hS2⟩, hB⟩
      have hBn := hp.trans (hB.mono hp.size)
      have HS2 := hid hS2
      have HS1' := hid (HS1.out.on hB)
      clear hp hB hS2
      (try go_wp2_with fail)
      refine hK.out _ _ ?_ (fun hHeld2 => ?_)
      · (try dsimp only) <;> (first | exact ⟨hBn, (hBn.cell (p := ⟨Y, 0, none⟩) hYl).trans k0, (hBn.cell (p := ⟨Y, 1, none⟩) hYl).trans k1⟩ | exact ⟨hB0, k0, k1⟩)
      clear hK K hHeld
      have hHeld := hHeld2
      clear hHeld2
      (try simp only [Act.put, List.setIfInBounds_toArray, List.set_cons_zero, List.set_cons_succ])
      refine wpAnyH_ready (rs := [23]) (by kernel_rfl) (by simp) ?_
      refine AllReadyH.cons (o := { dst := some 48, op := Go.Op.call { callee := Go.Callee.value (Go.Operand.func 35), args := #[Go.Operand.tmp 45, Go.Operand.tmp 47], argTypes := #[48, 48] }, type := 4, pos := "laws.go:199", after := #[{ on := 20, ground := Go.Ground.data }, { on := 22, ground := Go.Ground.data }, { on := 22, ground := Go.Ground.chain }, { on := 18, ground := Go.Ground.guard }], guard := some (18, true) }) rfl (fun K hK => ?_) AllReadyH.nil
      go_simp
      go_at_call 35
      have hp := hHeld.1
      refine (LwX.lwStrs f1 f2 c1 c2 F _ HS1'.out HS2.out).mono ?_
      rintro e w' ⟨rfl, hB⟩
      have hBn := hp.trans (hB.mono hp.size)
      clear hp hB
      (try go_wp2_with fail)
      refine hK.out _ _ ?_ (fun hHeld2 => ?_)
      · (try dsimp only) <;> (first | exact ⟨hBn, (hBn.cell (p := ⟨Y, 0, none⟩) hYl).trans k0, (hBn.cell (p := ⟨Y, 1, none⟩) hYl).trans k1⟩ | exact ⟨hB0, k0, k1⟩)
      clear hK K hHeld
      have hHeld := hHeld2
      clear hHeld2
      (try simp only [Act.put, List.setIfInBounds_toArray, List.set_cons_zero, List.set_cons_succ])
      refine wpAnyH_take (i := 24) (oi := { dst := some 49, op := Go.Op.pick (Go.Operand.tmp 43) (Go.Operand.tmp 48) (Go.Operand.const (Go.Value.bool false)), type := 4, pos := "laws.go:199", after := #[{ on := 18, ground := Go.Ground.data }, { on := 23, ground := Go.Ground.data }], guard := none }) (v := ?_) rfl (by kernel_rfl) (by kernel_rfl) (by kernel_rfl) (fun _ _ _ h => h) (Or.inl ⟨by rfl, ?yld347⟩) hHeld ?nxt347
      case yld347 => (intro w hSw; (try dsimp only at hSw); go_simp) <;> with_reducible rfl
      (try simp only [Act.put, List.setIfInBounds_toArray, List.set_cons_zero, List.set_cons_succ])
      refine wpAnyH_take (i := 25) (oi := { dst := some 50, op := Go.Op.move (Go.Operand.tmp 49), type := 4, pos := "laws.go:199", after := #[{ on := 24, ground := Go.Ground.data }, { on := 23, ground := Go.Ground.chain }], guard := none }) (v := ?_) rfl (by kernel_rfl) (by kernel_rfl) (by kernel_rfl) (fun _ _ _ h => h) (Or.inl ⟨by rfl, ?yld348⟩) hHeld ?nxt348
      case yld348 => (intro w hSw; (try dsimp only at hSw); go_simp) <;> with_reducible rfl
      (try simp only [Act.put, List.setIfInBounds_toArray, List.set_cons_zero, List.set_cons_succ])
      refine wpAnyH_take (i := 26) (oi := { dst := some 51, op := Go.Op.move (Go.Operand.tmp 6), type := 9, pos := "laws.go:199", after := #[{ on := 25, ground := Go.Ground.guard }], guard := some (25, true) }) (v := ?_) rfl (by kernel_rfl) (by kernel_rfl) (by kernel_rfl) (fun _ _ _ h => h) (Or.inl ⟨by rfl, ?yld349⟩) hHeld ?nxt349
      case yld349 => (intro w hSw; (try dsimp only at hSw); go_simp) <;> with_reducible rfl
      (try simp only [Act.put, List.setIfInBounds_toArray, List.set_cons_zero, List.set_cons_succ])
      refine wpAnyH_take (i := 27) (oi := { dst := some 52, op := Go.Op.binOp Go.BinOp.eql 9 (Go.Operand.tmp 51) (Go.Operand.const (Go.Value.string { data := #[] })) 9, type := 4, pos := "laws.go:199", after := #[{ on := 26, ground := Go.Ground.data }, { on := 25, ground := Go.Ground.guard }], guard := some (25, true) }) (v := ?_) rfl (by kernel_rfl) (by kernel_rfl) (by kernel_rfl) (fun _ _ _ h => h) (Or.inl ⟨by rfl, ?yld350⟩) hHeld ?nxt350
      case yld350 => (intro w hSw; (try dsimp only at hSw); go_simp) <;> with_reducible rfl
      (try simp only [Act.put, List.setIfInBounds_toArray, List.set_cons_zero, List.set_cons_succ])
      refine wpAnyH_take (i := 28) (oi := { dst := some 53, op := Go.Op.move (Go.Operand.tmp 52), type := 4, pos := "laws.go:199", after := #[{ on := 27, ground := Go.Ground.data }, { on := 25, ground := Go.Ground.chain }, { on := 25, ground := Go.Ground.guard }], guard := some (25, true) }) (v := ?_) rfl (by kernel_rfl) (by kernel_rfl) (by kernel_rfl) (fun _ _ _ h => h) (Or.inl ⟨by rfl, ?yld351⟩) hHeld ?nxt351
      case yld351 => (intro w hSw; (try dsimp only at hSw); go_simp) <;> with_reducible rfl
      (try simp only [Act.put, List.setIfInBounds_toArray, List.set_cons_zero, List.set_cons_succ])
      refine wpAnyH_take (i := 29) (oi := { dst := some 54, op := Go.Op.move (Go.Operand.tmp 6), type := 9, pos := "laws.go:199", after := #[{ on := 28, ground := Go.Ground.guard }], guard := some (28, false) }) (v := undef) rfl (by kernel_rfl) (by kernel_rfl) (by kernel_rfl) (fun _ _ _ h => h) (Or.inr ⟨by rfl, rfl⟩) hHeld ?_
      (try simp only [Act.put, List.setIfInBounds_toArray, List.set_cons_zero, List.set_cons_succ])
      refine wpAnyH_take (i := 30) (oi := { dst := some 55, op := Go.Op.call { callee := Go.Callee.value (Go.Operand.func 29), args := #[Go.Operand.tmp 54], argTypes := #[9] }, type := 44, pos := "laws.go:199", after := #[{ on := 29, ground := Go.Ground.data }, { on := 28, ground := Go.Ground.chain }, { on := 28, ground := Go.Ground.guard }], guard := some (28, false) }) (v := undef) rfl (by kernel_rfl) (by kernel_rfl) (by kernel_rfl) (fun _ _ _ h => h) (Or.inr ⟨by rfl, rfl⟩) hHeld ?_
      (try simp only [Act.put, List.setIfInBounds_toArray, List.set_cons_zero, List.set_cons_succ])
      refine wpAnyH_take (i := 31) (oi := { dst := some 56, op := Go.Op.field 44 (Go.Operand.tmp 55) 0, type := 40, pos := "laws.go:199", after := #[{ on := 30, ground := Go.Ground.data }, { on := 28, ground := Go.Ground.guard }], guard := some (28, false) }) (v := undef) rfl (by kernel_rfl) (by kernel_rfl) (by kernel_rfl) (fun _ _ _ h => h) (Or.inr ⟨by rfl, rfl⟩) hHeld ?_
      (try simp only [Act.put, List.setIfInBounds_toArray, List.set_cons_zero, List.set_cons_succ])
      refine wpAnyH_take (i := 32) (oi := { dst := some 57, op := Go.Op.move (Go.Operand.tmp 5), type := 40, pos := "laws.go:199", after := #[{ on := 28, ground := Go.Ground.guard }], guard := some (28, false) }) (v := undef) rfl (by kernel_rfl) (by kernel_rfl) (by kernel_rfl) (fun _ _ _ h => h) (Or.inr ⟨by rfl, rfl⟩) hHeld ?_
      (try simp only [Act.put, List.setIfInBounds_toArray, List.set_cons_zero, List.set_cons_succ])
      refine wpAnyH_take (i := 33) (oi := { dst := some 58, op := Go.Op.call { callee := Go.Callee.value (Go.Operand.func 38), args := #[Go.Operand.tmp 56, Go.Operand.tmp 57], argTypes := #[40, 40] }, type := 4, pos := "laws.go:199", after := #[{ on := 31, ground := Go.Ground.data }, { on := 32, ground := Go.Ground.data }, { on := 30, ground := Go.Ground.chain }, { on := 28, ground := Go.Ground.guard }], guard := some (28, false) }) (v := undef) rfl (by kernel_rfl) (by kernel_rfl) (by kernel_rfl) (fun _ _ _ h => h) (Or.inr ⟨by rfl, rfl⟩) hHeld ?_
      (try simp only [Act.put, List.setIfInBounds_toArray, List.set_cons_zero, List.set_cons_succ])
      refine wpAnyH_take (i := 34) (oi := { dst := some 59, op := Go.Op.pick (Go.Operand.tmp 53) (Go.Operand.const (Go.Value.bool true)) (Go.Operand.tmp 58), type := 4, pos := "laws.go:199", after := #[{ on := 28, ground := Go.Ground.data }, { on := 33, ground := Go.Ground.data }, { on := 25, ground := Go.Ground.guard }], guard := some (25, true) }) (v := ?_) rfl (by kernel_rfl) (by kernel_rfl) (by kernel_rfl) (fun _ _ _ h => h) (Or.inl ⟨by rfl, ?yld352⟩) hHeld ?nxt352
      case yld352 => (intro w hSw; (try dsimp only at hSw); go_simp) <;> with_reducible rfl
      (try simp only [Act.put, List.setIfInBounds_toArray, List.set_cons_zero, List.set_cons_succ])
      refine wpAnyH_take (i := 35) (oi := { dst := some 60, op := Go.Op.pick (Go.Operand.tmp 50) (Go.Operand.tmp 59) (Go.Operand.const (Go.Value.bool false)), type := 4, pos := "laws.go:199", after := #[{ on := 25, ground := Go.Ground.data }, { on := 34, ground := Go.Ground.data }], guard := none }) (v := ?_) rfl (by kernel_rfl) (by kernel_rfl) (by kernel_rfl) (fun _ _ _ h => h) (Or.inl ⟨by rfl, ?yld353⟩) hHeld ?nxt353
      case yld353 => (intro w hSw; (try dsimp only at hSw); go_simp) <;> with_reducible rfl
      (try simp only [Act.put, List.setIfInBounds_toArray, List.set_cons_zero, List.set_cons_succ])
      refine wpAnyH_take (i := 36) (oi := { dst := some 61, op := Go.Op.move (Go.Operand.tmp 60), type := 4, pos := "laws.go:199", after := #[{ on := 35, ground := Go.Ground.data }, { on := 33, ground := Go.Ground.chain }], guard := none }) (v := ?_) rfl (by kernel_rfl) (by kernel_rfl) (by kernel_rfl) (fun _ _ _ h => h) (Or.inl ⟨by rfl, ?yld354⟩) hHeld ?nxt354
      case yld354 => (intro w hSw; (try dsimp only at hSw); go_simp) <;> with_reducible rfl
      (try simp only [Act.put, List.setIfInBounds_toArray, List.set_cons_zero, List.set_cons_succ])
      refine wpAnyH_take (i := 37) (oi := { dst := some 62, op := Go.Op.fieldAddr 44 (Go.Operand.tmp 8) 1, type := 0, pos := "laws.go:199", after := #[{ on := 36, ground := Go.Ground.guard }], guard := some (36, true) }) (v := ?_) rfl (by kernel_rfl) (by kernel_rfl) (by kernel_rfl) (fun _ _ _ h => h) (Or.inl ⟨by rfl, ?yld355⟩) hHeld ?nxt355
      case yld355 => (intro w hSw; (try dsimp only at hSw); go_simp) <;> with_reducible rfl
      (try simp only [Act.put, List.setIfInBounds_toArray, List.set_cons_zero, List.set_cons_succ])
      refine wpAnyH_take (i := 38) (oi := { dst := some 63, op := Go.Op.load 2 (Go.Operand.tmp 62), type := 2, pos := "laws.go:199", after := #[{ on := 37, ground := Go.Ground.data }, { on := 36, ground := Go.Ground.guard }], guard := some (36, true) }) (v := ?_) rfl (by kernel_rfl) (by kernel_rfl) (by kernel_rfl) (fun _ _ _ h => h) (Or.inl ⟨by rfl, ?yld356⟩) hHeld ?nxt356
      case yld356 => (intro w hSw; (try dsimp only at hSw); go_simp) <;> with_reducible rfl
      (try simp only [Act.put, List.setIfInBounds_toArray, List.set_cons_zero, List.set_cons_succ])
      refine wpAnyH_take (i := 39) (oi := { dst := some 64, op := Go.Op.move (Go.Operand.tmp 7), type := 9, pos := "laws.go:199", after := #[{ on := 36, ground := Go.Ground.guard }], guard := some (36, true) }) (v := ?_) rfl (by kernel_rfl) (by kernel_rfl) (by kernel_rfl) (fun _ _ _ h => h) (Or.inl ⟨by rfl, ?yld357⟩) hHeld ?nxt357
      case yld357 => (intro w hSw; (try dsimp only at hSw); go_simp) <;> with_reducible rfl
      (try simp only [Act.put, List.setIfInBounds_toArray, List.set_cons_zero, List.set_cons_succ])
      refine wpAnyH_ready (rs := [40]) (by kernel_rfl) (by simp) ?_
      refine AllReadyH.cons (o := { dst := some 65, op := Go.Op.call { callee := Go.Callee.value (Go.Operand.func 39), args := #[Go.Operand.tmp 64], argTypes := #[9] }, type := 44, pos := "laws.go:199", after := #[{ on := 39, ground := Go.Ground.data }, { on := 36, ground := Go.Ground.chain }, { on := 36, ground := Go.Ground.guard }], guard := some (36, true) }) rfl (fun K hK => ?_) AllReadyH.nil
      go_simp
      go_at_call 39
      have hp := hHeld.1
      refine (ErdS.spec_read u _ (by unfold maxLen; omega)).mono ?_
      rintro e w' ⟨q5, a5, c5, cc5, rfl, hB, hP5, hR5⟩
      obtain ⟨rfl, rfl⟩ := ErdS.reads_same HR.out hR5
      unfold ErdS.oe
      have hBn := hp.trans (hB.mono hp.size)
      clear hp hB hP5 hR5
      (try go_wp2_with fail)
      refine hK.out _ _ ?_ (fun hHeld2 => ?_)
      · (try dsimp only) <;> (first | exact ⟨hBn, (hBn.cell (p := ⟨Y, 0, none⟩) hYl).trans k0, (hBn.cell (p := ⟨Y, 1, none⟩) hYl).trans k1⟩ | exact ⟨hB0, k0, k1⟩)
      clear hK K hHeld
      have hHeld := hHeld2
      clear hHeld2
      (try simp only [Act.put, List.setIfInBounds_toArray, List.set_cons_zero, List.set_cons_succ])
      refine wpAnyH_take (i := 41) (oi := { dst := some 66, op := Go.Op.field 44 (Go.Operand.tmp 65) 1, type := 2, pos := "laws.go:199", after := #[{ on := 40, ground := Go.Ground.data }, { on := 36, ground := Go.Ground.guard }], guard := some (36, true) }) (v := ?_) rfl (by kernel_rfl) (by kernel_rfl) (by kernel_rfl) (fun _ _ _ h => h) (Or.inl ⟨by rfl, ?yld358⟩) hHeld ?nxt358
      case yld358 => (intro w hSw; (try dsimp only at hSw); go_simp) <;> with_reducible rfl
      (try simp only [Act.put, List.setIfInBounds_toArray, List.set_cons_zero, List.set_cons_succ])
      refine wpAnyH_take (i := 42) (oi := { dst := some 67, op := Go.Op.binOp Go.BinOp.eql 2 (Go.Operand.tmp 63) (Go.Operand.tmp 66) 2, type := 4, pos := "laws.go:199", after := #[{ on := 38, ground := Go.Ground.data }, { on := 41, ground := Go.Ground.data }, { on := 36, ground := Go.Ground.guard }], guard := some (36, true) }) (v := ?_) rfl (by kernel_rfl) (by kernel_rfl) (by kernel_rfl) (fun _ _ _ h => h) (Or.inl ⟨by rfl, ?yld359⟩) hHeld ?nxt359
      case yld359 => (intro w hSw; (try dsimp only at hSw); go_simp) <;> with_reducible rfl
      (try simp only [Act.put, List.setIfInBounds_toArray, List.set_cons_zero, List.set_cons_succ])
      refine wpAnyH_take (i := 43) (oi := { dst := some 68, op := Go.Op.pick (Go.Operand.tmp 61) (Go.Operand.tmp 67) (Go.Operand.const (Go.Value.bool false)), type := 4, pos := "laws.go:199", after := #[{ on := 36, ground := Go.Ground.data }, { on := 42, ground := Go.Ground.data }], guard := none }) (v := ?_) rfl (by kernel_rfl) (by kernel_rfl) (by kernel_rfl) (fun _ _ _ h => h) (Or.inl ⟨by rfl, ?yld360⟩) hHeld ?nxt360
      case yld360 => (intro w hSw; (try dsimp only at hSw); go_simp) <;> with_reducible rfl
      (try simp only [Act.put, List.setIfInBounds_toArray, List.set_cons_zero, List.set_cons_succ])
      refine wpAnyH_take (i := 44) (oi := { dst := some 69, op := Go.Op.move (Go.Operand.tmp 68), type := 4, pos := "laws.go:199", after := #[{ on := 43, ground := Go.Ground.data }, { on := 40, ground := Go.Ground.chain }], guard := none }) (v := ?_) rfl (by kernel_rfl) (by kernel_rfl) (by kernel_rfl) (fun _ _ _ h => h) (Or.inl ⟨by rfl, ?yld361⟩) hHeld ?nxt361
      case yld361 => (intro w hSw; (try dsimp only at hSw); go_simp) <;> with_reducible rfl
      (try simp only [Act.put, List.setIfInBounds_toArray, List.set_cons_zero, List.set_cons_succ])
      refine wpAnyH_take (i := 45) (oi := { dst := some 70, op := Go.Op.fieldAddr 44 (Go.Operand.tmp 8) 0, type := 0, pos := "laws.go:199", after := #[{ on := 44, ground := Go.Ground.guard }], guard := some (44, true) }) (v := ?_) rfl (by kernel_rfl) (by kernel_rfl) (by kernel_rfl) (fun _ _ _ h => h) (Or.inl ⟨by rfl, ?yld362⟩) hHeld ?nxt362
      case yld362 => (intro w hSw; (try dsimp only at hSw); go_simp) <;> with_reducible rfl
      (try simp only [Act.put, List.setIfInBounds_toArray, List.set_cons_zero, List.set_cons_succ])
      refine wpAnyH_take (i := 46) (oi := { dst := some 71, op := Go.Op.load 40 (Go.Operand.tmp 70), type := 40, pos := "laws.go:199", after := #[{ on := 45, ground := Go.Ground.data }, { on := 44, ground := Go.Ground.guard }], guard := some (44, true) }) (v := ?_) rfl (by kernel_rfl) (by kernel_rfl) (by kernel_rfl) (fun _ _ _ h => h) (Or.inl ⟨by rfl, ?yld363⟩) hHeld ?nxt363
      case yld363 => (intro w hSw; (try dsimp only at hSw); go_simp) <;> with_reducible rfl
      (try simp only [Act.put, List.setIfInBounds_toArray, List.set_cons_zero, List.set_cons_succ])
      refine wpAnyH_take (i := 47) (oi := { dst := some 72, op := Go.Op.move (Go.Operand.tmp 7), type := 9, pos := "laws.go:199", after := #[{ on := 44, ground := Go.Ground.guard }], guard := some (44, true) }) (v := ?_) rfl (by kernel_rfl) (by kernel_rfl) (by kernel_rfl) (fun _ _ _ h => h) (Or.inl ⟨by rfl, ?yld364⟩) hHeld ?nxt364
      case yld364 => (intro w hSw; (try dsimp only at hSw); go_simp) <;> with_reducible rfl
      (try simp only [Act.put, List.setIfInBounds_toArray, List.set_cons_zero, List.set_cons_succ])
      refine wpAnyH_ready (rs := [48]) (by kernel_rfl) (by simp) ?_
      refine AllReadyH.cons (o := { dst := some 73, op := Go.Op.call { callee := Go.Callee.value (Go.Operand.func 39), args := #[Go.Operand.tmp 72], argTypes := #[9] }, type := 44, pos := "laws.go:199", after := #[{ on := 47, ground := Go.Ground.data }, { on := 44, ground := Go.Ground.chain }, { on := 44, ground := Go.Ground.guard }], guard := some (44, true) }) rfl (fun K hK => ?_) AllReadyH.nil
      go_simp
      go_at_call 39
      have hp := hHeld.1
      refine (ErdS.spec_read u _ (by unfold maxLen; omega)).mono ?_
      rintro e w' ⟨q6, a6, c6, cc6, rfl, hB, hP6, hR6⟩
      obtain ⟨rfl, rfl⟩ := ErdS.reads_same HR.out hR6
      unfold ErdS.oe
      have hBn := hp.trans (hB.mono hp.size)
      have HP6 := hid hP6
      clear hp hB hP6 hR6
      (try go_wp2_with fail)
      refine hK.out _ _ ?_ (fun hHeld2 => ?_)
      · (try dsimp only) <;> (first | exact ⟨hBn, (hBn.cell (p := ⟨Y, 0, none⟩) hYl).trans k0, (hBn.cell (p := ⟨Y, 1, none⟩) hYl).trans k1⟩ | exact ⟨hB0, k0, k1⟩)
      clear hK K hHeld
      have hHeld := hHeld2
      clear hHeld2
      (try simp only [Act.put, List.setIfInBounds_toArray, List.set_cons_zero, List.set_cons_succ])
      refine wpAnyH_take (i := 49) (oi := { dst := some 74, op := Go.Op.field 44 (Go.Operand.tmp 73) 0, type := 40, pos := "laws.go:199", after := #[{ on := 48, ground := Go.Ground.data }, { on := 44, ground := Go.Ground.guard }], guard := some (44, true) }) (v := ?_) rfl (by kernel_rfl) (by kernel_rfl) (by kernel_rfl) (fun _ _ _ h => h) (Or.inl ⟨by rfl, ?yld365⟩) hHeld ?nxt365
      case yld365 => (intro w hSw; (try dsimp only at hSw); go_simp) <;> with_reducible rfl
      (try simp only [Act.put, List.setIfInBounds_toArray, List.set_cons_zero, List.set_cons_succ])
      refine wpAnyH_ready (rs := [50]) (by kernel_rfl) (by simp) ?_
      refine AllReadyH.cons (o := { dst := some 75, op := Go.Op.call { callee := Go.Callee.value (Go.Operand.func 38), args := #[Go.Operand.tmp 71, Go.Operand.tmp 74], argTypes := #[40, 40] }, type := 4, pos := "laws.go:199", after := #[{ on := 46, ground := Go.Ground.data }, { on := 49, ground := Go.Ground.data }, { on := 48, ground := Go.Ground.chain }, { on := 44, ground := Go.Ground.guard }], guard := some (44, true) }) rfl (fun K hK => ?_) AllReadyH.nil
      go_simp
      go_at_call 38
      have hp := hHeld.1
      refine (LwX.lwParts ya a6 yc c6 ys _ (HQ.out.on hp) HP6.out).mono ?_
      rintro e w' ⟨rfl, hB⟩
      have hBn := hp.trans (hB.mono hp.size)
      clear hp hB
      (try go_wp2_with fail)
      refine hK.out _ _ ?_ (fun hHeld2 => ?_)
      · (try dsimp only) <;> (first | exact ⟨hBn, (hBn.cell (p := ⟨Y, 0, none⟩) hYl).trans k0, (hBn.cell (p := ⟨Y, 1, none⟩) hYl).trans k1⟩ | exact ⟨hB0, k0, k1⟩)
      clear hK K hHeld
      have hHeld := hHeld2
      clear hHeld2
      (try simp only [Act.put, List.setIfInBounds_toArray, List.set_cons_zero, List.set_cons_succ])
      refine wpAnyH_take (i := 51) (oi := { dst := some 76, op := Go.Op.pick (Go.Operand.tmp 69) (Go.Operand.tmp 75) (Go.Operand.const (Go.Value.bool false)), type := 4, pos := "laws.go:199", after := #[{ on := 44, ground := Go.Ground.data }, { on := 50, ground := Go.Ground.data }], guard := none }) (v := ?_) rfl (by kernel_rfl) (by kernel_rfl) (by kernel_rfl) (fun _ _ _ h => h) (Or.inl ⟨by rfl, ?yld366⟩) hHeld ?nxt366
      case yld366 => (intro w hSw; (try dsimp only at hSw); go_simp) <;> with_reducible rfl
      (try simp only [Act.put, List.setIfInBounds_toArray, List.set_cons_zero, List.set_cons_succ])
      refine wpAnyH_take (i := 52) (oi := { dst := some 77, op := Go.Op.move (Go.Operand.tmp 76), type := 4, pos := "laws.go:199", after := #[{ on := 51, ground := Go.Ground.data }, { on := 50, ground := Go.Ground.chain }], guard := none }) (v := ?_) rfl (by kernel_rfl) (by kernel_rfl) (by kernel_rfl) (fun _ _ _ h => h) (Or.inl ⟨by rfl, ?yld367⟩) hHeld ?nxt367
      case yld367 => (intro w hSw; (try dsimp only at hSw); go_simp) <;> with_reducible rfl
      (try simp only [Act.put, List.setIfInBounds_toArray, List.set_cons_zero, List.set_cons_succ])
      refine wpAnyH_take (i := 53) (oi := { dst := some 78, op := Go.Op.fieldAddr 44 (Go.Operand.tmp 8) 1, type := 0, pos := "laws.go:199", after := #[{ on := 52, ground := Go.Ground.guard }], guard := some (52, true) }) (v := ?_) rfl (by kernel_rfl) (by kernel_rfl) (by kernel_rfl) (fun _ _ _ h => h) (Or.inl ⟨by rfl, ?yld368⟩) hHeld ?nxt368
      case yld368 => (intro w hSw; (try dsimp only at hSw); go_simp) <;> with_reducible rfl
      (try simp only [Act.put, List.setIfInBounds_toArray, List.set_cons_zero, List.set_cons_succ])
      refine wpAnyH_take (i := 54) (oi := { dst := some 79, op := Go.Op.load 2 (Go.Operand.tmp 78), type := 2, pos := "laws.go:199", after := #[{ on := 53, ground := Go.Ground.data }, { on := 52, ground := Go.Ground.guard }], guard := some (52, true) }) (v := ?_) rfl (by kernel_rfl) (by kernel_rfl) (by kernel_rfl) (fun _ _ _ h => h) (Or.inl ⟨by rfl, ?yld369⟩) hHeld ?nxt369
      case yld369 => (intro w hSw; (try dsimp only at hSw); go_simp) <;> with_reducible rfl
      (try simp only [Act.put, List.setIfInBounds_toArray, List.set_cons_zero, List.set_cons_succ])
      refine wpAnyH_take (i := 55) (oi := { dst := some 80, op := Go.Op.binOp Go.BinOp.neq 2 (Go.Operand.tmp 79) (Go.Operand.const (Go.Value.int Go.IntKind.i64 0)) 2, type := 4, pos := "laws.go:199", after := #[{ on := 54, ground := Go.Ground.data }, { on := 52, ground := Go.Ground.guard }], guard := some (52, true) }) (v := ?_) rfl (by kernel_rfl) (by kernel_rfl) (by kernel_rfl) (fun _ _ _ h => h) (Or.inl ⟨by rfl, ?yld370⟩) hHeld ?nxt370
      case yld370 => (intro w hSw; (try dsimp only at hSw); go_simp) <;> with_reducible rfl
      (try simp only [Act.put, List.setIfInBounds_toArray, List.set_cons_zero, List.set_cons_succ])
      refine wpAnyH_take (i := 56) (oi := { dst := some 81, op := Go.Op.move (Go.Operand.tmp 80), type := 4, pos := "laws.go:199", after := #[{ on := 55, ground := Go.Ground.data }, { on := 52, ground := Go.Ground.chain }, { on := 52, ground := Go.Ground.guard }], guard := some (52, true) }) (v := ?_) rfl (by kernel_rfl) (by kernel_rfl) (by kernel_rfl) (fun _ _ _ h => h) (Or.inl ⟨by rfl, ?yld371⟩) hHeld ?nxt371
      case yld371 => (intro w hSw; (try dsimp only at hSw); go_simp) <;> with_reducible rfl
      (try simp only [Act.put, List.setIfInBounds_toArray, List.set_cons_zero, List.set_cons_succ])
      refine wpAnyH_take (i := 57) (oi := { dst := some 82, op := Go.Op.fieldAddr 44 (Go.Operand.tmp 8) 0, type := 0, pos := "laws.go:199", after := #[{ on := 56, ground := Go.Ground.guard }], guard := some (56, false) }) (v := ?_) rfl (by kernel_rfl) (by kernel_rfl) (by kernel_rfl) (fun _ _ _ h => h) (Or.inl ⟨by rfl, ?yld372⟩) hHeld ?nxt372
      case yld372 => (intro w hSw; (try dsimp only at hSw); go_simp) <;> with_reducible rfl
      (try simp only [Act.put, List.setIfInBounds_toArray, List.set_cons_zero, List.set_cons_succ])
      refine wpAnyH_take (i := 58) (oi := { dst := some 83, op := Go.Op.load 40 (Go.Operand.tmp 82), type := 40, pos := "laws.go:199", after := #[{ on := 57, ground := Go.Ground.data }, { on := 56, ground := Go.Ground.guard }], guard := some (56, false) }) (v := ?_) rfl (by kernel_rfl) (by kernel_rfl) (by kernel_rfl) (fun _ _ _ h => h) (Or.inl ⟨by rfl, ?yld373⟩) hHeld ?nxt373
      case yld373 => (intro w hSw; (try dsimp only at hSw); go_simp) <;> with_reducible rfl
      (try simp only [Act.put, List.setIfInBounds_toArray, List.set_cons_zero, List.set_cons_succ])
      refine wpAnyH_take (i := 60) (oi := { dst := some 85, op := Go.Op.move (Go.Operand.tmp 7), type := 9, pos := "laws.go:199", after := #[{ on := 56, ground := Go.Ground.guard }], guard := some (56, false) }) (v := ?_) rfl (by kernel_rfl) (by kernel_rfl) (by kernel_rfl) (fun _ _ _ h => h) (Or.inl ⟨by rfl, ?yld374⟩) hHeld ?nxt374
      case yld374 => (intro w hSw; (try dsimp only at hSw); go_simp) <;> with_reducible rfl
      (try simp only [Act.put, List.setIfInBounds_toArray, List.set_cons_zero, List.set_cons_succ])
      refine wpAnyH_ready (rs := [59]) (by kernel_rfl) (by simp) ?_
      refine AllReadyH.cons (o := { dst := some 84, op := Go.Op.call { callee := Go.Callee.value (Go.Operand.func 27), args := #[Go.Operand.tmp 83], argTypes := #[40] }, type := 9, pos := "laws.go:199", after := #[{ on := 58, ground := Go.Ground.data }, { on := 56, ground := Go.Ground.chain }, { on := 56, ground := Go.Ground.guard }], guard := some (56, false) }) rfl (fun K hK => ?_) AllReadyH.nil
      go_simp
      go_at_call 27
      have hp := hHeld.1
      refine (TexI.impl_text ya yc ys _ (HQ.out.on hp) hyc ⟨(HEW.out.on hp).2, (HEW.out.on hp).dec⟩).mono ?_
      rintro e w' ⟨rfl, hB⟩
      rw [HYT.out]
      have hBn := hp.trans (hB.mono hp.size)
      clear hp hB
      (try go_wp2_with fail)
      refine hK.out _ _ ?_ (fun hHeld2 => ?_)
      · (try dsimp only) <;> (first | exact ⟨hBn, (hBn.cell (p := ⟨Y, 0, none⟩) hYl).trans k0, (hBn.cell (p := ⟨Y, 1, none⟩) hYl).trans k1⟩ | exact ⟨hB0, k0, k1⟩)
      clear hK K hHeld
      have hHeld := hHeld2
      clear hHeld2
      (try simp only [Act.put, List.setIfInBounds_toArray, List.set_cons_zero, List.set_cons_succ])
      refine wpAnyH_take (i := 61) (oi := { dst := some 86, op := Go.Op.binOp Go.BinOp.eql 9 (Go.Operand.tmp 84) (Go.Operand.tmp 85) 9, type := 4, pos := "laws.go:199", after := #[{ on := 59, ground := Go.Ground.data }, { on := 60, ground := Go.Ground.data }, { on := 56, ground := Go.Ground.guard }], guard := some (56, false) }) (v := ?_) rfl (by kernel_rfl) (by kernel_rfl) (by kernel_rfl) (fun _ _ _ h => h) (Or.inl ⟨by rfl, ?yld375⟩) hHeld ?nxt375
      case yld375 => (intro w hSw; (try dsimp only at hSw); go_simp) <;> with_reducible rfl
      (try simp only [Act.put, List.setIfInBounds_toArray, List.set_cons_zero, List.set_cons_succ])
      refine wpAnyH_take (i := 62) (oi := { dst := some 87, op := Go.Op.pick (Go.Operand.tmp 81) (Go.Operand.const (Go.Value.bool true)) (Go.Operand.tmp 86), type := 4, pos := "laws.go:199", after := #[{ on := 56, ground := Go.Ground.data }, { on := 61, ground := Go.Ground.data }, { on := 52, ground := Go.Ground.guard }], guard := some (52, true) }) (v := ?_) rfl (by kernel_rfl) (by kernel_rfl) (by kernel_rfl) (fun _ _ _ h => h) (Or.inl ⟨by rfl, ?yld376⟩) hHeld ?nxt376
      case yld376 => (intro w hSw; (try dsimp only at hSw); go_simp) <;> with_reducible rfl
      (try simp only [Act.put, List.setIfInBounds_toArray, List.set_cons_zero, List.set_cons_succ])
      refine wpAnyH_take (i := 63) (oi := { dst := some 88, op := Go.Op.pick (Go.Operand.tmp 77) (Go.Operand.tmp 87) (Go.Operand.const (Go.Value.bool false)), type := 4, pos := "laws.go:199", after := #[{ on := 52, ground := Go.Ground.data }, { on := 62, ground := Go.Ground.data }], guard := none }) (v := ?_) rfl (by kernel_rfl) (by kernel_rfl) (by kernel_rfl) (fun _ _ _ h => h) (Or.inl ⟨by rfl, ?yld377⟩) hHeld ?nxt377
      case yld377 => (intro w hSw; (try dsimp only at hSw); go_simp) <;> with_reducible rfl
      (try simp only [Act.put, List.setIfInBounds_toArray, List.set_cons_zero, List.set_cons_succ])
      refine wpAnyH_take (i := 64) (oi := { dst := some 4, op := Go.Op.assign (Go.Operand.tmp 88), type := 4, pos := "laws.go:199", after := ([{ on := 63, ground := Go.Ground.data }, { on := 59, ground := Go.Ground.chain }, { on := 0, ground := Go.Ground.phase }, { on := 1, ground := Go.Ground.phase }, { on := 2, ground := Go.Ground.phase }, { on := 3, ground := Go.Ground.phase }, { on := 4, ground := Go.Ground.phase }, { on := 5, ground := Go.Ground.phase }, { on := 6, ground := Go.Ground.phase }, { on := 7, ground := Go.Ground.phase }, { on := 8, ground := Go.Ground.phase }, { on := 9, ground := Go.Ground.phase }, { on := 10, ground := Go.Ground.phase }, { on := 11, ground := Go.Ground.phase }, { on := 12, ground := Go.Ground.phase }, { on := 13, ground := Go.Ground.phase }, { on := 14, ground := Go.Ground.phase }, { on := 15, ground := Go.Ground.phase }, { on := 16, ground := Go.Ground.phase }, { on := 17, ground := Go.Ground.phase }, { on := 18, ground := Go.Ground.phase }, { on := 19, ground := Go.Ground.phase }, { on := 20, ground := Go.Ground.phase }, { on := 21, ground := Go.Ground.phase }, { on := 22, ground := Go.Ground.phase }, { on := 23, ground := Go.Ground.phase }, { on := 24, ground := Go.Ground.phase }, { on := 25, ground := Go.Ground.phase }, { on := 26, ground := Go.Ground.phase }, { on := 27, ground := Go.Ground.phase }, { on := 28, ground := Go.Ground.phase }, { on := 29, ground := Go.Ground.phase }, { on := 30, ground := Go.Ground.phase }].append [{ on := 31, ground := Go.Ground.phase }, { on := 32, ground := Go.Ground.phase }, { on := 33, ground := Go.Ground.phase }, { on := 34, ground := Go.Ground.phase }, { on := 35, ground := Go.Ground.phase }, { on := 36, ground := Go.Ground.phase }, { on := 37, ground := Go.Ground.phase }, { on := 38, ground := Go.Ground.phase }, { on := 39, ground := Go.Ground.phase }, { on := 40, ground := Go.Ground.phase }, { on := 41, ground := Go.Ground.phase }, { on := 42, ground := Go.Ground.phase }, { on := 43, ground := Go.Ground.phase }, { on := 44, ground := Go.Ground.phase }, { on := 45, ground := Go.Ground.phase }, { on := 46, ground := Go.Ground.phase }, { on := 47, ground := Go.Ground.phase }, { on := 48, ground := Go.Ground.phase }, { on := 49, ground := Go.Ground.phase }, { on := 50, ground := Go.Ground.phase }, { on := 51, ground := Go.Ground.phase }, { on := 52, ground := Go.Ground.phase }, { on := 53, ground := Go.Ground.phase }, { on := 54, ground := Go.Ground.phase }, { on := 55, ground := Go.Ground.phase }, { on := 56, ground := Go.Ground.phase }, { on := 57, ground := Go.Ground.phase }, { on := 58, ground := Go.Ground.phase }, { on := 59, ground := Go.Ground.phase }, { on := 60, ground := Go.Ground.phase }, { on := 61, ground := Go.Ground.phase }, { on := 62, ground := Go.Ground.phase }, { on := 63, ground := Go.Ground.phase }]).toArray, guard := none }) (v := ?_) rfl (by kernel_rfl) (by kernel_rfl) (by kernel_rfl) (fun _ _ _ h => h) (Or.inl ⟨by rfl, ?yld378⟩) hHeld ?nxt378
      case yld378 => (intro w hSw; (try dsimp only at hSw); go_simp) <;> with_reducible rfl
      (try simp only [Act.put, List.setIfInBounds_toArray, List.set_cons_zero, List.set_cons_succ])
      refine wpAnyH_done (by kernel_rfl) ?_ _
      have HBL := hid hHeld.1
      clear hHeld hB0
      go_wp2_with fail
      go_ret
      exact ⟨rfl, HBW.out.trans (HBL.out.mono HBW.out.size)⟩
    · have q3 : (cy == 0) = false := by simp [hcy]
      have q4 : (cy != 0) = true := by simp [hcy]
      refine wp_region_held_drew (S := (fun w' => Below W.heap.size W w' ∧ w'.cell? ⟨Y, 0, none⟩ = some (.slice ya ys.length yc) ∧ w'.cell? ⟨Y, 1, none⟩ = some (.int .i64 cy))) (by kernel_rfl) ?_ (fun hHeld => ?_)
      · (try dsimp only) <;> (first | exact ⟨hBn, (hBn.cell (p := ⟨Y, 0, none⟩) hYl).trans k0, (hBn.cell (p := ⟨Y, 1, none⟩) hYl).trans k1⟩ | exact ⟨hB0, k0, k1⟩)
      refine wpAnyH_take (i := 0) (oi := { dst := some 25, op := Go.Op.move (Go.Operand.tmp 6), type := 9, pos := "laws.go:199", after := #[], guard := none }) (v := ?_) rfl (by kernel_rfl) (by kernel_rfl) (by kernel_rfl) (fun _ _ _ h => h) (Or.inl ⟨by rfl, ?yld379⟩) hHeld ?nxt379
      case yld379 => (intro w hSw; (try dsimp only at hSw); go_simp) <;> with_reducible rfl
      (try simp only [Act.put, List.setIfInBounds_toArray, List.set_cons_zero, List.set_cons_succ])
      refine wpAnyH_take (i := 1) (oi := { dst := some 26, op := Go.Op.move (Go.Operand.tmp 5), type := 40, pos := "laws.go:199", after := #[], guard := none }) (v := ?_) rfl (by kernel_rfl) (by kernel_rfl) (by kernel_rfl) (fun _ _ _ h => h) (Or.inl ⟨by rfl, ?yld380⟩) hHeld ?nxt380
      case yld380 => (intro w hSw; (try dsimp only at hSw); go_simp) <;> with_reducible rfl
      (try simp only [Act.put, List.setIfInBounds_toArray, List.set_cons_zero, List.set_cons_succ])
      refine wpAnyH_ready (rs := [2]) (by kernel_rfl) (by simp) ?_
      refine AllReadyH.cons (o := { dst := some 27, op := Go.Op.call { callee := Go.Callee.value (Go.Operand.func 30), args := #[Go.Operand.tmp 26], argTypes := #[40] }, type := 9, pos := "laws.go:199", after := #[{ on := 1, ground := Go.Ground.data }], guard := none }) rfl (fun K hK => ?_) AllReadyH.nil
      go_simp
      go_at_call 30
      have hp := hHeld.1
      refine (TexS.spec_text xa xc ps _ (HP.out.on hp)).mono ?_
      rintro e w' ⟨rfl, hB⟩
      rw [ht.out]
      have hBn := hp.trans (hB.mono hp.size)
      clear hp hB
      (try go_wp2_with fail)
      refine hK.out _ _ ?_ (fun hHeld2 => ?_)
      · (try dsimp only) <;> (first | exact ⟨hBn, (hBn.cell (p := ⟨Y, 0, none⟩) hYl).trans k0, (hBn.cell (p := ⟨Y, 1, none⟩) hYl).trans k1⟩ | exact ⟨hB0, k0, k1⟩)
      clear hK K hHeld
      have hHeld := hHeld2
      clear hHeld2
      (try simp only [Act.put, List.setIfInBounds_toArray, List.set_cons_zero, List.set_cons_succ])
      refine wpAnyH_take (i := 3) (oi := { dst := some 28, op := Go.Op.binOp Go.BinOp.eql 9 (Go.Operand.tmp 25) (Go.Operand.tmp 27) 9, type := 4, pos := "laws.go:199", after := #[{ on := 0, ground := Go.Ground.data }, { on := 2, ground := Go.Ground.data }], guard := none }) (v := ?_) rfl (by kernel_rfl) (by kernel_rfl) (by kernel_rfl) (fun _ _ _ h => h) (Or.inl ⟨by rfl, ?yld381⟩) hHeld ?nxt381
      case yld381 => (intro w hSw; (try dsimp only at hSw); go_simp) <;> with_reducible rfl
      (try simp only [Act.put, List.setIfInBounds_toArray, List.set_cons_zero, List.set_cons_succ])
      refine wpAnyH_take (i := 4) (oi := { dst := some 29, op := Go.Op.move (Go.Operand.tmp 28), type := 4, pos := "laws.go:199", after := #[{ on := 3, ground := Go.Ground.data }, { on := 2, ground := Go.Ground.chain }], guard := none }) (v := ?_) rfl (by kernel_rfl) (by kernel_rfl) (by kernel_rfl) (fun _ _ _ h => h) (Or.inl ⟨by rfl, ?yld382⟩) hHeld ?nxt382
      case yld382 => (intro w hSw; (try dsimp only at hSw); go_simp) <;> with_reducible rfl
      (try simp only [Act.put, List.setIfInBounds_toArray, List.set_cons_zero, List.set_cons_succ])
      refine wpAnyH_take (i := 5) (oi := { dst := some 30, op := Go.Op.move (Go.Operand.tmp 5), type := 40, pos := "laws.go:199", after := #[{ on := 4, ground := Go.Ground.guard }], guard := some (4, true) }) (v := ?_) rfl (by kernel_rfl) (by kernel_rfl) (by kernel_rfl) (fun _ _ _ h => h) (Or.inl ⟨by rfl, ?yld383⟩) hHeld ?nxt383
      case yld383 => (intro w hSw; (try dsimp only at hSw); go_simp) <;> with_reducible rfl
      (try simp only [Act.put, List.setIfInBounds_toArray, List.set_cons_zero, List.set_cons_succ])
      refine wpAnyH_take (i := 7) (oi := { dst := some 32, op := Go.Op.move (Go.Operand.tmp 5), type := 40, pos := "laws.go:199", after := #[{ on := 4, ground := Go.Ground.guard }], guard := some (4, true) }) (v := ?_) rfl (by kernel_rfl) (by kernel_rfl) (by kernel_rfl) (fun _ _ _ h => h) (Or.inl ⟨by rfl, ?yld384⟩) hHeld ?nxt384
      case yld384 => (intro w hSw; (try dsimp only at hSw); go_simp) <;> with_reducible rfl
      (try simp only [Act.put, List.setIfInBounds_toArray, List.set_cons_zero, List.set_cons_succ])
      refine wpAnyH_ready (rs := [6]) (by kernel_rfl) (by simp) ?_
      refine AllReadyH.cons (o := { dst := some 31, op := Go.Op.call { callee := Go.Callee.value (Go.Operand.func 31), args := #[Go.Operand.tmp 30], argTypes := #[40] }, type := 4, pos := "laws.go:199", after := #[{ on := 5, ground := Go.Ground.data }, { on := 4, ground := Go.Ground.chain }, { on := 4, ground := Go.Ground.guard }], guard := some (4, true) }) rfl (fun K hK => ?_) AllReadyH.nil
      go_simp
      go_at_call 31
      have hp := hHeld.1
      refine (PrtI.impl_right xa xc ps _ (HP.out.on hp) hxc (HEW.out.on hp).2).mono ?_
      rintro e w' ⟨rfl, hB⟩
      rw [hr.out]
      have hBn := hp.trans (hB.mono hp.size)
      clear hp hB
      (try go_wp2_with fail)
      refine hK.out _ _ ?_ (fun hHeld2 => ?_)
      · (try dsimp only) <;> (first | exact ⟨hBn, (hBn.cell (p := ⟨Y, 0, none⟩) hYl).trans k0, (hBn.cell (p := ⟨Y, 1, none⟩) hYl).trans k1⟩ | exact ⟨hB0, k0, k1⟩)
      clear hK K hHeld
      have hHeld := hHeld2
      clear hHeld2
      (try simp only [Act.put, List.setIfInBounds_toArray, List.set_cons_zero, List.set_cons_succ])
      refine wpAnyH_ready (rs := [8]) (by kernel_rfl) (by simp) ?_
      refine AllReadyH.cons (o := { dst := some 33, op := Go.Op.call { callee := Go.Callee.value (Go.Operand.func 32), args := #[Go.Operand.tmp 32], argTypes := #[40] }, type := 4, pos := "laws.go:199", after := #[{ on := 7, ground := Go.Ground.data }, { on := 6, ground := Go.Ground.chain }, { on := 4, ground := Go.Ground.guard }], guard := some (4, true) }) rfl (fun K hK => ?_) AllReadyH.nil
      go_simp
      go_at_call 32
      have hp := hHeld.1
      refine (PrtS.spec_right xa xc ps _ (HP.out.on hp)).mono ?_
      rintro e w' ⟨rfl, hB⟩
      rw [hr.out]
      have hBn := hp.trans (hB.mono hp.size)
      clear hp hB
      (try go_wp2_with fail)
      refine hK.out _ _ ?_ (fun hHeld2 => ?_)
      · (try dsimp only) <;> (first | exact ⟨hBn, (hBn.cell (p := ⟨Y, 0, none⟩) hYl).trans k0, (hBn.cell (p := ⟨Y, 1, none⟩) hYl).trans k1⟩ | exact ⟨hB0, k0, k1⟩)
      clear hK K hHeld
      have hHeld := hHeld2
      clear hHeld2
      (try simp only [Act.put, List.setIfInBounds_toArray, List.set_cons_zero, List.set_cons_succ])
      refine wpAnyH_take (i := 9) (oi := { dst := some 34, op := Go.Op.binOp Go.BinOp.eql 4 (Go.Operand.tmp 31) (Go.Operand.tmp 33) 4, type := 4, pos := "laws.go:199", after := #[{ on := 6, ground := Go.Ground.data }, { on := 8, ground := Go.Ground.data }, { on := 4, ground := Go.Ground.guard }], guard := some (4, true) }) (v := ?_) rfl (by kernel_rfl) (by kernel_rfl) (by kernel_rfl) (fun _ _ _ h => h) (Or.inl ⟨by rfl, ?yld385⟩) hHeld ?nxt385
      case yld385 => (intro w hSw; (try dsimp only at hSw); go_simp) <;> with_reducible rfl
      (try simp only [Act.put, List.setIfInBounds_toArray, List.set_cons_zero, List.set_cons_succ])
      refine wpAnyH_take (i := 10) (oi := { dst := some 35, op := Go.Op.pick (Go.Operand.tmp 29) (Go.Operand.tmp 34) (Go.Operand.const (Go.Value.bool false)), type := 4, pos := "laws.go:199", after := #[{ on := 4, ground := Go.Ground.data }, { on := 9, ground := Go.Ground.data }], guard := none }) (v := ?_) rfl (by kernel_rfl) (by kernel_rfl) (by kernel_rfl) (fun _ _ _ h => h) (Or.inl ⟨by rfl, ?yld386⟩) hHeld ?nxt386
      case yld386 => (intro w hSw; (try dsimp only at hSw); go_simp) <;> with_reducible rfl
      (try simp only [Act.put, List.setIfInBounds_toArray, List.set_cons_zero, List.set_cons_succ])
      refine wpAnyH_take (i := 11) (oi := { dst := some 36, op := Go.Op.move (Go.Operand.tmp 35), type := 4, pos := "laws.go:199", after := #[{ on := 10, ground := Go.Ground.data }, { on := 8, ground := Go.Ground.chain }], guard := none }) (v := ?_) rfl (by kernel_rfl) (by kernel_rfl) (by kernel_rfl) (fun _ _ _ h => h) (Or.inl ⟨by rfl, ?yld387⟩) hHeld ?nxt387
      case yld387 => (intro w hSw; (try dsimp only at hSw); go_simp) <;> with_reducible rfl
      (try simp only [Act.put, List.setIfInBounds_toArray, List.set_cons_zero, List.set_cons_succ])
      refine wpAnyH_take (i := 12) (oi := { dst := some 37, op := Go.Op.move (Go.Operand.tmp 5), type := 40, pos := "laws.go:199", after := #[{ on := 11, ground := Go.Ground.guard }], guard := some (11, true) }) (v := ?_) rfl (by kernel_rfl) (by kernel_rfl) (by kernel_rfl) (fun _ _ _ h => h) (Or.inl ⟨by rfl, ?yld388⟩) hHeld ?nxt388
      case yld388 => (intro w hSw; (try dsimp only at hSw); go_simp) <;> with_reducible rfl
      (try simp only [Act.put, List.setIfInBounds_toArray, List.set_cons_zero, List.set_cons_succ])
      refine wpAnyH_take (i := 14) (oi := { dst := some 39, op := Go.Op.move (Go.Operand.tmp 5), type := 40, pos := "laws.go:199", after := #[{ on := 11, ground := Go.Ground.guard }], guard := some (11, true) }) (v := ?_) rfl (by kernel_rfl) (by kernel_rfl) (by kernel_rfl) (fun _ _ _ h => h) (Or.inl ⟨by rfl, ?yld389⟩) hHeld ?nxt389
      case yld389 => (intro w hSw; (try dsimp only at hSw); go_simp) <;> with_reducible rfl
      (try simp only [Act.put, List.setIfInBounds_toArray, List.set_cons_zero, List.set_cons_succ])
      refine wpAnyH_ready (rs := [13]) (by kernel_rfl) (by simp) ?_
      refine AllReadyH.cons (o := { dst := some 38, op := Go.Op.call { callee := Go.Callee.value (Go.Operand.func 33), args := #[Go.Operand.tmp 37], argTypes := #[40] }, type := 4, pos := "laws.go:199", after := #[{ on := 12, ground := Go.Ground.data }, { on := 11, ground := Go.Ground.chain }, { on := 11, ground := Go.Ground.guard }], guard := some (11, true) }) rfl (fun K hK => ?_) AllReadyH.nil
      go_simp
      go_at_call 33
      have hp := hHeld.1
      refine (PrtI.impl_truth xa xc ps _ (HP.out.on hp) hxc (HEW.out.on hp).2).mono ?_
      rintro e w' ⟨rfl, hB⟩
      rw [hth.out]
      have hBn := hp.trans (hB.mono hp.size)
      clear hp hB
      (try go_wp2_with fail)
      refine hK.out _ _ ?_ (fun hHeld2 => ?_)
      · (try dsimp only) <;> (first | exact ⟨hBn, (hBn.cell (p := ⟨Y, 0, none⟩) hYl).trans k0, (hBn.cell (p := ⟨Y, 1, none⟩) hYl).trans k1⟩ | exact ⟨hB0, k0, k1⟩)
      clear hK K hHeld
      have hHeld := hHeld2
      clear hHeld2
      (try simp only [Act.put, List.setIfInBounds_toArray, List.set_cons_zero, List.set_cons_succ])
      refine wpAnyH_ready (rs := [15]) (by kernel_rfl) (by simp) ?_
      refine AllReadyH.cons (o := { dst := some 40, op := Go.Op.call { callee := Go.Callee.value (Go.Operand.func 34), args := #[Go.Operand.tmp 39], argTypes := #[40] }, type := 4, pos := "laws.go:199", after := #[{ on := 14, ground := Go.Ground.data }, { on := 13, ground := Go.Ground.chain }, { on := 11, ground := Go.Ground.guard }], guard := some (11, true) }) rfl (fun K hK => ?_) AllReadyH.nil
      go_simp
      go_at_call 34
      have hp := hHeld.1
      refine (PrtS.spec_truth xa xc ps _ (HP.out.on hp)).mono ?_
      rintro e w' ⟨rfl, hB⟩
      rw [hth.out]
      have hBn := hp.trans (hB.mono hp.size)
      clear hp hB
      (try go_wp2_with fail)
      refine hK.out _ _ ?_ (fun hHeld2 => ?_)
      · (try dsimp only) <;> (first | exact ⟨hBn, (hBn.cell (p := ⟨Y, 0, none⟩) hYl).trans k0, (hBn.cell (p := ⟨Y, 1, none⟩) hYl).trans k1⟩ | exact ⟨hB0, k0, k1⟩)
      clear hK K hHeld
      have hHeld := hHeld2
      clear hHeld2
      (try simp only [Act.put, List.setIfInBounds_toArray, List.set_cons_zero, List.set_cons_succ])
      refine wpAnyH_take (i := 16) (oi := { dst := some 41, op := Go.Op.binOp Go.BinOp.eql 4 (Go.Operand.tmp 38) (Go.Operand.tmp 40) 4, type := 4, pos := "laws.go:199", after := #[{ on := 13, ground := Go.Ground.data }, { on := 15, ground := Go.Ground.data }, { on := 11, ground := Go.Ground.guard }], guard := some (11, true) }) (v := ?_) rfl (by kernel_rfl) (by kernel_rfl) (by kernel_rfl) (fun _ _ _ h => h) (Or.inl ⟨by rfl, ?yld390⟩) hHeld ?nxt390
      case yld390 => (intro w hSw; (try dsimp only at hSw); go_simp) <;> with_reducible rfl
      (try simp only [Act.put, List.setIfInBounds_toArray, List.set_cons_zero, List.set_cons_succ])
      refine wpAnyH_take (i := 17) (oi := { dst := some 42, op := Go.Op.pick (Go.Operand.tmp 36) (Go.Operand.tmp 41) (Go.Operand.const (Go.Value.bool false)), type := 4, pos := "laws.go:199", after := #[{ on := 11, ground := Go.Ground.data }, { on := 16, ground := Go.Ground.data }], guard := none }) (v := ?_) rfl (by kernel_rfl) (by kernel_rfl) (by kernel_rfl) (fun _ _ _ h => h) (Or.inl ⟨by rfl, ?yld391⟩) hHeld ?nxt391
      case yld391 => (intro w hSw; (try dsimp only at hSw); go_simp) <;> with_reducible rfl
      (try simp only [Act.put, List.setIfInBounds_toArray, List.set_cons_zero, List.set_cons_succ])
      refine wpAnyH_take (i := 18) (oi := { dst := some 43, op := Go.Op.move (Go.Operand.tmp 42), type := 4, pos := "laws.go:199", after := #[{ on := 17, ground := Go.Ground.data }, { on := 15, ground := Go.Ground.chain }], guard := none }) (v := ?_) rfl (by kernel_rfl) (by kernel_rfl) (by kernel_rfl) (fun _ _ _ h => h) (Or.inl ⟨by rfl, ?yld392⟩) hHeld ?nxt392
      case yld392 => (intro w hSw; (try dsimp only at hSw); go_simp) <;> with_reducible rfl
      (try simp only [Act.put, List.setIfInBounds_toArray, List.set_cons_zero, List.set_cons_succ])
      refine wpAnyH_take (i := 19) (oi := { dst := some 44, op := Go.Op.move (Go.Operand.tmp 5), type := 40, pos := "laws.go:199", after := #[{ on := 18, ground := Go.Ground.guard }], guard := some (18, true) }) (v := ?_) rfl (by kernel_rfl) (by kernel_rfl) (by kernel_rfl) (fun _ _ _ h => h) (Or.inl ⟨by rfl, ?yld393⟩) hHeld ?nxt393
      case yld393 => (intro w hSw; (try dsimp only at hSw); go_simp) <;> with_reducible rfl
      (try simp only [Act.put, List.setIfInBounds_toArray, List.set_cons_zero, List.set_cons_succ])
      refine wpAnyH_take (i := 21) (oi := { dst := some 46, op := Go.Op.move (Go.Operand.tmp 5), type := 40, pos := "laws.go:199", after := #[{ on := 18, ground := Go.Ground.guard }], guard := some (18, true) }) (v := ?_) rfl (by kernel_rfl) (by kernel_rfl) (by kernel_rfl) (fun _ _ _ h => h) (Or.inl ⟨by rfl, ?yld394⟩) hHeld ?nxt394
      case yld394 => (intro w hSw; (try dsimp only at hSw); go_simp) <;> with_reducible rfl
      (try simp only [Act.put, List.setIfInBounds_toArray, List.set_cons_zero, List.set_cons_succ])
      refine wpAnyH_ready (rs := [20]) (by kernel_rfl) (by simp) ?_
      refine AllReadyH.cons (o := { dst := some 45, op := Go.Op.call { callee := Go.Callee.value (Go.Operand.func 36), args := #[Go.Operand.tmp 44], argTypes := #[40] }, type := 48, pos := "laws.go:199", after := #[{ on := 19, ground := Go.Ground.data }, { on := 18, ground := Go.Ground.chain }, { on := 18, ground := Go.Ground.guard }], guard := some (18, true) }) rfl (fun K hK => ?_) AllReadyH.nil
      go_simp
      go_at_call 36
      have hp := hHeld.1
      refine (FldI.impl_fields xa xc ps _ (HP.out.on hp) hxc (HEW.out.on hp).2).mono ?_
      rw [hF.out]
      rintro e w' ⟨⟨v1, rfl, hown1⟩, hB⟩
      obtain ⟨f1, c1, hv1, hS1, -, -⟩ := StrW.strs_own hown1 hfl
      subst hv1
      have hBn := hp.trans (hB.mono hp.size)
      have HS1 := hid hS1
      clear hp hB hown1 hS1
      (try go_wp2_with fail)
      refine hK.out _ _ ?_ (fun hHeld2 => ?_)
      · (try dsimp only) <;> (first | exact ⟨hBn, (hBn.cell (p := ⟨Y, 0, none⟩) hYl).trans k0, (hBn.cell (p := ⟨Y, 1, none⟩) hYl).trans k1⟩ | exact ⟨hB0, k0, k1⟩)
      clear hK K hHeld
      have hHeld := hHeld2
      clear hHeld2
      (try simp only [Act.put, List.setIfInBounds_toArray, List.set_cons_zero, List.set_cons_succ])
      refine wpAnyH_ready (rs := [22]) (by kernel_rfl) (by simp) ?_
      refine AllReadyH.cons (o := { dst := some 47, op := Go.Op.call { callee := Go.Callee.value (Go.Operand.func 37), args := #[Go.Operand.tmp 46], argTypes := #[40] }, type := 48, pos := "laws.go:199", after := #[{ on := 21, ground := Go.Ground.data }, { on := 20, ground := Go.Ground.chain }, { on := 18, ground := Go.Ground.guard }], guard := some (18, true) }) rfl (fun K hK => ?_) AllReadyH.nil
      go_simp
      go_at_call 37
      have hp := hHeld.1
      refine (FldS.spec_fields xa xc ps _ (HP.out.on hp)).mono ?_
      rw [hF.out]
      rintro e w' ⟨⟨f2, c2, rfl, hS2⟩, hB⟩
      have hBn := hp.trans (hB.mono hp.size)
      have HS2 := hid hS2
      have HS1' := hid (HS1.out.on hB)
      clear hp hB hS2
      (try go_wp2_with fail)
      refine hK.out _ _ ?_ (fun hHeld2 => ?_)
      · (try dsimp only) <;> (first | exact ⟨hBn, (hBn.cell (p := ⟨Y, 0, none⟩) hYl).trans k0, (hBn.cell (p := ⟨Y, 1, none⟩) hYl).trans k1⟩ | exact ⟨hB0, k0, k1⟩)
      clear hK K hHeld
      have hHeld := hHeld2
      clear hHeld2
      (try simp only [Act.put, List.setIfInBounds_toArray, List.set_cons_zero, List.set_cons_succ])
      refine wpAnyH_ready (rs := [23]) (by kernel_rfl) (by simp) ?_
      refine AllReadyH.cons (o := { dst := some 48, op := Go.Op.call { callee := Go.Callee.value (Go.Operand.func 35), args := #[Go.Operand.tmp 45, Go.Operand.tmp 47], argTypes := #[48, 48] }, type := 4, pos := "laws.go:199", after := #[{ on := 20, ground := Go.Ground.data }, { on := 22, ground := Go.Ground.data }, { on := 22, ground := Go.Ground.chain }, { on := 18, ground := Go.Ground.guard }], guard := some (18, true) }) rfl (fun K hK => ?_) AllReadyH.nil
      go_simp
      go_at_call 35
      have hp := hHeld.1
      refine (LwX.lwStrs f1 f2 c1 c2 F _ HS1'.out HS2.out).mono ?_
      rintro e w' ⟨rfl, hB⟩
      have hBn := hp.trans (hB.mono hp.size)
      clear hp hB
      (try go_wp2_with fail)
      refine hK.out _ _ ?_ (fun hHeld2 => ?_)
      · (try dsimp only) <;> (first | exact ⟨hBn, (hBn.cell (p := ⟨Y, 0, none⟩) hYl).trans k0, (hBn.cell (p := ⟨Y, 1, none⟩) hYl).trans k1⟩ | exact ⟨hB0, k0, k1⟩)
      clear hK K hHeld
      have hHeld := hHeld2
      clear hHeld2
      (try simp only [Act.put, List.setIfInBounds_toArray, List.set_cons_zero, List.set_cons_succ])
      refine wpAnyH_take (i := 24) (oi := { dst := some 49, op := Go.Op.pick (Go.Operand.tmp 43) (Go.Operand.tmp 48) (Go.Operand.const (Go.Value.bool false)), type := 4, pos := "laws.go:199", after := #[{ on := 18, ground := Go.Ground.data }, { on := 23, ground := Go.Ground.data }], guard := none }) (v := ?_) rfl (by kernel_rfl) (by kernel_rfl) (by kernel_rfl) (fun _ _ _ h => h) (Or.inl ⟨by rfl, ?yld395⟩) hHeld ?nxt395
      case yld395 => (intro w hSw; (try dsimp only at hSw); go_simp) <;> with_reducible rfl
      (try simp only [Act.put, List.setIfInBounds_toArray, List.set_cons_zero, List.set_cons_succ])
      refine wpAnyH_take (i := 25) (oi := { dst := some 50, op := Go.Op.move (Go.Operand.tmp 49), type := 4, pos := "laws.go:199", after := #[{ on := 24, ground := Go.Ground.data }, { on := 23, ground := Go.Ground.chain }], guard := none }) (v := ?_) rfl (by kernel_rfl) (by kernel_rfl) (by kernel_rfl) (fun _ _ _ h => h) (Or.inl ⟨by rfl, ?yld396⟩) hHeld ?nxt396
      case yld396 => (intro w hSw; (try dsimp only at hSw); go_simp) <;> with_reducible rfl
      (try simp only [Act.put, List.setIfInBounds_toArray, List.set_cons_zero, List.set_cons_succ])
      refine wpAnyH_take (i := 26) (oi := { dst := some 51, op := Go.Op.move (Go.Operand.tmp 6), type := 9, pos := "laws.go:199", after := #[{ on := 25, ground := Go.Ground.guard }], guard := some (25, true) }) (v := ?_) rfl (by kernel_rfl) (by kernel_rfl) (by kernel_rfl) (fun _ _ _ h => h) (Or.inl ⟨by rfl, ?yld397⟩) hHeld ?nxt397
      case yld397 => (intro w hSw; (try dsimp only at hSw); go_simp) <;> with_reducible rfl
      (try simp only [Act.put, List.setIfInBounds_toArray, List.set_cons_zero, List.set_cons_succ])
      refine wpAnyH_take (i := 27) (oi := { dst := some 52, op := Go.Op.binOp Go.BinOp.eql 9 (Go.Operand.tmp 51) (Go.Operand.const (Go.Value.string { data := #[] })) 9, type := 4, pos := "laws.go:199", after := #[{ on := 26, ground := Go.Ground.data }, { on := 25, ground := Go.Ground.guard }], guard := some (25, true) }) (v := ?_) rfl (by kernel_rfl) (by kernel_rfl) (by kernel_rfl) (fun _ _ _ h => h) (Or.inl ⟨by rfl, ?yld398⟩) hHeld ?nxt398
      case yld398 => (intro w hSw; (try dsimp only at hSw); go_simp) <;> with_reducible rfl
      (try simp only [Act.put, List.setIfInBounds_toArray, List.set_cons_zero, List.set_cons_succ])
      refine wpAnyH_take (i := 28) (oi := { dst := some 53, op := Go.Op.move (Go.Operand.tmp 52), type := 4, pos := "laws.go:199", after := #[{ on := 27, ground := Go.Ground.data }, { on := 25, ground := Go.Ground.chain }, { on := 25, ground := Go.Ground.guard }], guard := some (25, true) }) (v := ?_) rfl (by kernel_rfl) (by kernel_rfl) (by kernel_rfl) (fun _ _ _ h => h) (Or.inl ⟨by rfl, ?yld399⟩) hHeld ?nxt399
      case yld399 => (intro w hSw; (try dsimp only at hSw); go_simp) <;> with_reducible rfl
      (try simp only [Act.put, List.setIfInBounds_toArray, List.set_cons_zero, List.set_cons_succ])
      refine wpAnyH_take (i := 29) (oi := { dst := some 54, op := Go.Op.move (Go.Operand.tmp 6), type := 9, pos := "laws.go:199", after := #[{ on := 28, ground := Go.Ground.guard }], guard := some (28, false) }) (v := undef) rfl (by kernel_rfl) (by kernel_rfl) (by kernel_rfl) (fun _ _ _ h => h) (Or.inr ⟨by rfl, rfl⟩) hHeld ?_
      (try simp only [Act.put, List.setIfInBounds_toArray, List.set_cons_zero, List.set_cons_succ])
      refine wpAnyH_take (i := 30) (oi := { dst := some 55, op := Go.Op.call { callee := Go.Callee.value (Go.Operand.func 29), args := #[Go.Operand.tmp 54], argTypes := #[9] }, type := 44, pos := "laws.go:199", after := #[{ on := 29, ground := Go.Ground.data }, { on := 28, ground := Go.Ground.chain }, { on := 28, ground := Go.Ground.guard }], guard := some (28, false) }) (v := undef) rfl (by kernel_rfl) (by kernel_rfl) (by kernel_rfl) (fun _ _ _ h => h) (Or.inr ⟨by rfl, rfl⟩) hHeld ?_
      (try simp only [Act.put, List.setIfInBounds_toArray, List.set_cons_zero, List.set_cons_succ])
      refine wpAnyH_take (i := 31) (oi := { dst := some 56, op := Go.Op.field 44 (Go.Operand.tmp 55) 0, type := 40, pos := "laws.go:199", after := #[{ on := 30, ground := Go.Ground.data }, { on := 28, ground := Go.Ground.guard }], guard := some (28, false) }) (v := undef) rfl (by kernel_rfl) (by kernel_rfl) (by kernel_rfl) (fun _ _ _ h => h) (Or.inr ⟨by rfl, rfl⟩) hHeld ?_
      (try simp only [Act.put, List.setIfInBounds_toArray, List.set_cons_zero, List.set_cons_succ])
      refine wpAnyH_take (i := 32) (oi := { dst := some 57, op := Go.Op.move (Go.Operand.tmp 5), type := 40, pos := "laws.go:199", after := #[{ on := 28, ground := Go.Ground.guard }], guard := some (28, false) }) (v := undef) rfl (by kernel_rfl) (by kernel_rfl) (by kernel_rfl) (fun _ _ _ h => h) (Or.inr ⟨by rfl, rfl⟩) hHeld ?_
      (try simp only [Act.put, List.setIfInBounds_toArray, List.set_cons_zero, List.set_cons_succ])
      refine wpAnyH_take (i := 33) (oi := { dst := some 58, op := Go.Op.call { callee := Go.Callee.value (Go.Operand.func 38), args := #[Go.Operand.tmp 56, Go.Operand.tmp 57], argTypes := #[40, 40] }, type := 4, pos := "laws.go:199", after := #[{ on := 31, ground := Go.Ground.data }, { on := 32, ground := Go.Ground.data }, { on := 30, ground := Go.Ground.chain }, { on := 28, ground := Go.Ground.guard }], guard := some (28, false) }) (v := undef) rfl (by kernel_rfl) (by kernel_rfl) (by kernel_rfl) (fun _ _ _ h => h) (Or.inr ⟨by rfl, rfl⟩) hHeld ?_
      (try simp only [Act.put, List.setIfInBounds_toArray, List.set_cons_zero, List.set_cons_succ])
      refine wpAnyH_take (i := 34) (oi := { dst := some 59, op := Go.Op.pick (Go.Operand.tmp 53) (Go.Operand.const (Go.Value.bool true)) (Go.Operand.tmp 58), type := 4, pos := "laws.go:199", after := #[{ on := 28, ground := Go.Ground.data }, { on := 33, ground := Go.Ground.data }, { on := 25, ground := Go.Ground.guard }], guard := some (25, true) }) (v := ?_) rfl (by kernel_rfl) (by kernel_rfl) (by kernel_rfl) (fun _ _ _ h => h) (Or.inl ⟨by rfl, ?yld400⟩) hHeld ?nxt400
      case yld400 => (intro w hSw; (try dsimp only at hSw); go_simp) <;> with_reducible rfl
      (try simp only [Act.put, List.setIfInBounds_toArray, List.set_cons_zero, List.set_cons_succ])
      refine wpAnyH_take (i := 35) (oi := { dst := some 60, op := Go.Op.pick (Go.Operand.tmp 50) (Go.Operand.tmp 59) (Go.Operand.const (Go.Value.bool false)), type := 4, pos := "laws.go:199", after := #[{ on := 25, ground := Go.Ground.data }, { on := 34, ground := Go.Ground.data }], guard := none }) (v := ?_) rfl (by kernel_rfl) (by kernel_rfl) (by kernel_rfl) (fun _ _ _ h => h) (Or.inl ⟨by rfl, ?yld401⟩) hHeld ?nxt401
      case yld401 => (intro w hSw; (try dsimp only at hSw); go_simp) <;> with_reducible rfl
      (try simp only [Act.put, List.setIfInBounds_toArray, List.set_cons_zero, List.set_cons_succ])
      refine wpAnyH_take (i := 36) (oi := { dst := some 61, op := Go.Op.move (Go.Operand.tmp 60), type := 4, pos := "laws.go:199", after := #[{ on := 35, ground := Go.Ground.data }, { on := 33, ground := Go.Ground.chain }], guard := none }) (v := ?_) rfl (by kernel_rfl) (by kernel_rfl) (by kernel_rfl) (fun _ _ _ h => h) (Or.inl ⟨by rfl, ?yld402⟩) hHeld ?nxt402
      case yld402 => (intro w hSw; (try dsimp only at hSw); go_simp) <;> with_reducible rfl
      (try simp only [Act.put, List.setIfInBounds_toArray, List.set_cons_zero, List.set_cons_succ])
      refine wpAnyH_take (i := 37) (oi := { dst := some 62, op := Go.Op.fieldAddr 44 (Go.Operand.tmp 8) 1, type := 0, pos := "laws.go:199", after := #[{ on := 36, ground := Go.Ground.guard }], guard := some (36, true) }) (v := ?_) rfl (by kernel_rfl) (by kernel_rfl) (by kernel_rfl) (fun _ _ _ h => h) (Or.inl ⟨by rfl, ?yld403⟩) hHeld ?nxt403
      case yld403 => (intro w hSw; (try dsimp only at hSw); go_simp) <;> with_reducible rfl
      (try simp only [Act.put, List.setIfInBounds_toArray, List.set_cons_zero, List.set_cons_succ])
      refine wpAnyH_take (i := 38) (oi := { dst := some 63, op := Go.Op.load 2 (Go.Operand.tmp 62), type := 2, pos := "laws.go:199", after := #[{ on := 37, ground := Go.Ground.data }, { on := 36, ground := Go.Ground.guard }], guard := some (36, true) }) (v := ?_) rfl (by kernel_rfl) (by kernel_rfl) (by kernel_rfl) (fun _ _ _ h => h) (Or.inl ⟨by rfl, ?yld404⟩) hHeld ?nxt404
      case yld404 => (intro w hSw; (try dsimp only at hSw); go_simp) <;> with_reducible rfl
      (try simp only [Act.put, List.setIfInBounds_toArray, List.set_cons_zero, List.set_cons_succ])
      refine wpAnyH_take (i := 39) (oi := { dst := some 64, op := Go.Op.move (Go.Operand.tmp 7), type := 9, pos := "laws.go:199", after := #[{ on := 36, ground := Go.Ground.guard }], guard := some (36, true) }) (v := ?_) rfl (by kernel_rfl) (by kernel_rfl) (by kernel_rfl) (fun _ _ _ h => h) (Or.inl ⟨by rfl, ?yld405⟩) hHeld ?nxt405
      case yld405 => (intro w hSw; (try dsimp only at hSw); go_simp) <;> with_reducible rfl
      (try simp only [Act.put, List.setIfInBounds_toArray, List.set_cons_zero, List.set_cons_succ])
      refine wpAnyH_ready (rs := [40]) (by kernel_rfl) (by simp) ?_
      refine AllReadyH.cons (o := { dst := some 65, op := Go.Op.call { callee := Go.Callee.value (Go.Operand.func 39), args := #[Go.Operand.tmp 64], argTypes := #[9] }, type := 44, pos := "laws.go:199", after := #[{ on := 39, ground := Go.Ground.data }, { on := 36, ground := Go.Ground.chain }, { on := 36, ground := Go.Ground.guard }], guard := some (36, true) }) rfl (fun K hK => ?_) AllReadyH.nil
      go_simp
      go_at_call 39
      have hp := hHeld.1
      refine (ErdS.spec_read u _ (by unfold maxLen; omega)).mono ?_
      rintro e w' ⟨q5, a5, c5, cc5, rfl, hB, hP5, hR5⟩
      obtain ⟨rfl, rfl⟩ := ErdS.reads_same HR.out hR5
      unfold ErdS.oe
      have hBn := hp.trans (hB.mono hp.size)
      clear hp hB hP5 hR5
      (try go_wp2_with fail)
      refine hK.out _ _ ?_ (fun hHeld2 => ?_)
      · (try dsimp only) <;> (first | exact ⟨hBn, (hBn.cell (p := ⟨Y, 0, none⟩) hYl).trans k0, (hBn.cell (p := ⟨Y, 1, none⟩) hYl).trans k1⟩ | exact ⟨hB0, k0, k1⟩)
      clear hK K hHeld
      have hHeld := hHeld2
      clear hHeld2
      (try simp only [Act.put, List.setIfInBounds_toArray, List.set_cons_zero, List.set_cons_succ])
      refine wpAnyH_take (i := 41) (oi := { dst := some 66, op := Go.Op.field 44 (Go.Operand.tmp 65) 1, type := 2, pos := "laws.go:199", after := #[{ on := 40, ground := Go.Ground.data }, { on := 36, ground := Go.Ground.guard }], guard := some (36, true) }) (v := ?_) rfl (by kernel_rfl) (by kernel_rfl) (by kernel_rfl) (fun _ _ _ h => h) (Or.inl ⟨by rfl, ?yld406⟩) hHeld ?nxt406
      case yld406 => (intro w hSw; (try dsimp only at hSw); go_simp) <;> with_reducible rfl
      (try simp only [Act.put, List.setIfInBounds_toArray, List.set_cons_zero, List.set_cons_succ])
      refine wpAnyH_take (i := 42) (oi := { dst := some 67, op := Go.Op.binOp Go.BinOp.eql 2 (Go.Operand.tmp 63) (Go.Operand.tmp 66) 2, type := 4, pos := "laws.go:199", after := #[{ on := 38, ground := Go.Ground.data }, { on := 41, ground := Go.Ground.data }, { on := 36, ground := Go.Ground.guard }], guard := some (36, true) }) (v := ?_) rfl (by kernel_rfl) (by kernel_rfl) (by kernel_rfl) (fun _ _ _ h => h) (Or.inl ⟨by rfl, ?yld407⟩) hHeld ?nxt407
      case yld407 => (intro w hSw; (try dsimp only at hSw); go_simp) <;> with_reducible rfl
      (try simp only [Act.put, List.setIfInBounds_toArray, List.set_cons_zero, List.set_cons_succ])
      refine wpAnyH_take (i := 43) (oi := { dst := some 68, op := Go.Op.pick (Go.Operand.tmp 61) (Go.Operand.tmp 67) (Go.Operand.const (Go.Value.bool false)), type := 4, pos := "laws.go:199", after := #[{ on := 36, ground := Go.Ground.data }, { on := 42, ground := Go.Ground.data }], guard := none }) (v := ?_) rfl (by kernel_rfl) (by kernel_rfl) (by kernel_rfl) (fun _ _ _ h => h) (Or.inl ⟨by rfl, ?yld408⟩) hHeld ?nxt408
      case yld408 => (intro w hSw; (try dsimp only at hSw); go_simp) <;> with_reducible rfl
      (try simp only [Act.put, List.setIfInBounds_toArray, List.set_cons_zero, List.set_cons_succ])
      refine wpAnyH_take (i := 44) (oi := { dst := some 69, op := Go.Op.move (Go.Operand.tmp 68), type := 4, pos := "laws.go:199", after := #[{ on := 43, ground := Go.Ground.data }, { on := 40, ground := Go.Ground.chain }], guard := none }) (v := ?_) rfl (by kernel_rfl) (by kernel_rfl) (by kernel_rfl) (fun _ _ _ h => h) (Or.inl ⟨by rfl, ?yld409⟩) hHeld ?nxt409
      case yld409 => (intro w hSw; (try dsimp only at hSw); go_simp) <;> with_reducible rfl
      (try simp only [Act.put, List.setIfInBounds_toArray, List.set_cons_zero, List.set_cons_succ])
      refine wpAnyH_take (i := 45) (oi := { dst := some 70, op := Go.Op.fieldAddr 44 (Go.Operand.tmp 8) 0, type := 0, pos := "laws.go:199", after := #[{ on := 44, ground := Go.Ground.guard }], guard := some (44, true) }) (v := ?_) rfl (by kernel_rfl) (by kernel_rfl) (by kernel_rfl) (fun _ _ _ h => h) (Or.inl ⟨by rfl, ?yld410⟩) hHeld ?nxt410
      case yld410 => (intro w hSw; (try dsimp only at hSw); go_simp) <;> with_reducible rfl
      (try simp only [Act.put, List.setIfInBounds_toArray, List.set_cons_zero, List.set_cons_succ])
      refine wpAnyH_take (i := 46) (oi := { dst := some 71, op := Go.Op.load 40 (Go.Operand.tmp 70), type := 40, pos := "laws.go:199", after := #[{ on := 45, ground := Go.Ground.data }, { on := 44, ground := Go.Ground.guard }], guard := some (44, true) }) (v := ?_) rfl (by kernel_rfl) (by kernel_rfl) (by kernel_rfl) (fun _ _ _ h => h) (Or.inl ⟨by rfl, ?yld411⟩) hHeld ?nxt411
      case yld411 => (intro w hSw; (try dsimp only at hSw); go_simp) <;> with_reducible rfl
      (try simp only [Act.put, List.setIfInBounds_toArray, List.set_cons_zero, List.set_cons_succ])
      refine wpAnyH_take (i := 47) (oi := { dst := some 72, op := Go.Op.move (Go.Operand.tmp 7), type := 9, pos := "laws.go:199", after := #[{ on := 44, ground := Go.Ground.guard }], guard := some (44, true) }) (v := ?_) rfl (by kernel_rfl) (by kernel_rfl) (by kernel_rfl) (fun _ _ _ h => h) (Or.inl ⟨by rfl, ?yld412⟩) hHeld ?nxt412
      case yld412 => (intro w hSw; (try dsimp only at hSw); go_simp) <;> with_reducible rfl
      (try simp only [Act.put, List.setIfInBounds_toArray, List.set_cons_zero, List.set_cons_succ])
      refine wpAnyH_ready (rs := [48]) (by kernel_rfl) (by simp) ?_
      refine AllReadyH.cons (o := { dst := some 73, op := Go.Op.call { callee := Go.Callee.value (Go.Operand.func 39), args := #[Go.Operand.tmp 72], argTypes := #[9] }, type := 44, pos := "laws.go:199", after := #[{ on := 47, ground := Go.Ground.data }, { on := 44, ground := Go.Ground.chain }, { on := 44, ground := Go.Ground.guard }], guard := some (44, true) }) rfl (fun K hK => ?_) AllReadyH.nil
      go_simp
      go_at_call 39
      have hp := hHeld.1
      refine (ErdS.spec_read u _ (by unfold maxLen; omega)).mono ?_
      rintro e w' ⟨q6, a6, c6, cc6, rfl, hB, hP6, hR6⟩
      obtain ⟨rfl, rfl⟩ := ErdS.reads_same HR.out hR6
      unfold ErdS.oe
      have hBn := hp.trans (hB.mono hp.size)
      have HP6 := hid hP6
      clear hp hB hP6 hR6
      (try go_wp2_with fail)
      refine hK.out _ _ ?_ (fun hHeld2 => ?_)
      · (try dsimp only) <;> (first | exact ⟨hBn, (hBn.cell (p := ⟨Y, 0, none⟩) hYl).trans k0, (hBn.cell (p := ⟨Y, 1, none⟩) hYl).trans k1⟩ | exact ⟨hB0, k0, k1⟩)
      clear hK K hHeld
      have hHeld := hHeld2
      clear hHeld2
      (try simp only [Act.put, List.setIfInBounds_toArray, List.set_cons_zero, List.set_cons_succ])
      refine wpAnyH_take (i := 49) (oi := { dst := some 74, op := Go.Op.field 44 (Go.Operand.tmp 73) 0, type := 40, pos := "laws.go:199", after := #[{ on := 48, ground := Go.Ground.data }, { on := 44, ground := Go.Ground.guard }], guard := some (44, true) }) (v := ?_) rfl (by kernel_rfl) (by kernel_rfl) (by kernel_rfl) (fun _ _ _ h => h) (Or.inl ⟨by rfl, ?yld413⟩) hHeld ?nxt413
      case yld413 => (intro w hSw; (try dsimp only at hSw); go_simp) <;> with_reducible rfl
      (try simp only [Act.put, List.setIfInBounds_toArray, List.set_cons_zero, List.set_cons_succ])
      refine wpAnyH_ready (rs := [50]) (by kernel_rfl) (by simp) ?_
      refine AllReadyH.cons (o := { dst := some 75, op := Go.Op.call { callee := Go.Callee.value (Go.Operand.func 38), args := #[Go.Operand.tmp 71, Go.Operand.tmp 74], argTypes := #[40, 40] }, type := 4, pos := "laws.go:199", after := #[{ on := 46, ground := Go.Ground.data }, { on := 49, ground := Go.Ground.data }, { on := 48, ground := Go.Ground.chain }, { on := 44, ground := Go.Ground.guard }], guard := some (44, true) }) rfl (fun K hK => ?_) AllReadyH.nil
      go_simp
      go_at_call 38
      have hp := hHeld.1
      refine (LwX.lwParts ya a6 yc c6 ys _ (HQ.out.on hp) HP6.out).mono ?_
      rintro e w' ⟨rfl, hB⟩
      have hBn := hp.trans (hB.mono hp.size)
      clear hp hB
      (try go_wp2_with fail)
      refine hK.out _ _ ?_ (fun hHeld2 => ?_)
      · (try dsimp only) <;> (first | exact ⟨hBn, (hBn.cell (p := ⟨Y, 0, none⟩) hYl).trans k0, (hBn.cell (p := ⟨Y, 1, none⟩) hYl).trans k1⟩ | exact ⟨hB0, k0, k1⟩)
      clear hK K hHeld
      have hHeld := hHeld2
      clear hHeld2
      (try simp only [Act.put, List.setIfInBounds_toArray, List.set_cons_zero, List.set_cons_succ])
      refine wpAnyH_take (i := 51) (oi := { dst := some 76, op := Go.Op.pick (Go.Operand.tmp 69) (Go.Operand.tmp 75) (Go.Operand.const (Go.Value.bool false)), type := 4, pos := "laws.go:199", after := #[{ on := 44, ground := Go.Ground.data }, { on := 50, ground := Go.Ground.data }], guard := none }) (v := ?_) rfl (by kernel_rfl) (by kernel_rfl) (by kernel_rfl) (fun _ _ _ h => h) (Or.inl ⟨by rfl, ?yld414⟩) hHeld ?nxt414
      case yld414 => (intro w hSw; (try dsimp only at hSw); go_simp) <;> with_reducible rfl
      (try simp only [Act.put, List.setIfInBounds_toArray, List.set_cons_zero, List.set_cons_succ])
      refine wpAnyH_take (i := 52) (oi := { dst := some 77, op := Go.Op.move (Go.Operand.tmp 76), type := 4, pos := "laws.go:199", after := #[{ on := 51, ground := Go.Ground.data }, { on := 50, ground := Go.Ground.chain }], guard := none }) (v := ?_) rfl (by kernel_rfl) (by kernel_rfl) (by kernel_rfl) (fun _ _ _ h => h) (Or.inl ⟨by rfl, ?yld415⟩) hHeld ?nxt415
      case yld415 => (intro w hSw; (try dsimp only at hSw); go_simp) <;> with_reducible rfl
      (try simp only [Act.put, List.setIfInBounds_toArray, List.set_cons_zero, List.set_cons_succ])
      refine wpAnyH_take (i := 53) (oi := { dst := some 78, op := Go.Op.fieldAddr 44 (Go.Operand.tmp 8) 1, type := 0, pos := "laws.go:199", after := #[{ on := 52, ground := Go.Ground.guard }], guard := some (52, true) }) (v := ?_) rfl (by kernel_rfl) (by kernel_rfl) (by kernel_rfl) (fun _ _ _ h => h) (Or.inl ⟨by rfl, ?yld416⟩) hHeld ?nxt416
      case yld416 => (intro w hSw; (try dsimp only at hSw); go_simp) <;> with_reducible rfl
      (try simp only [Act.put, List.setIfInBounds_toArray, List.set_cons_zero, List.set_cons_succ])
      refine wpAnyH_take (i := 54) (oi := { dst := some 79, op := Go.Op.load 2 (Go.Operand.tmp 78), type := 2, pos := "laws.go:199", after := #[{ on := 53, ground := Go.Ground.data }, { on := 52, ground := Go.Ground.guard }], guard := some (52, true) }) (v := ?_) rfl (by kernel_rfl) (by kernel_rfl) (by kernel_rfl) (fun _ _ _ h => h) (Or.inl ⟨by rfl, ?yld417⟩) hHeld ?nxt417
      case yld417 => (intro w hSw; (try dsimp only at hSw); go_simp) <;> with_reducible rfl
      (try simp only [Act.put, List.setIfInBounds_toArray, List.set_cons_zero, List.set_cons_succ])
      refine wpAnyH_take (i := 55) (oi := { dst := some 80, op := Go.Op.binOp Go.BinOp.neq 2 (Go.Operand.tmp 79) (Go.Operand.const (Go.Value.int Go.IntKind.i64 0)) 2, type := 4, pos := "laws.go:199", after := #[{ on := 54, ground := Go.Ground.data }, { on := 52, ground := Go.Ground.guard }], guard := some (52, true) }) (v := ?_) rfl (by kernel_rfl) (by kernel_rfl) (by kernel_rfl) (fun _ _ _ h => h) (Or.inl ⟨by rfl, ?yld418⟩) hHeld ?nxt418
      case yld418 => (intro w hSw; (try dsimp only at hSw); go_simp) <;> with_reducible rfl
      (try simp only [Act.put, List.setIfInBounds_toArray, List.set_cons_zero, List.set_cons_succ])
      refine wpAnyH_take (i := 56) (oi := { dst := some 81, op := Go.Op.move (Go.Operand.tmp 80), type := 4, pos := "laws.go:199", after := #[{ on := 55, ground := Go.Ground.data }, { on := 52, ground := Go.Ground.chain }, { on := 52, ground := Go.Ground.guard }], guard := some (52, true) }) (v := ?_) rfl (by kernel_rfl) (by kernel_rfl) (by kernel_rfl) (fun _ _ _ h => h) (Or.inl ⟨by rfl, ?yld419⟩) hHeld ?nxt419
      case yld419 => (intro w hSw; (try dsimp only at hSw); go_simp) <;> with_reducible rfl
      (try simp only [Act.put, List.setIfInBounds_toArray, List.set_cons_zero, List.set_cons_succ])
      refine wpAnyH_take (i := 57) (oi := { dst := some 82, op := Go.Op.fieldAddr 44 (Go.Operand.tmp 8) 0, type := 0, pos := "laws.go:199", after := #[{ on := 56, ground := Go.Ground.guard }], guard := some (56, false) }) (v := undef) rfl (by kernel_rfl) (by kernel_rfl) (by kernel_rfl) (fun _ _ _ h => h) (Or.inr ⟨by rfl, rfl⟩) hHeld ?_
      (try simp only [Act.put, List.setIfInBounds_toArray, List.set_cons_zero, List.set_cons_succ])
      refine wpAnyH_take (i := 58) (oi := { dst := some 83, op := Go.Op.load 40 (Go.Operand.tmp 82), type := 40, pos := "laws.go:199", after := #[{ on := 57, ground := Go.Ground.data }, { on := 56, ground := Go.Ground.guard }], guard := some (56, false) }) (v := undef) rfl (by kernel_rfl) (by kernel_rfl) (by kernel_rfl) (fun _ _ _ h => h) (Or.inr ⟨by rfl, rfl⟩) hHeld ?_
      (try simp only [Act.put, List.setIfInBounds_toArray, List.set_cons_zero, List.set_cons_succ])
      refine wpAnyH_take (i := 59) (oi := { dst := some 84, op := Go.Op.call { callee := Go.Callee.value (Go.Operand.func 27), args := #[Go.Operand.tmp 83], argTypes := #[40] }, type := 9, pos := "laws.go:199", after := #[{ on := 58, ground := Go.Ground.data }, { on := 56, ground := Go.Ground.chain }, { on := 56, ground := Go.Ground.guard }], guard := some (56, false) }) (v := undef) rfl (by kernel_rfl) (by kernel_rfl) (by kernel_rfl) (fun _ _ _ h => h) (Or.inr ⟨by rfl, rfl⟩) hHeld ?_
      (try simp only [Act.put, List.setIfInBounds_toArray, List.set_cons_zero, List.set_cons_succ])
      refine wpAnyH_take (i := 60) (oi := { dst := some 85, op := Go.Op.move (Go.Operand.tmp 7), type := 9, pos := "laws.go:199", after := #[{ on := 56, ground := Go.Ground.guard }], guard := some (56, false) }) (v := undef) rfl (by kernel_rfl) (by kernel_rfl) (by kernel_rfl) (fun _ _ _ h => h) (Or.inr ⟨by rfl, rfl⟩) hHeld ?_
      (try simp only [Act.put, List.setIfInBounds_toArray, List.set_cons_zero, List.set_cons_succ])
      refine wpAnyH_take (i := 61) (oi := { dst := some 86, op := Go.Op.binOp Go.BinOp.eql 9 (Go.Operand.tmp 84) (Go.Operand.tmp 85) 9, type := 4, pos := "laws.go:199", after := #[{ on := 59, ground := Go.Ground.data }, { on := 60, ground := Go.Ground.data }, { on := 56, ground := Go.Ground.guard }], guard := some (56, false) }) (v := undef) rfl (by kernel_rfl) (by kernel_rfl) (by kernel_rfl) (fun _ _ _ h => h) (Or.inr ⟨by rfl, rfl⟩) hHeld ?_
      (try simp only [Act.put, List.setIfInBounds_toArray, List.set_cons_zero, List.set_cons_succ])
      refine wpAnyH_take (i := 62) (oi := { dst := some 87, op := Go.Op.pick (Go.Operand.tmp 81) (Go.Operand.const (Go.Value.bool true)) (Go.Operand.tmp 86), type := 4, pos := "laws.go:199", after := #[{ on := 56, ground := Go.Ground.data }, { on := 61, ground := Go.Ground.data }, { on := 52, ground := Go.Ground.guard }], guard := some (52, true) }) (v := ?_) rfl (by kernel_rfl) (by kernel_rfl) (by kernel_rfl) (fun _ _ _ h => h) (Or.inl ⟨by rfl, ?yld420⟩) hHeld ?nxt420
      case yld420 => (intro w hSw; (try dsimp only at hSw); go_simp) <;> with_reducible rfl
      (try simp only [Act.put, List.setIfInBounds_toArray, List.set_cons_zero, List.set_cons_succ])
      refine wpAnyH_take (i := 63) (oi := { dst := some 88, op := Go.Op.pick (Go.Operand.tmp 77) (Go.Operand.tmp 87) (Go.Operand.const (Go.Value.bool false)), type := 4, pos := "laws.go:199", after := #[{ on := 52, ground := Go.Ground.data }, { on := 62, ground := Go.Ground.data }], guard := none }) (v := ?_) rfl (by kernel_rfl) (by kernel_rfl) (by kernel_rfl) (fun _ _ _ h => h) (Or.inl ⟨by rfl, ?yld421⟩) hHeld ?nxt421
      case yld421 => (intro w hSw; (try dsimp only at hSw); go_simp) <;> with_reducible rfl
      (try simp only [Act.put, List.setIfInBounds_toArray, List.set_cons_zero, List.set_cons_succ])
      refine wpAnyH_take (i := 64) (oi := { dst := some 4, op := Go.Op.assign (Go.Operand.tmp 88), type := 4, pos := "laws.go:199", after := ([{ on := 63, ground := Go.Ground.data }, { on := 59, ground := Go.Ground.chain }, { on := 0, ground := Go.Ground.phase }, { on := 1, ground := Go.Ground.phase }, { on := 2, ground := Go.Ground.phase }, { on := 3, ground := Go.Ground.phase }, { on := 4, ground := Go.Ground.phase }, { on := 5, ground := Go.Ground.phase }, { on := 6, ground := Go.Ground.phase }, { on := 7, ground := Go.Ground.phase }, { on := 8, ground := Go.Ground.phase }, { on := 9, ground := Go.Ground.phase }, { on := 10, ground := Go.Ground.phase }, { on := 11, ground := Go.Ground.phase }, { on := 12, ground := Go.Ground.phase }, { on := 13, ground := Go.Ground.phase }, { on := 14, ground := Go.Ground.phase }, { on := 15, ground := Go.Ground.phase }, { on := 16, ground := Go.Ground.phase }, { on := 17, ground := Go.Ground.phase }, { on := 18, ground := Go.Ground.phase }, { on := 19, ground := Go.Ground.phase }, { on := 20, ground := Go.Ground.phase }, { on := 21, ground := Go.Ground.phase }, { on := 22, ground := Go.Ground.phase }, { on := 23, ground := Go.Ground.phase }, { on := 24, ground := Go.Ground.phase }, { on := 25, ground := Go.Ground.phase }, { on := 26, ground := Go.Ground.phase }, { on := 27, ground := Go.Ground.phase }, { on := 28, ground := Go.Ground.phase }, { on := 29, ground := Go.Ground.phase }, { on := 30, ground := Go.Ground.phase }].append [{ on := 31, ground := Go.Ground.phase }, { on := 32, ground := Go.Ground.phase }, { on := 33, ground := Go.Ground.phase }, { on := 34, ground := Go.Ground.phase }, { on := 35, ground := Go.Ground.phase }, { on := 36, ground := Go.Ground.phase }, { on := 37, ground := Go.Ground.phase }, { on := 38, ground := Go.Ground.phase }, { on := 39, ground := Go.Ground.phase }, { on := 40, ground := Go.Ground.phase }, { on := 41, ground := Go.Ground.phase }, { on := 42, ground := Go.Ground.phase }, { on := 43, ground := Go.Ground.phase }, { on := 44, ground := Go.Ground.phase }, { on := 45, ground := Go.Ground.phase }, { on := 46, ground := Go.Ground.phase }, { on := 47, ground := Go.Ground.phase }, { on := 48, ground := Go.Ground.phase }, { on := 49, ground := Go.Ground.phase }, { on := 50, ground := Go.Ground.phase }, { on := 51, ground := Go.Ground.phase }, { on := 52, ground := Go.Ground.phase }, { on := 53, ground := Go.Ground.phase }, { on := 54, ground := Go.Ground.phase }, { on := 55, ground := Go.Ground.phase }, { on := 56, ground := Go.Ground.phase }, { on := 57, ground := Go.Ground.phase }, { on := 58, ground := Go.Ground.phase }, { on := 59, ground := Go.Ground.phase }, { on := 60, ground := Go.Ground.phase }, { on := 61, ground := Go.Ground.phase }, { on := 62, ground := Go.Ground.phase }, { on := 63, ground := Go.Ground.phase }]).toArray, guard := none }) (v := ?_) rfl (by kernel_rfl) (by kernel_rfl) (by kernel_rfl) (fun _ _ _ h => h) (Or.inl ⟨by rfl, ?yld422⟩) hHeld ?nxt422
      case yld422 => (intro w hSw; (try dsimp only at hSw); go_simp) <;> with_reducible rfl
      (try simp only [Act.put, List.setIfInBounds_toArray, List.set_cons_zero, List.set_cons_succ])
      refine wpAnyH_done (by kernel_rfl) ?_ _
      have HBL := hid hHeld.1
      clear hHeld hB0
      go_wp2_with fail
      go_ret
      exact ⟨rfl, HBW.out.trans (HBL.out.mono HBW.out.size)⟩
end Go.Proofs.YtecopedjjfimoaaGreatDoor.DrawX
