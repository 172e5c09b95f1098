/- Texts of ours, laid together: FldImpl. -/
import Derived.Test.YtecopedjjfimoaaGreatDoorBd51
import Derived.Test.YtecopedjjfimoaaGreatDoorBd33
import Derived.Test.YtecopedjjfimoaaGreatDoorShelf
import Derived.Sort.OwnSorted
import Derived.Lib.OwnBridge
/- ExprFields of the program. -/
namespace Go.Proofs.YtecopedjjfimoaaGreatDoor.FldI
open Go.RowKit Go.Sort
open StrW FldM FldS
open PrtW (Parts Pt pt0)
open PrtM (rightB)
open PrtI (EnvS)

/-- each part of a right expression is right -/
theorem all_parts : ∀ d (l r : List Pt), PrtM.behind d l = some r → ∃ q, l = q ++ r ∧ ∀ p ∈ q, PrtM.partB p = true := by
  intro d
  induction d with
  | zero => intro l r h; cases h
  | succ d ih =>
    intro l r h
    cases l with
    | nil => cases h
    | cons p q =>
      obtain ⟨hp, hc⟩ := TexM.behind_cases h
      rcases hc with ⟨h0, rfl⟩ | ⟨h0, hb⟩ | ⟨h0, r1, hb1, hb2⟩
      · exact ⟨[p], rfl, fun x hx => by simp at hx; subst hx; exact hp⟩
      · obtain ⟨q1, rfl, h1⟩ := ih _ _ hb
        exact ⟨p :: q1, rfl, fun x hx => by
          rcases List.mem_cons.1 hx with rfl | h
          · exact hp
          · exact h1 x h⟩
      · obtain ⟨q1, rfl, h1⟩ := ih _ _ hb1
        obtain ⟨q2, rfl, h2⟩ := ih _ _ hb2
        refine ⟨p :: (q1 ++ q2), by simp, fun x hx => ?_⟩
        rcases List.mem_cons.1 hx with rfl | h
        · exact hp
        · rcases List.mem_append.1 h with h | h
          · exact h1 x h
          · exact h2 x h
theorem right_all {ps : List Pt} (h : rightB ps = true) : ∀ k, k < ps.length → PrtM.partB (ps.getD k pt0) = true := by
  intro k hk
  obtain ⟨q, e, hq⟩ := all_parts _ _ _ (TexM.right_behind h).2
  rw [List.append_nil] at e
  subst e
  apply hq
  rw [List.getD_eq_getElem?_getD, List.getElem?_eq_getElem hk]
  exact List.getElem_mem hk
/-- what has a name is what the table says -/
theorem named_iff (k : Nat) (n : Int) (t : ByteArray) (h1 : 1 ≤ k) (h2 : k ≤ 13) (h : PrtM.partB ((k : Int), n, t) = true) : PrtI.namedF k = !(nameL ((k : Int), n, t)).isEmpty := by
  rw [PrtI.tab_part k n t h1 h2] at h
  unfold PrtI.tabB at h
  have h3 := (Bool.and_eq_true_iff.1 h).1
  cases hk : PrtI.namedF k
  · rw [hk, if_neg (by decide)] at h3
    unfold PrtM.emptyB at h3
    rw [BytM.toList_eq] at h3
    show false = !t.data.toList.isEmpty
    rw [h3]; rfl
  · rw [hk, if_pos rfl] at h3
    unfold NameW.nameB at h3
    rw [decide_eq_true_iff] at h3
    show true = !t.data.toList.isEmpty
    have : t.data.toList ≠ [] := fun e => by
      have hs : t.size = t.data.toList.length := (Array.length_toList).symm
      have hz : t.size = 0 := by rw [hs, e]; rfl
      omega
    cases he : t.data.toList with
    | nil => exact absurd he this
    | cons => rfl
theorem own_below {w w' : World} {base : Nat} {v : Value} {n : Nat} {xs : List Value} (h : w.ownsRow base 9 1 v n xs) (hB : Below w.heap.size w w') : w'.ownsRow base 9 1 v n xs := by
  obtain ⟨h1, h2⟩ := h
  refine ⟨h1, ?_⟩
  rcases h2 with h2 | ⟨g, cap, cur, hv, hb, hg, r⟩
  · exact .inl h2
  · exact .inr ⟨g, cap, cur, hv, hb, by rw [hB.block g (Array.getElem?_eq_some_iff.1 hg).1]; exact hg, r⟩
theorem names_snoc (l : List Pt) (p : Pt) : namesL (l ++ [p]) = if (nameL p).isEmpty = true then namesL l else namesL l ++ [nameL p] := by
  unfold namesL
  rw [List.map_append, List.filter_append]
  cases h : (nameL p).isEmpty <;> simp [h]
theorem names_len (l : List Pt) : (namesL l).length ≤ l.length := by
  unfold namesL
  exact Nat.le_trans (List.length_filter_le _ _) (by simp)

set_option maxRecDepth 10000 in
set_option maxHeartbeats 1600000 in
theorem impl_fields (a : Option Addr) (cap : Nat) (ps : List Pt) (w : World) (hP : Parts w a ps) (hcap : ps.length ≤ cap) (hE : EnvS w) :
    Calls Tryz.prog 36 #[.slice a ps.length cap] w fun e w' => (∃ v, e = .returned v ∧ w'.ownsRow w.heap.size 9 1 v (fieldsL ps).length (strs (fieldsL ps))) ∧ Below w.heap.size w w' := by
  have HP := hid hP
  have HE := hid hE
  have hl := hP.1
  clear hP hE
  obtain ⟨i0, hi0, hz0, hz1, hz2⟩ := info_parts Tryz.infoS
  unfold fieldsL
  obtain ⟨r, hr⟩ : ∃ r, Hid (rightB ps = r) := ⟨_, rfl⟩
  rw [hr.out]
  cases r
  · rw [if_neg (by decide)]
    go_enter Tryz.func36, Tryz.ntmps36
    go_wp2_with fail
    refine (PrtI.impl_right a cap ps w HP.out hcap HE.out).mono ?_
    rintro e w1 ⟨rfl, hB⟩
    rw [hr.out]
    have HB := hid hB
    clear hB
    go_wp2_with fail
    go_ret
    exact ⟨⟨_, rfl, ⟨rfl, .inl ⟨rfl, rfl⟩⟩⟩, HB.out⟩
  · rw [if_pos rfl]
    have h20 := (TexM.right_behind hr.out).1
    have HALL := hid (right_all hr.out)
    obtain ⟨F, hF⟩ : ∃ F, Hid (fold ps = F) := ⟨_, rfl⟩
    rw [hF.out]
    go_enter Tryz.func36, Tryz.ntmps36
    go_wp2_with fail
    refine (PrtI.impl_right a cap ps w HP.out hcap HE.out).mono ?_
    rintro e w1 ⟨rfl, hB⟩
    rw [hr.out]
    have HB := hid hB
    have HP1 := hid (HP.out.on hB)
    have HE1 := hid (HE.out.on hB)
    clear hB
    go_wp2_with fail
    go_loopw [3, 11] (fun u i wr => ∃ k : Nat, k ≤ ps.length ∧ i = .int .i64 k ∧ wr.ownsRow w.heap.size 9 1 u (namesL (ps.take k)).length (strs (namesL (ps.take k))) ∧ Below w.heap.size w wr) (fun _ i _ => ps.length - (intOf i).toNat)
    case atStart => exact ⟨0, Nat.zero_le _, rfl, ⟨rfl, .inl ⟨rfl, rfl⟩⟩, HB.out⟩
    case round =>
      obtain ⟨k, hk, rfl, hown, hbel⟩ := hrel
      by_cases hlt : k < ps.length
      · obtain ⟨b, o, x, n, t, rfl, hb, hg, hf, c0, c1, c2⟩ := PrtS.parts_at HP.out hlt
        have hpb := HALL.out k hlt
        rw [hg] at hpb
        have hsz := TexM.part_size hpb
        have hin := PrtI.part_in hpb
        obtain ⟨j, rfl⟩ : ∃ j : Nat, x = j := ⟨x.toNat, by omega⟩
        have hj14 : j < 14 := by omega
        have hj14' : (j : Int) < 14 := by omega
        have hnm := named_iff j n t (by omega) (by omega) hpb
        have hsn := take_snoc ps k hlt
        rw [hg] at hsn
        have hfo := names_snoc (ps.take k) ((j : Int), n, t)
        rw [← hsn] at hfo
        have hnl := names_len (ps.take k)
        have hnl2 : (namesL (ps.take k)).length ≤ 20 := by rw [List.length_take] at hnl; omega
        rw [← hbel.cell (p := ⟨b, _, none⟩) hb] at c0 c1 c2
        obtain ⟨-, -, -, e3, -⟩ := (HE.out.on hbel).2 j hj14
        have hg0 := (HE.out.on hbel).1
        obtain ⟨nm, hnm2⟩ : ∃ nm, PrtI.namedF j = nm := ⟨_, rfl⟩
        rw [hnm2] at e3 hnm
        have HNM := hid hnm
        have HFO := hid hfo
        clear hnm hnm2 hfo hsn hg hf hpb hnl
        generalize hN : namesL (List.take k ps) = N at *
        have HN := hid hN
        clear hN
        have hszw := hbel.size
        cases nm
        · have he : (nameL ((j : Int), n, t)).isEmpty = true := by have := HNM.out; cases h : (nameL ((j : Int), n, t)).isEmpty <;> rw [h] at this <;> first | rfl | cases this
          rw [he, if_pos rfl] at HFO
          clear he HNM
          go_wp2_with fail
          refine ⟨⟨k + 1, by omega, by go_num, ?_, hbel.alloc hbel.size _⟩, by simp [intOf]; omega⟩
          rw [HFO.out]
          exact hown.alloc _
        · have he : (nameL ((j : Int), n, t)).isEmpty = false := by have := HNM.out; cases h : (nameL ((j : Int), n, t)).isEmpty <;> rw [h] at this <;> first | rfl | cases this
          rw [he, if_neg (by decide)] at HFO
          clear he HNM
          go_wp2_with fail
          refine (TexI.laid_1 t (wr.alloc (.cells #[.int .i64 j, .int .i64 n, .string t] 99)) (wr.heap.size + 1) (by simp) (by omega)).mono ?_
          rintro e w2 ⟨rfl, hB2⟩
          rw [StrW.mk_data]
          have hB2' : Below wr.heap.size wr w2 := (below_one wr _).trans (hB2.mono (by simp))
          have hbel2 : Below w.heap.size w w2 := hbel.trans (hB2'.mono hbel.size)
          have hown2 : w2.ownsRow w.heap.size 9 1 _ N.length (strs N) := own_below hown hB2'
          clear hown hB2 hB2' c0 c1 c2 e3 hbel hg0 hszw
          have hszw := hbel2.size
          go_wp2_with (first | (at_builtin; refine wpList_append_own _ rfl _ _ 48 rfl w.heap.size 9 i0 (.string ByteArray.empty) 1 16 Tryz.underlying48 hi0 hz0 hz1 hz2 rfl (by decide) _ N.length (strs N) rfl (hown2.alloc _) ⟨w2.heap.size, 0, none⟩ 1 1 [.string t] rfl rfl ?y2 ?y3 ?y4 ?y5 ?y6 ?_))
          case y2 =>
            intro j u hj
            match j, hj with
            | 0, hj => simp at hj; subst hj; simp [Addr.add]
          case y3 => intro u hu; simp at hu; subst hu; rfl
          case y4 => unfold maxLen; omega
          case y5 => omega
          case y6 => simp; omega
          intro v3 w3 hown3 hgrow3 _
          have hbel3 : Below w.heap.size w w3 := (hbel2.alloc hbel2.size (Obj.cells #[Value.string t] 9)).grown hgrow3 (by simp; omega) (fun g hg => (hown2.lt g hg).1)
          have hown3' : w3.ownsRow w.heap.size 9 1 v3 (N ++ [nameL ((j : Int), n, t)]).length (strs (N ++ [nameL ((j : Int), n, t)])) := by
            rw [strs_append, show strs [nameL ((j : Int), n, t)] = [.string t] by unfold strs nameL; rw [List.map_singleton, enc_data]]
            simpa using hown3
          clear hown2 hown3 hgrow3 hbel2
          go_wp2_with fail
          refine ⟨⟨k + 1, by omega, by go_num, ?_, hbel3⟩, by simp [intOf]; omega⟩
          rw [HFO.out]
          exact hown3'
      · obtain rfl : k = ps.length := by omega
        rw [List.take_length] at hown
        have hFc : Hid (F = Lib.compact ((namesL ps).mergeSort fun x y => decide (x ≤ y))) := by
          show _ = _
          rw [← hF.out, ← fold_eq]; rfl
        have hnl := names_len ps
        generalize hN : namesL ps = N at *
        clear hN
        by_cases hn0 : N = []
        · subst hn0
          have hF0 : F = [] := by rw [hFc.out, List.mergeSort_nil]; rfl
          subst hF0
          obtain ⟨a3, c3, hv, _, _, _⟩ := strs_own hown (by simp)
          obtain rfl := hv
          go_wp2_with fail
          refine (Tryz.slices_Sort_string_none a3 c3 wr).mono ?_
          rintro e w4 ⟨rfl, rfl⟩
          go_wp2_with fail
          refine (Tryz.slices_Compact_string_empty a3 c3 w4).mono ?_
          rintro e w5 ⟨rfl, rfl⟩
          go_wp2_with fail
          go_ret
          exact ⟨⟨_, rfl, hown⟩, hbel⟩
        · have hpos : 0 < N.length := List.length_pos_iff.2 hn0
          have hown' : wr.ownsRow w.heap.size 9 1 u3 N.length (N.map encStr) := hown
          obtain ⟨g, cap3, rfl, hbg, hgl, hnc, hcm, -, hH⟩ := Lib.holds_of_ownsRow hown' (fun h => by
            rcases hown.2 with ⟨_, h0⟩ | ⟨g, c, cu, h0, _⟩
            · omega
            · rw [h] at h0; cases h0)
          have HOWN := hid hown'
          have HH := hid hH
          have HBL := hid hbel
          clear hown hown' hH hbel hn0
          go_wp2_with fail
          refine (Tryz.slices_Sort_string g 0 cap3 N wr HH.out hgl (by omega)).mono ?_
          rintro e w4 ⟨rfl, nn, os, hw4⟩
          obtain ⟨Q, hQ⟩ : ∃ Q, Hid ((N.mergeSort fun x y => decide (x ≤ y)) = Q) := ⟨_, rfl⟩
          have hQl : Hid (Q.length = N.length) := by show _ = _; rw [← hQ.out]; exact List.length_mergeSort N
          rw [hQ.out] at hw4 hFc
          have hown4 : w4.ownsRow w.heap.size 9 1 (.slice (some ⟨g, 0, none⟩) N.length cap3) N.length (Q.map encStr) := by
            rcases HOWN.out.2 with ⟨h0, _⟩ | ⟨g', cap', cur, hv, hbase, hb, h1, h2, h3, h4⟩
            · cases h0
            · cases hv
              rw [hw4]
              exact ownsRow_sorted hQl.out hbase hb h1 h2 h3
          have hbel4 : Below w.heap.size w w4 := by rw [hw4]; exact HBL.out.grown (grownBy_sorted _) HBL.out.size (fun j hj => by cases hj; exact hbg)
          have HOWN4 := hid hown4
          have HBL4 := hid hbel4
          clear hw4 hown4 hbel4
          obtain ⟨g4, cap4, hv4, -, hgl4, -, -, -, hH4⟩ := Lib.holds_of_ownsRow HOWN4.out (fun h => by cases h)
          cases hv4
          have HH4 := hid hH4
          have hlen : ∀ m, m = Q.length → m = N.length := fun m h => by rw [h, hQl.out]
          clear hH4
          go_wp2_with fail
          have hcomp := Tryz.slices_Compact_string g 0 cap3 Q w4 HH4.out (by have := hQl.out; omega) (by have := hQl.out; omega)
          rw [hQl.out] at hcomp
          refine hcomp.mono ?_
          clear hcomp
          rintro e w5 ⟨rfl, q, hw5⟩
          have hle := Lib.compact_length_le Q
          have hown5 : w5.ownsRow w.heap.size 9 1 (.slice (some ⟨g, 0, none⟩) F.length cap3) F.length (strs F) := by
            have hc := Lib.ownsRow_putRow (q := q) (k := (Lib.compact Q).length) (ys := Lib.compact Q ++ List.replicate (N.length - (Lib.compact Q).length) []) HOWN4.out (by have := hQl.out; simp; omega) (by have := hQl.out; omega)
            rw [List.take_left] at hc
            rw [hw5, hFc.out]
            exact hc
          have hbel5 : Below w.heap.size w w5 := by rw [hw5]; exact Lib.below_putRow HBL4.out hbg
          rw [← hFc.out]
          have HOWN5 := hid hown5
          have HBL5 := hid hbel5
          clear hw5 hown5 hbel5 hle hlen
          go_wp2_with fail
          go_ret
          exact ⟨⟨_, rfl, HOWN5.out⟩, HBL5.out⟩
end Go.Proofs.YtecopedjjfimoaaGreatDoor.FldI
