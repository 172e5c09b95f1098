/- Texts of ours, laid together: ErpPcs. -/
import Derived.Test.YtecopedjjfimoaaGreatDoorBd31
import Derived.Lib.OthersKept
import Derived.WalkSmall
/- The program's reader: the pieces of a text. -/
namespace Go.Proofs.YtecopedjjfimoaaGreatDoor.ErpI
open Go.RowKit
open StrW

theorem own_iter {w : World} {base : Nat} {v : Value} {n : Nat} {xs : List Value} (h : w.ownsRow base 9 1 v n xs) {k : Nat} (hk : k < base) (s : ByteArray) (p : Nat) : (w.iterAt k s p).ownsRow base 9 1 v n xs := ownsRow_iterAt h hk s p
theorem own_off {w : World} {base b : Nat} {v : Value} {n : Nat} {xs : List Value} (h : w.ownsRow base 9 1 v n xs) (hb : b < base) (j : Nat) (u : Value) : (w.setCell ⟨b, j, none⟩ u).ownsRow b 9 1 v n xs := by
  obtain ⟨h1, h2⟩ := h
  refine ⟨h1, ?_⟩
  rcases h2 with h2 | ⟨g, cap, cur, hv, hbg, hg, r⟩
  · exact .inl h2
  · exact .inr ⟨g, cap, cur, hv, by omega, by rw [Below.heap_setCell _ _ _ _ (show g ≠ b by omega)]; exact hg, r⟩
set_option maxRecDepth 100000 in
set_option maxHeartbeats 4000000 in
theorem pieces_of (s : ByteArray) (w : World) (hs : s.size ≤ 8000) :
    Calls Tryz.prog 132 #[.string s] w fun e w' => (∃ v, e = .returned (.agg #[v]) ∧ w'.ownsRow w.heap.size 9 1 v (pcsF s s.size 0 0 []).length (strs (pcsF s s.size 0 0 []))) ∧ Below w.heap.size w w' := by
  obtain ⟨i0, hi0, hz0, hz1, hz2⟩ := info_parts Tryz.infoS
  obtain ⟨G, hG⟩ : ∃ G, Hid (pcsF s s.size 0 0 [] = G) := ⟨_, rfl⟩
  rw [hG.out]
  go_enter Tryz.func132, Tryz.ntmps132
  go_wp2_with fail
  go_loopw [3, 4] (fun v fr wr => ∃ (pos fuel k : Nat) (L : List Nm), fr = .int .i64 k ∧ k ≤ pos ∧ k ≤ s.size ∧ wr.heap[w.heap.size + 1]? = some (.stringIter s pos) ∧ wr.heap[w.heap.size]? = some (.cells #[.slice none 0 0] 171 (0, 0)) ∧ wr.ownsRow (w.heap.size + 2) 9 1 v L.length (strs L) ∧ Below w.heap.size w wr ∧ Hid (pcsF s fuel pos k L = G) ∧ s.size ≤ pos + fuel ∧ L.length ≤ 2 * k) (fun _ _ wr => s.size - wr.iterPos (w.heap.size + 1))
  case atStart => exact ⟨0, s.size, 0, [], rfl, Nat.le_refl _, Nat.zero_le _, by have := World.iter_heap (w.alloc (Obj.cells #[Value.slice none 0 0] 171)) s 0; rwa [World.size_alloc] at this, by
    have h1 : (w.alloc (Obj.cells #[Value.slice none 0 0] 171)).heap[w.heap.size]? = some (.cells #[.slice none 0 0] 171 (0, 0)) := heap_alloc_new w _
    unfold World.iter; rw [Below.heap_alloc _ _ _ (by simp)]; exact h1, ⟨rfl, .inl ⟨rfl, rfl⟩⟩, ((below_one w _).trans ((below_one _ _).mono (by simp))), hG, by omega, Nat.zero_le _⟩
  case round =>
    obtain ⟨pos, fuel, k, L, rfl, hkp, hks, hit, hres, hown, hbel, HS, hfu, hLl⟩ := hrel
    have hpos0 := iterPos_of hit
    by_cases hp : pos < s.size
    · have hnx : ∀ ty, (Instr.next (.pointer (some ⟨w.heap.size + 1, 0, none⟩)) true ty).run Tryz.prog wr = _ := fun ty => Lib.run_next_any_at wr (w.heap.size + 1) s pos ty hit hp
      have hwd := width_pos s pos hp
      have hdl := decode_le s pos
      obtain ⟨fuel, rfl⟩ : ∃ f', fuel = f' + 1 := ⟨fuel - 1, by omega⟩
      have hst := HS.out
      rw [pcs_step s fuel pos k L hp] at hst
      obtain ⟨r, hr⟩ : ∃ r : Nat, (Utf8.decode s pos).1 = r := ⟨_, rfl⟩
      obtain ⟨wd, hwdd⟩ : ∃ wd : Nat, (Utf8.decode s pos).2 = wd := ⟨_, rfl⟩
      rw [hr, hwdd] at hnx hst
      rw [hwdd] at hwd
      have hit2 := Lib.iterAt_heap wr (w.heap.size + 1) s pos (pos + wd) hit
      have hbel2 := Lib.below_iterAt hbel (k := w.heap.size + 1) (by omega) s (pos + wd)
      have hown2 := own_iter hown (k := w.heap.size + 1) (by omega) s (pos + wd)
      have hres2 := (Lib.iterAt_other wr (w.heap.size + 1) w.heap.size s (pos + wd) (by omega)).trans hres
      obtain ⟨W1, hW1⟩ : ∃ W1, W1 = wr.iterAt (w.heap.size + 1) s (pos + wd) := ⟨_, rfl⟩
      rw [← hW1] at hnx hit2 hbel2 hown2 hres2
      have hBlt := lt_of_block hit2
      have HST := hid hst
      clear hW1 hit hown hbel hres hst hr hwdd HS
      obtain ⟨mk, hmk⟩ : ∃ mk, markB r = mk := ⟨_, rfl⟩
      rw [hmk] at HST
      cases mk
      · rw [if_neg (by decide)] at HST
        go_wp2_with (go_at_call 164; refine (is_mark r _).mono ?_; rintro e w' ⟨rfl, rfl⟩; rw [hmk])
        exact ⟨⟨pos + wd, fuel, k, L, rfl, by omega, hks, hit2, hres2, hown2, hbel2, HST, by omega, hLl⟩, by rw [iterPos_of hit2, hpos0]; omega⟩
      · rw [if_pos rfl] at HST
        by_cases hkl : k < pos
        · rw [if_pos hkl] at HST
          go_wp2_with (first
            | (go_at_call 164; refine (is_mark r _).mono ?_; rintro e w' ⟨rfl, rfl⟩; rw [hmk])
            | (at_builtin; refine wpList_append_own _ rfl _ _ 48 rfl (w.heap.size + 2) 9 i0 (.string ByteArray.empty) 1 16 Tryz.underlying48 hi0 hz0 hz1 hz2 rfl (by decide) _ (L).length (strs (L)) rfl (hown2.alloc _) ⟨w'.heap.size, 0, none⟩ 1 1 [.string (s.extract k pos)] rfl rfl ?ya3 ?yb3 ?yc3 ?yd3 ?ye3 ?_))
          case ya3 =>
            intro j u hj
            match j, hj with
            | 0, hj => simp at hj; subst hj; simp [Addr.add]
          case yb3 => intro u hu; simp at hu; subst hu; rfl
          case yc3 => unfold maxLen; simp; omega
          case yd3 => first | omega | (simp; omega)
          case ye3 => simp; omega
          intro v3 w3 hown3 hgrow3 _
          have hbel3 : Below w.heap.size w w3 := (hbel2.alloc hbel2.size (Obj.cells #[Value.string (s.extract k pos)] 9)).grown hgrow3 (by have := hbel2.size; simp; omega) (fun g hg => by have := (hown2.lt g hg).1; omega)
          have hit3 : w3.heap[w.heap.size + 1]? = _ := (hgrow3.block (w.heap.size + 1) (by have := lt_of_block hit2; simp; omega) (fun h => by have := (hown2.lt _ h.symm).1; omega)).trans ((Below.heap_alloc _ _ _ (lt_of_block hit2)).trans hit2)
          have hres3 : w3.heap[w.heap.size]? = _ := (hgrow3.block w.heap.size (by have := lt_of_block hit2; simp; omega) (fun h => by have := (hown2.lt _ h.symm).1; omega)).trans ((Below.heap_alloc _ _ _ (by have := lt_of_block hit2; omega)).trans hres2)
          replace hown3 : w3.ownsRow (w.heap.size + 2) 9 1 v3 (L ++ [sl s k pos]).length (strs (L ++ [sl s k pos])) := by
            rw [strs_append, show strs [sl s k pos] = [.string (s.extract k pos)] by unfold strs; rw [List.map_singleton, sl_enc]]
            simpa using hown3
          clear hgrow3 hown2 hbel2 hit2 hres2
          go_wp2_with (first | (at_builtin; refine wpList_append_own _ rfl _ _ 48 rfl (w.heap.size + 2) 9 i0 (.string ByteArray.empty) 1 16 Tryz.underlying48 hi0 hz0 hz1 hz2 rfl (by decide) _ (L ++ [sl s k pos]).length (strs (L ++ [sl s k pos])) rfl (hown3.alloc _) ⟨w3.heap.size, 0, none⟩ 1 1 [.string (s.extract pos (pos + 1))] rfl rfl ?ya4 ?yb4 ?yc4 ?yd4 ?ye4 ?_))
          case ya4 =>
            intro j u hj
            match j, hj with
            | 0, hj => simp at hj; subst hj; simp [Addr.add]
          case yb4 => intro u hu; simp at hu; subst hu; rfl
          case yc4 => unfold maxLen; simp; omega
          case yd4 => first | omega | (simp; omega)
          case ye4 => first | (simp; omega) | (have := lt_of_block hit3; simp; omega)
          intro v4 w4 hown4 hgrow4 _
          have hbel4 : Below w.heap.size w w4 := (hbel3.alloc hbel3.size (Obj.cells #[Value.string (s.extract pos (pos + 1))] 9)).grown hgrow4 (by have := hbel3.size; simp; omega) (fun g hg => by have := (hown3.lt g hg).1; omega)
          have hit4 : w4.heap[w.heap.size + 1]? = _ := (hgrow4.block (w.heap.size + 1) (by have := lt_of_block hit3; simp; omega) (fun h => by have := (hown3.lt _ h.symm).1; omega)).trans ((Below.heap_alloc _ _ _ (lt_of_block hit3)).trans hit3)
          have hres4 : w4.heap[w.heap.size]? = _ := (hgrow4.block w.heap.size (by have := lt_of_block hit3; simp; omega) (fun h => by have := (hown3.lt _ h.symm).1; omega)).trans ((Below.heap_alloc _ _ _ (by have := lt_of_block hit3; omega)).trans hres3)
          replace hown4 : w4.ownsRow (w.heap.size + 2) 9 1 v4 (L ++ [sl s k pos] ++ [sl s pos (pos + 1)]).length (strs (L ++ [sl s k pos] ++ [sl s pos (pos + 1)])) := by
            rw [strs_append, show strs [sl s pos (pos + 1)] = [.string (s.extract pos (pos + 1))] by unfold strs; rw [List.map_singleton, sl_enc]]
            simpa using hown4
          clear hgrow4 hown3 hbel3 hit3 hres3
          go_wp2_with fail
          exact ⟨⟨pos + wd, fuel, pos + 1, L ++ [sl s k pos] ++ [sl s pos (pos + 1)], by go_num, by omega, by omega, hit4, hres4, hown4, hbel4, HST, by omega, by simp; omega⟩, by rw [iterPos_of hit4, hpos0]; omega⟩
        · rw [if_neg hkl] at HST
          go_wp2_with (first
            | (go_at_call 164; refine (is_mark r _).mono ?_; rintro e w' ⟨rfl, rfl⟩; rw [hmk])
            | (at_builtin; refine wpList_append_own _ rfl _ _ 48 rfl (w.heap.size + 2) 9 i0 (.string ByteArray.empty) 1 16 Tryz.underlying48 hi0 hz0 hz1 hz2 rfl (by decide) _ (L).length (strs (L)) rfl (hown2.alloc _) ⟨w'.heap.size, 0, none⟩ 1 1 [.string (s.extract pos (pos + 1))] rfl rfl ?ya4 ?yb4 ?yc4 ?yd4 ?ye4 ?_))
          case ya4 =>
            intro j u hj
            match j, hj with
            | 0, hj => simp at hj; subst hj; simp [Addr.add]
          case yb4 => intro u hu; simp at hu; subst hu; rfl
          case yc4 => unfold maxLen; simp; omega
          case yd4 => first | omega | (simp; omega)
          case ye4 => first | (simp; omega) | (have := lt_of_block hit3; simp; omega)
          intro v4 w4 hown4 hgrow4 _
          have hbel4 : Below w.heap.size w w4 := (hbel2.alloc hbel2.size (Obj.cells #[Value.string (s.extract pos (pos + 1))] 9)).grown hgrow4 (by have := hbel2.size; simp; omega) (fun g hg => by have := (hown2.lt g hg).1; omega)
          have hit4 : w4.heap[w.heap.size + 1]? = _ := (hgrow4.block (w.heap.size + 1) (by have := lt_of_block hit2; simp; omega) (fun h => by have := (hown2.lt _ h.symm).1; omega)).trans ((Below.heap_alloc _ _ _ (lt_of_block hit2)).trans hit2)
          have hres4 : w4.heap[w.heap.size]? = _ := (hgrow4.block w.heap.size (by have := lt_of_block hit2; simp; omega) (fun h => by have := (hown2.lt _ h.symm).1; omega)).trans ((Below.heap_alloc _ _ _ (by have := lt_of_block hit2; omega)).trans hres2)
          replace hown4 : w4.ownsRow (w.heap.size + 2) 9 1 v4 (L ++ [sl s pos (pos + 1)]).length (strs (L ++ [sl s pos (pos + 1)])) := by
            rw [strs_append, show strs [sl s pos (pos + 1)] = [.string (s.extract pos (pos + 1))] by unfold strs; rw [List.map_singleton, sl_enc]]
            simpa using hown4
          clear hgrow4 hown2 hbel2 hit2 hres2
          go_wp2_with fail
          exact ⟨⟨pos + wd, fuel, pos + 1, L ++ [sl s pos (pos + 1)], by go_num, by omega, by omega, hit4, hres4, hown4, hbel4, HST, by omega, by simp; omega⟩, by rw [iterPos_of hit4, hpos0]; omega⟩
    · have hnx : ∀ ty, (Instr.next (.pointer (some ⟨w.heap.size + 1, 0, none⟩)) true ty).run Tryz.prog wr = _ := fun ty => Lib.run_next_end_at wr (w.heap.size + 1) s pos ty hit hp
      have hst := HS.out
      rw [pcs_end s fuel pos k L hp] at hst
      unfold fin at hst
      have hBlt := lt_of_block hit
      have HST := hid hst
      clear hst HS
      by_cases hkl : k < s.size
      · rw [if_pos hkl] at HST
        go_wp2_with (first | (at_builtin; refine wpList_append_own _ rfl _ _ 48 rfl (w.heap.size + 2) 9 i0 (.string ByteArray.empty) 1 16 Tryz.underlying48 hi0 hz0 hz1 hz2 rfl (by decide) _ (L).length (strs (L)) rfl (hown.alloc _) ⟨wr.heap.size, 0, none⟩ 1 1 [.string (s.extract k s.size)] rfl rfl ?ya5 ?yb5 ?yc5 ?yd5 ?ye5 ?_))
        case ya5 =>
          intro j u hj
          match j, hj with
          | 0, hj => simp at hj; subst hj; simp [Addr.add]
        case yb5 => intro u hu; simp at hu; subst hu; rfl
        case yc5 => unfold maxLen; simp; omega
        case yd5 => first | omega | (simp; omega)
        case ye5 => simp; omega
        intro v5 w5 hown5 hgrow5 _
        have hbel5 : Below w.heap.size w w5 := (hbel.alloc hbel.size (Obj.cells #[Value.string (s.extract k s.size)] 9)).grown hgrow5 (by have := hbel.size; simp; omega) (fun g hg => by have := (hown.lt g hg).1; omega)
        have hit5 : w5.heap[w.heap.size + 1]? = _ := (hgrow5.block (w.heap.size + 1) (by have := lt_of_block hit; simp; omega) (fun h => by have := (hown.lt _ h.symm).1; omega)).trans ((Below.heap_alloc _ _ _ (lt_of_block hit)).trans hit)
        have hres5 : w5.heap[w.heap.size]? = _ := (hgrow5.block w.heap.size (by have := lt_of_block hit; simp; omega) (fun h => by have := (hown.lt _ h.symm).1; omega)).trans ((Below.heap_alloc _ _ _ (by have := lt_of_block hit; omega)).trans hres)
        replace hown5 : w5.ownsRow (w.heap.size + 2) 9 1 v5 (L ++ [sl s k s.size]).length (strs (L ++ [sl s k s.size])) := by
          rw [strs_append, show strs [sl s k s.size] = [.string (s.extract k s.size)] by unfold strs; rw [List.map_singleton, sl_enc]]
          simpa using hown5
        clear hgrow5 hown hbel hit hres
        have HOWN := hid hown5
        obtain ⟨a5, cap5, rfl, -, -, -⟩ := strs_own hown5 (by simp; omega)
        have HB := hid hbel5
        have HRES := hid hres5
        obtain ⟨rc, rf, rl⟩ := pcs_cells hres5
        have rf0 := rf 0
        clear hown5 hbel5 hit5 hres5 rf
        go_wp2_with fail
        refine bodyPost_ret (v := .agg #[.slice a5 (L ++ [sl s k s.size]).length cap5]) (by simp [results, Tryz.results132, go_sem, rc]) rfl ⟨⟨_, rfl, ?_⟩, HB.out.setCell (Nat.le_refl _) _⟩
        rw [← HST.out]
        exact own_off HOWN.out (by omega) _ _
      · rw [if_neg hkl] at HST
        have HOWN := hid hown
        obtain ⟨a5, cap5, rfl, -, -, -⟩ := strs_own hown (by omega)
        have HB := hid hbel
        have HRES := hid hres
        obtain ⟨rc, rf, rl⟩ := pcs_cells hres
        have rf0 := rf 0
        clear hown hbel hit hres rf
        go_wp2_with fail
        refine bodyPost_ret (v := .agg #[.slice a5 L.length cap5]) (by simp [results, Tryz.results132, go_sem, rc]) rfl ⟨⟨_, rfl, ?_⟩, HB.out.setCell (Nat.le_refl _) _⟩
        rw [← HST.out]
        exact own_off HOWN.out (by omega) _ _
end Go.Proofs.YtecopedjjfimoaaGreatDoor.ErpI
