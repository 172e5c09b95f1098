/- Texts of ours, laid together: LaidWalks. -/
import Derived.Test.YtaofdckdmffaiaaGreatDoorProg
import Derived.Test.YtaofdckdmffaiaaGreatDoorBd4
import Derived.WalkKit
import Derived.WalkSpells
import Derived.WalkLawsBesides
import Derived.Laws.IdiomStrings
/- What 'laid' of the program answers: the texts, one behind the other; it makes new memory alone. -/
namespace Go.Proofs.YtaofdckdmffaiaaGreatDoor.LaidW
open Go.RowKit

def catB (ss : List ByteArray) : List UInt8 := ss.flatMap (fun s => s.data.toList)
theorem catB_snoc (ss : List ByteArray) (k : Nat) (h : k < ss.length) : catB (ss.take (k + 1)) = catB (ss.take k) ++ ss[k].data.toList := by
  unfold catB; rw [List.take_succ_eq_append_getElem h, List.flatMap_append]; simp
theorem catB_len (ss : List ByteArray) (k : Nat) (h : k < ss.length) : (catB (ss.take (k + 1))).length = (catB (ss.take k)).length + ss[k].size := by
  rw [catB_snoc ss k h, List.length_append]; simp
theorem catB_le (ss : List ByteArray) (k : Nat) : (catB (ss.take k)).length ≤ (catB ss).length := by
  have : catB ss = catB (ss.take k) ++ catB (ss.drop k) := by
    unfold catB; rw [← List.flatMap_append, List.take_append_drop]
  rw [this, List.length_append]; omega

theorem conv_row {w : World} {g n : Nat} {t : TypeId} {l : List UInt8} (hg : w.heap[g]? = some (.cells (CopyS.cellsB l).toArray t (0, 0))) (hn : l.length = n) :
    (convert 93 9 (.slice (some ⟨g, 0, none⟩) n n)).run Tryz.prog w = .ok (.string ⟨l.toArray⟩) w := by
  subst hn
  refine run_convert_bytes_back w 93 9 5 _ _ l Tryz.underlying93 Tryz.underlying5 Tryz.underlying9 ?_
  intro j hj
  have hplain : (⟨g, 0, none⟩ : Addr).add j = ⟨g, j, none⟩ := by unfold Addr.add; split <;> simp_all
  rw [hplain]; simp [World.cell?, hg, CopyS.cellsB, hj]

theorem Tryz.infoB : (Tryz.prog.info? 5).map (fun i => (i.zero, i.size, i.bytes)) = some (some (.int .u8 0), 1, 1) := by kernel_rfl
theorem Tryz.sizeB : (Tryz.prog.info? 5).map (·.size) = some 1 := by kernel_rfl

set_option maxRecDepth 10000 in
set_option maxHeartbeats 400000 in
theorem laid_any (ss : List ByteArray) (b : Nat) (w : World) (hlen : ss.length ≤ 16) (hb : b < w.heap.size)
    (hc : ∀ i (h : i < ss.length), w.cell? ⟨b, i, none⟩ = some (.string ss[i])) (htot : (catB ss).length ≤ 100000) :
    Calls Tryz.prog 45 #[.slice (some ⟨b, 0, none⟩) ss.length ss.length] w fun e w' => e = .returned (.string ⟨(catB ss).toArray⟩) ∧ Below w.heap.size w w' := by
  obtain ⟨i0, hi, hz0, hz1, hz2⟩ := info_parts Tryz.infoB
  have HC := hc
  have HH : Hid (∀ i (h : i < ss.length), w.cell? ⟨b, i, none⟩ = some (.string ss[i])) := hc
  clear hc HC
  go_enter Tryz.func45, Tryz.ntmps45
  go_wp2
  go_loop [3, 5, 12] (fun z _ i => ∃ k : Nat, k ≤ ss.length ∧ i = .int .i64 k ∧ z = .int .i64 ((catB (ss.take k)).length : Int)) (fun _ _ i => ss.length - (intOf i).toNat)
  case atStart => exact ⟨0, Nat.zero_le _, rfl, rfl⟩
  case round =>
    obtain ⟨k, hk, rfl, rfl⟩ := hrel
    have hle := catB_le ss k
    by_cases hlt : k < ss.length
    · have hcell := HH.out k hlt
      have hle2 := catB_le ss (k + 1)
      have HS : Hid ((catB (ss.take (k + 1))).length = (catB (ss.take k)).length + ss[k].size) := catB_len ss k hlt
      have hsz : (catB (ss.take k)).length + ss[k].size ≤ 100000 := by have := HS.out; omega
      generalize (catB (ss.take k)).length = z at *
      go_wp2
      refine ⟨⟨k + 1, by omega, by go_num, ?_⟩, by simp [intOf]; omega⟩
      rw [HS.out]; go_num
    · have hfull : (catB (ss.take k)) = catB ss := by rw [List.take_of_length_le (by omega)]
      rw [hfull]
      generalize hz : (catB ss).length = z at *
      have HZ : Hid ((catB ss).length = z) := hz
      clear hz hfull
      go_wp2_with (first | (at_make; refine wpList_make_full _ rfl _ _ 93 rfl w.heap.size 5 i0 (.int .u8 0) 1 Tryz.underlying93 hi hz0 hz1 _ _ _ _ z rfl rfl rfl rfl ?m1 ?m2 ?m3 ?_))
      case m1 => omega
      case m2 => unfold maxLen; omega
      intro w1 hown hgrow
      obtain ⟨cur, hrow⟩ : ∃ cur : List Value, cur = CopyS.rowB z [] ∧ w1.heap[w.heap.size]? = some (.cells cur.toArray 5 (0, 0)) := by
        rw [CopyS.made_zero] at hown
        obtain ⟨_, hv⟩ := hown
        rcases hv with ⟨h0, _⟩ | ⟨g, cap, cu, h0, _, hg, _, _, hs, ht⟩
        · cases h0
        · cases h0
          refine ⟨CopyS.rowB z [], rfl, ?_⟩
          rw [hg, ← ht, List.take_of_length_le (by simp; omega)]
      obtain ⟨HCur, hrow1⟩ := hrow
      have hB1 : Below w.heap.size w w1 := (Below.refl _ _).grown hgrow (Nat.le_refl _) (fun k hk => by cases hk)
      clear hown hgrow
      subst HCur
      go_wp2
      go_loopw [7, 9, 25] (fun e _ i wr => ∃ k : Nat, k ≤ ss.length ∧ i = .int .i64 k ∧ e = .int .i64 ((catB (ss.take k)).length : Int) ∧
          Hid (wr.heap[w.heap.size]? = some (.cells (CopyS.rowB z (catB (ss.take k))).toArray 5 (0, 0))) ∧ Below w.heap.size w wr) (fun _ _ i _ => ss.length - (intOf i).toNat)
      case atStart => exact ⟨0, Nat.zero_le _, rfl, rfl, hrow1, hB1⟩
      case round =>
        obtain ⟨k, hk, rfl, rfl, hrow, hbel⟩ := hrel
        clear hrow1 hB1
        have hle := catB_le ss k
        rw [HZ.out] at hle
        by_cases hlt : k < ss.length
        · have hcell : wr.cell? ⟨b, k, none⟩ = some (.string ss[k]) := (hbel.cell hb).trans (HH.out k hlt)
          have hle2 := catB_le ss (k + 1)
          rw [HZ.out] at hle2
          have HS : Hid ((catB (ss.take (k + 1))).length = (catB (ss.take k)).length + ss[k].size) := catB_len ss k hlt
          have HT : Hid (catB (ss.take (k + 1)) = catB (ss.take k) ++ ss[k].data.toList) := catB_snoc ss k hlt
          have hsz : (catB (ss.take k)).length + ss[k].size ≤ z := by have := HS.out; omega
          generalize hl : catB (ss.take k) = l at *
          clear hl
          have hrl : (CopyS.rowB z l).length = z := CopyS.rowB_length z l hle
          by_cases hzl : z = l.length
          · subst hzl
            have h0 : ss[k].size = 0 := by omega
            have hcp : ∀ wx, (Builtin.copy_ #[93, 9] 3 #[.slice (some ⟨w.heap.size, 0, none⟩) 0 0, .string ss[k]]).run Tryz.prog wx = .ok (goInt 0) wx :=
              fun wx => CopyS.run_copy_str_none wx 93 9 3 5 _ 0 0 ss[k] Tryz.underlying93 Tryz.sizeB h0
            have H0 : Hid (ss[k].size = 0) := h0
            clear h0
            go_wp2
            refine ⟨⟨k + 1, by omega, by go_num, ?_, ?_, hbel⟩, by simp [intOf]; omega⟩
            · rw [HS.out, H0.out]; go_num
            · have hd : ss[k].data = #[] := Array.eq_empty_of_size_eq_zero H0.out
              rw [HT.out, hd]; simpa using hrow
          · obtain ⟨w2, hcp, hrow2, hbel2⟩ := CopyS.copy_to (P := Tryz.prog) wr w 93 9 3 5 w.heap.size (z - l.length) (z - l.length) z l ss[k] 5 Tryz.underlying93 Tryz.sizeB hrow.out (by omega) (by omega) w.heap.size hbel (Nat.le_refl _)
            go_wp2
            refine ⟨⟨k + 1, by omega, by go_num, ?_, ?_, hbel2⟩, by simp [intOf]; omega⟩
            · rw [HS.out]; go_num
            · rw [HT.out]; exact hrow2
        · have HF : Hid (catB (ss.take k) = catB ss) := by
            have : catB (ss.take k) = catB ss := by rw [List.take_of_length_le (by omega)]
            exact this
          have hrow3 : wr.heap[w.heap.size]? = some (.cells (CopyS.cellsB (catB ss)).toArray 5 (0, 0)) := by
            have h0 := hrow.out
            rw [HF.out, ← HZ.out, CopyS.rowB_full] at h0; exact h0
          have hcv := conv_row (n := z) hrow3 HZ.out
          clear hrow3
          go_wp2
          go_ret
          exact ⟨rfl, hbel⟩

theorem laid_two (a b : ByteArray) (w : World) (htot : a.size + b.size ≤ 100000) :
    Calls Tryz.prog 45 #[.slice (some ⟨w.heap.size, 0, none⟩) 2 2] (w.alloc (.cells #[.string a, .string b] 9)) fun e w' =>
      e = .returned (.string ⟨(a.data.toList ++ b.data.toList).toArray⟩) ∧ Below w.heap.size w w' := by
  have hcat : catB [a, b] = a.data.toList ++ b.data.toList := by simp [catB]
  refine (laid_any [a, b] w.heap.size (w.alloc (.cells #[.string a, .string b] 9)) (by simp) (by simp) ?_ ?_).mono ?_
  · intro i hi
    match i, hi with
    | 0, _ => simp
    | 1, _ => simp
  · rw [hcat]; simpa using htot
  · rintro e w' ⟨rfl, hB⟩
    exact ⟨by rw [hcat], ((Below.refl _ _).alloc (Nat.le_refl _) _).trans (hB.mono (by simp))⟩
theorem laid_one (a : ByteArray) (w : World) (htot : a.size ≤ 100000) :
    Calls Tryz.prog 45 #[.slice (some ⟨w.heap.size, 0, none⟩) 1 1] (w.alloc (.cells #[.string a] 9)) fun e w' =>
      e = .returned (.string a) ∧ Below w.heap.size w w' := by
  have hcat : catB [a] = a.data.toList := by simp [catB]
  refine (laid_any [a] w.heap.size (w.alloc (.cells #[.string a] 9)) (by simp) (by simp) ?_ ?_).mono ?_
  · intro i hi
    match i, hi with
    | 0, _ => simp
  · rw [hcat]; simpa using htot
  · rintro e w' ⟨rfl, hB⟩
    exact ⟨by rw [hcat], ((Below.refl _ _).alloc (Nat.le_refl _) _).trans (hB.mono (by simp))⟩
end Go.Proofs.YtaofdckdmffaiaaGreatDoor.LaidW
