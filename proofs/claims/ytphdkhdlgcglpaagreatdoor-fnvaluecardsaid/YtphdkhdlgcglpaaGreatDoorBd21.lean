/- Texts of ours, laid together: RdRead, RdOutS. -/
import Derived.Test.YtphdkhdlgcglpaaGreatDoorBd19
import Derived.Test.YtphdkhdlgcglpaaGreatDoorBd10
import Derived.Test.YtphdkhdlgcglpaaGreatDoorBd7
import Derived.Deep.AppendLies
import Derived.Deep.RegionLaw
import Derived.Deep.Cut
import Derived.Lib.SmallJoins
/- The model reads an answer, whatever the text: it is the right answer whose text that is, if there is one. -/
namespace Go.Proofs.YtphdkhdlgcglpaaGreatDoor.RdS
open Go.RowKit
open ValM ValW ValS ValI TxtM RdM TxtS

/-- blocks that lay there lie on, one aside -/
def Keeps (w wr : World) (B : Nat) : Prop := w.heap.size ≤ wr.heap.size ∧ ∀ b, b < w.heap.size → b ≠ B → wr.heap[b]? = w.heap[b]?
theorem keeps_append {w3 wr w5 : World} {B : Nat} {o : Obj} {cv : Value} {n : Nat} {xs : List Value} (hk : Keeps w3 wr B) (hB : B < w3.heap.size) (hown : wr.ownsRow w3.heap.size 2 1 cv n xs) (hg : (wr.alloc o).drew.grownBy w5 cv.ownBlock) :
    Keeps w3 w5 B ∧ w5.heap[B]? = wr.heap[B]? := by
  have hall : ∀ b, b < w3.heap.size → w5.heap[b]? = wr.heap[b]? := by
    intro b hb
    have h1 : b < wr.heap.size := Nat.lt_of_lt_of_le hb hk.1
    rw [hg.block b (by simp; omega) (fun e => by have := (hown.lt b e.symm).1; omega)]
    exact Below.heap_alloc wr o b h1
  exact ⟨⟨by have := hg.size; have := hk.1; simp at *; omega, fun b hb hne => (hall b hb).trans (hk.2 b hb hne)⟩, hall B hB⟩
theorem keeps_set {w3 w5 : World} {B : Nat} (hk : Keeps w3 w5 B) (j : Nat) (v : Value) : Keeps w3 (w5.setCell ⟨B, j, none⟩ v) B :=
  ⟨by simpa using hk.1, fun b hb hne => (heap_setCell_other w5 ⟨B, j, none⟩ b v hne).trans (hk.2 b hb hne)⟩
def vcells (cv : Value) : Array Value := #[.int .i64 3, .int .i64 0, cv, .string ByteArray.empty]

def RInv (w w3 : World) (ps : List ByteArray) (v : Value) (wr : World) : Prop := ∃ (i : Nat) (cv : Value), i ≤ ps.length ∧ v = .int .i64 i ∧ Keeps w3 wr (w.heap.size + 1) ∧ wr.heap[w.heap.size + 1]? = some (.cells (vcells cv) 38 (0, 0)) ∧
  wr.ownsRow w3.heap.size 2 1 cv i (cellsI ((ps.take i).map fun p => numM p.data.toList)) ∧ Below w.heap.size w wr

theorem read_none (s : ByteArray) (w : World) (h : s.size = 0) :
    Calls Tryz.prog 62 #[.string s] w fun e w' => e = .returned (av 0 0 none 0 0 ByteArray.empty) ∧ Below w.heap.size w w' := by
  have q : s.toList.isEmpty = true := by rw [empty_list]; simp [h]
  clear h
  go_enter Tryz.func62, Tryz.ntmps62
  go_wp2
  refine bodyPost_ret (v := av 0 0 none 0 0 ByteArray.empty) (by simp [results, Tryz.results62, go_sem]; rfl) rfl ⟨rfl, ?_⟩
  go_grown
theorem read_dont (s : ByteArray) (w : World) (h : 0 < s.size) (hx : (s[0]'h).toNat = 68) :
    Calls Tryz.prog 62 #[.string s] w fun e w' => e = .returned (av 5 0 none 0 0 ByteArray.empty) ∧ Below w.heap.size w w' := by
  have q : s.toList.isEmpty = false := by rw [empty_list]; exact decide_eq_false (by omega)
  go_enter Tryz.func62, Tryz.ntmps62
  go_wp2
  refine bodyPost_ret (v := av 5 0 none 0 0 ByteArray.empty) (by simp [results, Tryz.results62, go_sem]; rfl) rfl ⟨rfl, ?_⟩
  go_grown
theorem read_refuse (s : ByteArray) (w : World) (h : 0 < s.size) (hx : (s[0]'h).toNat = 82) :
    Calls Tryz.prog 62 #[.string s] w fun e w' => e = .returned (av 6 0 none 0 0 ByteArray.empty) ∧ Below w.heap.size w w' := by
  have q : s.toList.isEmpty = false := by rw [empty_list]; exact decide_eq_false (by omega)
  go_enter Tryz.func62, Tryz.ntmps62
  go_wp2
  refine bodyPost_ret (v := av 6 0 none 0 0 ByteArray.empty) (by simp [results, Tryz.results62, go_sem]; rfl) rfl ⟨rfl, ?_⟩
  go_grown
theorem read_code (s : ByteArray) (w : World) (h : 0 < s.size) (hs : s.size ≤ 8000) (hx : (s[0]'h).toNat = 35) :
    Calls Tryz.prog 62 #[.string s] w fun e w' => e = .returned (av 2 (numM (s.data.toList.drop 1)) none 0 0 ByteArray.empty) ∧ Below w.heap.size w w' := by
  have q : s.toList.isEmpty = false := by rw [empty_list]; exact decide_eq_false (by omega)
  obtain ⟨u, hu⟩ : ∃ u : ByteArray, s.extract 1 s.size = u := ⟨_, rfl⟩
  have hus : u.size = s.size - 1 := by rw [← hu]; simp
  obtain ⟨r, hr⟩ : ∃ r, Hid (numM (s.data.toList.drop 1) = r) := ⟨_, rfl⟩
  have HU : Hid (numM u.data.toList = r) := by show _ = _; rw [← hr.out, ← hu, Lib.extract_to_end]
  rw [hr.out]
  go_enter Tryz.func62, Tryz.ntmps62
  go_wp2_with (go_at_call 92; refine (num_in u _ (by omega)).mono ?_; rintro e w' ⟨rfl, rfl⟩; rw [HU.out])
  refine bodyPost_ret (v := av 2 r none 0 0 ByteArray.empty) (by simp [results, Tryz.results62, go_sem]; rfl) rfl ⟨rfl, ?_⟩
  go_grown
theorem read_text (s : ByteArray) (w : World) (h : 0 < s.size) (hs : s.size ≤ 8000) (hx : (s[0]'h).toNat = 34) :
    Calls Tryz.prog 62 #[.string s] w fun e w' => ∃ t : ByteArray, e = .returned (av 4 0 none 0 0 t) ∧ Below w.heap.size w w' ∧ t.size ≤ 8000 ∧ ∀ x, s.data.toList = 34 :: (quoteL x ++ [34]) → t.data.toList = x := by
  have q : s.toList.isEmpty = false := by rw [empty_list]; exact decide_eq_false (by omega)
  go_enter Tryz.func62, Tryz.ntmps62
  go_wp2_with fail
  refine (quoted_in s _ h hs).mono ?_
  rintro e w1 ⟨t, rfl, hB1, ht, hq⟩
  have HQ : Hid (∀ x, s.data.toList = 34 :: (quoteL x ++ [34]) → t.data.toList = x) := hq
  have HB : Hid (Below w.heap.size w w1) := (below_one w _).trans (hB1.mono (by simp))
  obtain ⟨hcl, hfz⟩ := bcell hB1
  have hlt : w.heap.size < w1.heap.size := by have := hB1.size; simp at this; omega
  simp only [World.size_alloc] at hcl hfz
  clear hq hB1
  go_wp2
  refine bodyPost_ret (v := av 4 0 none 0 0 t) (by simp [results, Tryz.results62, go_sem, hcl]) rfl ⟨t, rfl, ?_, ht, HQ.out⟩
  repeat (refine Below.setCell ?_ (show w.heap.size ≤ _ by simp only; omega) _)
  exact HB.out
theorem read_int (s : ByteArray) (w : World) (h : 0 < s.size) (hs : s.size ≤ 8000) (x : Nat) (hx : (s[0]'h).toNat = x) (h1 : ¬ x = 68) (h2 : ¬ x = 82) (h3 : ¬ x = 35) (h4 : ¬ x = 34) (h5 : ¬ x = 123) :
    Calls Tryz.prog 62 #[.string s] w fun e w' => e = .returned (av 1 (numM s.data.toList) none 0 0 ByteArray.empty) ∧ Below w.heap.size w w' := by
  have q : s.toList.isEmpty = false := by rw [empty_list]; exact decide_eq_false (by omega)
  obtain ⟨r, hr⟩ : ∃ r, Hid (numM s.data.toList = r) := ⟨_, rfl⟩
  rw [hr.out]
  go_enter Tryz.func62, Tryz.ntmps62
  go_wp2_with (go_at_call 92; refine (num_in s _ (by omega)).mono ?_; rintro e w' ⟨rfl, rfl⟩; rw [hr.out])
  refine bodyPost_ret (v := av 1 r none 0 0 ByteArray.empty) (by simp [results, Tryz.results62, go_sem]; rfl) rfl ⟨rfl, ?_⟩
  go_grown
theorem read_noset (s : ByteArray) (w : World) (h : 0 < s.size) (hx : (s[0]'h).toNat = 123) (hq : s.data.toList = [123, 125]) :
    Calls Tryz.prog 62 #[.string s] w fun e w' => e = .returned (av 3 0 none 0 0 ByteArray.empty) ∧ Below w.heap.size w w' := by
  have q : s.toList.isEmpty = false := by rw [empty_list]; exact decide_eq_false (by omega)
  have q2 : (s.toList == [123, 125]) = true := by rw [ByteArray.toList_eq, hq]; rfl
  clear hq
  go_enter Tryz.func62, Tryz.ntmps62
  go_wp2
  refine bodyPost_ret (v := av 3 0 none 0 0 ByteArray.empty) (by simp [results, Tryz.results62, go_sem]; rfl) rfl ⟨rfl, ?_⟩
  go_grown

theorem Tryz.infoI64 : (Tryz.prog.info? 2).map (fun i => (i.zero, i.size, i.bytes)) = some (some (.int .i64 0), 1, 8) := by kernel_rfl

set_option maxRecDepth 10000 in
set_option maxHeartbeats 4000000 in
theorem read_set (s : ByteArray) (w : World) (h : 0 < s.size) (hs : s.size ≤ 8000) (hx : (s[0]'h).toNat = 123) (hq : s.data.toList ≠ [123, 125]) :
    Calls Tryz.prog 62 #[.string s] w fun e w' => ∃ zs a cap, e = .returned (av 3 0 a zs.length cap ByteArray.empty) ∧ Below w.heap.size w w' ∧ Codes w' a zs ∧ Fresh a w.heap.size ∧ zs = (splitC (s.data.toList.drop 1)).map numM := by
  have q : s.toList.isEmpty = false := by rw [empty_list]; exact decide_eq_false (by omega)
  have q2 : (s.toList == [123, 125]) = false := by rw [ByteArray.toList_eq]; simp [hq]
  obtain ⟨u, hu⟩ : ∃ u : ByteArray, s.extract 1 s.size = u := ⟨_, rfl⟩
  have hus : u.size = s.size - 1 := by rw [← hu]; simp
  have HU : Hid (u.data.toList = s.data.toList.drop 1) := by show _ = _; rw [← hu, Lib.extract_to_end]
  obtain ⟨i0, hi0, hz0, hz1, hz2⟩ := info_parts Tryz.infoI64
  clear hq
  go_enter Tryz.func62, Tryz.ntmps62
  go_wp2_with fail
  refine (split_in u _ (by omega)).mono ?_
  rintro e w3 ⟨lv, ps, rfl, hown, hB3, hpl, hps, hpz⟩
  have HPS : Hid (ps.map (·.data.toList) = splitC u.data.toList ∧ ∀ p ∈ ps, p.size ≤ u.size) := ⟨hps, hpz⟩
  have hp1 : 0 < ps.length := by
    obtain ⟨x, r, e⟩ := splitC_some u.data.toList
    have := congrArg List.length hps
    rw [e] at this; simp at this; omega
  obtain ⟨gp, capp, rfl, hgp, hgl⟩ := hown.form hp1
  have HP : Hid (∀ j p, ps[j]? = some p → w3.cell? ⟨gp, j, none⟩ = some (.string p)) := by
    intro j p hj
    have hj2 : j < ps.length := (List.getElem?_eq_some_iff.1 hj).1
    rw [hown.cellAt j (by omega)]; unfold strs; simp [hj]
  have h1 : w3.heap[w.heap.size + 1]? = some (.cells (vcells (.slice none 0 0)) 38 (0, 0)) := by
    rw [hB3.block _ (by simp)]
    have := heap_alloc_new (w.alloc (.cells #[.int .i64 0, .int .i64 0, .slice none 0 0, .string ByteArray.empty] 38)) (.cells (vcells (.slice none 0 0)) 38)
    rw [World.size_alloc] at this; exact this
  have HZ : Hid (w3.heap[w.heap.size]? = some (.cells #[.int .i64 0, .int .i64 0, .slice none 0 0, .string ByteArray.empty] 38 (0, 0))) := by
    show _ = _
    rw [hB3.block _ (by simp; omega), Below.heap_alloc _ _ _ (by simp)]
    exact heap_alloc_new w _
  have HB : Hid (Below w.heap.size w w3) := ((below_one w _).trans ((below_one _ _).mono (by simp))).trans (hB3.mono (by simp; omega))
  have hsz3 : w.heap.size + 1 < w3.heap.size := by have := hB3.size; simp at this; omega
  have hgp2 : w.heap.size + 2 ≤ gp := by simpa using hgp
  clear hown hB3 hps hpz hgp
  go_wp2
  go_loopw [5] (RInv w w3 ps) (fun v _ => ps.length - (intOf v).toNat)
  case atStart => exact ⟨0, .slice none 0 0, Nat.zero_le _, rfl, ⟨Nat.le_refl _, fun _ _ _ => rfl⟩, h1, World.ownsRow_nil _ _ _ _, HB.out⟩
  case round =>
    obtain ⟨i, cv, hil, rfl, hk, hv, hown, hbel⟩ := hrel
    clear h1
    have c2 : wr.cell? ⟨w.heap.size + 1, 2, none⟩ = some cv := by simp [World.cell?, hv, vcells]
    have f2 : wr.frozen? ⟨w.heap.size + 1, 2, none⟩ = false := by simp [World.frozen?, hv]
    by_cases hlt : i < ps.length
    · obtain ⟨p, hp⟩ : ∃ p, ps[i]? = some p := ⟨_, List.getElem?_eq_getElem hlt⟩
      have cp : wr.cell? ⟨gp, i, none⟩ = some (.string p) := by
        rw [World.cell?_of_block (hk.2 gp hgl (by omega))]; exact HP.out i p hp
      have hpsz : p.size ≤ 10000 := by have := HPS.out.2 p (List.mem_of_getElem? hp); omega
      obtain ⟨x, hx2⟩ : ∃ x, Hid (numM p.data.toList = x) := ⟨_, rfl⟩
      have hl : ((ps.take i).map fun p => numM p.data.toList).length = i := by simp; omega
      have HT : Hid ((ps.take (i + 1)).map (fun p => numM p.data.toList) = (ps.take i).map (fun p => numM p.data.toList) ++ [x]) := by
        show _ = _; rw [List.take_add_one, hp]; simp [hx2.out]
      obtain ⟨zs, hzs⟩ : ∃ zs, Hid ((ps.take i).map (fun p => numM p.data.toList) = zs) := ⟨_, rfl⟩
      rw [hzs.out] at hown hl HT
      have hkw := hk.1
      have HK : Hid (Keeps w3 wr (w.heap.size + 1)) := hk
      have HV : Hid (wr.heap[w.heap.size + 1]? = some (.cells (vcells cv) 38 (0, 0))) := hv
      have HBL : Hid (Below w.heap.size w wr) := hbel
      have HO : Hid (wr.ownsRow w3.heap.size 2 1 cv i (cellsI zs)) := hown
      obtain ⟨ca, cl, cc, rfl⟩ : ∃ ca cl cc, cv = .slice ca cl cc := by
        rcases hown.2 with ⟨h0, _⟩ | ⟨g, cap, cur, h0, _⟩
        · exact ⟨_, _, _, h0⟩
        · exact ⟨_, _, _, h0⟩
      clear hk hv hown hbel
      have c2a : ∀ o, (wr.alloc o).cell? ⟨w.heap.size + 1, 2, none⟩ = some (.slice ca cl cc) := fun o => by
        rw [World.cell?_alloc_lt _ _ ⟨w.heap.size + 1, 2, none⟩ (by simp only; omega)]; exact c2
      go_upto_region 20 with fail
      go_region_law (first
        | (go_simp
           go_at_call 92
           refine (num_in p _ hpsz).mono ?_
           rintro e w' ⟨rfl, rfl⟩
           rw [hx2.out]
           dsimp only)
        | (refine step_append_lies _ rfl (.tmp 44) (.tmp 50) 36 rfl w3.heap.size 2 i0 (.int .i64 0) 1 8 Tryz.underlying36 hi0 hz0 hz1 hz2 rfl (by decide) (.slice ca cl cc) i (cellsI zs) rfl (HO.out.alloc _).drew ⟨wr.heap.size, 0, none⟩ 1 1 [.int .i64 x] rfl rfl (by intro j u hj; match j, hj with | 0, hj => (simp at hj; subst hj; simp [Addr.add])) (by intro u hu; simp at hu; subst hu; rfl) (by decide) (by unfold maxLen; omega) (by omega) (by simp; omega) (wr.heap.size + 1) (by simp) ?_
           intro g cap w5 hown5 hgrow5 hat5 hlt5
           have hk5 := keeps_append HK.out hsz3 HO.out hgrow5
           have hv5 := hk5.2.trans HV.out
           have d2 : w5.cell? ⟨w.heap.size + 1, 2, none⟩ = some (.slice ca cl cc) := by simp [World.cell?, hv5, vcells]
           have e2 : w5.frozen? ⟨w.heap.size + 1, 2, none⟩ = false := by simp [World.frozen?, hv5]))
      all_goals
        have HK6 : Hid (Keeps w3 (w5.setCell ⟨w.heap.size + 1, 2, none⟩ (.slice (some ⟨g, 0, none⟩) (i + 1) cap)) (w.heap.size + 1)) := keeps_set hk5.1 2 _
        have HV6 : Hid ((w5.setCell ⟨w.heap.size + 1, 2, none⟩ (.slice (some ⟨g, 0, none⟩) (i + 1) cap)).heap[w.heap.size + 1]? = some (.cells (vcells (.slice (some ⟨g, 0, none⟩) (i + 1) cap)) 38 (0, 0))) :=
          heap_setCell_same w5 (w.heap.size + 1) 2 _ 38 _ hv5
        have HB6 : Hid (Below w.heap.size w (w5.setCell ⟨w.heap.size + 1, 2, none⟩ (.slice (some ⟨g, 0, none⟩) (i + 1) cap))) :=
          (((HBL.out.alloc (by have := HBL.out.size; omega) _).drew).grown hgrow5 (by simp; omega) (fun k hk => by have := (HO.out.lt k hk).1; omega)).setCell (by simp) _
        have HO6 : Hid ((w5.setCell ⟨w.heap.size + 1, 2, none⟩ (.slice (some ⟨g, 0, none⟩) (i + 1) cap)).ownsRow w3.heap.size 2 1 (.slice (some ⟨g, 0, none⟩) (i + 1) cap) (i + 1) (cellsI (zs ++ [x]))) := by
          rw [cellsI_snoc]; exact ownsRow_setCell_below hown5 (by simp; omega) _
        clear hown5 hgrow5 hk5 hv5 d2 e2 c2 f2 cp c2a
        go_wp2
        go_roundw
        case rel => exact ⟨i + 1, _, by omega, by go_num, HK6.out, HV6.out, by rw [HT.out]; exact HO6.out, HB6.out⟩
        case measure => simp [intOf]; omega
    · have hi2 : i = ps.length := by omega
      subst hi2
      obtain ⟨a, cap, rfl, hcd, hap⟩ : ∃ a cap, cv = .slice a ((ps.take ps.length).map fun p => numM p.data.toList).length cap ∧ Codes wr a ((ps.take ps.length).map fun p => numM p.data.toList) ∧ (a = none ∨ ∃ g, a = some ⟨g, 0, none⟩ ∧ w3.heap.size ≤ g) := by
        refine own_codes ?_ (by simp; omega)
        have e : ((ps.take ps.length).map fun p => numM p.data.toList).length = ps.length := by simp
        rw [e]; exact hown
      have HZZ : Hid ((ps.take ps.length).map (fun p => numM p.data.toList) = (splitC (s.data.toList.drop 1)).map numM) := by
        show _ = _; rw [List.take_length, ← HU.out, ← HPS.out.1, List.map_map]; rfl
      generalize (ps.take ps.length).map (fun p => numM p.data.toList) = zs at *
      have HCD : Hid (Codes wr a zs) := hcd
      have hz : wr.heap[w.heap.size]? = some (.cells #[.int .i64 0, .int .i64 0, .slice none 0 0, .string ByteArray.empty] 38 (0, 0)) := (hk.2 _ (by omega) (by omega)).trans HZ.out
      have b0 : wr.cell? ⟨w.heap.size, 0, none⟩ = some (.int .i64 0) := by simp [World.cell?, hz]
      have b1 : wr.cell? ⟨w.heap.size, 1, none⟩ = some (.int .i64 0) := by simp [World.cell?, hz]
      have b2 : wr.cell? ⟨w.heap.size, 2, none⟩ = some (.slice none 0 0) := by simp [World.cell?, hz]
      have b3 : wr.cell? ⟨w.heap.size, 3, none⟩ = some (.string ByteArray.empty) := by simp [World.cell?, hz]
      have g0 : ∀ j, wr.frozen? ⟨w.heap.size, j, none⟩ = false := fun j => by simp [World.frozen?, hz]
      have c0 : wr.cell? ⟨w.heap.size + 1, 0, none⟩ = some (.int .i64 3) := by simp [World.cell?, hv, vcells]
      have c1 : wr.cell? ⟨w.heap.size + 1, 1, none⟩ = some (.int .i64 0) := by simp [World.cell?, hv, vcells]
      have c3 : wr.cell? ⟨w.heap.size + 1, 3, none⟩ = some (.string ByteArray.empty) := by simp [World.cell?, hv, vcells]
      have HBL : Hid (Below w.heap.size w wr) := hbel
      have hwz : w.heap.size + 1 < wr.heap.size := by have := hk.1; omega
      clear hcd hk hv hown hbel f2 hz
      go_wp2
      refine bodyPost_ret (v := av 3 0 a zs.length cap ByteArray.empty) (by simp [results, Tryz.results62, go_sem, b0, b1, b2, b3]) rfl ⟨zs, a, cap, rfl, ?_, ?_, fun b o h0 => by rcases hap with h1 | ⟨g, h1, hg⟩; rw [h1] at h0; cases h0; rw [h1] at h0; cases h0; omega, HZZ.out⟩
      · repeat (refine Below.setCell ?_ (show w.heap.size ≤ _ by simp only; omega) _)
        exact HBL.out
      · repeat (refine codes_set ?_ (by rintro b o rfl; rcases hap with h0 | ⟨g, h0, hg⟩; cases h0; cases h0; simp only; omega) _)
        exact HCD.out

/-- l03Read: whatever the text, an answer; the right one, if the text is one's -/
theorem read_in (s : ByteArray) (w : World) (hs : s.size ≤ 8000) :
    Calls Tryz.prog 62 #[.string s] w fun e w' => ∃ k n zs t a cap, e = .returned (av k n a zs.length cap t) ∧ Below w.heap.size w w' ∧ Codes w' a zs ∧ Fresh a w.heap.size ∧ t.size ≤ 8000 ∧ IsOf s k n zs t := by
  by_cases h0 : s.size = 0
  · exact (read_none s w h0).mono fun e w' h => ⟨0, 0, [], ByteArray.empty, none, 0, h.1, h.2, Codes.nil _ _, fresh_none _, by decide, is_none (List.length_eq_zero_iff.1 (by rw [← size_len]; exact h0))⟩
  have h : 0 < s.size := by omega
  obtain ⟨c, r, hc⟩ : ∃ c r, s.data.toList = c :: r := by
    cases hh : s.data.toList with
    | nil => rw [size_len, hh] at h; exact absurd h (by simp)
    | cons c l => exact ⟨c, l, rfl⟩
  have hcx : s[0]'h = c := by
    have e1 : s.data.toList[0]? = some c := by rw [hc]; rfl
    have e2 := Lib.data_getElem? s 0 h
    rw [e1] at e2; exact (Option.some.inj e2).symm
  have hd : s.data.toList.drop 1 = r := by rw [hc]; rfl
  by_cases q1 : c = 68
  · exact (read_dont s w h (by rw [hcx, q1]; rfl)).mono fun e w' h => ⟨5, 0, [], ByteArray.empty, none, 0, h.1, h.2, Codes.nil _ _, fresh_none _, by decide, is_word c r hc (.inl ⟨rfl, q1⟩)⟩
  by_cases q2 : c = 82
  · exact (read_refuse s w h (by rw [hcx, q2]; rfl)).mono fun e w' h => ⟨6, 0, [], ByteArray.empty, none, 0, h.1, h.2, Codes.nil _ _, fresh_none _, by decide, is_word c r hc (.inr ⟨rfl, q2⟩)⟩
  by_cases q3 : c = 35
  · exact (read_code s w h hs (by rw [hcx, q3]; rfl)).mono fun e w' h => ⟨2, _, [], ByteArray.empty, none, 0, h.1, h.2, Codes.nil _ _, fresh_none _, by decide, by rw [hd]; exact is_code r (by rw [hc, q3])⟩
  by_cases q4 : c = 34
  · exact (read_text s w h hs (by rw [hcx, q4]; rfl)).mono fun e w' ⟨t, h1, h2, h3, h4⟩ => ⟨4, 0, [], t, none, 0, h1, h2, Codes.nil _ _, fresh_none _, h3, is_text r (by rw [hc, q4]) h4⟩
  by_cases q5 : c = 123
  · by_cases q6 : s.data.toList = [123, 125]
    · exact (read_noset s w h (by rw [hcx, q5]; rfl) q6).mono fun e w' h => ⟨3, 0, [], ByteArray.empty, none, 0, h.1, h.2, Codes.nil _ _, fresh_none _, by decide, is_noset q6⟩
    · exact (read_set s w h hs (by rw [hcx, q5]; rfl) q6).mono fun e w' ⟨zs, a, cap, h1, h2, h3, h5, h4⟩ => ⟨3, 0, zs, ByteArray.empty, a, cap, h1, h2, h3, h5, by decide, by rw [h4, hd]; exact is_set r (by rw [hc, q5]) q6⟩
  · have hn : ∀ x : UInt8, c ≠ x → ¬ (s[0]'h).toNat = x.toNat := fun x hx e => hx (by rw [← hcx]; exact UInt8.toNat_inj.1 e)
    exact (read_int s w h hs _ rfl (hn 68 q1) (hn 82 q2) (hn 35 q3) (hn 34 q4) (hn 123 q5)).mono fun e w' h => ⟨1, _, [], ByteArray.empty, none, 0, h.1, h.2, Codes.nil _ _, fresh_none _, by decide, is_int c r hc ⟨q1, q2, q3, q4, q5⟩⟩
end Go.Proofs.YtphdkhdlgcglpaaGreatDoor.RdS
/- ValueRead of the model; and what both readings answer, as one relation of the text. -/
namespace Go.Proofs.YtphdkhdlgcglpaaGreatDoor.RdS
open Go.RowKit
open ValM ValW ValS ValI TxtM RdM TxtS

/-- an answer with a code, as a value -/
abbrev ov (k n : Int) (a : Option Addr) (len cap : Nat) (t : ByteArray) (c : Int) : Value := .agg #[.int .i64 k, .int .i64 n, .slice a len cap, .string t, .int .i64 c]
def Reads (s : ByteArray) (k n : Int) (zs : List Int) (t : ByteArray) (c : Int) : Prop :=
  (8000 < s.size ∧ k = 0 ∧ n = 0 ∧ zs = [] ∧ t = ByteArray.empty ∧ c = 2) ∨
  (s.size ≤ 8000 ∧ right k n zs t = true ∧ s.data.toList = textL k n zs t ∧ c = 0) ∨
  (s.size ≤ 8000 ∧ k = 0 ∧ n = 0 ∧ zs = [] ∧ t = ByteArray.empty ∧ c = 3 ∧ ∀ k0 n0 z0 t0, right k0 n0 z0 t0 = true → s.data.toList ≠ textL k0 n0 z0 t0)
theorem reads_same {s : ByteArray} {k n : Int} {zs : List Int} {t : ByteArray} {c k' n' : Int} {zs' : List Int} {t' : ByteArray} {c' : Int} (h : Reads s k n zs t c) (h' : Reads s k' n' zs' t' c') :
    k = k' ∧ n = n' ∧ zs = zs' ∧ t = t' ∧ c = c' := by
  rcases h with ⟨a, b1, b2, b3, b4, b5⟩ | ⟨a, b1, b2, b3⟩ | ⟨a, b1, b2, b3, b4, b5, b6⟩ <;> rcases h' with ⟨a', b1', b2', b3', b4', b5'⟩ | ⟨a', b1', b2', b3'⟩ | ⟨a', b1', b2', b3', b4', b5', b6'⟩
  · exact ⟨by omega, by omega, by rw [b3, b3'], by rw [b4, b4'], by omega⟩
  · omega
  · omega
  · omega
  · obtain ⟨x, y, z, u⟩ := text_inj b1 b1' (by rw [← b2, ← b2'])
    exact ⟨x, y, z, u, by omega⟩
  · exact absurd b2 (b6' _ _ _ _ b1)
  · omega
  · exact absurd b2' (b6 _ _ _ _ b1')
  · exact ⟨by omega, by omega, by rw [b3, b3'], by rw [b4, b4'], by omega⟩
theorem reads_codes {s : ByteArray} {k n : Int} {zs : List Int} {t : ByteArray} {c : Int} (h : Reads s k n zs t c) : zs.length ≤ 20 ∧ t.size ≤ 40 := by
  rcases h with ⟨_, _, _, b3, b4, _⟩ | ⟨_, b1, _, _⟩ | ⟨_, _, _, b3, b4, _⟩
  · rw [b3, b4]; exact ⟨by simp, by decide⟩
  · rcases kinds b1 with ⟨_, _, h, h'⟩ | ⟨_, _, _, h, h'⟩ | ⟨_, _, _, h, h'⟩ | ⟨_, _, h, h'⟩ | ⟨_, _, h, _, h'⟩
    · exact ⟨by omega, by omega⟩
    · exact ⟨by omega, by omega⟩
    · exact ⟨by omega, by omega⟩
    · exact ⟨rises_len h, by omega⟩
    · exact ⟨by omega, by omega⟩
  · rw [b3, b4]; exact ⟨by simp, by decide⟩

def zero5 : Array Value := #[.int .i64 0, .int .i64 0, .slice none 0 0, .string ByteArray.empty, .int .i64 0]
theorem zero_cells {w : World} {b : Nat} {T : TypeId} (h : w.heap[b]? = some (.cells zero5 T (0, 0))) :
    w.cell? ⟨b, 0, none⟩ = some (.int .i64 0) ∧ w.cell? ⟨b, 1, none⟩ = some (.int .i64 0) ∧ w.cell? ⟨b, 2, none⟩ = some (.slice none 0 0) ∧ w.cell? ⟨b, 3, none⟩ = some (.string ByteArray.empty) ∧ w.cell? ⟨b, 4, none⟩ = some (.int .i64 0) ∧ ∀ j, w.frozen? ⟨b, j, none⟩ = false :=
  ⟨by simp [World.cell?, h, zero5], by simp [World.cell?, h, zero5], by simp [World.cell?, h, zero5], by simp [World.cell?, h, zero5], by simp [World.cell?, h, zero5], fun j => by simp [World.frozen?, h]⟩
theorem spec_read_big (s : ByteArray) (w : World) (hs : 8000 < s.size) (hm : s.size ≤ maxLen) :
    Calls Tryz.prog 26 #[.string s] w fun e w' => e = .returned (ov 0 0 none 0 0 ByteArray.empty 2) ∧ Below w.heap.size w w' := by
  unfold maxLen at hm
  go_enter Tryz.func26, Tryz.ntmps26
  go_wp2
  refine bodyPost_ret (v := ov 0 0 none 0 0 ByteArray.empty 2) (by simp [results, Tryz.results26, go_sem]; rfl) rfl ⟨rfl, ?_⟩
  go_grown

set_option maxHeartbeats 1000000 in
theorem spec_read (s : ByteArray) (w : World) (hm : s.size ≤ maxLen) :
    Calls Tryz.prog 26 #[.string s] w fun e w' => ∃ k n zs t a cap c, e = .returned (ov k n a zs.length cap t c) ∧ Below w.heap.size w w' ∧ Codes w' a zs ∧ Reads s k n zs t c := by
  by_cases hs : s.size ≤ 8000
  case neg => exact (spec_read_big s w (by omega) hm).mono fun e w' h => ⟨0, 0, [], ByteArray.empty, none, 0, 2, h.1, h.2, Codes.nil _ _, .inl ⟨by omega, rfl, rfl, rfl, rfl, rfl⟩⟩
  have HS : Hid (s.size ≤ 8000) := hs
  clear hm
  go_enter Tryz.func26, Tryz.ntmps26
  go_wp2_with fail
  refine (read_in s _ hs).mono ?_
  rintro e w1 ⟨k, n, zs, t, a, cap, rfl, hB1, hc1, hfr, ht1, his⟩
  rw [World.size_alloc] at hfr
  have HFR : Hid (Fresh a (w.heap.size + 1)) := hfr
  have HIS : Hid (IsOf s k n zs t) := his
  have HT : Hid (t.size ≤ maxLen) := show t.size ≤ maxLen by unfold maxLen; omega
  have HZ1 : Hid (w1.heap[w.heap.size]? = some (.cells zero5 42 (0, 0))) := by
    show _ = _
    rw [hB1.block _ (by simp)]; exact heap_alloc_new w _
  have HB1 : Hid (Below w.heap.size w (w1.alloc (.cells #[.int .i64 k, .int .i64 n, .slice a zs.length cap, .string t] 38))) := ((below_one w _).trans (hB1.mono (by simp))).trans ((below_one w1 _).mono (by have := hB1.size; simp at this; omega))
  have HC1 : Hid (Codes (w1.alloc (.cells #[.int .i64 k, .int .i64 n, .slice a zs.length cap, .string t] 38)) a zs) := hc1.alloc _
  have HV1 : Hid (At4 (w1.alloc (.cells #[.int .i64 k, .int .i64 n, .slice a zs.length cap, .string t] 38)) w1.heap.size (.int .i64 k) (.int .i64 n) (.slice a zs.length cap) (.string t)) := At4.laid _ _ _ _ _ _
  have hlt : w.heap.size < w1.heap.size := by have := hB1.size; simp at this; omega
  have HZ2 : Hid ((w1.alloc (.cells #[.int .i64 k, .int .i64 n, .slice a zs.length cap, .string t] 38)).heap[w.heap.size]? = some (.cells zero5 42 (0, 0))) := by
    show _ = _; rw [Below.heap_alloc _ _ _ hlt]; exact HZ1.out
  clear hB1 hc1 his ht1 HZ1 hfr
  obtain ⟨x, hx⟩ := hide (textB k n zs t)
  obtain ⟨y, hy⟩ : ∃ y, Hid (right k n zs t = y) := ⟨_, rfl⟩
  go_wp2_with fail
  refine (spec_text k n a cap zs t _ HC1.out HT.out).mono ?_
  rintro e w2 ⟨rfl, hB2⟩
  rw [hx.out]
  have HB2 : Hid (Below w.heap.size w w2) := HB1.out.trans (hB2.mono HB1.out.size)
  have HC2 : Hid (Codes w2 a zs) := HC1.out.on hB2
  have HV2 : Hid (At4 w2 w1.heap.size (.int .i64 k) (.int .i64 n) (.slice a zs.length cap) (.string t)) := HV1.out.on hB2
  have HZ3 : Hid (w2.heap[w.heap.size]? = some (.cells zero5 42 (0, 0))) := by
    show _ = _; rw [hB2.block _ (by simp; omega)]; exact HZ2.out
  clear hB2 HB1 HC1 HV1 HZ2
  by_cases he : x.toList = s.toList
  · have q : (x.toList == s.toList) = true := by simp [he]
    have HXS : Hid (x = s) := by
      show _ = _; rw [ByteArray.toList_eq, ByteArray.toList_eq] at he; rw [eq_mk he, mk_data]
    clear he
    obtain ⟨c0, c1, c2, c3, hvz⟩ := HV2.out
    go_wp2_with fail
    refine (spec_right k n a cap zs t _ HC2.out HT.out).mono ?_
    rintro e w3 ⟨rfl, hB3⟩
    rw [hy.out]
    have HB3 : Hid (Below w.heap.size w w3) := HB2.out.trans (hB3.mono HB2.out.size)
    have HC3 : Hid (Codes w3 a zs) := HC2.out.on hB3
    have HV3 : Hid (At4 w3 w1.heap.size (.int .i64 k) (.int .i64 n) (.slice a zs.length cap) (.string t)) := HV2.out.on hB3
    have hlt3 : w.heap.size < w2.heap.size := (Array.getElem?_eq_some_iff.1 HZ3.out).1
    obtain ⟨z0, z1, z2, z3, z4, zf⟩ := zero_cells ((hB3.block _ hlt3).trans HZ3.out)
    have hlt4 : w.heap.size < w3.heap.size := Nat.lt_of_lt_of_le hlt3 hB3.size
    clear hB3 c0 c1 c2 c3 hvz HV2 HB2 HC2 HZ3
    cases y with
    | false =>
      have HR : Hid (Reads s 0 0 [] ByteArray.empty 3) := .inr (.inr ⟨HS.out, rfl, rfl, rfl, rfl, rfl, fun k0 n0 z0 t0 hr e => by
        obtain ⟨rfl, rfl, rfl, rfl⟩ := HIS.out k0 n0 z0 t0 hr e
        rw [hr] at hy; exact absurd hy.out (by simp)⟩)
      go_wp2
      refine bodyPost_ret (v := ov 0 0 none 0 0 ByteArray.empty 3) (by simp [results, Tryz.results26, go_sem, z0, z1, z2, z3, z4]; rfl) rfl ⟨0, 0, [], ByteArray.empty, none, 0, 3, rfl, ?_, Codes.nil _ _, HR.out⟩
      repeat (refine Below.setCell ?_ (show w.heap.size ≤ _ by simp only; omega) _)
      exact HB3.out
    | true =>
      have HR : Hid (Reads s k n zs t 0) := .inr (.inl ⟨HS.out, hy.out, by rw [← HXS.out, ← hx.out]; unfold textB; rw [if_pos hy.out, data_mk], rfl⟩)
      obtain ⟨c0, c1, c2, c3, hvz⟩ := HV3.out
      go_wp2
      refine bodyPost_ret (v := ov k n a zs.length cap t 0) (by simp [results, Tryz.results26, go_sem, z0, z1, z2, z3, z4]) rfl ⟨k, n, zs, t, a, cap, 0, rfl, ?_, ?_, HR.out⟩
      · repeat (refine Below.setCell ?_ (show w.heap.size ≤ _ by simp only; omega) _)
        exact HB3.out
      · repeat (refine codes_set ?_ (fun b o hb => by have := HFR.out b o hb; simp only; omega) _)
        exact HC3.out
  · have q : (x.toList == s.toList) = false := by simp [he]
    have HR : Hid (Reads s 0 0 [] ByteArray.empty 3) := .inr (.inr ⟨HS.out, rfl, rfl, rfl, rfl, rfl, fun k0 n0 z0 t0 hr e => by
      obtain ⟨rfl, rfl, rfl, rfl⟩ := HIS.out k0 n0 z0 t0 hr e
      apply he
      rw [← hx.out]; unfold textB; rw [if_pos hr, ByteArray.toList_eq, data_mk, ByteArray.toList_eq, e]⟩)
    clear he
    have hlt3 : w.heap.size < w2.heap.size := (Array.getElem?_eq_some_iff.1 HZ3.out).1
    obtain ⟨z0, z1, z2, z3, z4, zf⟩ := zero_cells HZ3.out
    go_wp2
    refine bodyPost_ret (v := ov 0 0 none 0 0 ByteArray.empty 3) (by simp [results, Tryz.results26, go_sem, z0, z1, z2, z3, z4]; rfl) rfl ⟨0, 0, [], ByteArray.empty, none, 0, 3, rfl, ?_, Codes.nil _ _, HR.out⟩
    repeat (refine Below.setCell ?_ (show w.heap.size ≤ _ by simp only; omega) _)
    exact HB2.out
end Go.Proofs.YtphdkhdlgcglpaaGreatDoor.RdS
