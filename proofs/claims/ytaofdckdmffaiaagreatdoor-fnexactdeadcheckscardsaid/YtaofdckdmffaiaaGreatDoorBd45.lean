/- Texts of ours, laid together: StbImU. -/
import Derived.Test.YtaofdckdmffaiaaGreatDoorBd44
import Derived.Test.YtaofdckdmffaiaaGreatDoorBd42
import Derived.Test.YtaofdckdmffaiaaGreatDoorBd26
/- Unreachable of the program. -/
namespace Go.Proofs.YtaofdckdmffaiaaGreatDoor.StbI
open Go.RowKit
open PrtW PrtM PrtS PrtI TexM NameW ItmW ItmM FrmM StaM StaS StaI FlsM StbM
open StrW hiding hid
open FlsS (OwnS own_below)
open FrmI (EnvF impl_form Blk)
open FlsI (laid_g)
open StbS (rows_apart own_at)
open StkI (OwnK StkW KeepT TStk)

/-- of each open block, whether no way comes to it -/
def prefs (op : List Bool) : List Bool := (List.range op.length).map fun i => (op.take i).any id
theorem prefs_len (op : List Bool) : (prefs op).length = op.length := by simp [prefs]
theorem prefs_snoc (op : List Bool) (b : Bool) : prefs (op ++ [b]) = prefs op ++ [op.any id] := by
  unfold prefs
  rw [List.length_append, List.length_singleton, List.range_succ, List.map_append]
  congr 1
  · refine List.map_congr_left fun i hi => ?_
    rw [List.take_append_of_le_length (Nat.le_of_lt (List.mem_range.1 hi))]
  · simp
theorem own_keepT {w w' : World} {base n : Nat} {e : TypeId} {v : Value} {xs : List Value} (h : w.ownsRow base e 1 v n xs) (hk : KeepT w w') (h1 : e ≠ TStk) (h2 : e ≠ 72) : w'.ownsRow base e 1 v n xs := by
  obtain ⟨g1, g2⟩ := h
  refine ⟨g1, ?_⟩
  rcases g2 with g2 | ⟨g, cap, cur, hv, hb, hg, r⟩
  · exact .inl g2
  · exact .inr ⟨g, cap, cur, hv, hb, by rw [hk g cur e (0, 0) hg h1 h2]; exact hg, r⟩
theorem blk_keepT {w w' : World} {b : Nat} {q : It} {a : Option Addr} {c : Nat} (h : Blk w b q a c) (hk : KeepT w w') : Blk w' b q a c := by
  unfold Blk at h ⊢
  rw [hk b _ _ _ h (by decide) (by decide)]
  exact h
/-- an item of a right form has a short name, or none -/
theorem any_size {ls : List It} (h : formB ls = true) {k : Nat} (hk : k < ls.length) (h2 : ¬ ik (ls.getD k it0) = 2) (h3 : ¬ ik (ls.getD k it0) = 3) (h4 : ¬ ik (ls.getD k it0) = 4) : (inm (ls.getD k it0)).size ≤ 20 := by
  have h1 := (behind_at ((form_at h).2.1 k hk)).1
  generalize ls.getD k it0 = p at h1 h2 h3 h4
  unfold itemB at h1
  split at h1
  · rw [Bool.and_eq_true] at h1; exact FlsM.name_size h1.1
  · (try rw [if_neg h2] at h1)
    rw [if_neg (show ¬ (ik p = 3 ∨ ik p = 4) by omega)] at h1
    split at h1
    · rw [Bool.and_eq_true] at h1; exact FlsM.name_size h1.1
    · split at h1
      · rw [Bool.and_eq_true] at h1; exact FlsM.name_size h1.1
      · cases h1
theorem fldK (b : Bool) (W : World) : (Instr.field 72 (.agg #[.bool b]) 0).run Tryz.prog W = .ok (.bool b) W := by kernel_rfl

set_option maxRecDepth 10000 in
set_option maxHeartbeats 6400000 in
theorem impl_unr (a : Option Addr) (cap : Nat) (ls : List It) (w : World) (hc : Its w a ls) (hcap : ls.length ≤ cap) (hE : EnvF w) :
    Calls Tryz.prog 22 #[.slice a ls.length cap] w fun e w' => (∃ v, e = .returned v ∧ w'.ownsRow w.heap.size 9 1 v (unrI ls).length (strs (unrI ls))) ∧ Below w.heap.size w w' := by
  have HC := hid hc
  have HE := hid hE
  have hl := hc.1
  clear hc hE
  obtain ⟨i0, hi0, hz0, hz1, hz2⟩ := info_parts Tryz.infoS
  have hfk := fldK
  unfold unrI
  obtain ⟨r, hr⟩ : ∃ r, Hid (formB ls = r) := ⟨_, rfl⟩
  rw [hr.out]
  cases r
  · rw [if_neg (by decide)]
    go_enter Tryz.func22, Tryz.ntmps22
    go_wp2_with fail
    refine (impl_form a cap ls w HC.out hcap HE.out).mono ?_
    rintro e w1 ⟨rfl, hB⟩
    rw [hr.out]
    have HB := hid hB
    clear hB
    go_wp2_with fail
    go_ret
    exact ⟨⟨_, rfl, ⟨rfl, .inl ⟨rfl, rfl⟩⟩⟩, HB.out⟩
  · rw [if_pos rfl]
    have h24 := (form_at hr.out).1
    have HBk : Hid (blocksB ls = true) := (form_at hr.out).2.2
    go_enter Tryz.func22, Tryz.ntmps22
    go_wp2_with fail
    refine (impl_form a cap ls w HC.out hcap HE.out).mono ?_
    rintro e w1 ⟨rfl, hB⟩
    rw [hr.out]
    have HB := hid hB
    have HSt : Hid ((w1.alloc (.cells #[.slice none 0 0] TStk)).heap[w1.heap.size]? = some (.cells #[.slice none 0 0] TStk (0, 0))) := heap_alloc_new w1 _
    have HB1 := hid (HB.out.alloc HB.out.size (.cells #[.slice none 0 0] TStk))
    have hwS := HB.out.size
    clear hB
    go_wp2_with fail
    generalize w1.heap.size = S at *
    go_loopw [3, 5, 13] (fun u nv i wr => ∃ (k : Nat) (op : List Bool) (N : List Nm) (a1 : Option Addr) (c1 : Nat) (sv : Value), k ≤ ls.length ∧ i = .int .i64 k ∧ u = .slice a1 N.length c1 ∧ nv = .bool (op.any id) ∧ Hid (walkU ls (ls.take k) = (op, N)) ∧ Hid (Bl ls k op) ∧ Hid (OwnS wr w.heap.size u N) ∧ Hid (wr.heap[S]? = some (.cells #[sv] TStk (0, 0))) ∧ Hid (OwnK wr w.heap.size sv (prefs op)) ∧ Hid (Below w.heap.size w wr)) (fun _ _ i _ => ls.length - (intOf i).toNat)
    case atStart => exact ⟨0, [], [], _, _, _, Nat.zero_le _, rfl, rfl, rfl, rfl, Bl.zero ls, World.ownsRow_nil _ _ _ _, HSt, World.ownsRow_nil _ _ _ _, HB1⟩
    case round =>
      obtain ⟨k, op, N, a1, c1, sv, hk, rfl, rfl, rfl, HN, HBl, HO, HSv, HP, HB⟩ := hrel
      by_cases hlt : k < ls.length
      · obtain ⟨_, b, o, ai, ci, rfl, hb, hF, hPr, hpc, _⟩ := HC.out.at HB.out hlt
        have hnl := walkU_len ls (ls.take k)
        rw [HN.out] at hnl
        have hnl2 : N.length ≤ 24 := by rw [List.length_take] at hnl; simp only at hnl; omega
        have hfo := walkU_snoc ls (ls.take k) (ls.getD k it0)
        rw [← take_snocI ls k hlt, HN.out] at hfo
        have HFO := hid hfo
        obtain ⟨hopen, hbn, h6⟩ := HBl.out.next HBk.out hlt
        have HBn := hid hbn
        have HOp := hid hopen
        have HSk : Hid (¬ ik (ls.getD k it0) = 2 → ¬ ik (ls.getD k it0) = 3 → ¬ ik (ls.getD k it0) = 4 → (inm (ls.getD k it0)).size ≤ 20) := fun g2 g3 g4 => any_size hr.out hlt g2 g3 g4
        have HCan : Hid (ik (ls.getD k it0) = 2 → ∀ W, Below w.heap.size w W → Parts W ai (iex (ls.getD k it0)) → Calls Tryz.prog 18 #[.slice (some ⟨b, o, none⟩) ls.length cap, .slice ai (iex (ls.getD k it0)).length ci] W fun e w' => e = .returned (.bool (lk ls 6 (iex (ls.getD k it0))).2.1) ∧ Below W.heap.size W w') := fun h W hW hPW => by
          rw [← (can_in hr.out hlt (.inl h)).1]
          exact impl_can_be _ cap ls ai ci _ W (HC.out.on hW) hcap hPW hpc (HE.out.on hW)
        have HPw : Hid (∀ W, Below w.heap.size w W → Parts W ai (iex (ls.getD k it0))) := fun W hW => by
          obtain ⟨_, _, _, ai2, ci2, e1, _, hF2, hPr2, _⟩ := HC.out.at (Below.refl _ _) hlt
          cases e1
          have h1 := (hF2.on hb HB.out).2.2.2.2.2.2.1
          rw [hF.2.2.2.2.2.2.1] at h1
          cases h1
          exact hPr2.on hW
        obtain ⟨d0, d1, d2, d3, d4, d5, d6, d7⟩ := hF
        have hbr := Nat.lt_of_lt_of_le hb HB.out.size
        clear hPr hnl hfo HC HN hopen hbn HBl
        unfold goU at HFO
        dsimp only at HFO
        have HSt1 : Hid (∀ yes, (lk ls 6 (iex (ls.getD k it0))).2.1 = yes → ik (ls.getD k it0) = 2 → stU ls op (ls.getD k it0) = op ++ [!yes]) := fun yes h1 h2 => by unfold stU; rw [if_pos h2, h1]
        have HSe : Hid (ik (ls.getD k it0) = 3 → stU ls op (ls.getD k it0) = op.dropLast ++ [false]) := fun h => by unfold stU; rw [if_neg (by omega), if_pos h]
        have HSd : Hid (ik (ls.getD k it0) = 4 → stU ls op (ls.getD k it0) = op.dropLast) := fun h => by unfold stU; rw [if_neg (by omega), if_neg (by omega), if_pos h]
        have HSo : Hid (¬ ik (ls.getD k it0) = 2 → ¬ ik (ls.getD k it0) = 3 → ¬ ik (ls.getD k it0) = 4 → stU ls op (ls.getD k it0) = op) := fun h1 h2 h3 => by unfold stU; rw [if_neg h1, if_neg h2, if_neg h3]
        have HNm : Hid (hasNm (ls.getD k it0) = !((ik (ls.getD k it0) == 2) || ((ik (ls.getD k it0) == 3) || (ik (ls.getD k it0) == 4)))) := rfl
        generalize stU ls op (ls.getD k it0) = st at HFO HSt1 HSe HSd HSo HBn
        generalize hasNm (ls.getD k it0) = nmd at HFO HNm
        generalize (lk ls 6 (iex (ls.getD k it0))).2.1 = dy at HCan HSt1
        generalize ls.getD k it0 = p at d0 d1 d2 d3 d4 d5 d6 d7 HFO HCan HSt1 HSe HSd HSo HNm HOp HSk HPw hpc
        obtain ⟨kk, s, ty, lo, hi, t, ps, hd⟩ := p
        dsimp only [ik, inm, ity, ilo, ihi, itx, iex, ihd] at d0 d1 d2 d3 d4 d5 d6 d7 HCan HSt1 HSe HSd HSo HNm HOp HSk HPw hpc
        have hBn : Hid (Below wr.heap.size wr (wr.alloc (.cells #[.int .i64 kk, .string s, .int .i64 ty, .int .i64 lo, .int .i64 hi, .string t, .slice ai ps.length ci, .bool hd] 54))) := (Below.refl _ _).alloc (Nat.le_refl _) _
        have HBq := hid (Blk.laid wr (kk, s, ty, lo, hi, t, ps, hd) ai ci)
        unfold Blk at HBq
        dsimp only [ik, inm, ity, ilo, ihi, itx, iex, ihd] at HBq
        go_upto_region 9 with fail
        obtain ⟨W1, hW1⟩ : ∃ W1, Hid (wr.alloc (.cells #[.int .i64 kk, .string s, .int .i64 ty, .int .i64 lo, .int .i64 hi, .string t, .slice ai ps.length ci, .bool hd] 54) = W1) := ⟨_, rfl⟩
        rw [hW1.out] at hBn HBq ⊢
        have HO1 := hid (HO.out.on hBn.out)
        have HP1 := hid (HP.out.on hBn.out)
        have HS1 : Hid (W1.heap[S]? = some (.cells #[sv] TStk (0, 0))) := by show _ = _; rw [hBn.out.block S (blk_lt HSv.out)]; exact HSv.out
        have HB1 : Hid (Below w.heap.size w W1) := HB.out.trans (hBn.out.mono HB.out.size)
        have HK : Hid (Blk W1 wr.heap.size (kk, s, ty, lo, hi, t, ps, hd) ai ci) := HBq.out
        clear hBn hW1 HO HB HP HSv d0 d1 d2 d3 d4 d5 d6 d7 HBq hbr
        generalize wr.heap.size = g1 at *
        obtain ⟨⟨c0, c1', c2, c3, c4, c5, c6, c7⟩, -, hgl⟩ := HK.out.all
        dsimp only [ik, inm, ity, ilo, ihi, itx, iex, ihd] at c0 c1' c2 c3 c4 c5 c6 c7
        have hws := HB1.out.size
        by_cases h2 : kk = 2
        · subst h2
          obtain rfl := HSt1.out _ rfl rfl
          have hn0 : nmd = false := by rw [HNm.out]; rfl
          rw [hn0, Bool.false_and, if_neg (by decide)] at HFO
          have HCn := hid (HCan.out rfl)
          clear HCan HSt1 HSe HSd HSo HNm HOp HSk
          go_wp2_with fail
          refine (StkI.impl_push S w.heap.size sv (prefs op) (op.any id) W1 hwS hws HS1.out HP1.out (by rw [prefs_len]; exact h6)).mono ?_
          rintro e w2 ⟨rfl, a9, c9, hSk, hRow⟩
          have HB2 : Hid (Below w.heap.size w w2) := HB1.out.trans hSk.2.2.1
          have HO2 : Hid (OwnS w2 w.heap.size (.slice a1 N.length c1) N) := own_keepT HO1.out hSk.2.2.2.2 (by decide) (by decide)
          have HK2 := hid (blk_keepT HK.out hSk.2.2.2.2)
          have HS2 := hid hSk.2.1
          have HP2 : Hid (OwnK w2 w.heap.size (.slice a9 ((prefs op).length + 1) c9) (prefs (op ++ [!dy]))) := by show OwnK _ _ _ _; rw [prefs_snoc]; exact hRow
          have HAny := hid (any_snoc op (!dy))
          clear c0 c1' c2 c3 c4 c5 c6 c7 hSk hRow HO1 HB1 HK HS1 HP1 hgl hws
          obtain ⟨⟨c0, c1', c2, c3, c4, c5, c6, c7⟩, -, hgl⟩ := HK2.out.all
          dsimp only [ik, inm, ity, ilo, ihi, itx, iex, ihd] at c0 c1' c2 c3 c4 c5 c6 c7
          generalize op.any id = nv0 at HAny ⊢
          cases nv0
          · go_wp2_with fail
            refine (HCn.out w2 HB2.out (HPw.out w2 HB2.out)).mono ?_
            rintro e w3 ⟨rfl, hB3⟩
            have HB3 : Hid (Below w.heap.size w w3) := HB2.out.trans (hB3.mono HB2.out.size)
            have HO3 := hid (HO2.out.on hB3)
            have HP3 := hid (HP2.out.on hB3)
            have HS3 : Hid (w3.heap[S]? = some (.cells #[.slice a9 ((prefs op).length + 1) c9] TStk (0, 0))) := by show _ = _; rw [hB3.block S (blk_lt HS2.out)]; exact HS2.out
            have hv := hid (HAny.out.trans (Bool.false_or (!dy)))
            clear hB3 HB2 HO2 HP2 HS2 HK2 c0 c1' c2 c3 c4 c5 c6 c7 hgl HAny HCn
            go_wp2_with fail
            exact ⟨⟨k + 1, op ++ [!dy], N, a1, c1, _, by omega, by go_num, rfl, by rw [hv.out], HFO, HBn, HO3, HS3, HP3, HB3⟩, by simp [intOf]; omega⟩
          · have hv := hid (HAny.out.trans (Bool.true_or (!dy)))
            clear HK2 c2 c3 c4 c5 c7 HAny HCn
            go_wp2_with fail
            exact ⟨⟨k + 1, op ++ [!dy], N, a1, c1, _, by omega, by go_num, rfl, by rw [hv.out], HFO, HBn, HO2, HS2, HP2, HB2⟩, by simp [intOf]; omega⟩
        have e2 : (kk == 2) = false := by simp [h2]
        by_cases h3 : kk = 3
        · subst h3
          obtain rfl := HSe.out rfl
          have hn0 : nmd = false := by rw [HNm.out]; rfl
          rw [hn0, Bool.false_and, if_neg (by decide)] at HFO
          obtain ⟨q, b1, rfl⟩ := snoc_of (HOp.out (.inl rfl))
          rw [List.dropLast_concat] at HFO HBn
          have hq6 : (prefs q).length ≤ 6 := by rw [prefs_len]; simp only [List.length_append, List.length_singleton] at h6; omega
          have hrow : OwnK W1 w.heap.size sv (prefs q ++ [q.any id]) := by rw [← prefs_snoc q b1]; exact HP1.out
          have HP2 : Hid (OwnK W1 w.heap.size sv (prefs (q ++ [false]))) := by show OwnK _ _ _ _; rw [prefs_snoc]; exact hrow
          obtain ⟨g, c, rfl, hbg, hgl2, hcap2, hr2⟩ := hrow.last
          have hv := hid ((any_snoc q false).trans (Bool.or_false _))
          have HT := hid (StkI.impl_top S g c (prefs q).length (q.any id) W1 HS1.out hq6 hgl2 hr2)
          clear HCan HSt1 HSe HSd HSo HNm HOp HSk HP1 hrow hr2
          go_wp2_with fail
          refine HT.out.mono ?_
          rintro e w2 ⟨rfl, hB2⟩
          have HB2 : Hid (Below w.heap.size w w2) := HB1.out.trans (hB2.mono HB1.out.size)
          have HO2 := hid (HO1.out.on hB2)
          have HP3 := hid (HP2.out.on hB2)
          have HS2 : Hid (w2.heap[S]? = some (.cells #[.slice (some ⟨g, 0, none⟩) ((prefs q).length + 1) c] TStk (0, 0))) := by show _ = _; rw [hB2.block S (blk_lt HS1.out)]; exact HS1.out
          clear hB2 HB1 HO1 HP2 HS1 HK c0 c1' c2 c3 c4 c5 c6 c7 hgl HT
          generalize q.any id = nq at hv ⊢
          go_wp2_with fail
          exact ⟨⟨k + 1, q ++ [false], N, a1, c1, _, by omega, by go_num, rfl, by rw [hv.out], HFO, HBn, HO2, HS2, HP3, HB2⟩, by simp [intOf]; omega⟩
        have e3 : (kk == 3) = false := by simp [h3]
        by_cases h4 : kk = 4
        · subst h4
          obtain rfl := HSd.out rfl
          have hn0 : nmd = false := by rw [HNm.out]; rfl
          rw [hn0, Bool.false_and, if_neg (by decide)] at HFO
          obtain ⟨q, b1, rfl⟩ := snoc_of (HOp.out (.inr rfl))
          rw [List.dropLast_concat] at HFO HBn
          have hq6 : (prefs q).length ≤ 6 := by rw [prefs_len]; simp only [List.length_append, List.length_singleton] at h6; omega
          have hrow : OwnK W1 w.heap.size sv (prefs q ++ [q.any id]) := by rw [← prefs_snoc q b1]; exact HP1.out
          obtain ⟨g, c, rfl, -, -, -, -⟩ := hrow.last
          have HT := hid (StkI.impl_pop S w.heap.size g c (prefs q) (q.any id) W1 hwS hws HS1.out hrow hq6)
          clear HCan HSt1 HSe HSd HSo HNm HOp HSk HP1 hrow
          go_wp2_with fail
          refine HT.out.mono ?_
          rintro e w2 ⟨rfl, hSk, hRow⟩
          have HB2 : Hid (Below w.heap.size w w2) := HB1.out.trans hSk.2.2.1
          have HO2 : Hid (OwnS w2 w.heap.size (.slice a1 N.length c1) N) := own_keepT HO1.out hSk.2.2.2.2 (by decide) (by decide)
          have HS2 := hid hSk.2.1
          have HP2 := hid hRow
          clear hSk hRow HB1 HO1 HS1 HK c0 c1' c2 c3 c4 c5 c6 c7 hgl HT
          go_wp2_with fail
          exact ⟨⟨k + 1, q, N, a1, c1, _, by omega, by go_num, rfl, rfl, HFO, HBn, HO2, HS2, HP2, HB2⟩, by simp [intOf]; omega⟩
        have e4 : (kk == 4) = false := by simp [h4]
        obtain rfl := HSo.out h2 h3 h4
        have hn1 : nmd = true := by rw [HNm.out, e2, e3, e4]; rfl
        rw [hn1, Bool.true_and] at HFO
        have hs20 := HSk.out h2 h3 h4
        clear HCan HSt1 HSe HSd HSo HNm HOp HSk
        obtain ⟨nv, hnv⟩ : ∃ nv, Hid (st.any id = nv) := ⟨_, rfl⟩
        rw [hnv.out] at HFO ⊢
        cases nv
        · rw [if_neg (by decide)] at HFO
          go_wp2_with fail
          exact ⟨⟨k + 1, st, N, a1, c1, sv, by omega, by go_num, rfl, by rw [hnv.out], HFO, HBn, HO1, HS1, HP1, HB1⟩, by simp [intOf]; omega⟩
        · rw [if_pos rfl] at HFO
          go_wp2_with fail
          refine (laid_g s W1 W1.heap.size rfl (by omega)).mono ?_
          rintro e w4 ⟨rfl, hB4⟩
          have HB4 : Hid (Below w.heap.size w w4) := HB1.out.trans (hB4.mono HB1.out.size)
          have HO4 := hid (HO1.out.on hB4)
          have HP4 := hid (HP1.out.on hB4)
          have HS4 : Hid (w4.heap[S]? = some (.cells #[sv] TStk (0, 0))) := by show _ = _; rw [hB4.block S (blk_lt HS1.out)]; exact HS1.out
          have hws4 := HB4.out.size
          clear hB4 HO1 HP1 HS1 HB1 c0 c1' c2 c3 c4 c5 c6 c7 HK hgl hws
          go_wp2_with (first
            | (at_builtin; refine wpList_append_own _ rfl _ _ 38 rfl w.heap.size 9 i0 (.string ByteArray.empty) 1 16 Tryz.underlying38 hi0 hz0 hz1 hz2 rfl (by decide) _ _ _ rfl (HO4.out.alloc _) ⟨w4.heap.size, 0, none⟩ 1 1 [.string s] rfl rfl (cell_one_new _ _ _) (by simp [Value.oneCell']) (by unfold maxLen; omega) (by omega) (by simp; omega) ?_; intro v' w3 hown' hg3 hnil3; go_frame)
            | go_in)
          have HO3 : Hid (OwnS w3 w.heap.size v' (N ++ [s.data.toList])) := by
            show w3.ownsRow _ _ _ _ _ _
            rw [strs_append, show strs [s.data.toList] = [.string s] by unfold strs; rw [List.map_singleton, enc_data], show (N ++ [s.data.toList]).length = N.length + 1 by simp]
            exact hown'
          have HP3 := hid ((HP4.out.on (ItmS.below_one _ _)).kept hg3 (rows_apart HP4.out HO4.out (by decide)))
          have HS3 : Hid (w3.heap[S]? = some (.cells #[sv] TStk (0, 0))) := by
            show _ = _
            rw [hg3.block S (by have := blk_lt HS4.out; simp; omega) (fun e => by
              obtain ⟨cs, hc⟩ := own_at HO4.out e.symm
              have h := HS4.out
              rw [hc] at h
              injection h with h
              injection h with _ hT
              exact absurd hT (by decide)), Below.heap_alloc _ _ _ (blk_lt HS4.out)]
            exact HS4.out
          have HB3 : Hid (Below w.heap.size w w3) := (HB4.out.alloc HB4.out.size _).grown hg3 (by simp; omega) (fun j hj => (HO4.out.lt j hj).1)
          obtain ⟨a3, c3, rfl⟩ := HO3.out.len
          clear hown' hg3 hnil3 HO4 HP4 HS4
          go_wp2_with fail
          exact ⟨⟨k + 1, st, N ++ [s.data.toList], a3, c3, sv, by omega, by go_num, rfl, by rw [hnv.out], HFO, HBn, HO3, HS3, HP3.out, HB3⟩, by simp [intOf]; omega⟩
      · obtain rfl : k = ls.length := by omega
        have hN := HN.out
        rw [List.take_length] at hN
        go_wp2_with fail
        go_ret
        rw [hN]
        exact ⟨⟨_, rfl, HO.out⟩, HB.out⟩
end Go.Proofs.YtaofdckdmffaiaaGreatDoor.StbI
