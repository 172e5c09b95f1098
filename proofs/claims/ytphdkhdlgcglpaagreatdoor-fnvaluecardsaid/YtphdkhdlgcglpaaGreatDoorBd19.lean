/- Texts of ours, laid together: RdSpec, RdSplit. -/
import Derived.Test.YtphdkhdlgcglpaaGreatDoorBd7
import Derived.Test.YtphdkhdlgcglpaaGreatDoorBd18
/- The model's reading: a number, a quoted text, codes between commas, an answer. -/
namespace Go.Proofs.YtphdkhdlgcglpaaGreatDoor.RdS
open Go.RowKit
open ValM ValW ValS ValI TxtM RdM TxtS

def NumRel (u : ByteArray) (a b : Value) : Prop := ∃ (i n : Nat), i ≤ u.size ∧ i ≤ 11 ∧ b = .int .i64 i ∧ a = .int .i64 n ∧ n < 100000000000 ∧ Hid (n = digs (u.data.toList.take i) ∧ n < 10 ^ i)
theorem ret_i64 {a b : Int} (h : a = b) : Ending.returned (.int .i64 a) = .returned (.int .i64 b) := by rw [h]

set_option maxRecDepth 10000 in
set_option maxHeartbeats 1000000 in
theorem num_in (s : ByteArray) (w : World) (hs : s.size ≤ 10000) :
    Calls Tryz.prog 92 #[.string s] w fun e w' => e = .returned (.int .i64 (numM s.data.toList)) ∧ w' = w := by
  obtain ⟨r, hr⟩ : ∃ r, Hid (numM s.data.toList = r) := ⟨_, rfl⟩
  rw [hr.out]
  by_cases h0 : 0 < s.size
  · obtain ⟨x, hx⟩ : ∃ x : Nat, (s[0]'h0).toNat = x := ⟨_, rfl⟩
    have hx4 : x < 256 := by rw [← hx]; exact UInt8.toNat_lt _
    obtain ⟨c, l, hc⟩ : ∃ c l, s.data.toList = c :: l := by
      cases h : s.data.toList with
      | nil => rw [size_len, h] at h0; exact absurd h0 (by simp)
      | cons c l => exact ⟨c, l, rfl⟩
    have hcx : c.toNat = x := by
      rw [← hx]; congr 1
      have e1 : s.data.toList[0]? = some c := by rw [hc]; rfl
      have e2 := Lib.data_getElem? s 0 h0
      rw [e1] at e2; exact Option.some.inj e2
    by_cases hm : x = 45
    · have HH0 : Hid (s.data.toList.head? = some 45) := by
        show _ = _; rw [hc]; simp; exact UInt8.toNat_inj.1 (by rw [hcx, hm]; rfl)
      subst hm
      obtain ⟨u, hu⟩ : ∃ u : ByteArray, s.extract 1 s.size = u := ⟨_, rfl⟩
      have hus : u.size = s.size - 1 := by rw [← hu]; simp
      have HT0 : Hid (s.data.toList.tail = u.data.toList) := by
        show _ = _; rw [← hu, Lib.extract_to_end, hc]; rfl
      clear hc hcx
      go_enter Tryz.func92, Tryz.ntmps92
      go_wp2
      go_loop [4, 5] (NumRel u) (fun _ b => 11 - (intOf b).toNat)
      case atStart => exact ⟨0, 0, Nat.zero_le _, by omega, rfl, rfl, by omega, by simp [digs], by simp⟩
      case round =>
        obtain ⟨i, n, hi, hi11, rfl, rfl, hn, HN⟩ := hrel
        by_cases hlt : i < u.size
        · by_cases hl11 : i < 11
          · have hlen : i < u.data.toList.length := by rw [← size_len]; exact hlt
            obtain ⟨y, hy⟩ : ∃ y : Nat, (u[i]'hlt).toNat = y := ⟨_, rfl⟩
            have hy4 : y < 256 := by rw [← hy]; exact UInt8.toNat_lt _
            have htk : u.data.toList.take (i + 1) = u.data.toList.take i ++ [u[i]'hlt] := by
              rw [List.take_add_one, List.getElem?_eq_getElem hlen]; simp; rfl
            have hlt2 := digs_lt (i + 1) u.data.toList
            by_cases hd : 48 ≤ y ∧ y ≤ 57
            · have HN2 : Hid (10 * n + (y - 48) = digs (u.data.toList.take (i + 1)) ∧ 10 * n + (y - 48) < 10 ^ (i + 1)) := by
                have e : 10 * n + (y - 48) = digs (u.data.toList.take (i + 1)) := by
                  rw [htk, digs_snoc, ← HN.out.1]; unfold stepD; rw [hy, if_pos hd]
                exact ⟨e, by rw [e]; exact hlt2⟩
              have hp : 10 ^ (i + 1) ≤ 10 ^ 11 := Nat.pow_le_pow_right (by omega) (by omega)
              have hb : 10 * n + (y - 48) < 100000000000 := Nat.lt_of_lt_of_le HN2.out.2 (by simpa using hp)
              obtain ⟨h1, h2⟩ := hd
              obtain ⟨d, rfl⟩ : ∃ d, y = 48 + d := ⟨y - 48, by omega⟩
              rw [Nat.add_sub_cancel_left] at HN2 hb
              clear htk hlt2 hp HN
              go_wp2
              refine ⟨⟨i + 1, 10 * n + d, by omega, by omega, by go_num, by go_num, by omega, HN2⟩, by simp [intOf]; omega⟩
            · have HN2 : Hid (n = digs (u.data.toList.take (i + 1)) ∧ n < 10 ^ (i + 1)) := by
                have e : n = digs (u.data.toList.take (i + 1)) := by
                  rw [htk, digs_snoc, ← HN.out.1]; unfold stepD; rw [hy, if_neg hd]
                exact ⟨e, by rw [e]; exact hlt2⟩
              clear htk hlt2 HN
              by_cases h1 : 48 ≤ y
              · have h2 : ¬ y ≤ 57 := fun h => hd ⟨h1, h⟩
                clear hd
                go_wp2
                refine ⟨⟨i + 1, n, by omega, by omega, by go_num, rfl, by omega, HN2⟩, by simp [intOf]; omega⟩
              · clear hd
                go_wp2
                refine ⟨⟨i + 1, n, by omega, by omega, by go_num, rfl, by omega, HN2⟩, by simp [intOf]; omega⟩
          · have hi2 : i = 11 := by omega
            subst hi2
            have HF : Hid (-(n : Int) = r) := by show _ = _; rw [HN.out.1, ← hr.out]; unfold numM; rw [if_pos HH0.out, HT0.out]
            go_wp2
            go_ret
            exact ⟨ret_i64 (by have := HF.out; omega), rfl⟩
        · have HF : Hid (-(n : Int) = r) := by
            show _ = _
            rw [HN.out.1, ← hr.out]; unfold numM
            rw [if_pos HH0.out, HT0.out]
            rw [List.take_of_length_le (by rw [← size_len]; omega), List.take_of_length_le (by rw [← size_len]; omega)]
          go_wp2
          go_ret
          exact ⟨ret_i64 (by have := HF.out; omega), rfl⟩
    · have HH0 : Hid (¬ s.data.toList.head? = some 45) := by
        show ¬ _; rw [hc]; simp; intro e; rw [e] at hcx; exact hm (by rw [← hcx]; rfl)
      clear hc hcx
      go_enter Tryz.func92, Tryz.ntmps92
      go_wp2
      go_loop [4, 5] (NumRel s) (fun _ b => 11 - (intOf b).toNat)
      case atStart => exact ⟨0, 0, Nat.zero_le _, by omega, rfl, rfl, by omega, by simp [digs], by simp⟩
      case round =>
        obtain ⟨i, n, hi, hi11, rfl, rfl, hn, HN⟩ := hrel
        by_cases hlt : i < s.size
        · by_cases hl11 : i < 11
          · have hlen : i < s.data.toList.length := by rw [← size_len]; exact hlt
            obtain ⟨y, hy⟩ : ∃ y : Nat, (s[i]'hlt).toNat = y := ⟨_, rfl⟩
            have hy4 : y < 256 := by rw [← hy]; exact UInt8.toNat_lt _
            have htk : s.data.toList.take (i + 1) = s.data.toList.take i ++ [s[i]'hlt] := by
              rw [List.take_add_one, List.getElem?_eq_getElem hlen]; simp; rfl
            have hlt2 := digs_lt (i + 1) s.data.toList
            by_cases hd : 48 ≤ y ∧ y ≤ 57
            · have HN2 : Hid (10 * n + (y - 48) = digs (s.data.toList.take (i + 1)) ∧ 10 * n + (y - 48) < 10 ^ (i + 1)) := by
                have e : 10 * n + (y - 48) = digs (s.data.toList.take (i + 1)) := by
                  rw [htk, digs_snoc, ← HN.out.1]; unfold stepD; rw [hy, if_pos hd]
                exact ⟨e, by rw [e]; exact hlt2⟩
              have hp : 10 ^ (i + 1) ≤ 10 ^ 11 := Nat.pow_le_pow_right (by omega) (by omega)
              have hb : 10 * n + (y - 48) < 100000000000 := Nat.lt_of_lt_of_le HN2.out.2 (by simpa using hp)
              obtain ⟨h1, h2⟩ := hd
              obtain ⟨d, rfl⟩ : ∃ d, y = 48 + d := ⟨y - 48, by omega⟩
              rw [Nat.add_sub_cancel_left] at HN2 hb
              clear htk hlt2 hp HN
              go_wp2
              refine ⟨⟨i + 1, 10 * n + d, by omega, by omega, by go_num, by go_num, by omega, HN2⟩, by simp [intOf]; omega⟩
            · have HN2 : Hid (n = digs (s.data.toList.take (i + 1)) ∧ n < 10 ^ (i + 1)) := by
                have e : n = digs (s.data.toList.take (i + 1)) := by
                  rw [htk, digs_snoc, ← HN.out.1]; unfold stepD; rw [hy, if_neg hd]
                exact ⟨e, by rw [e]; exact hlt2⟩
              clear htk hlt2 HN
              by_cases h1 : 48 ≤ y
              · have h2 : ¬ y ≤ 57 := fun h => hd ⟨h1, h⟩
                clear hd
                go_wp2
                refine ⟨⟨i + 1, n, by omega, by omega, by go_num, rfl, by omega, HN2⟩, by simp [intOf]; omega⟩
              · clear hd
                go_wp2
                refine ⟨⟨i + 1, n, by omega, by omega, by go_num, rfl, by omega, HN2⟩, by simp [intOf]; omega⟩
          · have hi2 : i = 11 := by omega
            subst hi2
            have HF : Hid ((n : Int) = r) := by show _ = _; rw [HN.out.1, ← hr.out]; unfold numM; rw [if_neg HH0.out]
            go_wp2
            go_ret
            exact ⟨ret_i64 (by have := HF.out; omega), rfl⟩
        · have HF : Hid ((n : Int) = r) := by
            show _ = _
            rw [HN.out.1, ← hr.out]; unfold numM
            rw [if_neg HH0.out]
            rw [List.take_of_length_le (by rw [← size_len]; omega), List.take_of_length_le (by rw [← size_len]; omega)]
          go_wp2
          go_ret
          exact ⟨ret_i64 (by have := HF.out; omega), rfl⟩
  · have HH0 : Hid (¬ s.data.toList.head? = some 45) := by
      show ¬ _
      have : s.data.toList = [] := List.length_eq_zero_iff.1 (by rw [← size_len]; omega)
      rw [this]; simp
    go_enter Tryz.func92, Tryz.ntmps92
    go_wp2
    go_loop [4, 5] (NumRel s) (fun _ b => 11 - (intOf b).toNat)
    case atStart => exact ⟨0, 0, Nat.zero_le _, by omega, rfl, rfl, by omega, by simp [digs], by simp⟩
    case round =>
      obtain ⟨i, n, hi, hi11, rfl, rfl, hn, HN⟩ := hrel
      by_cases hlt : i < s.size
      · exfalso; omega
      · have HF : Hid ((n : Int) = r) := by
          show _ = _
          rw [HN.out.1, ← hr.out]; unfold numM
          rw [if_neg HH0.out]
          rw [List.take_of_length_le (by rw [← size_len]; omega), List.take_of_length_le (by rw [← size_len]; omega)]
        go_wp2
        go_ret
        exact ⟨ret_i64 (by have := HF.out; omega), rfl⟩

/-- what has been read of a quoted text, up to place i -/
def QInv (s : ByteArray) (i : Nat) (l : List UInt8) : Prop := ∀ x, s.data.toList = 34 :: (quoteL x ++ [34]) → ∃ x2, x = l ++ x2 ∧ s.data.toList.drop i = quoteL x2 ++ [34]
theorem q_cons {l : List UInt8} {i : Nat} {c : UInt8} {r : List UInt8} (h : l.drop i = c :: r) : l[i]? = some c ∧ l.drop (i + 1) = r := by
  constructor
  · have := congrArg List.head? h; rw [List.head?_drop] at this; exact this
  · rw [← List.tail_drop, h]; rfl
/-- a quotation mark stands there: the next byte is taken -/
theorem q_mark {s : ByteArray} {i : Nat} {l : List UInt8} {x : UInt8} (h : QInv s i l) (hi : i + 1 < s.size) (h1 : s.data.toList[i]? = some 34) (h2 : s.data.toList[i + 1]? = some x) : QInv s (i + 2) (l ++ [x]) := by
  intro y hy
  obtain ⟨x2, e, hd⟩ := h y hy
  cases x2 with
  | nil =>
    have := congrArg List.length hd
    rw [List.length_drop, ← size_len] at this; simp [quoteL] at this; omega
  | cons c x2 =>
    by_cases hc : c = 34
    · subst hc
      rw [show quoteL (34 :: x2) = 34 :: 34 :: quoteL x2 by simp [quoteL], List.cons_append] at hd
      obtain ⟨_, hd1⟩ := q_cons hd
      rw [List.cons_append] at hd1
      obtain ⟨hx, hd2⟩ := q_cons hd1
      rw [h2] at hx
      have := Option.some.inj hx
      subst this
      exact ⟨x2, by rw [e]; simp, hd2⟩
    · rw [show quoteL (c :: x2) = c :: quoteL x2 by simp [quoteL, hc], List.cons_append] at hd
      rw [(q_cons hd).1] at h1
      exact absurd (Option.some.inj h1) hc
theorem q_plain {s : ByteArray} {i : Nat} {l : List UInt8} {x : UInt8} (h : QInv s i l) (hi : i + 1 < s.size) (h1 : s.data.toList[i]? = some x) (hx : x ≠ 34) : QInv s (i + 1) (l ++ [x]) := by
  intro y hy
  obtain ⟨x2, e, hd⟩ := h y hy
  cases x2 with
  | nil =>
    have := congrArg List.length hd
    rw [List.length_drop, ← size_len] at this; simp [quoteL] at this; omega
  | cons c x2 =>
    by_cases hc : c = 34
    · subst hc
      rw [show quoteL (34 :: x2) = 34 :: 34 :: quoteL x2 by simp [quoteL], List.cons_append] at hd
      rw [(q_cons hd).1] at h1
      exact absurd (Option.some.inj h1).symm hx
    · rw [show quoteL (c :: x2) = c :: quoteL x2 by simp [quoteL, hc], List.cons_append] at hd
      obtain ⟨hx1, hd1⟩ := q_cons hd
      rw [h1] at hx1
      have := Option.some.inj hx1
      subst this
      exact ⟨x2, by rw [e]; simp, hd1⟩
theorem q_end {s : ByteArray} {i : Nat} {l : List UInt8} (h : QInv s i l) (hi : s.size ≤ i + 1) : ∀ x, s.data.toList = 34 :: (quoteL x ++ [34]) → l = x := by
  intro x hx
  obtain ⟨x2, e, hd⟩ := h x hx
  cases x2 with
  | nil => rw [e]; simp
  | cons c x2 =>
    have := congrArg List.length hd
    rw [List.length_drop, ← size_len] at this
    have hq : 1 ≤ (quoteL (c :: x2)).length := by unfold quoteL; split <;> simp
    rw [List.length_append, List.length_singleton] at this; omega

set_option maxRecDepth 10000 in
set_option maxHeartbeats 2000000 in
theorem quoted_in (s : ByteArray) (w : World) (hs0 : 1 ≤ s.size) (hs : s.size ≤ 8000) :
    Calls Tryz.prog 100 #[.string s] w fun e w' => ∃ b : ByteArray, e = .returned (.string b) ∧ Below w.heap.size w w' ∧ b.size ≤ 8000 ∧ ∀ x, s.data.toList = 34 :: (quoteL x ++ [34]) → b.data.toList = x := by
  obtain ⟨i0, hi0, hz0, hz1, hz2⟩ := info_parts Tryz.infoB
  go_enter Tryz.func100, Tryz.ntmps100
  go_wp2
  go_loopw [3, 4] (fun u v wr => ∃ (i : Nat) (l : List UInt8), 1 ≤ i ∧ i ≤ s.size + 1 ∧ l.length + 1 ≤ i ∧ v = .int .i64 i ∧ wr.ownsRow w.heap.size 5 1 u l.length (cellsB l) ∧ Below w.heap.size w wr ∧ Hid (QInv s i l)) (fun _ v _ => s.size + 1 - (intOf v).toNat)
  case atStart =>
    refine ⟨1, [], by omega, by omega, by simp, rfl, ?_, by go_grown, fun x hx => ⟨x, rfl, by rw [hx]; rfl⟩⟩
    exact World.ownsRow_made _ _ 0 (Nat.le_refl _) (by unfold maxLen; omega) rfl
  case round =>
    obtain ⟨i, l, h1i, hi2, hll, rfl, hown, hbel, HQ⟩ := hrel
    have hszw := hbel.size
    by_cases hlt : i + 1 < s.size
    · have hlt0 : i < s.size := by omega
      have g1 := Lib.data_getElem? s i hlt0
      have g2 := Lib.data_getElem? s (i + 1) hlt
      by_cases hq : (s[i]'hlt0).toNat = 34
      · obtain ⟨x, hx⟩ : ∃ x : UInt8, s[i + 1]'hlt = x := ⟨_, rfl⟩
        obtain ⟨y, hxy⟩ : ∃ y : Nat, x.toNat = y := ⟨_, rfl⟩
        have hy : (s[i + 1]'hlt).toNat = y := by rw [hx]; exact hxy
        have hy4 : y < 256 := by rw [← hxy]; exact x.toNat_lt
        have HN : Hid (QInv s (i + 2) (l ++ [x])) := q_mark HQ.out hlt (by rw [g1]; congr 1; exact UInt8.toNat_inj.1 hq) (by rw [g2, hx])
        clear g1 g2 HQ
        go_wp2_with (first
          | (at_builtin; refine wpList_append_own _ rfl _ _ 22 rfl w.heap.size 5 i0 (.int .u8 0) 1 1 Tryz.underlying22 hi0 hz0 hz1 hz2 rfl (by decide) _ _ _ rfl (hown.alloc _) ⟨wr.heap.size, 0, none⟩ 1 1 [.int .u8 34] rfl rfl ?c1 ?c2 ?c3 ?c4 ?c5 ?_))
        case c1 =>
          intro j u hj
          match j, hj with
          | 0, hj => simp at hj; subst hj; simp [Addr.add]
        case c2 => intro u hu; simp at hu; subst hu; rfl
        case c3 => unfold maxLen; simp; omega
        case c4 => omega
        case c5 => simp; omega
        intro v' w1 hown' hgrow _
        have hb2 := (hbel.alloc hbel.size (Obj.cells #[Value.int IntKind.u8 34] 5)).grown hgrow (by have := hbel.size; simp; omega) (fun k hk => (hown.lt k hk).1)
        obtain ⟨g, cap, rfl, hgB⟩ : ∃ g cap, v' = .slice (some ⟨g, 0, none⟩) (l.length + 1) cap ∧ w.heap.size ≤ g := by
          rcases hown'.2 with ⟨_, h0⟩ | ⟨g, cap, cur, h1, h2, _⟩
          · exact absurd h0 (by omega)
          · exact ⟨g, cap, h1, h2⟩
        have hst := (hown'.stored l.length (.int .u8 y)).1
        have hcl := hown'.cellAt l.length (by omega)
        have hfz := hown'.frozenAt l.length
        have hlb : (cellsB l).length = l.length := by simp [cellsB]
        have e1 : (cellsB l ++ [Value.int .u8 34])[l.length]? = some (.int .u8 34) := by rw [List.getElem?_append_right (by omega), hlb, Nat.sub_self]; rfl
        have e2 : (cellsB l ++ [Value.int .u8 34]).set l.length (.int .u8 y) = cellsB (l ++ [x]) := by
          rw [List.set_append_right _ _ (by omega), hlb, Nat.sub_self, cells_snoc, hxy]; rfl
        rw [e1] at hcl
        rw [e2] at hst
        have hB3 := hb2.setCell (p := ⟨g, l.length, none⟩) hgB (.int .u8 y)
        have hown2 : (w1.setCell ⟨g, l.length, none⟩ (.int .u8 y)).ownsRow w.heap.size 5 1 (.slice (some ⟨g, 0, none⟩) (l.length + 1) cap) (l ++ [x]).length (cellsB (l ++ [x])) := by simpa using hst
        clear hown hown' hgrow hst hb2 hbel
        go_wp2
        go_roundw
        case rel => exact ⟨i + 2, l ++ [x], by omega, by omega, by simp; omega, by go_num, hown2, hB3, HN⟩
        case measure => simp [intOf]; omega
      · obtain ⟨x, hx⟩ : ∃ x : UInt8, s[i]'hlt0 = x := ⟨_, rfl⟩
        obtain ⟨y, hxy⟩ : ∃ y : Nat, x.toNat = y := ⟨_, rfl⟩
        have hy : (s[i]'hlt0).toNat = y := by rw [hx]; exact hxy
        have hy4 : y < 256 := by rw [← hxy]; exact x.toNat_lt
        have hy3 : ¬ y = 34 := by rw [← hy]; exact hq
        have HN : Hid (QInv s (i + 1) (l ++ [x])) := q_plain HQ.out hlt (by rw [g1, hx]) (fun e => hy3 (by rw [← hxy, e]; rfl))
        clear g1 g2 HQ hq
        go_wp2_with (first
          | (at_builtin; refine wpList_append_own _ rfl _ _ 22 rfl w.heap.size 5 i0 (.int .u8 0) 1 1 Tryz.underlying22 hi0 hz0 hz1 hz2 rfl (by decide) _ _ _ rfl (hown.alloc _) ⟨wr.heap.size, 0, none⟩ 1 1 [.int .u8 34] rfl rfl ?d1 ?d2 ?d3 ?d4 ?d5 ?_))
        case d1 =>
          intro j u hj
          match j, hj with
          | 0, hj => simp at hj; subst hj; simp [Addr.add]
        case d2 => intro u hu; simp at hu; subst hu; rfl
        case d3 => unfold maxLen; simp; omega
        case d4 => omega
        case d5 => simp; omega
        intro v' w1 hown' hgrow _
        have hb2 := (hbel.alloc hbel.size (Obj.cells #[Value.int IntKind.u8 34] 5)).grown hgrow (by have := hbel.size; simp; omega) (fun k hk => (hown.lt k hk).1)
        obtain ⟨g, cap, rfl, hgB⟩ : ∃ g cap, v' = .slice (some ⟨g, 0, none⟩) (l.length + 1) cap ∧ w.heap.size ≤ g := by
          rcases hown'.2 with ⟨_, h0⟩ | ⟨g, cap, cur, h1, h2, _⟩
          · exact absurd h0 (by omega)
          · exact ⟨g, cap, h1, h2⟩
        have hst := (hown'.stored l.length (.int .u8 y)).1
        have hcl := hown'.cellAt l.length (by omega)
        have hfz := hown'.frozenAt l.length
        have hlb : (cellsB l).length = l.length := by simp [cellsB]
        have e1 : (cellsB l ++ [Value.int .u8 34])[l.length]? = some (.int .u8 34) := by rw [List.getElem?_append_right (by omega), hlb, Nat.sub_self]; rfl
        have e2 : (cellsB l ++ [Value.int .u8 34]).set l.length (.int .u8 y) = cellsB (l ++ [x]) := by
          rw [List.set_append_right _ _ (by omega), hlb, Nat.sub_self, cells_snoc, hxy]; rfl
        rw [e1] at hcl
        rw [e2] at hst
        have hB3 := hb2.setCell (p := ⟨g, l.length, none⟩) hgB (.int .u8 y)
        have hown2 : (w1.setCell ⟨g, l.length, none⟩ (.int .u8 y)).ownsRow w.heap.size 5 1 (.slice (some ⟨g, 0, none⟩) (l.length + 1) cap) (l ++ [x]).length (cellsB (l ++ [x])) := by simpa using hst
        clear hown hown' hgrow hst hb2 hbel
        go_wp2
        go_roundw
        case rel => exact ⟨i + 1, l ++ [x], by omega, by omega, by simp; omega, by go_num, hown2, hB3, HN⟩
        case measure => simp [intOf]; omega
    · have hcv := conv_own hown
      obtain ⟨b, hb⟩ := hide (⟨l.toArray⟩ : ByteArray)
      rw [hb.out] at hcv
      have HF : Hid (b.size ≤ 8000 ∧ ∀ x, s.data.toList = 34 :: (quoteL x ++ [34]) → b.data.toList = x) := by
        constructor
        · rw [size_len, ← hb.out, data_mk]; omega
        · intro x hx; rw [← hb.out, data_mk]; exact q_end HQ.out (by omega) x hx
      clear hown
      go_wp2
      go_ret
      exact ⟨b, rfl, hbel, HF.out.1, HF.out.2⟩
end Go.Proofs.YtphdkhdlgcglpaaGreatDoor.RdS
/- The model cuts a text at its commas. -/
namespace Go.Proofs.YtphdkhdlgcglpaaGreatDoor.RdS
open Go.RowKit
open ValM ValW ValS ValI TxtM RdM TxtS

def strs (ps : List ByteArray) : List Value := ps.map Value.string
def glue (p : List UInt8) : List (List UInt8) → List (List UInt8)
  | [] => [p]
  | x :: r => (p ++ x) :: r
theorem glue_nil (l : List UInt8) : glue [] (splitC l) = splitC l := by
  obtain ⟨x, r, e⟩ := splitC_some l
  rw [e]; rfl
theorem glue_comma (p l : List UInt8) : glue p (splitC (44 :: l)) = p :: splitC l := by
  rw [splitC_comma]; simp [glue]
theorem glue_more (p : List UInt8) (c : UInt8) (l : List UInt8) (h : c ≠ 44) : glue p (splitC (c :: l)) = glue (p ++ [c]) (splitC l) := by
  obtain ⟨x, r, e⟩ := splitC_some l
  rw [splitC_cons c l h x r e, e]; simp [glue]
/-- the bytes from one place to another -/
def cutL (s : ByteArray) (a b : Nat) : List UInt8 := (s.data.toList.take b).drop a
theorem cut_data (s : ByteArray) (a b : Nat) : (s.extract a b).data.toList = cutL s a b := by
  rw [Lib.extract_data, cutL, List.drop_take]
theorem cut_self (s : ByteArray) (a : Nat) : cutL s a a = [] := by
  unfold cutL; rw [List.drop_eq_nil_of_le (by simp; omega)]
theorem cut_snoc (s : ByteArray) (a b : Nat) (h : a ≤ b) (hb : b < s.size) : cutL s a (b + 1) = cutL s a b ++ [s[b]'hb] := by
  unfold cutL
  have hl : b < s.data.toList.length := by rw [← size_len]; exact hb
  rw [List.take_add_one, List.getElem?_eq_getElem hl]
  simp only [Option.toList_some]
  rw [List.drop_append_of_le_length (by simp; omega)]
  congr 1
theorem drop_at (s : ByteArray) (i : Nat) (h : i < s.size) : s.data.toList.drop i = s[i]'h :: s.data.toList.drop (i + 1) := by
  have hl : i < s.data.toList.length := by rw [← size_len]; exact h
  rw [List.drop_eq_getElem_cons hl]; congr 1
theorem Tryz.infoT : (Tryz.prog.info? 9).map (fun i => (i.zero, i.size, i.bytes)) = some (some (.string ByteArray.empty), 1, 16) := by kernel_rfl

def SInv (s : ByteArray) (ps : List ByteArray) (a i : Nat) : Prop := splitC s.data.toList = ps.map (·.data.toList) ++ glue (cutL s a i) (splitC (s.data.toList.drop i)) ∧ ∀ p ∈ ps, p.size ≤ s.size
theorem s_start (s : ByteArray) : SInv s [] 0 0 := ⟨by rw [cut_self]; simp [glue_nil], fun p hp => by cases hp⟩
theorem s_comma {s : ByteArray} {ps : List ByteArray} {a i : Nat} (h : SInv s ps a i) (hi : i < s.size) (hc : s[i]'hi = 44) : SInv s (ps ++ [s.extract a i]) (i + 1) (i + 1) := by
  refine ⟨?_, fun p hp => ?_⟩
  · rw [h.1, drop_at s i hi, hc, glue_comma, cut_self, glue_nil, List.map_append]
    simp only [List.map_cons, List.map_nil, cut_data, List.append_assoc, List.cons_append, List.nil_append]
  · rcases List.mem_append.1 hp with hp | hp
    · exact h.2 p hp
    · rw [List.mem_singleton.1 hp]; simp; omega
theorem s_more {s : ByteArray} {ps : List ByteArray} {a i : Nat} (h : SInv s ps a i) (ha : a ≤ i) (hi : i < s.size) (hc : s[i]'hi ≠ 44) : SInv s ps a (i + 1) := by
  refine ⟨?_, h.2⟩
  rw [h.1, drop_at s i hi, glue_more _ _ _ hc, cut_snoc s a i ha hi]
theorem s_end {s : ByteArray} {ps : List ByteArray} {a i : Nat} (h : SInv s ps a i) (hi : s.size ≤ i) : (ps ++ [s.extract a s.size]).map (·.data.toList) = splitC s.data.toList ∧ ∀ p ∈ ps ++ [s.extract a s.size], p.size ≤ s.size := by
  refine ⟨?_, fun p hp => ?_⟩
  · rw [h.1, List.drop_eq_nil_of_le (by rw [← size_len]; exact hi), List.map_append]
    simp only [List.map_cons, List.map_nil, cut_data]
    congr 1
    unfold cutL
    rw [List.take_of_length_le (by rw [← size_len]; omega), List.take_of_length_le (by rw [← size_len]; omega)]
    simp [splitC, glue]
  · rcases List.mem_append.1 hp with hp | hp
    · exact h.2 p hp
    · rw [List.mem_singleton.1 hp]; simp

set_option maxRecDepth 10000 in
set_option maxHeartbeats 2000000 in
theorem split_in (s : ByteArray) (w : World) (hs : s.size ≤ 8000) :
    Calls Tryz.prog 101 #[.string s, .int .u8 44] w fun e w' => ∃ v ps, e = .returned v ∧ w'.ownsRow w.heap.size 9 1 v ps.length (strs ps) ∧ Below w.heap.size w w' ∧ ps.length ≤ 8001 ∧ ps.map (·.data.toList) = splitC s.data.toList ∧ ∀ p ∈ ps, p.size ≤ s.size := by
  obtain ⟨i0, hi0, hz0, hz1, hz2⟩ := info_parts Tryz.infoT
  go_enter Tryz.func101, Tryz.ntmps101
  go_wp2
  go_loopw [5, 6, 7] (fun u f v wr => ∃ (ps : List ByteArray) (a i : Nat), a ≤ i ∧ i ≤ s.size ∧ ps.length ≤ i ∧ f = .int .i64 a ∧ v = .int .i64 i ∧ wr.ownsRow w.heap.size 9 1 u ps.length (strs ps) ∧ Below w.heap.size w wr ∧ Hid (SInv s ps a i)) (fun _ _ v _ => s.size - (intOf v).toNat)
  case atStart =>
    refine ⟨[], 0, 0, by omega, by omega, by simp, rfl, rfl, ?_, by go_grown, s_start s⟩
    exact World.ownsRow_made _ _ 0 (Nat.le_refl _) (by unfold maxLen; omega) rfl
  case round =>
    obtain ⟨ps, a, i, hai, his, hpl, rfl, rfl, hown, hbel, HS⟩ := hrel
    have hszw := hbel.size
    by_cases hlt : i < s.size
    · by_cases hc : (s[i]'hlt).toNat = 44
      · have HN : Hid (SInv s (ps ++ [s.extract a i]) (i + 1) (i + 1)) := s_comma HS.out hlt (UInt8.toNat_inj.1 hc)
        obtain ⟨x, hx⟩ : ∃ x : ByteArray, s.extract a i = x := ⟨_, rfl⟩
        rw [hx] at HN
        clear HS
        go_wp2_with (first
          | (at_builtin; refine wpList_append_own _ rfl _ _ 32 rfl w.heap.size 9 i0 (.string ByteArray.empty) 1 16 Tryz.underlying32 hi0 hz0 hz1 hz2 rfl (by decide) _ _ _ rfl (hown.alloc _) ⟨wr.heap.size, 0, none⟩ 1 1 [.string x] rfl rfl ?c1 ?c2 ?c3 ?c4 ?c5 ?_))
        case c1 =>
          intro j u hj
          match j, hj with
          | 0, hj => simp at hj; subst hj; simp [Addr.add]
        case c2 => intro u hu; simp at hu; subst hu; rfl
        case c3 => unfold maxLen; simp; omega
        case c4 => omega
        case c5 => simp; omega
        intro v' w1 hown' hgrow _
        have hb2 := (hbel.alloc hbel.size (Obj.cells #[Value.string x] 9)).grown hgrow (by simp; omega) (fun k hk => (hown.lt k hk).1)
        have hown2 : w1.ownsRow w.heap.size 9 1 v' (ps ++ [x]).length (strs (ps ++ [x])) := by
          unfold strs; rw [List.map_append]; simpa [strs] using hown'
        clear hown hown' hgrow hbel
        go_wp2
        go_roundw
        case rel => exact ⟨ps ++ [x], i + 1, i + 1, by omega, by omega, by simp; omega, by go_num, by go_num, hown2, hb2, HN⟩
        case measure => simp [intOf]; omega
      · have HN : Hid (SInv s ps a (i + 1)) := s_more HS.out hai hlt (fun e => hc (by rw [e]; rfl))
        clear HS
        go_wp2
        go_roundw
        case rel => exact ⟨ps, a, i + 1, by omega, by omega, by omega, rfl, by go_num, hown, hbel, HN⟩
        case measure => simp [intOf]; omega
    · have HN := s_end HS.out (by omega)
      obtain ⟨x, hx⟩ : ∃ x : ByteArray, s.extract a s.size = x := ⟨_, rfl⟩
      rw [hx] at HN
      have HN2 : Hid ((ps ++ [x]).map (·.data.toList) = splitC s.data.toList ∧ ∀ p ∈ ps ++ [x], p.size ≤ s.size) := HN
      clear HS HN
      go_wp2_with (first
        | (at_builtin; refine wpList_append_own _ rfl _ _ 32 rfl w.heap.size 9 i0 (.string ByteArray.empty) 1 16 Tryz.underlying32 hi0 hz0 hz1 hz2 rfl (by decide) _ _ _ rfl (hown.alloc _) ⟨wr.heap.size, 0, none⟩ 1 1 [.string x] rfl rfl ?d1 ?d2 ?d3 ?d4 ?d5 ?_))
      case d1 =>
        intro j u hj
        match j, hj with
        | 0, hj => simp at hj; subst hj; simp [Addr.add]
      case d2 => intro u hu; simp at hu; subst hu; rfl
      case d3 => unfold maxLen; simp; omega
      case d4 => omega
      case d5 => simp; omega
      intro v' w1 hown' hgrow _
      have hb2 := (hbel.alloc hbel.size (Obj.cells #[Value.string x] 9)).grown hgrow (by simp; omega) (fun k hk => (hown.lt k hk).1)
      have hown2 : w1.ownsRow w.heap.size 9 1 v' (ps ++ [x]).length (strs (ps ++ [x])) := by
        unfold strs; rw [List.map_append]; simpa [strs] using hown'
      clear hown hown' hgrow hbel
      go_wp2
      go_ret
      exact ⟨v', ps ++ [x], rfl, hown2, hb2, by simp; omega, HN2.out.1, HN2.out.2⟩
end Go.Proofs.YtphdkhdlgcglpaaGreatDoor.RdS
