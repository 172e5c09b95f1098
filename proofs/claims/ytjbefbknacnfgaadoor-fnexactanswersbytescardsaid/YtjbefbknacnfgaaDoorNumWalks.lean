/- What PutNum of the program and of the model answers, as one plain function of the number; both make new memory alone. -/
import Derived.Test.YtjbefbknacnfgaaDoorProg
import Derived.Test.YtjbefbknacnfgaaDoorNumMath
import Derived.WalkKit
import Derived.WalkSpells
import Derived.WalkLawsBesides
import Derived.Laws.IdiomStrings
namespace Go.Proofs.YtjbefbknacnfgaaDoor.NumW
open Go.RowKit

theorem ret_int {k : IntKind} {a b : Int} (h : a = b) : Ending.returned (.int k a) = .returned (.int k b) := by rw [h]
theorem xor_ones64 (r : Nat) (h : r < 18446744073709551616) : 18446744073709551615 ^^^ r = 18446744073709551615 - r := by
  have e : 18446744073709551615 - r = ((~~~ (BitVec.ofNat 64 r)).toNat) := by
    rw [BitVec.toNat_not, BitVec.toNat_ofNat, Nat.mod_eq_of_lt h]
  have e2 : 18446744073709551615 ^^^ r = ((BitVec.ofNat 64 r) ^^^ (BitVec.allOnes 64)).toNat := by
    rw [BitVec.toNat_xor, BitVec.toNat_ofNat, BitVec.toNat_allOnes, Nat.mod_eq_of_lt h, Nat.xor_comm]
  rw [e, e2, BitVec.xor_allOnes]
theorem wrap_u64 (n : Int) : IntKind.u64.wrap n = n % 18446744073709551616 := by simp [IntKind.wrap, IntKind.bits, IntKind.signed]
theorem fold_neg (n : Int) (h1 : -9223372036854775808 ≤ n) (h : n < 0) :
    bits BinOp.xor IntKind.u64 IntKind.u64.max (IntKind.u64.wrap (IntKind.u64.wrap n * 2)) = (NumM.foldN n : Int) := by
  rw [wrap_u64, wrap_u64]
  have e : n % 18446744073709551616 * 2 % 18446744073709551616 = ((2 * n + 18446744073709551616).toNat : Int) := by omega
  rw [e]
  have := u64_xor_nat 18446744073709551615 (2 * n + 18446744073709551616).toNat (by omega) (by omega)
  rw [xor_ones64 _ (by omega)] at this
  have e2 : IntKind.u64.max = ((18446744073709551615 : Nat) : Int) := by decide
  rw [e2, this]
  unfold NumM.foldN; rw [if_pos h]; omega

set_option maxHeartbeats 400000 in
theorem spec_fold (n : Int) (w : World) (h1 : -9223372036854775808 ≤ n) (h2 : n ≤ 9223372036854775807) :
    Calls Tryd.prog 24 #[.int .i64 n] w fun e w' => e = .returned (.int .u64 (NumM.foldN n)) ∧ w = w' := by
  by_cases h : n < 0
  · go_enter Tryd.func24, Tryd.ntmps24
    go_wp2
    go_ret
    exact ⟨ret_int (by unfold NumM.foldN; rw [if_pos h]; omega), rfl⟩
  · go_enter Tryd.func24, Tryd.ntmps24
    go_wp2
    go_ret
    exact ⟨ret_int (by unfold NumM.foldN; rw [if_neg (by omega)]; omega), rfl⟩
set_option maxHeartbeats 400000 in
theorem impl_fold (n : Int) (w : World) (h1 : -9223372036854775808 ≤ n) (h2 : n ≤ 9223372036854775807) :
    Calls Tryd.prog 30 #[.int .i64 n] w fun e w' => e = .returned (.int .u64 (NumM.foldN n)) ∧ w = w' := by
  by_cases hn : n < 0
  · go_enter Tryd.func30, Tryd.ntmps30
    go_wp2
    go_ret
    exact ⟨ret_int (fold_neg n h1 hn), rfl⟩
  · go_enter Tryd.func30, Tryd.ntmps30
    go_wp2
    go_ret
    exact ⟨ret_int (by unfold NumM.foldN; rw [if_neg (by omega)]; omega), rfl⟩

theorem Tryd.infoB : (Tryd.prog.info? 5).map (fun i => (i.zero, i.size, i.bytes)) = some (some (.int .u8 0), 1, 1) := by kernel_rfl
def cellsB (l : List UInt8) : List Value := l.map (fun b => Value.int .u8 (b.toNat : Int))

theorem ret_str {a b : List UInt8} (h : a = b) : Ending.returned (.string ⟨a.toArray⟩) = .returned (.string ⟨b.toArray⟩) := by rw [h]
theorem cells_snoc (l : List UInt8) (x : Nat) (h : x < 256) : cellsB (l ++ [UInt8.ofNat x]) = cellsB l ++ [.int .u8 x] := by
  unfold cellsB; rw [List.map_append]
  have : (UInt8.ofNat x).toNat = x := by simp; omega
  simp [this]
theorem conv_own {w : World} {base n : Nat} {v : Value} {l : List UInt8} (h : w.ownsRow base 5 1 v n (cellsB l)) :
    (convert 50 9 v).run Tryd.prog w = .ok (.string ⟨l.toArray⟩) w := by
  obtain ⟨hl, hv⟩ := h
  have hn : n = l.length := by unfold cellsB at hl; simp at hl; omega
  subst hn
  rcases hv with ⟨rfl, h0⟩ | ⟨g, cap, cur, rfl, _, hg, hc, _, hs, ht⟩
  · have : l = [] := List.length_eq_zero_iff.1 h0
    subst this
    rw [run_convert_bytes_string w 50 9 5 none 0 0 Tryd.underlying50 Tryd.underlying5 Tryd.underlying9]
    simp [Conv.bytesToString, Sem.run_pure]; rfl
  · refine run_convert_bytes_back w 50 9 5 _ cap l Tryd.underlying50 Tryd.underlying5 Tryd.underlying9 ?_
    intro j hj
    have e : (cellsB l)[j]? = some (.int .u8 (l[j].toNat : Int)) := by unfold cellsB; simp [hj]
    rw [← ht] at e
    have e2 : cur[j]? = some (.int .u8 (l[j].toNat : Int)) := by
      rw [List.getElem?_take] at e
      split at e
      · simpa using e
      · cases e
    have hplain : (⟨g, 0, none⟩ : Addr).add j = ⟨g, j, none⟩ := by unfold Addr.add; split <;> simp_all
    rw [hplain]; simp [World.cell?, hg, e2]

set_option maxRecDepth 10000 in
set_option maxHeartbeats 400000 in
theorem spec_put (n : Int) (w : World) (h1 : -9223372036854775808 ≤ n) (h2 : n ≤ 9223372036854775807) :
    Calls Tryd.prog 11 #[.int .i64 n] w fun e w' => e = .returned (.string ⟨(NumM.putL n).toArray⟩) ∧ Below w.heap.size w w' := by
  have hf := NumM.foldN_lt n h1 h2
  have hat := NumM.at_start n h1 h2
  go_enter Tryd.func11, Tryd.ntmps11
  go_wp2_with (go_at_call 24; refine (spec_fold _ _ h1 h2).mono ?_; rintro e w' ⟨rfl, rfl⟩)
  generalize NumM.foldN n = u0 at *
  obtain ⟨i0, hi, hz0, hz1, hz2⟩ := info_parts Tryd.infoB
  go_loopw [3, 4] (fun u v wr => ∃ (x : Nat) (l : List UInt8), u = .int .u64 x ∧ x < 18446744073709551616 ∧ wr.ownsRow w.heap.size 5 1 v l.length (cellsB l) ∧ Below w.heap.size w wr ∧ Hid (NumM.At n l x))
    (fun u _ _ => (intOf u).toNat)
  case atStart => exact ⟨u0, [], rfl, hf, World.ownsRow_made _ _ 0 (Nat.le_refl _) (by unfold maxLen; omega) rfl, (Below.refl _ _).alloc (Nat.le_refl _) _, hat⟩
  case round =>
    obtain ⟨x, l, rfl, hx, hown, hbel, hA⟩ := hrel
    have hll := NumM.at_len n l x hA.out
    have hsz := hbel.size
    by_cases hlt : x < 128
    · go_wp2_with (first
        | (at_builtin; refine wpList_append_own _ rfl _ _ 50 rfl w.heap.size 5 i0 (.int .u8 0) 1 1 Tryd.underlying50 hi hz0 hz1 hz2 rfl (by decide) _ _ _ rfl (hown.alloc _) ⟨wr.heap.size, 0, none⟩ 1 1 [.int .u8 x] rfl rfl ?c1 ?c2 ?c3 ?c4 ?c5 ?_))
      case c1 =>
        intro j u hj
        match j, hj with
        | 0, hj => simp at hj; subst hj; simp [Addr.add]
      case c2 => intro u hu; simp at hu; subst hu; rfl
      case c3 => unfold maxLen; omega
      case c4 => omega
      case c5 => simp; omega
      intro v' w1 hown' hgrow _
      have hcv := conv_own (l := l ++ [UInt8.ofNat x]) (by rw [cells_snoc l x (by omega)]; exact hown')
      have hb2 := (hbel.alloc hsz (Obj.cells #[Value.int IntKind.u8 x] 5)).grown hgrow (by simp; omega) (fun k hk => (hown.lt k hk).1)
      have HF : Hid (NumM.putL n = l ++ [UInt8.ofNat x]) := NumM.at_end n l x hA.out hlt
      clear hown hown' hgrow
      go_wp2
      go_ret
      exact ⟨ret_str HF.out.symm, hb2⟩
    · go_wp2_with (first
        | (at_builtin; refine wpList_append_own _ rfl _ _ 50 rfl w.heap.size 5 i0 (.int .u8 0) 1 1 Tryd.underlying50 hi hz0 hz1 hz2 rfl (by decide) _ _ _ rfl (hown.alloc _) ⟨wr.heap.size, 0, none⟩ 1 1 [.int .u8 ((x : Int) % 128 + 128)] rfl rfl ?d1 ?d2 ?d3 ?d4 ?d5 ?_))
      case d1 =>
        intro j u hj
        match j, hj with
        | 0, hj => simp at hj; subst hj; simp [Addr.add]
      case d2 => intro u hu; simp at hu; subst hu; rfl
      case d3 => unfold maxLen; omega
      case d4 => omega
      case d5 => simp; omega
      intro v' w1 hown' hgrow _
      have hown2 : w1.ownsRow w.heap.size 5 1 v' (l ++ [UInt8.ofNat (x % 128 + 128)]).length (cellsB (l ++ [UInt8.ofNat (x % 128 + 128)])) := by
        rw [cells_snoc l _ (by omega)]; simpa using hown'
      have hb2 := (hbel.alloc hsz (Obj.cells #[Value.int IntKind.u8 ((x : Int) % 128 + 128)] 5)).grown hgrow (by simp; omega) (fun k hk => (hown.lt k hk).1)
      have HF : Hid (NumM.At n (l ++ [UInt8.ofNat (x % 128 + 128)]) (x / 128)) := NumM.at_more n l x hA.out hlt
      clear hown hown' hgrow
      go_wp2
      go_roundw
      case rel => exact ⟨x / 128, _, by go_num, by omega, hown2, hb2, HF⟩
      case measure => simp [intOf]; omega

theorem and127 (x : Nat) (hx : x < 18446744073709551616) : bits .and .u64 (x : Int) 127 = (x : Int) % 128 := by
  have := u64_and_nat x 127 hx (by omega)
  rw [nat_mask7] at this; exact this

set_option maxRecDepth 10000 in
set_option maxHeartbeats 400000 in
theorem impl_put (n : Int) (w : World) (h1 : -9223372036854775808 ≤ n) (h2 : n ≤ 9223372036854775807) :
    Calls Tryd.prog 16 #[.int .i64 n] w fun e w' => e = .returned (.string ⟨(NumM.putL n).toArray⟩) ∧ Below w.heap.size w w' := by
  have hf := NumM.foldN_lt n h1 h2
  have hat := NumM.at_start n h1 h2
  go_enter Tryd.func16, Tryd.ntmps16
  go_wp2_with (go_at_call 30; refine (impl_fold _ _ h1 h2).mono ?_; rintro e w' ⟨rfl, rfl⟩)
  generalize NumM.foldN n = u0 at *
  obtain ⟨i0, hi, hz0, hz1, hz2⟩ := info_parts Tryd.infoB
  go_loopw [3, 4] (fun u v wr => ∃ (x : Nat) (l : List UInt8), u = .int .u64 x ∧ x < 18446744073709551616 ∧ wr.ownsRow w.heap.size 5 1 v l.length (cellsB l) ∧ Below w.heap.size w wr ∧ Hid (NumM.At n l x))
    (fun u _ _ => (intOf u).toNat)
  case atStart => exact ⟨u0, [], rfl, hf, World.ownsRow_nil _ _ _ _, Below.refl _ _, hat⟩
  case round =>
    obtain ⟨x, l, rfl, hx, hown, hbel, hA⟩ := hrel
    have hll := NumM.at_len n l x hA.out
    have hsz := hbel.size
    have hmask := and127 x hx
    by_cases hlt : x < 128
    · go_wp2_with (first
        | (at_builtin; refine wpList_append_own _ rfl _ _ 50 rfl w.heap.size 5 i0 (.int .u8 0) 1 1 Tryd.underlying50 hi hz0 hz1 hz2 rfl (by decide) _ _ _ rfl (hown.alloc _) ⟨wr.heap.size, 0, none⟩ 1 1 [.int .u8 x] rfl rfl ?c1 ?c2 ?c3 ?c4 ?c5 ?_))
      case c1 =>
        intro j u hj
        match j, hj with
        | 0, hj => simp at hj; subst hj; simp [Addr.add]
      case c2 => intro u hu; simp at hu; subst hu; rfl
      case c3 => unfold maxLen; omega
      case c4 => omega
      case c5 => simp; omega
      intro v' w1 hown' hgrow _
      have hcv := conv_own (l := l ++ [UInt8.ofNat x]) (by rw [cells_snoc l x (by omega)]; exact hown')
      have hb2 := (hbel.alloc hsz (Obj.cells #[Value.int IntKind.u8 x] 5)).grown hgrow (by simp; omega) (fun k hk => (hown.lt k hk).1)
      have HF : Hid (NumM.putL n = l ++ [UInt8.ofNat x]) := NumM.at_end n l x hA.out hlt
      clear hown hown' hgrow
      go_wp2
      go_ret
      exact ⟨ret_str HF.out.symm, hb2⟩
    · go_wp2_with (first
        | (at_builtin; refine wpList_append_own _ rfl _ _ 50 rfl w.heap.size 5 i0 (.int .u8 0) 1 1 Tryd.underlying50 hi hz0 hz1 hz2 rfl (by decide) _ _ _ rfl (hown.alloc _) ⟨wr.heap.size, 0, none⟩ 1 1 [.int .u8 ((x : Int) % 128 + 128)] rfl rfl ?d1 ?d2 ?d3 ?d4 ?d5 ?_))
      case d1 =>
        intro j u hj
        match j, hj with
        | 0, hj => simp at hj; subst hj; simp [Addr.add]
      case d2 => intro u hu; simp at hu; subst hu; rfl
      case d3 => unfold maxLen; omega
      case d4 => omega
      case d5 => simp; omega
      intro v' w1 hown' hgrow _
      have hown2 : w1.ownsRow w.heap.size 5 1 v' (l ++ [UInt8.ofNat (x % 128 + 128)]).length (cellsB (l ++ [UInt8.ofNat (x % 128 + 128)])) := by
        rw [cells_snoc l _ (by omega)]; simpa using hown'
      have hb2 := (hbel.alloc hsz (Obj.cells #[Value.int IntKind.u8 ((x : Int) % 128 + 128)] 5)).grown hgrow (by simp; omega) (fun k hk => (hown.lt k hk).1)
      have HF : Hid (NumM.At n (l ++ [UInt8.ofNat (x % 128 + 128)]) (x / 128)) := NumM.at_more n l x hA.out hlt
      clear hown hown' hgrow
      go_wp2
      go_roundw
      case rel => exact ⟨x / 128, _, by go_num, by omega, hown2, hb2, HF⟩
      case measure => simp [intOf]; omega
end Go.Proofs.YtjbefbknacnfgaaDoor.NumW
