/- The model's source of draws, made of bytes that came in; small draws of bools, edges and bytes: bounds alone. -/
import Derived.Test.YtaflijmbbdcchaaDoorDrawWalks
import Derived.Test.YtaflijmbbdcchaaDoorLaidWalks
import Derived.Laws.IdiomStrings
namespace Go.Proofs.YtaflijmbbdcchaaDoor.DrawW
open Go.RowKit

/-- the source, and the bytes that it draws from -/
def Dr (w : World) (B : Nat) (a : Option Addr) (len cap : Nat) : Prop := Src w B a len cap ∧ CodeAt w B a len
theorem CodeAt.kept {w w' : World} {B : Nat} {a : Option Addr} {len : Nat} (h : CodeAt w B a len) (hg : ∀ k, k < B → w'.heap[k]? = w.heap[k]?) : CodeAt w' B a len := by
  refine ⟨h.1, fun hp => ?_⟩
  obtain ⟨b, off, ha, hb, hz⟩ := h.2 hp
  refine ⟨b, off, ha, hb, fun i hi => ?_⟩
  obtain ⟨z, hz1, hz2⟩ := hz i hi
  exact ⟨z, hz1, by rw [World.cell?_of_block (w := w) (hg b hb)]; exact hz2⟩
theorem Src.lt {w : World} {B : Nat} {a : Option Addr} {len cap : Nat} (h : Src w B a len cap) : B < w.heap.size := by
  obtain ⟨k, mix, size, hh, _⟩ := h
  exact (Array.getElem?_eq_some_iff.1 hh).1
theorem Dr.lt {w : World} {B : Nat} {a : Option Addr} {len cap : Nat} (h : Dr w B a len cap) : B < w.heap.size := h.1.lt
theorem Dr.kept {w w' : World} {B : Nat} {a : Option Addr} {len cap : Nat} (h : Dr w B a len cap) (hg : ∀ k, k ≤ B → w'.heap[k]? = w.heap[k]?) : Dr w' B a len cap := by
  obtain ⟨⟨k, mix, size, hh, r⟩, hc⟩ := h
  exact ⟨⟨k, mix, size, by rw [hg B (Nat.le_refl _)]; exact hh, r⟩, hc.kept (fun k hk => hg k (by omega))⟩
theorem Dr.alloc {w : World} {B : Nat} {a : Option Addr} {len cap : Nat} (h : Dr w B a len cap) (o : Obj) : Dr (w.alloc o) B a len cap :=
  h.kept (fun k hk => Below.heap_alloc w o k (Nat.lt_of_le_of_lt hk h.lt))
theorem Dr.grown {w w' : World} {B : Nat} {a : Option Addr} {len cap : Nat} (h : Dr w B a len cap) (hs : Src w' B a len cap) (hg : w.grownBy w' (some B)) : Dr w' B a len cap :=
  ⟨hs, h.2.kept (fun k hk => hg.block k (Nat.lt_trans hk h.lt) (by intro e; cases e; omega))⟩

theorem n_any (B : Nat) (most : Int) (w : World) (a : Option Addr) (len cap : Nat) (hd : Dr w B a len cap) (h2 : most ≤ 9223372036854775807) :
    Calls Tryd.prog 29 #[.pointer (some ⟨B, 0, none⟩), .int .i64 most] w fun e w' =>
      ∃ r : Nat, e = .returned (.int .i64 r) ∧ ((r : Int) < most ∨ r = 0) ∧ Dr w' B a len cap ∧ w.grownBy w' (some B) := by
  by_cases h : most ≤ 1
  · refine (n_small B most w h).mono ?_
    rintro e w' ⟨rfl, rfl⟩
    exact ⟨0, rfl, Or.inr rfl, hd, ⟨rfl, rfl, rfl, Nat.le_refl _, fun _ _ _ => rfl⟩⟩
  · refine (n_in B most w a len cap hd.1 hd.2 h h2).mono ?_
    rintro e w' ⟨r, rfl, hr, hs, hg⟩
    exact ⟨r, rfl, Or.inl hr, hd.grown hs hg, hg⟩

theorem one_any (B : Nat) (most : Int) (w : World) (a : Option Addr) (len cap : Nat) (hd : Dr w B a len cap) (h2 : most ≤ 9223372036854775807) :
    Calls Tryd.prog 28 #[.pointer (some ⟨B, 0, none⟩), .int .i64 most] w fun e w' =>
      ∃ b : Bool, e = .returned (.bool b) ∧ Dr w' B a len cap ∧ w.grownBy w' (some B) := by
  have HD : Hid (Dr w B a len cap) := hd
  clear hd
  go_enter Tryd.func28, Tryd.ntmps28
  go_wp2_with fail
  refine (n_any B most _ a len cap HD.out h2).mono ?_
  rintro e w1 ⟨r, rfl, _, hd1, hg⟩
  have HD1 : Hid (Dr w1 B a len cap) := hd1
  have HG : Hid (w.grownBy w1 (some B)) := hg
  clear hd1 hg
  go_wp2
  go_ret
  exact ⟨_, rfl, HD1.out, HG.out⟩

def edges : List Int := [0, 1, -1, 2, 1000, 1001, 2147483648, 2147483647, -2147483648, 4611686018427387904, 9223372036854775807, -9223372036854775808, 1000000, 1000001]
theorem edges_in : ∀ v ∈ edges, -9223372036854775808 ≤ v ∧ v ≤ 9223372036854775807 := by decide
theorem wrap_bound (n : Int) : 0 ≤ IntKind.u64.wrap n ∧ IntKind.u64.wrap n < 18446744073709551616 := by
  simp [IntKind.wrap, IntKind.bits, IntKind.signed]; omega
theorem edges_mem : ∀ r, r < 14 → edges.getD r 0 ∈ edges := by decide
theorem edge_cell (r : Nat) (h : r < 14) : (#[Value.int IntKind.i64 0, Value.int IntKind.i64 1, Value.int IntKind.i64 (-1), Value.int IntKind.i64 2,
      Value.int IntKind.i64 1000, Value.int IntKind.i64 1001, Value.int IntKind.i64 2147483648, Value.int IntKind.i64 2147483647, Value.int IntKind.i64 (-2147483648),
      Value.int IntKind.i64 4611686018427387904, Value.int IntKind.i64 9223372036854775807, Value.int IntKind.i64 (-9223372036854775808), Value.int IntKind.i64 1000000, Value.int IntKind.i64 1000001] : Array Value)[r]? =
    some (.int .i64 (edges.getD r 0)) := by
  match r, h with
  | 0, _ => rfl
  | 1, _ => rfl
  | 2, _ => rfl
  | 3, _ => rfl
  | 4, _ => rfl
  | 5, _ => rfl
  | 6, _ => rfl
  | 7, _ => rfl
  | 8, _ => rfl
  | 9, _ => rfl
  | 10, _ => rfl
  | 11, _ => rfl
  | 12, _ => rfl
  | 13, _ => rfl

set_option maxRecDepth 10000 in
set_option maxHeartbeats 400000 in
theorem edge_any (B : Nat) (w : World) (a : Option Addr) (len cap : Nat) (hd : Dr w B a len cap) :
    Calls Tryd.prog 37 #[.pointer (some ⟨B, 0, none⟩)] w fun e w' =>
      ∃ v : Int, e = .returned (.int .i64 v) ∧ -9223372036854775808 ≤ v ∧ v ≤ 9223372036854775807 ∧ Dr w' B a len cap ∧ w.grownBy w' (some B) := by
  have HD : Hid (Dr w B a len cap) := hd
  clear hd
  go_enter Tryd.func37, Tryd.ntmps37
  go_wp2_with fail
  refine (n_any B 14 _ a len cap (HD.out.alloc _) (by omega)).mono ?_
  rintro e w1 ⟨r, rfl, hr, hd1, hg⟩
  have hr14 : r < 14 := by omega
  have hlt := HD.out.lt
  have hcell : w1.cell? ⟨w.heap.size, r, none⟩ = some (.int .i64 (edges.getD r 0)) := by
    rw [hg.cell (a := ⟨w.heap.size, r, none⟩) (v := .int .i64 (edges.getD r 0)) ?_ (by intro e; exact absurd (Option.some.inj e : w.heap.size = B) (by omega))]
    rw [World.cell?_alloc_at _ _ _ _ rfl]
    exact edge_cell r hr14
  have hb := edges_in (edges.getD r 0) (edges_mem r hr14)
  have HD1 : Hid (Dr w1 B a len cap) := hd1
  have HG : Hid (w.grownBy w1 (some B)) := grown_trans (World.grownBy_alloc _ _ _) hg
  generalize edges.getD r 0 = v at *
  clear hd1 hg hr
  go_wp2
  go_ret
  exact ⟨v, rfl, hb.1, hb.2, HD1.out, HG.out⟩

set_option maxHeartbeats 400000 in
theorem any_any (B : Nat) (w : World) (a : Option Addr) (len cap : Nat) (hd : Dr w B a len cap) :
    Calls Tryd.prog 23 #[.pointer (some ⟨B, 0, none⟩)] w fun e w' =>
      ∃ v : Int, e = .returned (.int .i64 v) ∧ -9223372036854775808 ≤ v ∧ v ≤ 9223372036854775807 ∧ Dr w' B a len cap ∧ w.grownBy w' (some B) := by
  have HD : Hid (Dr w B a len cap) := hd
  clear hd
  go_enter Tryd.func23, Tryd.ntmps23
  go_wp2_with fail
  refine (one_any B 4 _ a len cap HD.out (by omega)).mono ?_
  rintro e w1 ⟨b, rfl, hd1, hg1⟩
  have HD1 : Hid (Dr w1 B a len cap) := hd1
  have HG1 : Hid (w.grownBy w1 (some B)) := hg1
  clear hd1 hg1
  cases b
  · go_wp2_with fail
    refine (n_any B 1099511627776 _ a len cap HD1.out (by omega)).mono ?_
    rintro e w2 ⟨r, rfl, hr, hd2, hg2⟩
    have hr2 : r < 1099511627776 := by omega
    have HD2 : Hid (Dr w2 B a len cap) := hd2
    have HG2 : Hid (w.grownBy w2 (some B)) := grown_trans HG1.out hg2
    clear hd2 hg2 hr
    go_wp2
    go_ret
    exact ⟨_, rfl, by omega, by omega, HD2.out, HG2.out⟩
  · go_wp2_with fail
    refine (edge_any B _ a len cap HD1.out).mono ?_
    rintro e w2 ⟨v, rfl, hv1, hv2, hd2, hg2⟩
    have HD2 : Hid (Dr w2 B a len cap) := hd2
    have HG2 : Hid (w.grownBy w2 (some B)) := grown_trans HG1.out hg2
    clear hd2 hg2
    go_wp2
    go_ret
    exact ⟨v, rfl, hv1, hv2, HD2.out, HG2.out⟩

set_option maxRecDepth 10000 in
set_option maxHeartbeats 1000000 in
theorem source_any (w : World) (a : Option Addr) (len cap : Nat) (hc : CodeAt w w.heap.size a len) :
    Calls Tryd.prog 22 #[.slice a len cap] w fun e w' =>
      e = .returned (.pointer (some ⟨w.heap.size, 0, none⟩)) ∧ Dr w' w.heap.size a len cap ∧ Below w.heap.size w w' := by
  have HC : Hid (CodeAt w w.heap.size a len) := hc
  have hlen := hc.1
  clear hc
  go_enter Tryd.func22, Tryd.ntmps22
  go_wp2
  go_loopw [4] (fun i wr => ∃ k mix : Nat, i = .int .i64 k ∧ k ≤ len ∧ mix < 18446744073709551616 ∧
      Hid (wr.heap[w.heap.size]? = some (.cells #[.slice a len cap, .int .i64 0, .int .u64 mix, .int .i64 0] 61 (0, 0))) ∧ Below w.heap.size w wr) (fun i _ => len - (intOf i).toNat)
  case atStart => exact ⟨0, 88172645463325252, rfl, Nat.zero_le _, by omega, heap_alloc_new w _, (Below.refl _ _).alloc (Nat.le_refl _) _⟩
  case round =>
    obtain ⟨k, mix, rfl, hk, hmix, HR, hbel⟩ := hrel
    have c2 : wr.cell? ⟨w.heap.size, 2, none⟩ = some (.int .u64 mix) := by rw [cell_at HR.out]; rfl
    have c3 : wr.cell? ⟨w.heap.size, 3, none⟩ = some (.int .i64 0) := by rw [cell_at HR.out]; rfl
    have fz := free_at HR.out
    by_cases hgo : k < len ∧ k < 64
    · obtain ⟨hlt, h64⟩ := hgo
      obtain ⟨b, off, rfl, hbB, hz⟩ := HC.out.2 (by omega)
      obtain ⟨z, hz256, hzc0⟩ := hz k hlt
      have hzc : wr.cell? ⟨b, off + k, none⟩ = some (.int .u8 z) := (hbel.cell (p := ⟨b, off + k, none⟩) hbB).trans hzc0
      clear hz hzc0
      go_wp2
      go_region
      go_wp2
      have hX := wrap_bound (bits BinOp.xor IntKind.u64 (mix : Int) (z : Int) * 1099511628211)
      generalize IntKind.u64.wrap (bits BinOp.xor IntKind.u64 (mix : Int) (z : Int) * 1099511628211) = X at *
      have eX : ((X.toNat : Nat) : Int) = X := by omega
      refine ⟨⟨k + 1, X.toNat, by go_num, by omega, by omega, ?_, (hbel.setCell (Nat.le_refl _) _).drew⟩, by simp [intOf]; omega⟩
      rw [eX]
      have e := heap_set HR.out 2 (.int .u64 X)
      show (wr.setCell ⟨w.heap.size, 2, none⟩ (.int .u64 X)).heap[w.heap.size]? = _
      rw [e]; simp
    · have HD : ∀ q : Int, 0 ≤ q → q ≤ 12 → Dr (wr.setCell ⟨w.heap.size, 3, none⟩ (.int .i64 q)) w.heap.size a len cap := fun q h0 h12 => by
        have e := heap_set HR.out 3 (.int .i64 q)
        refine ⟨⟨0, mix, q.toNat, ?_, Nat.zero_le _, hmix, by omega⟩, HC.out.kept (fun j hj => ?_)⟩
        · have eq : ((q.toNat : Nat) : Int) = q := by omega
          rw [e, eq]; simp
        · rw [heap_setCell_other _ _ j _ (show j ≠ w.heap.size by omega)]; exact hbel.block j hj
      have HDD : Hid (∀ q : Int, 0 ≤ q → q ≤ 12 → Dr (wr.setCell ⟨w.heap.size, 3, none⟩ (.int .i64 q)) w.heap.size a len cap) := HD
      clear HD
      by_cases hlt : k < len
      · have h64 : ¬ k < 64 := by omega
        clear hgo
        by_cases hq : 12 < len / 20
        · go_wp2
          go_ret
          refine ⟨rfl, ?_, (hbel.setCell (Nat.le_refl _) _).setCell (Nat.le_refl _) _⟩
          rw [set_twice]; exact HDD.out 12 (by omega) (by omega)
        · go_wp2
          go_ret
          exact ⟨rfl, HDD.out _ (by omega) (by omega), hbel.setCell (Nat.le_refl _) _⟩
      · clear hgo
        by_cases hq : 12 < len / 20
        · go_wp2
          go_ret
          refine ⟨rfl, ?_, (hbel.setCell (Nat.le_refl _) _).setCell (Nat.le_refl _) _⟩
          rw [set_twice]; exact HDD.out 12 (by omega) (by omega)
        · go_wp2
          go_ret
          exact ⟨rfl, HDD.out _ (by omega) (by omega), hbel.setCell (Nat.le_refl _) _⟩

/-- bytes that are drawn: so many as were asked for -/
theorem grown_below {w w' : World} {B C : Nat} (h : w.grownBy w' (some B)) (hC : C ≤ B) (hs : C ≤ w.heap.size) : Below C w w' :=
  ⟨h.os, h.tape, h.output, h.size, fun k hk => h.block k (by omega) (by intro e; exact absurd (Option.some.inj e : k = B) (by omega))⟩

theorem own_ne {w : World} {B base n : Nat} {e : TypeId} {v : Value} {xs : List Value} (h : w.ownsRow base e 1 v n xs) (hB : B < base) : v.ownBlock = none ∨ v.ownBlock ≠ some B := by
  right; intro hk; have := (h.lt B hk).1; omega
theorem grown_own {a b c : World} {B : Nat} {row : Option Nat} (h : a.grownBy b (some B)) (g : b.grownBy c row) (hr : ∀ k, row = some k → a.heap.size ≤ k) : a.grownBy c (some B) :=
  ⟨g.os.trans h.os, g.tape.trans h.tape, g.output.trans h.output, Nat.le_trans h.size g.size,
   fun k hk hne => (g.block k (Nat.lt_of_lt_of_le hk h.size) (by intro e; exact absurd (hr k e.symm) (by omega))).trans (h.block k hk hne)⟩
theorem cells_one (r : Nat) (h : r < 256) : CopyS.cellsB [UInt8.ofNat r] = [.int .u8 r] := by
  have : (UInt8.ofNat r).toNat = r := by simp; omega
  simp [CopyS.cellsB, this]
theorem conv_own {w : World} {base n : Nat} {v : Value} {l : List UInt8} (h : w.ownsRow base 5 1 v n (CopyS.cellsB l)) :
    (convert 22 9 v).run Tryd.prog w = .ok (.string ⟨l.toArray⟩) w := by
  obtain ⟨hl, hv⟩ := h
  have hn : n = l.length := by rw [CopyS.cellsB_length] at hl; omega
  subst hn
  rcases hv with ⟨rfl, h0⟩ | ⟨g, cap, cur, rfl, _, hg, hc, _, hs, ht⟩
  · have : l = [] := List.length_eq_zero_iff.1 h0
    subst this
    rw [run_convert_bytes_string w 22 9 5 none 0 0 Tryd.underlying22 Tryd.underlying5 Tryd.underlying9]
    simp [Conv.bytesToString, Sem.run_pure]; rfl
  · refine run_convert_bytes_back w 22 9 5 _ cap l Tryd.underlying22 Tryd.underlying5 Tryd.underlying9 ?_
    intro j hj
    have e : (CopyS.cellsB l)[j]? = some (.int .u8 (l[j].toNat : Int)) := by unfold CopyS.cellsB; simp [hj]
    rw [← ht] at e
    have e2 : cur[j]? = some (.int .u8 (l[j].toNat : Int)) := by
      rw [List.getElem?_take] at e
      split at e
      · simpa using e
      · cases e
    have hplain : (⟨g, 0, none⟩ : Addr).add j = ⟨g, j, none⟩ := by unfold Addr.add; split <;> simp_all
    rw [hplain]; simp [World.cell?, hg, e2]

theorem Tryd.infoB : (Tryd.prog.info? 5).map (fun i => (i.zero, i.size, i.bytes)) = some (some (.int .u8 0), 1, 1) := by kernel_rfl
set_option maxRecDepth 10000 in
set_option maxHeartbeats 1000000 in
theorem bytes_any (B n : Nat) (w : World) (a : Option Addr) (len cap : Nat) (hd : Dr w B a len cap) (hn : n ≤ 1000) :
    Calls Tryd.prog 30 #[.pointer (some ⟨B, 0, none⟩), .int .i64 n] w fun e w' =>
      ∃ l : List UInt8, e = .returned (.string ⟨l.toArray⟩) ∧ l.length = n ∧ Dr w' B a len cap ∧ w.grownBy w' (some B) := by
  have HD : Hid (Dr w B a len cap) := hd
  have hBw := hd.lt
  clear hd
  obtain ⟨i0, hi, hz0, hz1, hz2⟩ := info_parts Tryd.infoB
  go_enter Tryd.func30, Tryd.ntmps30
  go_wp2
  go_loopw [5, 6] (fun v i wr => ∃ l : List UInt8, i = .int .i64 (l.length : Int) ∧ l.length ≤ n ∧ wr.ownsRow w.heap.size 5 1 v l.length (CopyS.cellsB l) ∧ Hid (Dr wr B a len cap) ∧ Hid (w.grownBy wr (some B)) ∧ w.heap.size ≤ wr.heap.size) (fun _ i _ => n - (intOf i).toNat)
  case atStart => exact ⟨[], rfl, Nat.zero_le _, World.ownsRow_made _ _ 0 (Nat.le_refl _) (by unfold maxLen; omega) rfl, HD.out.alloc _, World.grownBy_alloc _ _ _, by simp⟩
  case round =>
    obtain ⟨l, rfl, hl, hown, HDr, HG, hws⟩ := hrel
    by_cases hlt : l.length < n
    · go_wp2_with fail
      refine (n_any B 256 _ a len cap HDr.out (by omega)).mono ?_
      rintro e w1 ⟨r, rfl, hr, hd1, hg1⟩
      have hr2 : r < 256 := by omega
      have hown1 := hown.kept hg1 (own_ne hown hBw)
      have HD1 : Hid (Dr w1 B a len cap) := hd1
      have HG1 : Hid (w.grownBy w1 (some B)) := grown_trans HG.out hg1
      have hs1 : w.heap.size ≤ w1.heap.size := HG1.out.size
      clear hd1 hg1 hr hown
      go_wp2_with (first
        | (at_builtin; refine wpList_append_own _ rfl _ _ 22 rfl w.heap.size 5 i0 (.int .u8 0) 1 1 Tryd.underlying22 hi hz0 hz1 hz2 rfl (by decide) _ _ _ rfl (hown1.alloc _) ⟨w1.heap.size, 0, none⟩ 1 1 [.int .u8 r] rfl rfl ?c1 ?c2 ?c3 ?c4 ?c5 ?_))
      case c1 =>
        intro j u hj
        match j, hj with
        | 0, hj => simp at hj; subst hj; simp [Addr.add]
      case c2 => intro u hu; simp at hu; subst hu; rfl
      case c3 => unfold maxLen; omega
      case c4 => omega
      case c5 => simp; omega
      intro v' w2 hown' hgrow _
      have hown2 : w2.ownsRow w.heap.size 5 1 v' (l ++ [UInt8.ofNat r]).length (CopyS.cellsB (l ++ [UInt8.ofNat r])) := by
        rw [CopyS.cellsB_append, cells_one r hr2]; simpa using hown'
      have hrow : ∀ k, (u5.ownBlock = some k) → w.heap.size ≤ k := fun k hk => (hown1.lt k hk).1
      have HD2 : Hid (Dr w2 B a len cap) := (HD1.out.alloc _).kept (fun k hk => hgrow.block k (by simp; omega) (by intro e; exact absurd (hrow k e.symm) (by omega)))
      have HG2 : Hid (w.grownBy w2 (some B)) := grown_own (grown_trans HG1.out (World.grownBy_alloc _ _ _)) hgrow hrow
      have hs2 : w.heap.size ≤ w2.heap.size := HG2.out.size
      clear hown' hgrow hown1 hrow
      go_wp2
      go_roundw
      case rel => exact ⟨l ++ [UInt8.ofNat r], by simp, by simp; omega, hown2, HD2, HG2, hs2⟩
      case measure => simp [intOf]; omega
    · have hcv := conv_own hown
      clear hown
      go_wp2
      go_ret
      exact ⟨l, rfl, by omega, HDr.out, HG.out⟩
end Go.Proofs.YtaflijmbbdcchaaDoor.DrawW
