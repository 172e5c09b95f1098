/- Texts of ours, laid together: DrawWalks, DrawCore. -/
import Derived.Test.YtphdkhdlgcglpaaGreatDoorProg
import Derived.WalkKit
import Derived.WalkSpells
import Derived.WalkLawsBesides
import Derived.RegionTactic
import Derived.BigRegion
import Derived.OpenShut
/- The model's source of draws: what a draw does to its own block, and the bounds of what it tells. Only bounds are said: no law asks which number is drawn. -/
namespace Go.Proofs.YtphdkhdlgcglpaaGreatDoor.DrawW
open Go.RowKit

/-- the bytes of a slice that came in, as they lie in memory below block B -/
def CodeAt (w : World) (B : Nat) (a : Option Addr) (len : Nat) : Prop :=
  len ≤ 1048576 ∧ (0 < len → ∃ b off, a = some ⟨b, off, none⟩ ∧ b < B ∧ ∀ i, i < len → ∃ z : Nat, z < 256 ∧ w.cell? ⟨b, off + i, none⟩ = some (.int .u8 z))
/-- the source's own block -/
def Src (w : World) (B : Nat) (a : Option Addr) (len cap : Nat) : Prop :=
  ∃ k mix size : Nat, w.heap[B]? = some (.cells #[.slice a len cap, .int .i64 k, .int .u64 mix, .int .i64 size] 104 (0, 0)) ∧ k ≤ len ∧ mix < 18446744073709551616 ∧ size ≤ 12

theorem cell_at {w : World} {B : Nat} {C : Array Value} {t : TypeId} (h : w.heap[B]? = some (.cells C t (0, 0))) (o : Nat) : w.cell? ⟨B, o, none⟩ = C[o]? := by simp [World.cell?, h]
theorem free_at {w : World} {B : Nat} {C : Array Value} {t : TypeId} (h : w.heap[B]? = some (.cells C t (0, 0))) (o : Nat) : w.frozen? ⟨B, o, none⟩ = false := by simp [World.frozen?, h]

theorem set_twice (W : World) (p : Addr) (v v' : Value) : (W.setCell p v).setCell p v' = W.setCell p v' := by
  unfold World.setCell
  congr 1
  apply Array.ext
  · simp
  · intro k h1 h2
    simp only [Array.getElem_modify]
    split
    · cases hW : W.heap[k]'(by simpa using h2) with
      | cells c e f =>
        simp only
        split <;> simp_all
      | _ => rfl
    · rfl

theorem n_small (B : Nat) (most : Int) (w : World) (h : most ≤ 1) :
    Calls Tryz.prog 41 #[.pointer (some ⟨B, 0, none⟩), .int .i64 most] w fun e w' => e = .returned (.int .i64 0) ∧ w = w' := by
  go_enter Tryz.func41, Tryz.ntmps41
  go_wp2
  go_ret
  exact ⟨rfl, rfl⟩

theorem heap_set {w : World} {B : Nat} {C : Array Value} {t : TypeId} (h : w.heap[B]? = some (.cells C t (0, 0))) (o : Nat) (v : Value) :
    (w.setCell ⟨B, o, none⟩ v).heap[B]? = some (.cells (C.setIfInBounds o v) t (0, 0)) := by
  simp [World.setCell, Array.getElem?_modify, h]
theorem grown_set (w : World) (B o : Nat) (v : Value) : w.grownBy (w.setCell ⟨B, o, none⟩ v) (some B) :=
  ⟨rfl, rfl, rfl, by simp, fun k _ hne => heap_setCell_other w _ k v (by intro h; exact hne (by rw [h]))⟩
theorem grown_trans {a b c : World} {B : Nat} (h : a.grownBy b (some B)) (g : b.grownBy c (some B)) : a.grownBy c (some B) :=
  ⟨g.os.trans h.os, g.tape.trans h.tape, g.output.trans h.output, Nat.le_trans h.size g.size,
   fun k hk hne => (g.block k (Nat.lt_of_lt_of_le hk h.size) hne).trans (h.block k hk hne)⟩
theorem grown_drew {a b : World} {row : Option Nat} (h : a.grownBy b row) : a.grownBy b.drew row := ⟨h.os, h.tape, h.output, h.size, h.block⟩
theorem xor_bound (a b : Int) : 0 ≤ bits BinOp.xor IntKind.u64 a b ∧ bits BinOp.xor IntKind.u64 a b < 18446744073709551616 := by
  have := bounds_u64 (wf_bits .xor .u64 a b)
  omega
theorem rem_small (y most : Int) (h : 1 < most) (h2 : most ≤ 9223372036854775807) : ∃ r : Nat, wrap64 ((IntKind.u64.wrap y).tmod most) = r ∧ (r : Int) < most := by
  have hu : 0 ≤ IntKind.u64.wrap y := by simp [IntKind.wrap, IntKind.bits, IntKind.signed]; omega
  have h0 : (IntKind.u64.wrap y).tmod most = (IntKind.u64.wrap y) % most := Int.tmod_eq_emod_of_nonneg hu
  have h1 := Int.emod_nonneg (IntKind.u64.wrap y) (show most ≠ 0 by omega)
  have h3 := Int.emod_lt_of_pos (IntKind.u64.wrap y) (show 0 < most by omega)
  rw [h0]
  refine ⟨((IntKind.u64.wrap y) % most).toNat, ?_, by omega⟩
  unfold wrap64; omega
theorem close_two {w : World} {B : Nat} {a : Option Addr} {len cap k mix size : Nat} {most y X : Int}
    (hh : w.heap[B]? = some (.cells #[.slice a len cap, .int .i64 k, .int .u64 mix, .int .i64 size] 104 (0, 0))) (hk : k < len) (hsize : size ≤ 12)
    (h : 1 < most) (h2 : most ≤ 9223372036854775807) (hX : 0 ≤ X ∧ X < 18446744073709551616) :
    ∃ r : Nat, Ending.returned (.int .i64 (wrap64 ((IntKind.u64.wrap y).tmod most))) = .returned (.int .i64 r) ∧ (r : Int) < most ∧
      Src ((w.setCell ⟨B, 1, none⟩ (.int .i64 ((k : Int) + 1))).setCell ⟨B, 2, none⟩ (.int .u64 X)).drew.drew.drew.drew.drew B a len cap ∧
      w.grownBy ((w.setCell ⟨B, 1, none⟩ (.int .i64 ((k : Int) + 1))).setCell ⟨B, 2, none⟩ (.int .u64 X)).drew.drew.drew.drew.drew (some B) := by
  obtain ⟨r, hr, hr2⟩ := rem_small y most h h2
  refine ⟨r, by rw [hr], hr2, ⟨k + 1, X.toNat, size, ?_, by omega, by omega, hsize⟩, ?_⟩
  · have e := heap_set (heap_set hh 1 (.int .i64 ((k : Int) + 1))) 2 (.int .u64 X)
    have eX : ((X.toNat : Nat) : Int) = X := by omega
    rw [eX]
    show ((w.setCell ⟨B, 1, none⟩ (.int .i64 ((k : Int) + 1))).setCell ⟨B, 2, none⟩ (.int .u64 X)).heap[B]? = _
    rw [e]; simp
  · exact grown_drew (grown_drew (grown_drew (grown_drew (grown_drew (grown_trans (grown_set w B 1 _) (grown_set _ B 2 _))))))
theorem close_one {w : World} {B : Nat} {a : Option Addr} {len cap k mix size : Nat} {most y X : Int}
    (hh : w.heap[B]? = some (.cells #[.slice a len cap, .int .i64 k, .int .u64 mix, .int .i64 size] 104 (0, 0))) (hk : k ≤ len) (hsize : size ≤ 12)
    (h : 1 < most) (h2 : most ≤ 9223372036854775807) (hX : 0 ≤ X ∧ X < 18446744073709551616) :
    ∃ r : Nat, Ending.returned (.int .i64 (wrap64 ((IntKind.u64.wrap y).tmod most))) = .returned (.int .i64 r) ∧ (r : Int) < most ∧
      Src (w.setCell ⟨B, 2, none⟩ (.int .u64 X)).drew.drew.drew.drew B a len cap ∧ w.grownBy (w.setCell ⟨B, 2, none⟩ (.int .u64 X)).drew.drew.drew.drew (some B) := by
  obtain ⟨r, hr, hr2⟩ := rem_small y most h h2
  refine ⟨r, by rw [hr], hr2, ⟨k, X.toNat, size, ?_, hk, by omega, hsize⟩, ?_⟩
  · have e := heap_set hh 2 (.int .u64 X)
    have eX : ((X.toNat : Nat) : Int) = X := by omega
    rw [eX]
    show (w.setCell ⟨B, 2, none⟩ (.int .u64 X)).heap[B]? = _
    rw [e]; simp
  · exact grown_drew (grown_drew (grown_drew (grown_drew (grown_set w B 2 _))))

set_option maxRecDepth 10000 in
set_option maxHeartbeats 1000000 in
theorem n_in (B : Nat) (most : Int) (w : World) (a : Option Addr) (len cap : Nat) (hs : Src w B a len cap) (hc : CodeAt w B a len) (h : ¬ most ≤ 1) (h2 : most ≤ 9223372036854775807) :
    Calls Tryz.prog 41 #[.pointer (some ⟨B, 0, none⟩), .int .i64 most] w fun e w' =>
      ∃ r : Nat, e = .returned (.int .i64 r) ∧ (r : Int) < most ∧ Src w' B a len cap ∧ w.grownBy w' (some B) := by
  obtain ⟨k, mix, size, hh, hk, hmix, hsize⟩ := hs
  obtain ⟨hlen, hb⟩ := hc
  have c0 := cell_at hh 0
  have c1 := cell_at hh 1
  have c2 := cell_at hh 2
  have fz := free_at hh
  simp at c0 c1 c2
  have HH : Hid (w.heap[B]? = some (.cells #[.slice a len cap, .int .i64 k, .int .u64 mix, .int .i64 size] 104 (0, 0))) := hh
  clear hh
  have hss := fun (W : World) (v v' : Value) => set_twice W ⟨B, 2, none⟩ v v'
  by_cases hlt : k < len
  · obtain ⟨b, off, rfl, hbB, hz⟩ := hb (by omega)
    obtain ⟨z, hz256, hzc⟩ := hz k hlt
    clear hz hb
    go_enter Tryz.func41, Tryz.ntmps41
    go_wp2
    go_region
    go_wp2
    go_region
    go_wp2
    go_region
    go_wp2
    go_region
    go_wp2
    go_region
    go_wp2
    go_ret
    exact close_two HH.out hlt hsize h h2 (xor_bound _ _)
  · go_enter Tryz.func41, Tryz.ntmps41
    go_wp2
    go_region
    go_wp2
    go_region
    go_wp2
    go_region
    go_wp2
    go_region
    go_wp2
    go_ret
    exact close_one HH.out hk hsize h h2 (xor_bound _ _)
end Go.Proofs.YtphdkhdlgcglpaaGreatDoor.DrawW
/- The model's source of draws, made of bytes that came in; small draws of bools and edges: bounds alone. What is said of a slice of bytes that came in. -/
namespace Go.Proofs.YtphdkhdlgcglpaaGreatDoor.DrawW
open Go.RowKit

/-- the source, and the bytes that it draws from -/
def Dr (w : World) (B : Nat) (a : Option Addr) (len cap : Nat) : Prop := Src w B a len cap ∧ CodeAt w B a len
theorem CodeAt.kept {w w' : World} {B : Nat} {a : Option Addr} {len : Nat} (h : CodeAt w B a len) (hg : ∀ k, k < B → w'.heap[k]? = w.heap[k]?) : CodeAt w' B a len := by
  refine ⟨h.1, fun hp => ?_⟩
  obtain ⟨b, off, ha, hb, hz⟩ := h.2 hp
  refine ⟨b, off, ha, hb, fun i hi => ?_⟩
  obtain ⟨z, hz1, hz2⟩ := hz i hi
  exact ⟨z, hz1, by rw [World.cell?_of_block (w := w) (hg b hb)]; exact hz2⟩
theorem Src.lt {w : World} {B : Nat} {a : Option Addr} {len cap : Nat} (h : Src w B a len cap) : B < w.heap.size := by
  obtain ⟨k, mix, size, hh, _⟩ := h
  exact (Array.getElem?_eq_some_iff.1 hh).1
theorem Dr.lt {w : World} {B : Nat} {a : Option Addr} {len cap : Nat} (h : Dr w B a len cap) : B < w.heap.size := h.1.lt
theorem Dr.kept {w w' : World} {B : Nat} {a : Option Addr} {len cap : Nat} (h : Dr w B a len cap) (hg : ∀ k, k ≤ B → w'.heap[k]? = w.heap[k]?) : Dr w' B a len cap := by
  obtain ⟨⟨k, mix, size, hh, r⟩, hc⟩ := h
  exact ⟨⟨k, mix, size, by rw [hg B (Nat.le_refl _)]; exact hh, r⟩, hc.kept (fun k hk => hg k (by omega))⟩
theorem Dr.alloc {w : World} {B : Nat} {a : Option Addr} {len cap : Nat} (h : Dr w B a len cap) (o : Obj) : Dr (w.alloc o) B a len cap :=
  h.kept (fun k hk => Below.heap_alloc w o k (Nat.lt_of_le_of_lt hk h.lt))
theorem Dr.grown {w w' : World} {B : Nat} {a : Option Addr} {len cap : Nat} (h : Dr w B a len cap) (hs : Src w' B a len cap) (hg : w.grownBy w' (some B)) : Dr w' B a len cap :=
  ⟨hs, h.2.kept (fun k hk => hg.block k (Nat.lt_trans hk h.lt) (by intro e; cases e; omega))⟩

theorem n_any (B : Nat) (most : Int) (w : World) (a : Option Addr) (len cap : Nat) (hd : Dr w B a len cap) (h2 : most ≤ 9223372036854775807) :
    Calls Tryz.prog 41 #[.pointer (some ⟨B, 0, none⟩), .int .i64 most] w fun e w' =>
      ∃ r : Nat, e = .returned (.int .i64 r) ∧ ((r : Int) < most ∨ r = 0) ∧ Dr w' B a len cap ∧ w.grownBy w' (some B) := by
  by_cases h : most ≤ 1
  · refine (n_small B most w h).mono ?_
    rintro e w' ⟨rfl, rfl⟩
    exact ⟨0, rfl, Or.inr rfl, hd, ⟨rfl, rfl, rfl, Nat.le_refl _, fun _ _ _ => rfl⟩⟩
  · refine (n_in B most w a len cap hd.1 hd.2 h h2).mono ?_
    rintro e w' ⟨r, rfl, hr, hs, hg⟩
    exact ⟨r, rfl, Or.inl hr, hd.grown hs hg, hg⟩

theorem one_any (B : Nat) (most : Int) (w : World) (a : Option Addr) (len cap : Nat) (hd : Dr w B a len cap) (h2 : most ≤ 9223372036854775807) :
    Calls Tryz.prog 59 #[.pointer (some ⟨B, 0, none⟩), .int .i64 most] w fun e w' =>
      ∃ b : Bool, e = .returned (.bool b) ∧ Dr w' B a len cap ∧ w.grownBy w' (some B) := by
  have HD : Hid (Dr w B a len cap) := hd
  clear hd
  go_enter Tryz.func59, Tryz.ntmps59
  go_wp2_with fail
  refine (n_any B most _ a len cap HD.out h2).mono ?_
  rintro e w1 ⟨r, rfl, _, hd1, hg⟩
  have HD1 : Hid (Dr w1 B a len cap) := hd1
  have HG : Hid (w.grownBy w1 (some B)) := hg
  clear hd1 hg
  go_wp2
  go_ret
  exact ⟨_, rfl, HD1.out, HG.out⟩

theorem wrap_bound (n : Int) : 0 ≤ IntKind.u64.wrap n ∧ IntKind.u64.wrap n < 18446744073709551616 := by
  simp [IntKind.wrap, IntKind.bits, IntKind.signed]; omega
set_option maxRecDepth 10000 in
set_option maxHeartbeats 1000000 in
theorem source_any (w : World) (a : Option Addr) (len cap : Nat) (hc : CodeAt w w.heap.size a len) :
    Calls Tryz.prog 38 #[.slice a len cap] w fun e w' =>
      e = .returned (.pointer (some ⟨w.heap.size, 0, none⟩)) ∧ Dr w' w.heap.size a len cap ∧ Below w.heap.size w w' := by
  have HC : Hid (CodeAt w w.heap.size a len) := hc
  have hlen := hc.1
  clear hc
  go_enter Tryz.func38, Tryz.ntmps38
  go_wp2
  go_loopw [4] (fun i wr => ∃ k mix : Nat, i = .int .i64 k ∧ k ≤ len ∧ mix < 18446744073709551616 ∧
      Hid (wr.heap[w.heap.size]? = some (.cells #[.slice a len cap, .int .i64 0, .int .u64 mix, .int .i64 0] 104 (0, 0))) ∧ Below w.heap.size w wr) (fun i _ => len - (intOf i).toNat)
  case atStart => exact ⟨0, 88172645463325252, rfl, Nat.zero_le _, by omega, heap_alloc_new w _, (Below.refl _ _).alloc (Nat.le_refl _) _⟩
  case round =>
    obtain ⟨k, mix, rfl, hk, hmix, HR, hbel⟩ := hrel
    have c2 : wr.cell? ⟨w.heap.size, 2, none⟩ = some (.int .u64 mix) := by rw [cell_at HR.out]; rfl
    have c3 : wr.cell? ⟨w.heap.size, 3, none⟩ = some (.int .i64 0) := by rw [cell_at HR.out]; rfl
    have fz := free_at HR.out
    by_cases hgo : k < len ∧ k < 64
    · obtain ⟨hlt, h64⟩ := hgo
      obtain ⟨b, off, rfl, hbB, hz⟩ := HC.out.2 (by omega)
      obtain ⟨z, hz256, hzc0⟩ := hz k hlt
      have hzc : wr.cell? ⟨b, off + k, none⟩ = some (.int .u8 z) := (hbel.cell (p := ⟨b, off + k, none⟩) hbB).trans hzc0
      clear hz hzc0
      go_wp2
      go_region
      go_wp2
      have hX := wrap_bound (bits BinOp.xor IntKind.u64 (mix : Int) (z : Int) * 1099511628211)
      generalize IntKind.u64.wrap (bits BinOp.xor IntKind.u64 (mix : Int) (z : Int) * 1099511628211) = X at *
      have eX : ((X.toNat : Nat) : Int) = X := by omega
      refine ⟨⟨k + 1, X.toNat, by go_num, by omega, by omega, ?_, (hbel.setCell (Nat.le_refl _) _).drew⟩, by simp [intOf]; omega⟩
      rw [eX]
      have e := heap_set HR.out 2 (.int .u64 X)
      show (wr.setCell ⟨w.heap.size, 2, none⟩ (.int .u64 X)).heap[w.heap.size]? = _
      rw [e]; simp
    · have HD : ∀ q : Int, 0 ≤ q → q ≤ 12 → Dr (wr.setCell ⟨w.heap.size, 3, none⟩ (.int .i64 q)) w.heap.size a len cap := fun q h0 h12 => by
        have e := heap_set HR.out 3 (.int .i64 q)
        refine ⟨⟨0, mix, q.toNat, ?_, Nat.zero_le _, hmix, by omega⟩, HC.out.kept (fun j hj => ?_)⟩
        · have eq : ((q.toNat : Nat) : Int) = q := by omega
          rw [e, eq]; simp
        · rw [heap_setCell_other _ _ j _ (show j ≠ w.heap.size by omega)]; exact hbel.block j hj
      have HDD : Hid (∀ q : Int, 0 ≤ q → q ≤ 12 → Dr (wr.setCell ⟨w.heap.size, 3, none⟩ (.int .i64 q)) w.heap.size a len cap) := HD
      clear HD
      by_cases hlt : k < len
      · have h64 : ¬ k < 64 := by omega
        clear hgo
        by_cases hq : 12 < len / 20
        · go_wp2
          go_ret
          refine ⟨rfl, ?_, (hbel.setCell (Nat.le_refl _) _).setCell (Nat.le_refl _) _⟩
          rw [set_twice]; exact HDD.out 12 (by omega) (by omega)
        · go_wp2
          go_ret
          exact ⟨rfl, HDD.out _ (by omega) (by omega), hbel.setCell (Nat.le_refl _) _⟩
      · clear hgo
        by_cases hq : 12 < len / 20
        · go_wp2
          go_ret
          refine ⟨rfl, ?_, (hbel.setCell (Nat.le_refl _) _).setCell (Nat.le_refl _) _⟩
          rw [set_twice]; exact HDD.out 12 (by omega) (by omega)
        · go_wp2
          go_ret
          exact ⟨rfl, HDD.out _ (by omega) (by omega), hbel.setCell (Nat.le_refl _) _⟩

theorem grown_below {w w' : World} {B C : Nat} (h : w.grownBy w' (some B)) (hC : C ≤ B) (hs : C ≤ w.heap.size) : Below C w w' :=
  ⟨h.os, h.tape, h.output, h.size, fun k hk => h.block k (by omega) (by intro e; exact absurd (Option.some.inj e : k = B) (by omega))⟩

/-- what the walk is told of a slice of integers that came in -/
def IsRow (k : IntKind) (w : World) (a : Option Addr) (len cap : Nat) (zs : List Int) : Prop :=
  (a = none ∧ len = 0 ∧ cap = 0 ∧ zs = []) ∨
  ∃ x, a = some x ∧ len ≤ cap ∧ cap ≤ maxLen ∧ zs.length = cap ∧ (∀ i, i < zs.length → w.cell? (x.add i) = some (.int k (zs.getD i 0))) ∧ ∀ n ∈ zs, (Lit.int k n).wf = true
theorem IsRow.len {k : IntKind} {w : World} {a : Option Addr} {len cap : Nat} {zs : List Int} (h : IsRow k w a len cap zs) : len ≤ maxLen := by
  rcases h with ⟨_, rfl, _, _⟩ | ⟨x, _, h1, h2, _⟩
  · exact Nat.zero_le _
  · omega
theorem IsRow.code {w w' : World} {a : Option Addr} {len cap : Nat} {zs : List Int} (h : IsRow .u8 w a len cap zs) (hl : len ≤ 1048576) (hb : Below w.heap.size w w') : CodeAt w' w'.heap.size a len := by
  refine ⟨hl, fun hp => ?_⟩
  rcases h with ⟨_, rfl, _, _⟩ | ⟨x, rfl, h1, h2, hz, hc, hw⟩
  · omega
  · obtain ⟨b, off, spot⟩ := x
    have hc0 := hc 0 (by omega)
    have hspot : spot = none := by simpa [Addr.add] using World.cell?_spot hc0
    subst hspot
    have hbl : b < w.heap.size := by
      have := World.block_lt_of_cell? w _ hc0
      simpa [Addr.add] using this
    refine ⟨b, off, rfl, Nat.lt_of_lt_of_le hbl hb.size, fun i hi => ?_⟩
    have hci := hc i (by omega)
    have hplain : (⟨b, off, none⟩ : Addr).add i = ⟨b, off + i, none⟩ := by unfold Addr.add; split <;> simp_all
    rw [hplain] at hci
    have hm : zs.getD i 0 ∈ zs := by
      have hil : i < zs.length := by omega
      simp [List.getD, List.getElem?_eq_getElem hil]
    have hbd := bounds_u8 (hw _ hm)
    refine ⟨(zs.getD i 0).toNat, by omega, ?_⟩
    rw [hb.cell (p := ⟨b, off + i, none⟩) hbl, hci]
    congr 2; omega

end Go.Proofs.YtphdkhdlgcglpaaGreatDoor.DrawW
