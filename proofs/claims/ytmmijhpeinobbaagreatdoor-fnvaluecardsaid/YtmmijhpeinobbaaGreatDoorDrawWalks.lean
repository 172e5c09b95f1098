/- The model's source of draws: what a draw does to its own block, and the bounds of what it tells. Only bounds are said: no law asks which number is drawn. -/
import Derived.Test.YtmmijhpeinobbaaGreatDoorProg
import Derived.WalkKit
import Derived.WalkSpells
import Derived.WalkLawsBesides
import Derived.RegionTactic
import Derived.BigRegion
import Derived.OpenShut
namespace Go.Proofs.YtmmijhpeinobbaaGreatDoor.DrawW
open Go.RowKit

/-- the bytes of a slice that came in, as they lie in memory below block B -/
def CodeAt (w : World) (B : Nat) (a : Option Addr) (len : Nat) : Prop :=
  len ≤ 1048576 ∧ (0 < len → ∃ b off, a = some ⟨b, off, none⟩ ∧ b < B ∧ ∀ i, i < len → ∃ z : Nat, z < 256 ∧ w.cell? ⟨b, off + i, none⟩ = some (.int .u8 z))
/-- the source's own block -/
def Src (w : World) (B : Nat) (a : Option Addr) (len cap : Nat) : Prop :=
  ∃ k mix size : Nat, w.heap[B]? = some (.cells #[.slice a len cap, .int .i64 k, .int .u64 mix, .int .i64 size] 76 (0, 0)) ∧ k ≤ len ∧ mix < 18446744073709551616 ∧ size ≤ 12

theorem cell_at {w : World} {B : Nat} {C : Array Value} {t : TypeId} (h : w.heap[B]? = some (.cells C t (0, 0))) (o : Nat) : w.cell? ⟨B, o, none⟩ = C[o]? := by simp [World.cell?, h]
theorem free_at {w : World} {B : Nat} {C : Array Value} {t : TypeId} (h : w.heap[B]? = some (.cells C t (0, 0))) (o : Nat) : w.frozen? ⟨B, o, none⟩ = false := by simp [World.frozen?, h]

theorem set_twice (W : World) (p : Addr) (v v' : Value) : (W.setCell p v).setCell p v' = W.setCell p v' := by
  unfold World.setCell
  congr 1
  apply Array.ext
  · simp
  · intro k h1 h2
    simp only [Array.getElem_modify]
    split
    · cases hW : W.heap[k]'(by simpa using h2) with
      | cells c e f =>
        simp only
        split <;> simp_all
      | _ => rfl
    · rfl

theorem n_small (B : Nat) (most : Int) (w : World) (h : most ≤ 1) :
    Calls Tryz.prog 31 #[.pointer (some ⟨B, 0, none⟩), .int .i64 most] w fun e w' => e = .returned (.int .i64 0) ∧ w = w' := by
  go_enter Tryz.func31, Tryz.ntmps31
  go_wp2
  go_ret
  exact ⟨rfl, rfl⟩

theorem heap_set {w : World} {B : Nat} {C : Array Value} {t : TypeId} (h : w.heap[B]? = some (.cells C t (0, 0))) (o : Nat) (v : Value) :
    (w.setCell ⟨B, o, none⟩ v).heap[B]? = some (.cells (C.setIfInBounds o v) t (0, 0)) := by
  simp [World.setCell, Array.getElem?_modify, h]
theorem grown_set (w : World) (B o : Nat) (v : Value) : w.grownBy (w.setCell ⟨B, o, none⟩ v) (some B) :=
  ⟨rfl, rfl, rfl, by simp, fun k _ hne => heap_setCell_other w _ k v (by intro h; exact hne (by rw [h]))⟩
theorem grown_trans {a b c : World} {B : Nat} (h : a.grownBy b (some B)) (g : b.grownBy c (some B)) : a.grownBy c (some B) :=
  ⟨g.os.trans h.os, g.tape.trans h.tape, g.output.trans h.output, Nat.le_trans h.size g.size,
   fun k hk hne => (g.block k (Nat.lt_of_lt_of_le hk h.size) hne).trans (h.block k hk hne)⟩
theorem grown_drew {a b : World} {row : Option Nat} (h : a.grownBy b row) : a.grownBy b.drew row := ⟨h.os, h.tape, h.output, h.size, h.block⟩
theorem xor_bound (a b : Int) : 0 ≤ bits BinOp.xor IntKind.u64 a b ∧ bits BinOp.xor IntKind.u64 a b < 18446744073709551616 := by
  have := bounds_u64 (wf_bits .xor .u64 a b)
  omega
theorem rem_small (y most : Int) (h : 1 < most) (h2 : most ≤ 9223372036854775807) : ∃ r : Nat, wrap64 ((IntKind.u64.wrap y).tmod most) = r ∧ (r : Int) < most := by
  have hu : 0 ≤ IntKind.u64.wrap y := by simp [IntKind.wrap, IntKind.bits, IntKind.signed]; omega
  have h0 : (IntKind.u64.wrap y).tmod most = (IntKind.u64.wrap y) % most := Int.tmod_eq_emod_of_nonneg hu
  have h1 := Int.emod_nonneg (IntKind.u64.wrap y) (show most ≠ 0 by omega)
  have h3 := Int.emod_lt_of_pos (IntKind.u64.wrap y) (show 0 < most by omega)
  rw [h0]
  refine ⟨((IntKind.u64.wrap y) % most).toNat, ?_, by omega⟩
  unfold wrap64; omega
theorem close_two {w : World} {B : Nat} {a : Option Addr} {len cap k mix size : Nat} {most y X : Int}
    (hh : w.heap[B]? = some (.cells #[.slice a len cap, .int .i64 k, .int .u64 mix, .int .i64 size] 76 (0, 0))) (hk : k < len) (hsize : size ≤ 12)
    (h : 1 < most) (h2 : most ≤ 9223372036854775807) (hX : 0 ≤ X ∧ X < 18446744073709551616) :
    ∃ r : Nat, Ending.returned (.int .i64 (wrap64 ((IntKind.u64.wrap y).tmod most))) = .returned (.int .i64 r) ∧ (r : Int) < most ∧
      Src ((w.setCell ⟨B, 1, none⟩ (.int .i64 ((k : Int) + 1))).setCell ⟨B, 2, none⟩ (.int .u64 X)).drew.drew.drew.drew.drew B a len cap ∧
      w.grownBy ((w.setCell ⟨B, 1, none⟩ (.int .i64 ((k : Int) + 1))).setCell ⟨B, 2, none⟩ (.int .u64 X)).drew.drew.drew.drew.drew (some B) := by
  obtain ⟨r, hr, hr2⟩ := rem_small y most h h2
  refine ⟨r, by rw [hr], hr2, ⟨k + 1, X.toNat, size, ?_, by omega, by omega, hsize⟩, ?_⟩
  · have e := heap_set (heap_set hh 1 (.int .i64 ((k : Int) + 1))) 2 (.int .u64 X)
    have eX : ((X.toNat : Nat) : Int) = X := by omega
    rw [eX]
    show ((w.setCell ⟨B, 1, none⟩ (.int .i64 ((k : Int) + 1))).setCell ⟨B, 2, none⟩ (.int .u64 X)).heap[B]? = _
    rw [e]; simp
  · exact grown_drew (grown_drew (grown_drew (grown_drew (grown_drew (grown_trans (grown_set w B 1 _) (grown_set _ B 2 _))))))
theorem close_one {w : World} {B : Nat} {a : Option Addr} {len cap k mix size : Nat} {most y X : Int}
    (hh : w.heap[B]? = some (.cells #[.slice a len cap, .int .i64 k, .int .u64 mix, .int .i64 size] 76 (0, 0))) (hk : k ≤ len) (hsize : size ≤ 12)
    (h : 1 < most) (h2 : most ≤ 9223372036854775807) (hX : 0 ≤ X ∧ X < 18446744073709551616) :
    ∃ r : Nat, Ending.returned (.int .i64 (wrap64 ((IntKind.u64.wrap y).tmod most))) = .returned (.int .i64 r) ∧ (r : Int) < most ∧
      Src (w.setCell ⟨B, 2, none⟩ (.int .u64 X)).drew.drew.drew.drew B a len cap ∧ w.grownBy (w.setCell ⟨B, 2, none⟩ (.int .u64 X)).drew.drew.drew.drew (some B) := by
  obtain ⟨r, hr, hr2⟩ := rem_small y most h h2
  refine ⟨r, by rw [hr], hr2, ⟨k, X.toNat, size, ?_, hk, by omega, hsize⟩, ?_⟩
  · have e := heap_set hh 2 (.int .u64 X)
    have eX : ((X.toNat : Nat) : Int) = X := by omega
    rw [eX]
    show (w.setCell ⟨B, 2, none⟩ (.int .u64 X)).heap[B]? = _
    rw [e]; simp
  · exact grown_drew (grown_drew (grown_drew (grown_drew (grown_set w B 2 _))))

set_option maxRecDepth 10000 in
set_option maxHeartbeats 1000000 in
theorem n_in (B : Nat) (most : Int) (w : World) (a : Option Addr) (len cap : Nat) (hs : Src w B a len cap) (hc : CodeAt w B a len) (h : ¬ most ≤ 1) (h2 : most ≤ 9223372036854775807) :
    Calls Tryz.prog 31 #[.pointer (some ⟨B, 0, none⟩), .int .i64 most] w fun e w' =>
      ∃ r : Nat, e = .returned (.int .i64 r) ∧ (r : Int) < most ∧ Src w' B a len cap ∧ w.grownBy w' (some B) := by
  obtain ⟨k, mix, size, hh, hk, hmix, hsize⟩ := hs
  obtain ⟨hlen, hb⟩ := hc
  have c0 := cell_at hh 0
  have c1 := cell_at hh 1
  have c2 := cell_at hh 2
  have fz := free_at hh
  simp at c0 c1 c2
  have HH : Hid (w.heap[B]? = some (.cells #[.slice a len cap, .int .i64 k, .int .u64 mix, .int .i64 size] 76 (0, 0))) := hh
  clear hh
  have hss := fun (W : World) (v v' : Value) => set_twice W ⟨B, 2, none⟩ v v'
  by_cases hlt : k < len
  · obtain ⟨b, off, rfl, hbB, hz⟩ := hb (by omega)
    obtain ⟨z, hz256, hzc⟩ := hz k hlt
    clear hz hb
    go_enter Tryz.func31, Tryz.ntmps31
    go_wp2
    go_region
    go_wp2
    go_region
    go_wp2
    go_region
    go_wp2
    go_region
    go_wp2
    go_region
    go_wp2
    go_ret
    exact close_two HH.out hlt hsize h h2 (xor_bound _ _)
  · go_enter Tryz.func31, Tryz.ntmps31
    go_wp2
    go_region
    go_wp2
    go_region
    go_wp2
    go_region
    go_wp2
    go_region
    go_wp2
    go_ret
    exact close_one HH.out hk hsize h h2 (xor_bound _ _)
end Go.Proofs.YtmmijhpeinobbaaGreatDoor.DrawW
