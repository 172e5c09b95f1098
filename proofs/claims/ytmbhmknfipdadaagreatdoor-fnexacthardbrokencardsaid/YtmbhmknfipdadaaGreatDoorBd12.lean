/- Texts of ours, laid together. -/
import Derived.Test.YtmbhmknfipdadaaGreatDoorBd7
import Derived.Laws.AppendOwnNone
import Derived.Lib.SliceRun
namespace Go.Proofs.YtmbhmknfipdadaaGreatDoor.BookW
open Go.RowKit
open ValW RdS RdI
set_option linter.unusedSimpArgs false
theorem Tryz.infoI64k : (Tryz.prog.info? 2).map (fun i => (i.zero, i.size, i.bytes)) = some (some (.int .i64 0), 1, 8) := by kernel_rfl
set_option maxRecDepth 10000 in
set_option maxHeartbeats 1000000 in
theorem clone_in (a : Option Addr) (cap : Nat) (zs : List Int) (w : World) (hc : Codes w a zs) :
  Calls Tryz.prog 122 #[.slice a zs.length cap] w fun e w' =>
   ∃ a' cap', e = .returned (.slice a' zs.length cap') ∧ Codes w' a' zs ∧ Free w' a' zs ∧ Fresh a' w.heap.size ∧ (a' = none → cap' = 0) ∧ Below w.heap.size w w' := by
 have HC : Hid (Codes w a zs) := hc
 have hzl := hc.1
 clear hc
 obtain ⟨i0, hi0, hz0, hz1, hz2⟩ := info_parts Tryz.infoI64k
 have hnil : ∀ (a : Option Addr) (n c : Nat) (w : World), (binOp .eql 50 (.slice a n c) (.slice none 0 0)).run Tryz.prog w = .ok (.bool a.isNone) w := fun a n c w => Lib.run_eql_slice_nil w _ _ a n c 0 0 Tryz.underlying50
 cases a with
 | none =>
  have e : zs = [] := by
   cases zs with
   | nil => rfl
   | cons x l => obtain ⟨b, o, h, _⟩ := HC.out.2 (by simp); cases h
  subst e
  go_enter Tryz.func122, Tryz.ntmps122
  go_wp2
  go_ret
  exact ⟨none, 0, rfl, Codes.nil _ _, free_nil _ _, fresh_none _, fun _ => rfl, Below.refl _ _⟩
 | some ad =>
  go_enter Tryz.func122, Tryz.ntmps122
  go_wp2_with (first
   | (at_builtin; refine wpList_append_own _ rfl _ _ 50 rfl w.heap.size 2 i0 (.int .i64 0) 1 8 Tryz.underlying50 hi0 hz0 hz1 hz2 rfl (by decide) _ 0 [] rfl ?c0 ad zs.length cap (cellsI zs) rfl (by simp [cellsI]) ?c1 ?c2 ?c3 ?c4 ?c5 ?_))
  case c0 =>
   exact World.ownsRow_made (base := w.heap.size) (e := 2) (size := 1) w #[] 0 (by simp) (by unfold maxLen; omega) rfl
  case c1 =>
   intro j u hj
   have hlt : j < zs.length := by have := (List.getElem?_eq_some_iff.1 hj).1; simpa [cellsI] using this
   obtain ⟨b, o, h, hb, hc⟩ := HC.out.2 (by omega)
   cases h
   have e := hc j hlt
   have hu : u = .int .i64 (zs.getD j 0) := by
    unfold cellsI at hj
    simp [List.getElem?_eq_getElem hlt] at hj
    rw [← hj]; simp [List.getD, List.getElem?_eq_getElem hlt]
   rw [hu, ← e]
   have ea : (Addr.mk b o none).add j = ⟨b, o + j, none⟩ := by unfold Addr.add; split <;> simp_all
   rw [ea]
   exact ((Below.refl w.heap.size w).alloc (Nat.le_refl _) _).cell (p := ⟨b, o + j, none⟩) hb
  case c2 => intro u hu; unfold cellsI at hu; obtain ⟨z, _, rfl⟩ := List.mem_map.1 hu; rfl
  case c3 => unfold maxLen; omega
  case c4 => omega
  case c5 => simp
  intro v' w2 hown hgrow _
  have HB : Hid (Below w.heap.size w w2) := ⟨hgrow.os, hgrow.tape, hgrow.output, by have := hgrow.size; simp at this; omega, fun j hj => by rw [hgrow.block j (by simp; omega) (by intro e; have := Option.some.inj e; simp at this; omega), Below.heap_alloc _ _ _ hj]⟩
  obtain ⟨a', cap', rfl, hcd, hap⟩ := own_codes (zs := zs) (by simpa using hown) hzl
  have HNC : Hid (a' = none → cap' = 0) := fun e => by
   subst e
   rcases hown.2 with ⟨h0, _⟩ | ⟨g, c, cu, h0, _⟩
   ·injection h0
   ·injection h0 with h1; cases h1
  have HFr := (show Hid (Free w2 a' zs) from own_free (by simpa using hown))
  have HCD : Hid (Codes w2 a' zs) := hcd
  have hFR : Fresh a' w.heap.size := fun b o hb => by
   rcases hap with h | ⟨g, h, hg⟩
   ·rw [h] at hb; cases hb
   ·rw [h] at hb; cases hb; exact hg
  clear hown hgrow hap hcd
  go_wp2
  go_ret
  exact ⟨a', cap', rfl, HCD.out, HFr.out, hFR, HNC.out, HB.out⟩
end Go.Proofs.YtmbhmknfipdadaaGreatDoor.BookW
