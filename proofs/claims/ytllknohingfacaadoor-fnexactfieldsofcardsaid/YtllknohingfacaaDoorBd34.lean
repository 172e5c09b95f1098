/- Texts of ours, laid together: CloneP. -/
import Derived.Test.YtllknohingfacaaDoorBd30
import Derived.Lib.SliceRun
/- slices.Clone of parts: new memory that holds the same. -/
namespace Go.Proofs.YtllknohingfacaaDoor.CpyI
open Go.RowKit
open PrtW PrtM NameW ItmW ItmM
open CpyS
set_option linter.unusedSimpArgs false

set_option maxRecDepth 10000 in
set_option maxHeartbeats 1600000 in
theorem clone_parts (a : Option Addr) (cap : Nat) (ps : List Pt) (w : World) (hc : Parts w a ps) :
    Calls Tryd.prog 38 #[.slice a ps.length cap] w fun e w' =>
      ∃ v, e = .returned v ∧ w'.ownsRow w.heap.size 61 3 v ps.length (cellsP ps) ∧ Below w.heap.size w w' := by
  have HC : Hid (Parts w a ps) := hc
  have hzl := hc.1
  clear hc
  obtain ⟨i0, hi0, hz0, hz1, hz2⟩ := info_parts PrtW.Tryd.infoP
  have hnil : ∀ (a : Option Addr) (n c : Nat) (w : World), (binOp .eql 24 (.slice a n c) (.slice none 0 0)).run Tryd.prog w = .ok (.bool a.isNone) w := fun a n c w => Lib.run_eql_slice_nil w _ _ a n c 0 0 Tryd.underlying24
  cases a with
  | none =>
    have e : ps = [] := by
      cases ps with
      | nil => rfl
      | cons x l => obtain ⟨b, o, h, _⟩ := HC.out.2.2 (by simp); cases h
    subst e
    go_enter Tryd.func38, Tryd.ntmps38
    go_wp2
    go_ret
    exact ⟨_, rfl, ⟨rfl, .inl ⟨rfl, rfl⟩⟩, Below.refl _ _⟩
  | some ad =>
    go_enter Tryd.func38, Tryd.ntmps38
    go_wp2_with (first
      | (at_builtin; refine wpList_append_own _ rfl _ _ 24 rfl w.heap.size 61 i0 (.agg #[.int .i64 0, .int .i64 0, .string ByteArray.empty]) 3 32 Tryd.underlying24 hi0 hz0 hz1 hz2 rfl (by decide) _ 0 [] rfl ?c0 ad ps.length cap (cellsP ps) rfl ?c6 ?c1 ?c2 ?c3 ?c4 ?c5 ?_))
    case c0 =>
      exact World.ownsRow_made (base := w.heap.size) (e := 61) (size := 3) w #[] 0 (by simp) (by unfold maxLen; omega) rfl
    case c6 => rw [cellsP_len]
    case c1 => exact fun j u hj => parts_any (HC.out.on ((Below.refl w.heap.size w).alloc (Nat.le_refl _) _)) hj
    case c2 => exact cellsP_one _
    case c3 => unfold maxLen; omega
    case c4 => omega
    case c5 => simp
    intro v' w2 hown hgrow _
    have HB : Hid (Below w.heap.size w w2) := ⟨hgrow.os, hgrow.tape, hgrow.output, by have := hgrow.size; simp at this; omega, fun j hj => by rw [hgrow.block j (by simp; omega) (by intro e; have := Option.some.inj e; simp at this; omega), Below.heap_alloc _ _ _ hj]⟩
    have HO : Hid (w2.ownsRow w.heap.size 61 3 v' ps.length (cellsP ps)) := hid (by simpa using hown)
    have hsh : ∃ a' c', v' = .slice a' ps.length c' := by
      rcases HO.out.2 with ⟨rfl, h0⟩ | ⟨g, c, cu, rfl, _⟩
      · rw [h0]; exact ⟨_, _, rfl⟩
      · exact ⟨_, _, rfl⟩
    obtain ⟨a', c', rfl⟩ := hsh
    clear hown hgrow
    go_wp2
    go_ret
    exact ⟨_, rfl, HO.out, HB.out⟩
end Go.Proofs.YtllknohingfacaaDoor.CpyI
