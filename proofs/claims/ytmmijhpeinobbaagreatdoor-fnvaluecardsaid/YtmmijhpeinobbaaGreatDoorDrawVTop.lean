/- What a law draws of answers, made of bytes that came in: an answer, an answer with a number. -/
import Derived.Test.YtmmijhpeinobbaaGreatDoorDrawVal
namespace Go.Proofs.YtmmijhpeinobbaaGreatDoor.DrawV
open Go.RowKit
open ValW ValS ValI DrawW RdS
set_option linter.unusedSimpArgs false

theorem code_more {w w' : World} {B B' : Nat} {a : Option Addr} {len : Nat} (h : CodeAt w B a len) (hb : B ≤ B') (hk : ∀ k, k < B → w'.heap[k]? = w.heap[k]?) : CodeAt w' B' a len := by
  obtain ⟨h1, h2⟩ := h.kept hk
  refine ⟨h1, fun hp => ?_⟩
  obtain ⟨b, off, ha, hb2, hz⟩ := h2 hp
  exact ⟨b, off, ha, by omega, hz⟩
theorem source_at (w : World) (B : Nat) (a : Option Addr) (len cap : Nat) (hB : w.heap.size = B) (hc : CodeAt w B a len) :
    Calls Tryz.prog 27 #[.slice a len cap] w fun e w' =>
      e = .returned (.pointer (some ⟨B, 0, none⟩)) ∧ Dr w' B a len cap ∧ Below B w w' := by
  subst hB
  exact source_any w a len cap hc
/-- the place of a result that is not yet filled -/
def Zero (w : World) (b : Nat) : Prop := w.heap[b]? = some (.cells (vals 0 0 (.slice none 0 0) ByteArray.empty) 25 (0, 0))
theorem Zero.cells {w : World} {b : Nat} (h : Zero w b) : w.cell? ⟨b, 0, none⟩ = some (.int .i64 0) ∧ w.cell? ⟨b, 1, none⟩ = some (.int .i64 0) ∧ w.cell? ⟨b, 2, none⟩ = some (.slice none 0 0) ∧ w.cell? ⟨b, 3, none⟩ = some (.string ByteArray.empty) ∧ ∀ j, w.frozen? ⟨b, j, none⟩ = false := by
  unfold Zero at h
  exact ⟨by simp [World.cell?, h, vals], by simp [World.cell?, h, vals], by simp [World.cell?, h, vals], by simp [World.cell?, h, vals], fun j => by simp [World.frozen?, h]⟩

set_option maxRecDepth 10000 in
set_option maxHeartbeats 400000 in
theorem drawText_any (w : World) (a : Option Addr) (len cap : Nat) (hc : CodeAt w w.heap.size a len) :
    Calls Tryz.prog 5 #[.slice a len cap] w fun e w' =>
      ∃ k n zs t a' cap', e = .returned (av k n a' zs.length cap' t) ∧ Codes w' a' zs ∧ Fresh a' (w.heap.size + 1) ∧ (a' = none → cap' = 0) ∧ zs.length ≤ 5 ∧ t.size ≤ 41 ∧ Below w.heap.size w w' := by
  have HC : Hid (CodeAt w w.heap.size a len) := hc
  clear hc
  go_enter Tryz.func5, Tryz.ntmps5
  go_wp2_with fail
  refine (source_at _ (w.heap.size + 1) a len cap (by simp) (code_more HC.out (by omega) fun k hk => Below.heap_alloc w _ k hk)).mono ?_
  rintro e w1 ⟨rfl, hd1, hB1⟩
  have hs1 : w.heap.size + 1 < w1.heap.size := hd1.lt
  have hz1 : Zero w1 w.heap.size := (hB1.block _ (by omega)).trans (heap_alloc_new w _)
  have HZ1 : Hid (Zero w1 w.heap.size) := hz1
  have HD1 : Hid (Dr w1 (w.heap.size + 1) a len cap) := hd1
  have HB1 : Hid (Below w.heap.size w w1) := (below_one w _).trans (hB1.mono (by omega))
  clear hd1 hB1 hz1
  go_wp2_with fail
  refine (value_any (w.heap.size + 1) w1 a len cap HD1.out).mono ?_
  rintro e w2 ⟨k, n, zs, t, a', cap', rfl, hcd, hfr, hN, hz, ht, hd2, hg2⟩
  have HB2 : Hid (Below w.heap.size w w2) := HB1.out.trans (grown_below hg2 (by omega) HB1.out.size)
  have hz2 : Zero w2 w.heap.size := (hg2.block _ (by omega) (by intro e; have := Option.some.inj e; omega)).trans HZ1.out
  obtain ⟨b0, b1, b2, b3, g0⟩ := hz2.cells
  have HCD : Hid (Codes w2 a' zs) := hcd
  have HFR : Hid (Fresh a' w1.heap.size) := hfr
  clear hcd hfr hd2 hg2 hz2
  go_wp2
  refine bodyPost_ret (v := av k n a' zs.length cap' t) (by simp [results, Tryz.results5, go_sem, b0, b1, b2, b3]) rfl ⟨k, n, zs, t, a', cap', rfl, ?_, fun b o hb => by have := HFR.out b o hb; omega, hN, hz, ht, ?_⟩
  · repeat (refine codes_set ?_ (fun b o hb => by have := HFR.out b o hb; simp only; omega) _)
    exact HCD.out
  · repeat (refine Below.setCell ?_ (by simp) _)
    exact HB2.out

set_option maxRecDepth 10000 in
set_option maxHeartbeats 400000 in
theorem drawHas_any (w : World) (a : Option Addr) (len cap : Nat) (hc : CodeAt w w.heap.size a len) :
    Calls Tryz.prog 10 #[.slice a len cap] w fun e w' =>
      ∃ k n zs t a' cap', ∃ c : Nat, e = .returned (.tuple #[av k n a' zs.length cap' t, .int .i64 c]) ∧ c < 6 ∧ Codes w' a' zs ∧ Fresh a' (w.heap.size + 1) ∧ (a' = none → cap' = 0) ∧ zs.length ≤ 5 ∧ t.size ≤ 41 ∧ Below w.heap.size w w' := by
  have HC : Hid (CodeAt w w.heap.size a len) := hc
  clear hc
  go_enter Tryz.func10, Tryz.ntmps10
  go_wp2_with fail
  refine (source_at _ (w.heap.size + 1) a len cap (by simp) (code_more HC.out (by omega) fun k hk => Below.heap_alloc w _ k hk)).mono ?_
  rintro e w1 ⟨rfl, hd1, hB1⟩
  have hs1 : w.heap.size + 1 < w1.heap.size := hd1.lt
  have hz1 : Zero w1 w.heap.size := (hB1.block _ (by omega)).trans (heap_alloc_new w _)
  have HZ1 : Hid (Zero w1 w.heap.size) := hz1
  have HD1 : Hid (Dr w1 (w.heap.size + 1) a len cap) := hd1
  have HB1 : Hid (Below w.heap.size w w1) := (below_one w _).trans (hB1.mono (by omega))
  clear hd1 hB1 hz1
  go_wp2_with fail
  refine (value_any (w.heap.size + 1) w1 a len cap HD1.out).mono ?_
  rintro e w2 ⟨k, n, zs, t, a', cap', rfl, hcd, hfr, hN, hz, ht, hd2, hg2⟩
  have HB2 : Hid (Below w.heap.size w w2) := HB1.out.trans (grown_below hg2 (by omega) HB1.out.size)
  have hs2 : w1.heap.size ≤ w2.heap.size := hg2.size
  have HZ2 : Hid (Zero w2 w.heap.size) := (hg2.block _ (by omega) (by intro e; have := Option.some.inj e; omega)).trans HZ1.out
  have HCD : Hid (Codes w2 a' zs) := hcd
  have HFR : Hid (Fresh a' w1.heap.size) := hfr
  have HD2 : Hid (Dr w2 (w.heap.size + 1) a len cap) := hd2
  clear hcd hfr hd2 hg2 HZ1 HB1 HD1 HC
  have hs3 : w2.heap.size < (w2.alloc (.cells #[.int .i64 k, .int .i64 n, .slice a' zs.length cap', .string t] 25)).heap.size := by simp
  have HV : Hid (At4 (w2.alloc (.cells #[.int .i64 k, .int .i64 n, .slice a' zs.length cap', .string t] 25)) w2.heap.size (.int .i64 k) (.int .i64 n) (.slice a' zs.length cap') (.string t)) := At4.laid w2 _ _ _ _ _
  have HZ3 : Hid (Zero (w2.alloc (.cells #[.int .i64 k, .int .i64 n, .slice a' zs.length cap', .string t] 25)) w.heap.size) := (Below.heap_alloc _ _ _ (by omega)).trans HZ2.out
  have HC3 : Hid (Codes (w2.alloc (.cells #[.int .i64 k, .int .i64 n, .slice a' zs.length cap', .string t] 25)) a' zs) := HCD.out.alloc _
  have HD3 : Hid (Dr (w2.alloc (.cells #[.int .i64 k, .int .i64 n, .slice a' zs.length cap', .string t] 25)) (w.heap.size + 1) a len cap) := HD2.out.alloc _
  have HB3 : Hid (Below w.heap.size w (w2.alloc (.cells #[.int .i64 k, .int .i64 n, .slice a' zs.length cap', .string t] 25))) := HB2.out.trans ((below_one w2 _).mono (by omega))
  go_wp2_with fail
  clear HZ2 HCD HD2 HB2
  generalize w2.alloc (.cells #[.int .i64 k, .int .i64 n, .slice a' zs.length cap', .string t] 25) = W at *
  generalize w2.heap.size = V at *
  have step : Hid (∀ X : World, X.heap = W.heap → W.grownBy X none → Calls Tryz.prog 31 #[.pointer (some ⟨w.heap.size + 1, 0, none⟩), .int .i64 6] X fun e w' =>
      ∃ r : Nat, e = .returned (.int .i64 r) ∧ r < 6 ∧ Codes w' a' zs ∧ Below w.heap.size w w' ∧ Zero w' w.heap.size ∧ At4 w' V (.int .i64 k) (.int .i64 n) (.slice a' zs.length cap') (.string t)) := by
    intro X hX hgX
    refine (n_any (w.heap.size + 1) 6 X a len cap (HD3.out.kept fun j _ => by rw [hX]) (by omega)).mono ?_
    rintro e w' ⟨r, rfl, hr, -, hg⟩
    have hk : ∀ j, j < W.heap.size → j ≠ w.heap.size + 1 → w'.heap[j]? = W.heap[j]? := fun j hj hne => by
      rw [hg.block j (by rw [hX]; exact hj) (by intro e; exact hne (Option.some.inj e)), hX]
    have hsz : W.heap.size ≤ w'.heap.size := by have := hg.size; rw [hX] at this; exact this
    refine ⟨r, rfl, by omega, ⟨HC3.out.1, fun hp => ?_⟩, ⟨?_, ?_, ?_, Nat.le_trans HB3.out.size hsz, fun j hj => (hk j (by have := HB3.out.size; omega) (by omega)).trans (HB3.out.block j hj)⟩, (hk _ (by omega) (by omega)).trans HZ3.out, ?_⟩
    · obtain ⟨b, o, ha, hb, hc⟩ := HC3.out.2 hp
      have := HFR.out b o ha
      exact ⟨b, o, ha, by omega, fun i hi => by rw [World.cell?_of_block (w := W) (hk b hb (by omega))]; exact hc i hi⟩
    · exact hg.os.trans (hgX.os.trans HB3.out.os)
    · exact hg.tape.trans (hgX.tape.trans HB3.out.tape)
    · exact hg.output.trans (hgX.output.trans HB3.out.output)
    · obtain ⟨x0, x1, x2, x3, x4⟩ := HV.out
      have e := hk V hs3 (by omega)
      exact ⟨(World.cell?_of_block (w := W) e).trans x0, (World.cell?_of_block (w := W) e).trans x1, (World.cell?_of_block (w := W) e).trans x2, (World.cell?_of_block (w := W) e).trans x3, by omega⟩
  obtain ⟨x0, x1, x2, x3, x4⟩ := HV.out
  go_region_with (first
    | (go_at_call 31
       refine (step.out W.drew rfl ⟨rfl, rfl, rfl, Nat.le_refl _, fun _ _ _ => rfl⟩).mono ?_
       rintro e w4 ⟨r, rfl, hr, hc4, hB4, hz4, hV4⟩
       obtain ⟨y0, y1, y2, y3, y4⟩ := hV4
       obtain ⟨b0, b1, b2, b3, g0⟩ := hz4.cells))
  all_goals
    go_wp2
    refine bodyPost_ret (v := .tuple #[av k n a' zs.length cap' t, .int .i64 r]) (by simp [results, Tryz.results10, go_sem, b0, b1, b2, b3]) rfl ⟨k, n, zs, t, a', cap', r, rfl, hr, ?_, fun b o hb => by have := HFR.out b o hb; omega, hN, hz, ht, ?_⟩
    · repeat (refine codes_set ?_ (fun b o hb => by have := HFR.out b o hb; simp only; omega) _)
      exact hc4
    · repeat (refine Below.setCell ?_ (by simp) _)
      exact hB4
end Go.Proofs.YtmmijhpeinobbaaGreatDoor.DrawV
