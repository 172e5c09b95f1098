/- Texts of ours, laid together: RdOut, RdLaw. -/
import Derived.Test.YtphdkhdlgcglpaaGreatDoorBd26
import Derived.Deep.RegionWith
import Derived.Test.YtphdkhdlgcglpaaGreatDoorBd24
/- ValueRead of the program, whole. -/
namespace Go.Proofs.YtphdkhdlgcglpaaGreatDoor.RdI
open Go.RowKit
open ValM ValW ValS ValI TxtM RdM TxtI
open RdS (Fresh fresh_none strs Reads ov codes_set zero_cells zero5)

theorem rv_any (s : ByteArray) (w : World) (hm : s.size ≤ maxLen) (hE : EnvR w) :
    Calls Tryz.prog 58 #[.string s] w fun e w' => ∃ k n zs t a cap c, e = .returned (.tuple #[av k n a zs.length cap t, errC c]) ∧ Below w.heap.size w w' ∧ Codes w' a zs ∧ Free w' a zs ∧ Fresh a w.heap.size ∧ Reads s k n zs t c := by
  by_cases hs : s.size ≤ 8000
  · exact rv_in s w hs hE
  · exact (rv_big s w (by omega) hm).mono fun e w' h => ⟨0, 0, [], ByteArray.empty, none, 0, 2, h.1, h.2, Codes.nil _ _, free_nil _ _, fresh_none _, .inl ⟨by omega, rfl, rfl, rfl, rfl, rfl⟩⟩
theorem code_any (c : Int) (w : World) (hE : EnvR w) : Calls Tryz.prog 45 #[errC c] w fun e w' => e = .returned (.int .i64 c) ∧ Below w.heap.size w w' := by
  unfold errC
  by_cases h : c = 0
  · subst h; rw [if_pos rfl]; exact AsW.code_nil w
  · rw [if_neg h]; exact AsW.code_hit c w hE.2.2.2

set_option maxRecDepth 10000 in
set_option maxHeartbeats 2000000 in
theorem impl_read (s : ByteArray) (w : World) (hm : s.size ≤ maxLen) (hE : EnvR w) :
    Calls Tryz.prog 22 #[.string s] w fun e w' => ∃ k n zs t a cap c, e = .returned (ov k n a zs.length cap t c) ∧ Below w.heap.size w w' ∧ Codes w' a zs ∧ Free w' a zs ∧ Fresh a w.heap.size ∧ Reads s k n zs t c := by
  have HE : Hid (EnvR w) := hE
  clear hE
  go_enter Tryz.func22, Tryz.ntmps22
  go_wp2_with fail
  refine (rv_any s _ hm (HE.out.on (below_one w _))).mono ?_
  rintro e w1 ⟨k, n, zs, t, a, cap, c, rfl, hB1, hcd, hfe, hfr, hrd⟩
  rw [World.size_alloc] at hfr
  have HZ1 : Hid (w1.heap[w.heap.size]? = some (.cells zero5 42 (0, 0))) := by
    show _ = _; rw [hB1.block _ (by simp)]; exact heap_alloc_new w _
  have hlt1 : w.heap.size < w1.heap.size := (Array.getElem?_eq_some_iff.1 HZ1.out).1
  have HB1 : Hid (Below w.heap.size w (w1.alloc (.cells #[.int .i64 k, .int .i64 n, .slice a zs.length cap, .string t] 38))) := ((below_one w _).trans (hB1.mono (by simp))).trans ((below_one w1 _).mono (by omega))
  have HCD : Hid (Codes (w1.alloc (.cells #[.int .i64 k, .int .i64 n, .slice a zs.length cap, .string t] 38)) a zs) := hcd.alloc _
  have HFE : Hid (Free (w1.alloc (.cells #[.int .i64 k, .int .i64 n, .slice a zs.length cap, .string t] 38)) a zs) := hfe.on (below_one _ _)
  have HV1 : Hid (At4 (w1.alloc (.cells #[.int .i64 k, .int .i64 n, .slice a zs.length cap, .string t] 38)) w1.heap.size (.int .i64 k) (.int .i64 n) (.slice a zs.length cap) (.string t)) := At4.laid _ _ _ _ _ _
  have HZ2 : Hid ((w1.alloc (.cells #[.int .i64 k, .int .i64 n, .slice a zs.length cap, .string t] 38)).heap[w.heap.size]? = some (.cells zero5 42 (0, 0))) := by
    show _ = _; rw [Below.heap_alloc _ _ _ hlt1]; exact HZ1.out
  have HFR : Hid (Fresh a (w.heap.size + 1)) := hfr
  have HRD : Hid (Reads s k n zs t c) := hrd
  clear hB1 hcd hfr hfe hrd HZ1
  obtain ⟨ev, hev⟩ : ∃ ev, Hid (errC c = ev) := ⟨_, rfl⟩
  rw [hev.out]
  have hwz : w.heap.size < (w1.alloc (.cells #[.int .i64 k, .int .i64 n, .slice a zs.length cap, .string t] 38)).heap.size := by simp; omega
  go_wp2_with fail
  generalize hW : w1.alloc (.cells #[.int .i64 k, .int .i64 n, .slice a zs.length cap, .string t] 38) = W at *
  have step : Hid (Calls Tryz.prog 45 #[ev] W.drew fun e w' => e = .returned (.int .i64 c) ∧ Below W.heap.size W w') := by
    have := code_any c W.drew ((HE.out.on HB1.out).on (Below.refl _ _).drew)
    rw [hev.out] at this
    exact this.mono fun e w' h => ⟨h.1, (Below.refl _ _).drew.trans h.2⟩
  clear hW
  obtain ⟨c0, c1, c2, c3, hvz⟩ := HV1.out
  go_region_with (first
    | (go_at_call 45
       refine step.out.mono ?_
       rintro e w3 ⟨rfl, hB3⟩
       obtain ⟨d0, d1, d2, d3, hdz⟩ := HV1.out.on hB3
       obtain ⟨z0, z1, z2, z3, z4, zf⟩ := zero_cells ((hB3.block _ hwz).trans HZ2.out)))
  all_goals
    have HB3 : Hid (Below w.heap.size w w3) := HB1.out.trans (hB3.mono HB1.out.size)
    have HCD3 : Hid (Codes w3 a zs) := HCD.out.on hB3
    have HFE3 : Hid (Free w3 a zs) := HFE.out.on hB3
    have hlt3 : w.heap.size < w3.heap.size := Nat.lt_of_lt_of_le hwz hB3.size
    clear hB3
    go_wp2
    refine bodyPost_ret (v := ov k n a zs.length cap t c) (by simp [results, Tryz.results22, go_sem, z0, z1, z2, z3, z4]) rfl ⟨k, n, zs, t, a, cap, c, rfl, ?_, ?_, ?_, fun b o hb => by have := HFR.out b o hb; omega, HRD.out⟩
    · repeat (refine Below.setCell ?_ (show w.heap.size ≤ _ by simp only; omega) _)
      exact HB3.out
    · repeat (refine codes_set ?_ (fun b o hb => by have := HFR.out b o hb; simp only; omega) _)
      exact HCD3.out
    · repeat (refine free_set ?_ _ _)
      exact HFE3.out
end Go.Proofs.YtphdkhdlgcglpaaGreatDoor.RdI
/- The walk of FnExactValueRead. -/
namespace Go.Proofs.YtphdkhdlgcglpaaGreatDoor.RdL
open Go.RowKit
open ValM ValW ValS ValI TxtM RdM
open RdS (Fresh ov Reads reads_same reads_codes)
open RdI (Free EnvR)

/-- five cells that lie in a block, as an answer with a code does -/
def Out5 (w : World) (b : Nat) (k n : Int) (a : Option Addr) (len cap : Nat) (t : ByteArray) (c : Int) : Prop := w.heap[b]? = some (.cells #[.int .i64 k, .int .i64 n, .slice a len cap, .string t, .int .i64 c] 42 (0, 0))
theorem Out5.lt {w : World} {b : Nat} {k n : Int} {a : Option Addr} {len cap : Nat} {t : ByteArray} {c : Int} (h : Out5 w b k n a len cap t c) : b < w.heap.size := (Array.getElem?_eq_some_iff.1 h).1
theorem Out5.on {w w' : World} {b : Nat} {k n : Int} {a : Option Addr} {len cap : Nat} {t : ByteArray} {c : Int} (h : Out5 w b k n a len cap t c) (hB : Below w.heap.size w w') : Out5 w' b k n a len cap t c := (hB.block b h.lt).trans h
theorem Out5.laid (w : World) (k n : Int) (a : Option Addr) (len cap : Nat) (t : ByteArray) (c : Int) : Out5 (w.alloc (.cells #[.int .i64 k, .int .i64 n, .slice a len cap, .string t, .int .i64 c] 42)) w.heap.size k n a len cap t c := heap_alloc_new w _
theorem Out5.cells {w : World} {b : Nat} {k n : Int} {a : Option Addr} {len cap : Nat} {t : ByteArray} {c : Int} (h : Out5 w b k n a len cap t c) :
    w.cell? ⟨b, 0, none⟩ = some (.int .i64 k) ∧ w.cell? ⟨b, 1, none⟩ = some (.int .i64 n) ∧ w.cell? ⟨b, 2, none⟩ = some (.slice a len cap) ∧ w.cell? ⟨b, 3, none⟩ = some (.string t) ∧ w.cell? ⟨b, 4, none⟩ = some (.int .i64 c) := by
  unfold Out5 at h
  exact ⟨by simp [World.cell?, h], by simp [World.cell?, h], by simp [World.cell?, h], by simp [World.cell?, h], by simp [World.cell?, h]⟩
theorem codes_marked {w w' : World} {a : Option Addr} {zs : List Int} {k : Int} {a1 : Option Addr} {z1 : List Int} (h : Marked w w' a zs k) (hc : Codes w a1 z1) (hne : ∀ b o b1 o1, a = some ⟨b, o, none⟩ → a1 = some ⟨b1, o1, none⟩ → 0 < z1.length → b1 ≠ b) : Codes w' a1 z1 := by
  refine ⟨hc.1, fun hp => ?_⟩
  obtain ⟨b1, o1, ha, hb, hcs⟩ := hc.2 hp
  refine ⟨b1, o1, ha, Nat.lt_of_lt_of_le hb h.2.2.2.1, fun i hi => ?_⟩
  rw [World.cell?_of_block (a := ⟨b1, o1 + i, none⟩) (h.2.2.2.2.1 b1 hb fun b o hab _ => hne b o b1 o1 hab ha hp)]
  exact hcs i hi
theorem out_marked {w w' : World} {a0 : Option Addr} {zs : List Int} {k0 : Int} {b : Nat} {k n : Int} {a : Option Addr} {len cap : Nat} {t : ByteArray} {c : Int} (h : Marked w w' a0 zs k0) (ho : Out5 w b k n a len cap t c) (hne : ∀ b' o, a0 = some ⟨b', o, none⟩ → 0 < zs.length → b ≠ b') : Out5 w' b k n a len cap t c :=
  (h.2.2.2.2.1 b ho.lt hne).trans ho

end Go.Proofs.YtphdkhdlgcglpaaGreatDoor.RdL
