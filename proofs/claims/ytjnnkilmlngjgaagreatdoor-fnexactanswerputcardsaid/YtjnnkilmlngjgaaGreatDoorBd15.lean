/- Texts of ours, laid together: RdMarkI. -/
import Derived.Test.YtjnnkilmlngjgaaGreatDoorBd6
import Derived.Test.YtjnnkilmlngjgaaGreatDoorBd9
import Derived.Test.YtjnnkilmlngjgaaGreatDoorBd11
/- Marks that the laws write over codes, and look for. -/
namespace Go.Proofs.YtjnnkilmlngjgaaGreatDoor.RdL
open Go.RowKit
open ValW ValS
open RdS (Fresh)
open RdI (Free)

def marks (k : Int) (n : Nat) : List Int := (List.range n).map fun (i : Nat) => k + (i : Int)
theorem marks_len (k : Int) (n : Nat) : (marks k n).length = n := by simp [marks]
theorem marks_at (k : Int) (n i : Nat) (h : i < n) : (marks k n).getD i 0 = k + i := by simp [marks, List.getD, h]
/-- the codes bear marks; nothing else that lay there has changed -/
def Marked (w w' : World) (a : Option Addr) (zs : List Int) (k : Int) : Prop := w'.os = w.os ∧ w'.tape = w.tape ∧ w'.output = w.output ∧ w.heap.size ≤ w'.heap.size ∧
  (∀ j, j < w.heap.size → (∀ b o, a = some ⟨b, o, none⟩ → 0 < zs.length → j ≠ b) → w'.heap[j]? = w.heap[j]?) ∧ Codes w' a (marks k zs.length)
theorem Marked.below {w w' : World} {a : Option Addr} {zs : List Int} {k : Int} {B : Nat} (h : Marked w w' a zs k) (hf : Fresh a B) (hB : B ≤ w.heap.size) : Below B w w' := by
  obtain ⟨h1, h2, h3, h4, h5, _⟩ := h
  exact ⟨h1, h2, h3, by omega, fun j hj => h5 j (by omega) fun b o ha _ => by have := hf b o ha; omega⟩
theorem Marked.after {w0 w w' : World} {a : Option Addr} {zs : List Int} {k : Int} (h : Marked w w' a zs k) (hB : Below w0.heap.size w0 w) : Marked w0 w' a zs k := by
  obtain ⟨h1, h2, h3, h4, h5, h6⟩ := h
  exact ⟨h1.trans hB.os, h2.trans hB.tape, h3.trans hB.output, Nat.le_trans hB.size h4, fun j hj hn => (h5 j (Nat.lt_of_lt_of_le hj hB.size) hn).trans (hB.block j hj), h6⟩

def MInv (w : World) (b o : Nat) (zs : List Int) (k : Int) (kv iv : Value) (wr : World) : Prop := ∃ j : Nat, j ≤ zs.length ∧ iv = .int .i64 j ∧ kv = .int .i64 (k + j) ∧ wr.os = w.os ∧ wr.tape = w.tape ∧ wr.output = w.output ∧ wr.heap.size = w.heap.size ∧
  (∀ x, x ≠ b → wr.heap[x]? = w.heap[x]?) ∧ (∀ i, i < j → wr.cell? ⟨b, o + i, none⟩ = some (.int .i64 (k + i))) ∧ (∀ i, j ≤ i → i < zs.length → wr.cell? ⟨b, o + i, none⟩ = some (.int .i64 (zs.getD i 0))) ∧ (∀ i, i < zs.length → wr.frozen? ⟨b, o + i, none⟩ = false)

set_option maxRecDepth 10000 in
set_option maxHeartbeats 1000000 in
theorem mark_ints (a : Option Addr) (cap : Nat) (zs : List Int) (k : Int) (w : World) (hc : Codes w a zs) (hf : Free w a zs) (hk0 : 0 ≤ k) (hk1 : k ≤ 100000000) :
    Calls Tryz.prog 31 #[.slice a zs.length cap, .int .i64 k] w fun e w' => e = .returned (.int .i64 (k + zs.length)) ∧ Marked w w' a zs k := by
  have hl := hc.1
  by_cases h0 : zs.length = 0
  · have HM : Hid (Marked w w a zs k) := ⟨rfl, rfl, rfl, Nat.le_refl _, fun _ _ _ => rfl, by rw [h0]; exact Codes.nil _ _⟩
    rw [h0]
    clear hc hf hl
    go_enter Tryz.func31, Tryz.ntmps31
    go_wp2
    go_loop [1, 5] (fun kv iv => kv = .int .i64 k ∧ iv = .int .i64 0) (fun _ _ => 0)
    case atStart => exact ⟨rfl, rfl⟩
    case round =>
      obtain ⟨rfl, rfl⟩ := hrel
      go_wp2
      go_ret
      exact ⟨by simp, HM.out⟩
  obtain ⟨b, o, rfl, hb, hcs⟩ := hc.2 (by omega)
  have HF : Hid (∀ i, i < zs.length → w.frozen? ⟨b, o + i, none⟩ = false) := fun i hi => (hf b o rfl i hi).2
  have HCS : Hid (∀ i, i < zs.length → w.cell? ⟨b, o + i, none⟩ = some (.int .i64 (zs.getD i 0))) := hcs
  clear hc hf hcs
  go_enter Tryz.func31, Tryz.ntmps31
  go_wp2
  go_loopw [1, 5] (MInv w b o zs k) (fun _ iv _ => zs.length - (intOf iv).toNat)
  case atStart => exact ⟨0, Nat.zero_le _, rfl, by simp, rfl, rfl, rfl, rfl, fun _ _ => rfl, fun i hi => absurd hi (Nat.not_lt_zero i), fun i _ hi => HCS.out i hi, HF.out⟩
  case round =>
    obtain ⟨j, hj, rfl, rfl, i1, i2, i3, i4, i5, i6, i7, i8⟩ := hrel
    by_cases hlt : j < zs.length
    · have c := i7 j (Nat.le_refl _) hlt
      have f := i8 j hlt
      obtain ⟨m, hm⟩ : ∃ m : Int, k + j = m := ⟨_, rfl⟩
      have HN : Hid (MInv w b o zs k (.int .i64 (k + ((j + 1 : Nat) : Int))) (.int .i64 ((j + 1 : Nat) : Int)) (wr.setCell ⟨b, o + j, none⟩ (.int .i64 m))) := by
        refine ⟨j + 1, by omega, rfl, rfl, i1, i2, i3, by simpa using i4, fun x hx => (heap_setCell_other wr ⟨b, o + j, none⟩ x _ hx).trans (i5 x hx), fun i hi => ?_, fun i hi1 hi2 => ?_, fun i hi => by rw [World.frozen?_setCell]; exact i8 i hi⟩
        · by_cases e : i = j
          · subst e; rw [World.cell?_setCell_same _ _ _ c, hm]
          · rw [World.cell?_setCell_other wr ⟨b, o + j, none⟩ ⟨b, o + i, none⟩ _ (by intro h; injection h; omega)]; exact i6 i (by omega)
        · rw [World.cell?_setCell_other wr ⟨b, o + j, none⟩ ⟨b, o + i, none⟩ _ (by intro h; injection h; omega)]; exact i7 i (by omega) hi2
      have hk2 : k + ((j + 1 : Nat) : Int) = m + 1 := by omega
      rw [hk2] at HN
      clear i5 i6 i7 i8
      rw [hm]
      have hm1 : m ≤ 200000000 := by omega
      have hm0 : 0 ≤ m := by omega
      generalize zs.getD j 0 = y at c
      clear hm hk2
      go_wp2
      go_roundw
      case rel =>
        have e : ((j + 1 : Nat) : Int) = (j : Int) + 1 := by omega
        rw [e] at HN; exact HN.out
      case measure => simp [intOf]; omega
    · have hj2 : j = zs.length := by omega
      subst hj2
      have HM : Hid (Marked w wr (some ⟨b, o, none⟩) zs k) := ⟨i1, i2, i3, by omega, fun x _ hx => i5 x (hx b o rfl (by omega)), by
        refine ⟨by rw [marks_len]; exact hl, fun _ => ⟨b, o, rfl, by omega, fun i hi => ?_⟩⟩
        rw [marks_len] at hi
        rw [marks_at k _ i hi]; exact i6 i hi⟩
      clear i5 i6 i7 i8
      go_wp2
      go_ret
      exact ⟨rfl, HM.out⟩

set_option maxRecDepth 10000 in
set_option maxHeartbeats 1000000 in
theorem held_ints (a : Option Addr) (cap n : Nat) (k : Int) (w : World) (hc : Codes w a (marks k n)) (hk0 : 0 ≤ k) (hk1 : k ≤ 100000000) :
    Calls Tryz.prog 42 #[.slice a n cap, .int .i64 k] w fun e w' => e = .returned (.int .i64 (k + n)) ∧ w' = w := by
  have hl := hc.1
  rw [marks_len] at hl
  have HC : Hid (0 < n → ∃ b o, a = some ⟨b, o, none⟩ ∧ ∀ i, i < n → w.cell? ⟨b, o + i, none⟩ = some (.int .i64 (k + i))) := fun hp => by
    obtain ⟨b, o, ha, _, hcs⟩ := hc.2 (by rw [marks_len]; exact hp)
    exact ⟨b, o, ha, fun i hi => by rw [hcs i (by rw [marks_len]; exact hi), marks_at k n i hi]⟩
  clear hc
  go_enter Tryz.func42, Tryz.ntmps42
  go_wp2
  go_loop [1, 5] (fun kv iv => ∃ j : Nat, j ≤ n ∧ iv = .int .i64 j ∧ kv = .int .i64 (k + j)) (fun _ iv => n - (intOf iv).toNat)
  case atStart => exact ⟨0, Nat.zero_le _, rfl, by simp⟩
  case round =>
    obtain ⟨j, hj, rfl, rfl⟩ := hrel
    by_cases hlt : j < n
    · obtain ⟨b, o, rfl, hcs⟩ := HC.out (by omega)
      have c := hcs j hlt
      clear hcs HC
      go_wp2
      refine ⟨⟨j + 1, by omega, by go_num, by go_num⟩, by simp [intOf]; omega⟩
    · have hj2 : j = n := by omega
      subst hj2
      go_wp2
      go_ret
      exact ⟨rfl, rfl⟩

theorem mark_value (k0 n0 : Int) (a : Option Addr) (cap : Nat) (zs : List Int) (t : ByteArray) (k : Int) (w : World) (hc : Codes w a zs) (hf : Free w a zs) (hk0 : 0 ≤ k) (hk1 : k ≤ 100000000) :
    Calls Tryz.prog 14 #[av k0 n0 a zs.length cap t, .int .i64 k] w fun e w' => e = .returned (.int .i64 (k + zs.length)) ∧ Marked w w' a zs k := by
  have HC : Hid (Codes w a zs) := hc
  have HF : Hid (Free w a zs) := hf
  clear hc hf
  go_enter Tryz.func14, Tryz.ntmps14
  go_wp2_with fail
  refine (mark_ints a cap zs k _ (HC.out.alloc _) (HF.out.on (below_one w _)) hk0 hk1).mono ?_
  rintro e w1 ⟨rfl, hM⟩
  have HM : Hid (Marked w w1 a zs k) := hM.after (below_one w _)
  clear hM
  go_wp2
  go_ret
  exact ⟨rfl, HM.out⟩
end Go.Proofs.YtjnnkilmlngjgaaGreatDoor.RdL
