/- Texts of ours, laid together. -/
import Derived.Laws.OwnMore
import Derived.Test.YtmbhmknfipdadaaGreatDoorBd7
import Derived.Laws.AppendOwnNone
namespace Go.Proofs.YtmbhmknfipdadaaGreatDoor.StrW
open Go.RowKit
abbrev Nm := List UInt8
def encS (l : Nm) : Value := .string ⟨l.toArray⟩
def strs (ss : List Nm) : List Value := ss.map encS
theorem mk_data (s : ByteArray) : (⟨s.data.toList.toArray⟩ : ByteArray) = s := by cases s; simp
def Strs (w : World) (a : Option Addr) (ss : List Nm) : Prop :=
 ss.length ≤ 1048576 ∧ (0 < ss.length → ∃ b o, a = some ⟨b, o, none⟩ ∧ b < w.heap.size ∧ ∀ i, i < ss.length → w.cell? ⟨b, o + i, none⟩ = some (encS (ss.getD i [])))
theorem Strs.on {w w' : World} {a : Option Addr} {ss : List Nm} (h : Strs w a ss) (hB : Below w.heap.size w w') : Strs w' a ss := by
 refine ⟨h.1, fun hp => ?_⟩
 obtain ⟨b, o, ha, hb, hc⟩ := h.2 hp
 exact ⟨b, o, ha, Nat.lt_of_lt_of_le hb hB.size, fun i hi => by rw [hB.cell (p := ⟨b, o + i, none⟩) hb]; exact hc i hi⟩
theorem Strs.nil (w : World) (a : Option Addr) : Strs w a [] := ⟨Nat.zero_le _, fun h => absurd h (Nat.lt_irrefl _)⟩
theorem Strs.at {w : World} {a : Option Addr} {ss : List Nm} (h : Strs w a ss) {i : Nat} (hi : i < ss.length) : ∃ b o, a = some ⟨b, o, none⟩ ∧ b < w.heap.size ∧ w.cell? ⟨b, o + i, none⟩ = some (encS (ss.getD i [])) := by
 obtain ⟨b, o, ha, hb, hc⟩ := h.2 (by omega)
 exact ⟨b, o, ha, hb, hc i hi⟩
theorem hid {p : Prop} (h : p) : Hid p := h
theorem below_one (w : World) (o : Obj) : Below w.heap.size w (w.alloc o) := (Below.refl _ _).alloc (Nat.le_refl _) o
theorem strs_own {w : World} {base : Nat} {v : Value} {ss : List Nm} (h : w.ownsRow base 9 1 v ss.length (strs ss)) (hl : ss.length ≤ 1048576) :
  ∃ a cap, v = .slice a ss.length cap ∧ Strs w a ss ∧ ss.length ≤ cap ∧ (a = none ∨ ∃ g, a = some ⟨g, 0, none⟩ ∧ base ≤ g) := by
 obtain ⟨_, hv⟩ := h
 rcases hv with ⟨rfl, h0⟩ | ⟨g, cap, cur, rfl, hb, hg, hc, _, hs, ht⟩
 ·obtain rfl := List.length_eq_zero_iff.1 h0
  exact ⟨none, 0, rfl, Strs.nil _ _, Nat.le_refl _, .inl rfl⟩
 ·refine ⟨_, cap, rfl, ⟨hl, fun _ => ⟨g, 0, rfl, (Array.getElem?_eq_some_iff.1 hg).1, fun i hi => ?_⟩⟩, hc, .inr ⟨g, rfl, hb⟩⟩
  have e : (strs ss)[i]? = some (encS (ss.getD i [])) := by unfold strs; simp [hi]
  rw [← ht, List.getElem?_take] at e
  split at e
  ·unfold World.cell?
   simp only [hg, Nat.zero_add]
   simpa using e
  ·cases e
theorem strs_len (a : List Nm) : (strs a).length = a.length := List.length_map ..
end Go.Proofs.YtmbhmknfipdadaaGreatDoor.StrW
namespace Go.Proofs.YtmbhmknfipdadaaGreatDoor.DrawV
open Go.RowKit
open ValW RdS
set_option linter.unusedSimpArgs false
theorem Tryz.infoI64c : (Tryz.prog.info? 2).map (fun i => (i.zero, i.size, i.bytes)) = some (some (.int .i64 0), 1, 8) := by kernel_rfl
def TyI (w : World) (a : Option Addr) : Prop := ∀ b o, a = some ⟨b, o, none⟩ → ∃ cs fz, w.heap[b]? = some (.cells cs 2 fz)
theorem TyI.on {w w' : World} {a : Option Addr} (h : TyI w a) (hB : Below w.heap.size w w') : TyI w' a := fun b o ha => by
 obtain ⟨cs, fz, hc⟩ := h b o ha
 exact ⟨cs, fz, by rw [hB.block b (Array.getElem?_eq_some_iff.1 hc).1]; exact hc⟩
theorem TyI.set {w : World} {a : Option Addr} (h : TyI w a) (p : Addr) (hp : ∀ b o, a = some ⟨b, o, none⟩ → p.block ≠ b) (v : Value) : TyI (w.setCell p v) a := fun b o ha => by
 obtain ⟨cs, fz, hc⟩ := h b o ha
 exact ⟨cs, fz, by rw [Below.heap_setCell _ _ _ _ (fun e => hp b o ha e.symm)]; exact hc⟩
theorem own_ty {w : World} {base n cap : Nat} {a : Option Addr} {m : Nat} {xs : List Value} (h : w.ownsRow base 2 1 (.slice a m cap) n xs) : TyI w a := fun b o ha => by
 rcases h.2 with ⟨h0, _⟩ | ⟨g, c, cur, h0, _, hg, _⟩
 ·rw [ha] at h0; injection h0 with h0; cases h0
 ·rw [ha] at h0
  injection h0 with h0
  cases h0
  exact ⟨cur, _, hg⟩
theorem heap_new3 (w : World) (x y z : Obj) : (((w.alloc x).alloc y).alloc z).heap[w.heap.size + 1 + 1]? = some z := by
 have := heap_alloc_new ((w.alloc x).alloc y) z
 simpa using this
set_option maxRecDepth 10000 in
set_option maxHeartbeats 1000000 in
theorem copy_typed (k n : Int) (a : Option Addr) (cap : Nat) (zs : List Int) (t : ByteArray) (w : World) (hc : Codes w a zs) (hn : a = none → cap = 0) :
  Calls Tryz.prog 86 #[av k n a zs.length cap t] w fun e w' =>
   ∃ a' cap', e = .returned (av k n a' zs.length cap' t) ∧ Codes w' a' zs ∧ Fresh a' w.heap.size ∧ (a' = none → cap' = 0) ∧ TyI w' a' ∧ Below w.heap.size w w' := by
 have HC : Hid (Codes w a zs) := hc
 have hzl := hc.1
 clear hc
 obtain ⟨i0, hi0, hz0, hz1, hz2⟩ := info_parts Tryz.infoI64c
 cases a with
 | none =>
  have e : zs = [] := by
   cases zs with
   | nil => rfl
   | cons x l => obtain ⟨b, o, h, _⟩ := HC.out.2 (by simp); cases h
  subst e
  obtain rfl := hn rfl
  go_enter Tryz.func86, Tryz.ntmps86
  go_wp2
  refine bodyPost_ret (v := av k n (some ⟨w.heap.size + 1 + 1, 0, none⟩) 0 0 t) (by simp [results, Tryz.results86, go_sem]) rfl ?_
  exact ⟨some ⟨w.heap.size + 1 + 1, 0, none⟩, 0, rfl, Codes.nil _ _, fun b o h => by cases h; omega, fun h => (nomatch h), fun b o h => ⟨#[], (0, 0), by cases h; exact heap_new3 w _ _ _⟩, (((Below.refl _ _).alloc (Nat.le_refl _) _).alloc (by simp) _).alloc (by simp; omega) _⟩
 | some ad =>
  go_enter Tryz.func86, Tryz.ntmps86
  go_wp2_with (first
   | (at_builtin; refine wpList_append_own _ rfl _ _ 50 rfl (w.heap.size + 1 + 1) 2 i0 (.int .i64 0) 1 8 Tryz.underlying50 hi0 hz0 hz1 hz2 rfl (by decide) _ 0 [] rfl ?c0 ad zs.length cap (cellsI zs) rfl (by simp [cellsI]) ?c1 ?c2 ?c3 ?c4 ?c5 ?_))
  case c0 =>
   have h := World.ownsRow_made (base := w.heap.size + 1 + 1) (e := 2) (size := 1) ((w.alloc (.cells #[.int .i64 k, .int .i64 n, .slice (some ad) zs.length cap, .string t] 59)).alloc (.cells #[.int .i64 0, .int .i64 0, .slice none 0 0, .string ⟨#[]⟩] 59)) #[] 0 (by simp) (by unfold maxLen; omega) rfl
   simp only [World.size_alloc] at h
   exact h
  case c1 =>
   intro j u hj
   have hlt : j < zs.length := by have := (List.getElem?_eq_some_iff.1 hj).1; simpa [cellsI] using this
   obtain ⟨b, o, h, hb, hc⟩ := HC.out.2 (by omega)
   cases h
   have e := hc j hlt
   have hu : u = .int .i64 (zs.getD j 0) := by
    unfold cellsI at hj
    simp [List.getElem?_eq_getElem hlt] at hj
    rw [← hj]; simp [List.getD, List.getElem?_eq_getElem hlt]
   rw [hu, ← e]
   have ea : (Addr.mk b o none).add j = ⟨b, o + j, none⟩ := by unfold Addr.add; split <;> simp_all
   rw [ea]
   exact ((((Below.refl w.heap.size w).alloc (Nat.le_refl _) _).alloc (by simp) _).alloc (by simp; omega) _).cell (p := ⟨b, o + j, none⟩) hb
  case c2 => intro u hu; unfold cellsI at hu; obtain ⟨z, _, rfl⟩ := List.mem_map.1 hu; rfl
  case c3 => unfold maxLen; omega
  case c4 => omega
  case c5 => simp
  intro v' w2 hown hgrow _
  have hk : ∀ j, j < w.heap.size + 2 → w2.heap[j]? = (((w.alloc (.cells #[.int .i64 k, .int .i64 n, .slice (some ad) zs.length cap, .string t] 59)).alloc (.cells #[.int .i64 0, .int .i64 0, .slice none 0 0, .string ⟨#[]⟩] 59)).alloc (.cells #[] 2)).heap[j]? := fun j hj => hgrow.block j (by simp; omega) (by intro e; have := Option.some.inj e; simp at this; omega)
  have hp : w2.heap[w.heap.size]? = some (.cells #[.int .i64 k, .int .i64 n, .slice (some ad) zs.length cap, .string t] 59 (0, 0)) := by
   rw [hk _ (by omega), Below.heap_alloc _ _ _ (by simp; omega), Below.heap_alloc _ _ _ (by simp)]; exact heap_alloc_new w _
  have hq : w2.heap[w.heap.size + 1]? = some (.cells #[.int .i64 0, .int .i64 0, .slice none 0 0, .string ⟨#[]⟩] 59 (0, 0)) := by
   rw [hk _ (by omega), Below.heap_alloc _ _ _ (by simp)]
   have := heap_alloc_new (w.alloc (.cells #[.int .i64 k, .int .i64 n, .slice (some ad) zs.length cap, .string t] 59)) (.cells #[.int .i64 0, .int .i64 0, .slice none 0 0, .string ⟨#[]⟩] 59)
   simpa using this
  have HB : Hid (Below w.heap.size w w2) := ⟨hgrow.os, hgrow.tape, hgrow.output, by have := hgrow.size; simp at this; omega, fun j hj => by rw [hk j (by omega), Below.heap_alloc _ _ _ (by simp; omega), Below.heap_alloc _ _ _ (by simp; omega), Below.heap_alloc _ _ _ hj]⟩
  have hN : ∀ a' l' c', v' = .slice a' l' c' → a' = none → c' = 0 := fun a' l' c' e1 e2 => by
   rcases hown.2 with ⟨h0, _⟩ | ⟨g, c, cur, h0, _⟩
   ·rw [e1] at h0; injection h0
   ·rw [e1, e2] at h0; injection h0 with h0; cases h0
  obtain ⟨a', cap', rfl, hcd, hap⟩ := own_codes hown hzl
  have HTY : Hid (TyI w2 a') := own_ty hown
  have HCD : Hid (Codes w2 a' zs) := hcd
  have hFR : Fresh a' (w.heap.size + 2) := fun b o hb => by
   rcases hap with h | ⟨g, h, hg⟩
   ·rw [h] at hb; cases hb
   ·rw [h] at hb; cases hb; exact hg
  have hN2 := hN _ _ _ rfl
  have x0 : w2.cell? ⟨w.heap.size, 0, none⟩ = some (.int .i64 k) := by simp [World.cell?, hp]
  have x1 : w2.cell? ⟨w.heap.size, 1, none⟩ = some (.int .i64 n) := by simp [World.cell?, hp]
  have x2 : w2.cell? ⟨w.heap.size, 2, none⟩ = some (.slice (some ad) zs.length cap) := by simp [World.cell?, hp]
  have x3 : w2.cell? ⟨w.heap.size, 3, none⟩ = some (.string t) := by simp [World.cell?, hp]
  have xf : ∀ j, w2.frozen? ⟨w.heap.size, j, none⟩ = false := fun j => by simp [World.frozen?, hp]
  have b0 : w2.cell? ⟨w.heap.size + 1, 0, none⟩ = some (.int .i64 0) := by simp [World.cell?, hq]
  have b1 : w2.cell? ⟨w.heap.size + 1, 1, none⟩ = some (.int .i64 0) := by simp [World.cell?, hq]
  have b2 : w2.cell? ⟨w.heap.size + 1, 2, none⟩ = some (.slice none 0 0) := by simp [World.cell?, hq]
  have b3 : w2.cell? ⟨w.heap.size + 1, 3, none⟩ = some (.string ⟨#[]⟩) := by simp [World.cell?, hq]
  have bf : ∀ j, w2.frozen? ⟨w.heap.size + 1, j, none⟩ = false := fun j => by simp [World.frozen?, hq]
  clear hk hp hq hN hown hgrow hap hcd
  go_wp2
  refine bodyPost_ret (v := av k n a' zs.length cap' t) (by simp [results, Tryz.results86, go_sem, b0, b1, b2, b3]) rfl ⟨a', cap', rfl, ?_, fun b o hb => by have := hFR b o hb; omega, hN2, ?_, ?_⟩
  ·repeat (refine codes_set ?_ (fun b o hb => by have := hFR b o hb; simp only; omega) _)
   exact HCD.out
  ·repeat (refine TyI.set ?_ _ (fun b o hb => by have := hFR b o hb; simp only; omega) _)
   exact HTY.out
  ·repeat (refine Below.setCell ?_ (by simp) _)
   exact HB.out
end Go.Proofs.YtmbhmknfipdadaaGreatDoor.DrawV
