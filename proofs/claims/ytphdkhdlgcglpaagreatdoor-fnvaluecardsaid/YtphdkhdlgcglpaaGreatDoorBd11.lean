/- Texts of ours, laid together: DrawVCopy. -/
import Derived.Test.YtphdkhdlgcglpaaGreatDoorBd10
import Derived.Laws.AppendOwnNone
/- A copy of an answer that shares nothing with it. -/
namespace Go.Proofs.YtphdkhdlgcglpaaGreatDoor.DrawV
open Go.RowKit
open ValW RdS
set_option linter.unusedSimpArgs false
theorem Tryz.infoI64c : (Tryz.prog.info? 2).map (fun i => (i.zero, i.size, i.bytes)) = some (some (.int .i64 0), 1, 8) := by kernel_rfl

/-- the block in which codes lie holds numbers -/
def TyI (w : World) (a : Option Addr) : Prop := ∀ b o, a = some ⟨b, o, none⟩ → ∃ cs fz, w.heap[b]? = some (.cells cs 2 fz)
theorem TyI.on {w w' : World} {a : Option Addr} (h : TyI w a) (hB : Below w.heap.size w w') : TyI w' a := fun b o ha => by
  obtain ⟨cs, fz, hc⟩ := h b o ha
  exact ⟨cs, fz, by rw [hB.block b (Array.getElem?_eq_some_iff.1 hc).1]; exact hc⟩
theorem TyI.set {w : World} {a : Option Addr} (h : TyI w a) (p : Addr) (hp : ∀ b o, a = some ⟨b, o, none⟩ → p.block ≠ b) (v : Value) : TyI (w.setCell p v) a := fun b o ha => by
  obtain ⟨cs, fz, hc⟩ := h b o ha
  exact ⟨cs, fz, by rw [Below.heap_setCell _ _ _ _ (fun e => hp b o ha e.symm)]; exact hc⟩
theorem own_ty {w : World} {base n cap : Nat} {a : Option Addr} {m : Nat} {xs : List Value} (h : w.ownsRow base 2 1 (.slice a m cap) n xs) : TyI w a := fun b o ha => by
  rcases h.2 with ⟨h0, _⟩ | ⟨g, c, cur, h0, _, hg, _⟩
  · rw [ha] at h0; injection h0 with h0; cases h0
  · rw [ha] at h0
    injection h0 with h0
    cases h0
    exact ⟨cur, _, hg⟩
theorem heap_new3 (w : World) (x y z : Obj) : (((w.alloc x).alloc y).alloc z).heap[w.heap.size + 1 + 1]? = some z := by
  have := heap_alloc_new ((w.alloc x).alloc y) z
  simpa using this
set_option maxRecDepth 10000 in
set_option maxHeartbeats 1000000 in
theorem copy_typed (k n : Int) (a : Option Addr) (cap : Nat) (zs : List Int) (t : ByteArray) (w : World) (hc : Codes w a zs) (hn : a = none → cap = 0) :
    Calls Tryz.prog 60 #[av k n a zs.length cap t] w fun e w' =>
      ∃ a' cap', e = .returned (av k n a' zs.length cap' t) ∧ Codes w' a' zs ∧ Fresh a' w.heap.size ∧ (a' = none → cap' = 0) ∧ TyI w' a' ∧ Below w.heap.size w w' := by
  have HC : Hid (Codes w a zs) := hc
  have hzl := hc.1
  clear hc
  obtain ⟨i0, hi0, hz0, hz1, hz2⟩ := info_parts Tryz.infoI64c
  cases a with
  | none =>
    have e : zs = [] := by
      cases zs with
      | nil => rfl
      | cons x l => obtain ⟨b, o, h, _⟩ := HC.out.2 (by simp); cases h
    subst e
    obtain rfl := hn rfl
    go_enter Tryz.func60, Tryz.ntmps60
    go_wp2
    refine bodyPost_ret (v := av k n (some ⟨w.heap.size + 1 + 1, 0, none⟩) 0 0 t) (by simp [results, Tryz.results60, go_sem]) rfl ?_
    exact ⟨some ⟨w.heap.size + 1 + 1, 0, none⟩, 0, rfl, Codes.nil _ _, fun b o h => by cases h; omega, fun h => (nomatch h), fun b o h => ⟨#[], (0, 0), by cases h; exact heap_new3 w _ _ _⟩, (((Below.refl _ _).alloc (Nat.le_refl _) _).alloc (by simp) _).alloc (by simp; omega) _⟩
  | some ad =>
    go_enter Tryz.func60, Tryz.ntmps60
    go_wp2_with (first
      | (at_builtin; refine wpList_append_own _ rfl _ _ 36 rfl (w.heap.size + 1 + 1) 2 i0 (.int .i64 0) 1 8 Tryz.underlying36 hi0 hz0 hz1 hz2 rfl (by decide) _ 0 [] rfl ?c0 ad zs.length cap (cellsI zs) rfl (by simp [cellsI]) ?c1 ?c2 ?c3 ?c4 ?c5 ?_))
    case c0 =>
      have h := World.ownsRow_made (base := w.heap.size + 1 + 1) (e := 2) (size := 1) ((w.alloc (.cells #[.int .i64 k, .int .i64 n, .slice (some ad) zs.length cap, .string t] 38)).alloc (.cells #[.int .i64 0, .int .i64 0, .slice none 0 0, .string ⟨#[]⟩] 38)) #[] 0 (by simp) (by unfold maxLen; omega) rfl
      simp only [World.size_alloc] at h
      exact h
    case c1 =>
      intro j u hj
      have hlt : j < zs.length := by have := (List.getElem?_eq_some_iff.1 hj).1; simpa [cellsI] using this
      obtain ⟨b, o, h, hb, hc⟩ := HC.out.2 (by omega)
      cases h
      have e := hc j hlt
      have hu : u = .int .i64 (zs.getD j 0) := by
        unfold cellsI at hj
        simp [List.getElem?_eq_getElem hlt] at hj
        rw [← hj]; simp [List.getD, List.getElem?_eq_getElem hlt]
      rw [hu, ← e]
      have ea : (Addr.mk b o none).add j = ⟨b, o + j, none⟩ := by unfold Addr.add; split <;> simp_all
      rw [ea]
      exact ((((Below.refl w.heap.size w).alloc (Nat.le_refl _) _).alloc (by simp) _).alloc (by simp; omega) _).cell (p := ⟨b, o + j, none⟩) hb
    case c2 => intro u hu; unfold cellsI at hu; obtain ⟨z, _, rfl⟩ := List.mem_map.1 hu; rfl
    case c3 => unfold maxLen; omega
    case c4 => omega
    case c5 => simp
    intro v' w2 hown hgrow _
    have hk : ∀ j, j < w.heap.size + 2 → w2.heap[j]? = (((w.alloc (.cells #[.int .i64 k, .int .i64 n, .slice (some ad) zs.length cap, .string t] 38)).alloc (.cells #[.int .i64 0, .int .i64 0, .slice none 0 0, .string ⟨#[]⟩] 38)).alloc (.cells #[] 2)).heap[j]? := fun j hj => hgrow.block j (by simp; omega) (by intro e; have := Option.some.inj e; simp at this; omega)
    have hp : w2.heap[w.heap.size]? = some (.cells #[.int .i64 k, .int .i64 n, .slice (some ad) zs.length cap, .string t] 38 (0, 0)) := by
      rw [hk _ (by omega), Below.heap_alloc _ _ _ (by simp; omega), Below.heap_alloc _ _ _ (by simp)]; exact heap_alloc_new w _
    have hq : w2.heap[w.heap.size + 1]? = some (.cells #[.int .i64 0, .int .i64 0, .slice none 0 0, .string ⟨#[]⟩] 38 (0, 0)) := by
      rw [hk _ (by omega), Below.heap_alloc _ _ _ (by simp)]
      have := heap_alloc_new (w.alloc (.cells #[.int .i64 k, .int .i64 n, .slice (some ad) zs.length cap, .string t] 38)) (.cells #[.int .i64 0, .int .i64 0, .slice none 0 0, .string ⟨#[]⟩] 38)
      simpa using this
    have HB : Hid (Below w.heap.size w w2) := ⟨hgrow.os, hgrow.tape, hgrow.output, by have := hgrow.size; simp at this; omega, fun j hj => by rw [hk j (by omega), Below.heap_alloc _ _ _ (by simp; omega), Below.heap_alloc _ _ _ (by simp; omega), Below.heap_alloc _ _ _ hj]⟩
    have hN : ∀ a' l' c', v' = .slice a' l' c' → a' = none → c' = 0 := fun a' l' c' e1 e2 => by
      rcases hown.2 with ⟨h0, _⟩ | ⟨g, c, cur, h0, _⟩
      · rw [e1] at h0; injection h0
      · rw [e1, e2] at h0; injection h0 with h0; cases h0
    obtain ⟨a', cap', rfl, hcd, hap⟩ := own_codes hown hzl
    have HTY : Hid (TyI w2 a') := own_ty hown
    have HCD : Hid (Codes w2 a' zs) := hcd
    have hFR : Fresh a' (w.heap.size + 2) := fun b o hb => by
      rcases hap with h | ⟨g, h, hg⟩
      · rw [h] at hb; cases hb
      · rw [h] at hb; cases hb; exact hg
    have hN2 := hN _ _ _ rfl
    have x0 : w2.cell? ⟨w.heap.size, 0, none⟩ = some (.int .i64 k) := by simp [World.cell?, hp]
    have x1 : w2.cell? ⟨w.heap.size, 1, none⟩ = some (.int .i64 n) := by simp [World.cell?, hp]
    have x2 : w2.cell? ⟨w.heap.size, 2, none⟩ = some (.slice (some ad) zs.length cap) := by simp [World.cell?, hp]
    have x3 : w2.cell? ⟨w.heap.size, 3, none⟩ = some (.string t) := by simp [World.cell?, hp]
    have xf : ∀ j, w2.frozen? ⟨w.heap.size, j, none⟩ = false := fun j => by simp [World.frozen?, hp]
    have b0 : w2.cell? ⟨w.heap.size + 1, 0, none⟩ = some (.int .i64 0) := by simp [World.cell?, hq]
    have b1 : w2.cell? ⟨w.heap.size + 1, 1, none⟩ = some (.int .i64 0) := by simp [World.cell?, hq]
    have b2 : w2.cell? ⟨w.heap.size + 1, 2, none⟩ = some (.slice none 0 0) := by simp [World.cell?, hq]
    have b3 : w2.cell? ⟨w.heap.size + 1, 3, none⟩ = some (.string ⟨#[]⟩) := by simp [World.cell?, hq]
    have bf : ∀ j, w2.frozen? ⟨w.heap.size + 1, j, none⟩ = false := fun j => by simp [World.frozen?, hq]
    clear hk hp hq hN hown hgrow hap hcd
    go_wp2
    refine bodyPost_ret (v := av k n a' zs.length cap' t) (by simp [results, Tryz.results60, go_sem, b0, b1, b2, b3]) rfl ⟨a', cap', rfl, ?_, fun b o hb => by have := hFR b o hb; omega, hN2, ?_, ?_⟩
    · repeat (refine codes_set ?_ (fun b o hb => by have := hFR b o hb; simp only; omega) _)
      exact HCD.out
    · repeat (refine TyI.set ?_ _ (fun b o hb => by have := hFR b o hb; simp only; omega) _)
      exact HTY.out
    · repeat (refine Below.setCell ?_ (by simp) _)
      exact HB.out
theorem copy_any (k n : Int) (a : Option Addr) (cap : Nat) (zs : List Int) (t : ByteArray) (w : World) (hc : Codes w a zs) (hn : a = none → cap = 0) :
    Calls Tryz.prog 60 #[av k n a zs.length cap t] w fun e w' =>
      ∃ a' cap', e = .returned (av k n a' zs.length cap' t) ∧ Codes w' a' zs ∧ Fresh a' w.heap.size ∧ (a' = none → cap' = 0) ∧ Below w.heap.size w w' :=
  (copy_typed k n a cap zs t w hc hn).mono fun _ _ ⟨a', cap', h1, h2, h3, h4, _, h5⟩ => ⟨a', cap', h1, h2, h3, h4, h5⟩
end Go.Proofs.YtphdkhdlgcglpaaGreatDoor.DrawV
