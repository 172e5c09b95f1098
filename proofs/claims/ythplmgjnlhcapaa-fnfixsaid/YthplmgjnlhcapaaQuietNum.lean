/- A region that draws its order, over the class of worlds that only grow: a NumOut that is read whole, one of its numbers, and a call by its contract. -/
import Derived.Test.YthplmgjnlhcapaaFixFace
import Derived.Deep.QuietTactic
import Derived.BigQuiet
import Derived.Laws.StructEq
namespace Go.Proofs.Ythplmgjnlhcapaa.QuN
open Go.RowKit

/-- a NumOut lies in a block -/
def Num3 (w : World) (b : Nat) (r : Int × Int) : Prop := w.cell? ⟨b, 0, none⟩ = some (.int .i64 r.1) ∧ w.cell? ⟨b, 1, none⟩ = some (.int .i64 0) ∧ w.cell? ⟨b, 2, none⟩ = some (.int .i64 r.2) ∧ b < w.heap.size
theorem Num3.kept {w w' : World} {b B : Nat} {r : Int × Int} (h : Num3 w b r) (hB : Below B w w') (hb : b < B) : Num3 w' b r := by
  obtain ⟨h0, h1, h2, h3⟩ := h
  exact ⟨by rw [hB.cell (p := ⟨b, 0, none⟩) hb]; exact h0, by rw [hB.cell (p := ⟨b, 1, none⟩) hb]; exact h1, by rw [hB.cell (p := ⟨b, 2, none⟩) hb]; exact h2, Nat.lt_of_lt_of_le h3 hB.size⟩
theorem Num3.on {w w' : World} {b : Nat} {r : Int × Int} (h : Num3 w b r) (hB : Below w.heap.size w w') : Num3 w' b r := h.kept hB h.2.2.2
theorem Num3.laid (w : World) (r : Int × Int) : Num3 (w.alloc (.cells #[.int .i64 r.1, .int .i64 0, .int .i64 r.2] 26)) w.heap.size r := ⟨by simp, by simp, by simp, by simp⟩

theorem quiet_load3 {a : Act} {o : Oper} {C : World → Prop} {K : Act → Prop} (t b : Nat) (r : Int × Int) (h : o.op = .load 26 (.tmp t)) (ht : a.eval (.tmp t) = .pointer (some ⟨b, 0, none⟩))
    (hC : ∀ W, C W → Num3 W b r) (hk : K (a.put o.dst (.agg #[.int .i64 r.1, .int .i64 0, .int .i64 r.2]))) : o.quiet Try.prog a C K := by
  refine ⟨_, fun W hW => ?_, hk⟩
  obtain ⟨h0, h1, h2, _⟩ := hC W hW
  obtain ⟨dst, op, ty, pos, after, guard⟩ := o
  subst h
  have ht2 : a.tmps[t]?.getD undef = .pointer (some ⟨b, 0, none⟩) := by simpa [Act.eval] using ht
  simp [Oper.quietAt, go_sem, ht2, h0, h1, h2]
theorem quiet_load1 {a : Act} {o : Oper} {C : World → Prop} {K : Act → Prop} (t b f : Nat) (v : Int) (h : o.op = .load 2 (.tmp t)) (ht : a.eval (.tmp t) = .pointer (some ⟨b, f, none⟩))
    (hC : ∀ W, C W → W.cell? ⟨b, f, none⟩ = some (.int .i64 v)) (hk : K (a.put o.dst (.int .i64 v))) : o.quiet Try.prog a C K := by
  refine ⟨_, fun W hW => ?_, hk⟩
  have h0 := hC W hW
  obtain ⟨dst, op, ty, pos, after, guard⟩ := o
  subst h
  have ht2 : a.tmps[t]?.getD undef = .pointer (some ⟨b, f, none⟩) := by simpa [Act.eval] using ht
  simp [Oper.quietAt, go_sem, ht2, h0]
theorem quiet_call {a : Act} {o : Oper} {C : World → Prop} {K : Act → Prop} (f : FuncId) (vs : Array Value) (v : Value) (he : ∀ W, (execOp a.eval o).run Try.prog W = .ok (.enter f vs) W)
    (hc : ∀ W, C W → Calls Try.prog f vs W fun e w' => e = .returned v ∧ C w') (hk : K (a.put o.dst v)) : o.quiet Try.prog a C K :=
  ⟨v, fun W hW => by unfold Oper.quietAt; rw [he W]; exact ⟨rfl, hc W hW⟩, hk⟩
end Go.Proofs.Ythplmgjnlhcapaa.QuN
