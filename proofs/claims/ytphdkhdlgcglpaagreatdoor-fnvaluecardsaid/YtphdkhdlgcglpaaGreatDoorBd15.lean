/- Texts of ours, laid together: RdMarkI. -/
import Derived.Test.YtphdkhdlgcglpaaGreatDoorBd8
import Derived.Test.YtphdkhdlgcglpaaGreatDoorBd10
import Derived.Test.YtphdkhdlgcglpaaGreatDoorBd12
/- Marks that the laws write over codes, and look for. -/
namespace Go.Proofs.YtphdkhdlgcglpaaGreatDoor.RdL
open Go.RowKit
open ValW ValS
open RdS (Fresh)
open RdI (Free)

def marks (k : Int) (n : Nat) : List Int := (List.range n).map fun (i : Nat) => k + (i : Int)
theorem marks_len (k : Int) (n : Nat) : (marks k n).length = n := by simp [marks]
theorem marks_at (k : Int) (n i : Nat) (h : i < n) : (marks k n).getD i 0 = k + i := by simp [marks, List.getD, h]
/-- the codes bear marks; nothing else that lay there has changed -/
def Marked (w w' : World) (a : Option Addr) (zs : List Int) (k : Int) : Prop := w'.os = w.os ∧ w'.tape = w.tape ∧ w'.output = w.output ∧ w.heap.size ≤ w'.heap.size ∧
  (∀ j, j < w.heap.size → (∀ b o, a = some ⟨b, o, none⟩ → 0 < zs.length → j ≠ b) → w'.heap[j]? = w.heap[j]?) ∧ Codes w' a (marks k zs.length)
theorem Marked.below {w w' : World} {a : Option Addr} {zs : List Int} {k : Int} {B : Nat} (h : Marked w w' a zs k) (hf : Fresh a B) (hB : B ≤ w.heap.size) : Below B w w' := by
  obtain ⟨h1, h2, h3, h4, h5, _⟩ := h
  exact ⟨h1, h2, h3, by omega, fun j hj => h5 j (by omega) fun b o ha _ => by have := hf b o ha; omega⟩
theorem Marked.after {w0 w w' : World} {a : Option Addr} {zs : List Int} {k : Int} (h : Marked w w' a zs k) (hB : Below w0.heap.size w0 w) : Marked w0 w' a zs k := by
  obtain ⟨h1, h2, h3, h4, h5, h6⟩ := h
  exact ⟨h1.trans hB.os, h2.trans hB.tape, h3.trans hB.output, Nat.le_trans hB.size h4, fun j hj hn => (h5 j (Nat.lt_of_lt_of_le hj hB.size) hn).trans (hB.block j hj), h6⟩

def MInv (w : World) (b o : Nat) (zs : List Int) (k : Int) (kv iv : Value) (wr : World) : Prop := ∃ j : Nat, j ≤ zs.length ∧ iv = .int .i64 j ∧ kv = .int .i64 (k + j) ∧ wr.os = w.os ∧ wr.tape = w.tape ∧ wr.output = w.output ∧ wr.heap.size = w.heap.size ∧
  (∀ x, x ≠ b → wr.heap[x]? = w.heap[x]?) ∧ (∀ i, i < j → wr.cell? ⟨b, o + i, none⟩ = some (.int .i64 (k + i))) ∧ (∀ i, j ≤ i → i < zs.length → wr.cell? ⟨b, o + i, none⟩ = some (.int .i64 (zs.getD i 0))) ∧ (∀ i, i < zs.length → wr.frozen? ⟨b, o + i, none⟩ = false)

end Go.Proofs.YtphdkhdlgcglpaaGreatDoor.RdL
