/- Texts of ours, laid together: ErpState. -/
import Derived.Test.YtecopedjjfimoaaGreatDoorBd42
import Derived.Test.YtecopedjjfimoaaGreatDoorBd34
import Derived.Test.YtecopedjjfimoaaGreatDoorBd19
/- The program's reader: what lies in memory while it reads. -/
namespace Go.Proofs.YtecopedjjfimoaaGreatDoor.ErpI
open Go.RowKit
open StrW (Nm)
open PrtI PrtW
open RdI (EnvR numV)
open FldK (Only only_trans)

theorem run_t (L : List Nm) (out : List Pt) (op : List Nat) : run true L out op = if L.headD [] = [33] then run true L.tail (out ++ [(11, 0, ByteArray.empty)]) op
    else if L.headD [] = [40] then run true L.tail (out ++ [pt0]) (out.length :: op)
    else if nextB L.tail [40] = true then run false (callM (bs (L.headD [])) L.tail).2 (out ++ [(callM (bs (L.headD [])) L.tail).1]) op
    else run false L.tail (out ++ [leafM (bs (L.headD []))]) op := by
  cases L with
  | nil => rw [run_t0, if_neg (by decide), if_neg (by decide), if_neg (by decide)]; rfl
  | cons u L => exact run_t1 u L out op
theorem run_f_end (L : List Nm) (out : List Pt) (op : List Nat) (h : L.headD [] = [] ∨ op = []) : run false L out op = out := by
  rcases h with h | rfl
  · cases L with
    | nil => exact run_f0 out op
    | cons u L =>
      obtain rfl : u = [] := h
      exact run_fe L out op
  · exact run_fn L out
theorem run_f (L : List Nm) (out : List Pt) (k : Nat) (op : List Nat) (h : L.headD [] ≠ []) : run false L out (k :: op) = if L.headD [] = [41] then run false L.tail out op else run true L.tail.tail.tail (out.modify k fun p => ((opM (L.tail.headD []) : Int), p.2)) (k :: op) := by
  cases L with
  | nil => exact absurd rfl h
  | cons u L => exact run_f1 u L out k op h

def ints (l : List Nat) : List Value := l.map fun (k : Nat) => Value.int .i64 (k : Int)
theorem ints_len (l : List Nat) : (ints l).length = l.length := List.length_map ..
theorem ints_append (a b : List Nat) : ints (a ++ b) = ints a ++ ints b := List.map_append
theorem Tryz.infoI : (Tryz.prog.info? 3).map (fun i => (i.zero, i.size, i.bytes)) = some (some (.int .i64 0), 1, 8) := by kernel_rfl

/-- what lies in memory while it reads: the pieces left, the parts found, the open brackets -/
def Lk (w0 W : World) (P : Nat) (L : List Nm) (vo : Value) (out : List Pt) (vp : Value) (op : List Nat) : Prop :=
  (Below w0.heap.size w0 W ∧ w0.heap.size ≤ P) ∧ Pcs W P P L ∧ W.ownsRow (P + 1) 99 3 vo out.length (cellsP out) ∧ W.ownsRow (P + 1) 3 1 vp op.length (ints op.reverse)
/-- what holds of the lists -/
def Okk (N : Nat) (L : List Nm) (out : List Pt) (op : List Nat) : Prop :=
  (∀ x ∈ L, x.length ≤ 8000) ∧ (∀ k ∈ op, k < out.length) ∧ (∀ p ∈ out, Fit p) ∧ op.length ≤ out.length ∧ out.length + L.length ≤ N

section
variable {w0 W W' : World} {P : Nat} {L L' : List Nm} {vo vp v' : Value} {out : List Pt} {op : List Nat}
theorem Lk.lt (h : Lk w0 W P L vo out vp op) : P < W.heap.size := pcs_lt h.2.1
theorem own_only {e : TypeId} {k n : Nat} {v : Value} {xs : List Value} (h : W.ownsRow (P + 1) e k v n xs) (hO : Only W W' P) : W'.ownsRow (P + 1) e k v n xs := by
  refine h.kept hO ?_
  rcases hv : v.ownBlock with _ | g
  · exact .inl rfl
  · have := (h.lt g hv).1
    exact .inr (fun e => by have := Option.some.inj e; omega)
theorem own_below {e : TypeId} {b k n : Nat} {v : Value} {xs : List Value} (h : W.ownsRow b e k v n xs) (hB : Below W.heap.size W W') : W'.ownsRow b e k v n xs := by
  obtain ⟨h1, h2⟩ := h
  refine ⟨h1, ?_⟩
  rcases h2 with h2 | ⟨g, cap, cur, hv, hb, hg, r⟩
  · exact .inl h2
  · exact .inr ⟨g, cap, cur, hv, hb, by rw [hB.block g (Array.getElem?_eq_some_iff.1 hg).1]; exact hg, r⟩
theorem Lk.only (h : Lk w0 W P L vo out vp op) (hP : Pcs W' P P L') (hO : Only W W' P) : Lk w0 W' P L' vo out vp op :=
  ⟨⟨h.1.1.trans (FldK.Only.below hO h.1.2 h.1.1.size), h.1.2⟩, hP, own_only h.2.2.1 hO, own_only h.2.2.2 hO⟩
theorem Lk.on (h : Lk w0 W P L vo out vp op) (hB : Below W.heap.size W W') : Lk w0 W' P L vo out vp op :=
  ⟨⟨h.1.1.trans (hB.mono h.1.1.size), h.1.2⟩, h.2.1.on hB, own_below h.2.2.1 hB, own_below h.2.2.2 hB⟩
theorem Lk.alloc (h : Lk w0 W P L vo out vp op) (o : Obj) : Lk w0 (W.alloc o) P L vo out vp op := h.on (StrW.below_one W o)
theorem pcs_grown {row : Option Nat} (h : Pcs W P P L) (hg : W.grownBy W' row) (hr : ∀ g, row = some g → P < g) : Pcs W' P P L := by
  obtain ⟨a, cap, h1, h2, h3, h4⟩ := h
  have hP : W'.heap[P]? = W.heap[P]? := hg.block P (pcs_cells h1).2.2 (fun e => by have := hr P e.symm; omega)
  refine ⟨a, cap, hP.trans h1, ⟨h2.1, fun hp => ?_⟩, h3, h4⟩
  obtain ⟨b, o, ha, hb, hc⟩ := h2.2 hp
  have hbP := (h4 b o ha hp).2
  refine ⟨b, o, ha, Nat.lt_of_lt_of_le hb hg.size, fun i hi => ?_⟩
  rw [World.cell?_of_block (w := W) (a := ⟨b, o + i, none⟩) (hg.block b hb (fun e => by have := hr b e.symm; omega))]
  exact hc i hi
/-- rows of unlike things are not the same row -/
theorem own_apart {e e' : TypeId} {b b' k k' n n' : Nat} {v v' : Value} {xs xs' : List Value} (h : W.ownsRow b e k v n xs) (h' : W.ownsRow b' e' k' v' n' xs') (hne : e ≠ e') : v.ownBlock = none ∨ v.ownBlock ≠ v'.ownBlock := by
  rcases h.2 with ⟨rfl, _⟩ | ⟨g, cap, cur, rfl, _, hg, _⟩
  · exact .inl rfl
  · rcases h'.2 with ⟨rfl, _⟩ | ⟨g', cap', cur', rfl, _, hg', _⟩
    · exact .inr (by simp [Value.ownBlock])
    · refine .inr fun e1 => hne ?_
      simp [Value.ownBlock] at e1
      subst e1
      rw [hg] at hg'
      injection hg' with hg'
      injection hg'
theorem Lk.push (h : Lk w0 W P L vo out vp op) (p : Pt) (hown : W'.ownsRow (P + 1) 99 3 v' (out.length + 1) (cellsP out ++ cellsP [p])) (hg : W.grownBy W' vo.ownBlock) : Lk w0 W' P L v' (out ++ [p]) vp op := by
  have hr : ∀ g, vo.ownBlock = some g → P < g := fun g hv => by have := (h.2.2.1.lt g hv).1; omega
  refine ⟨⟨h.1.1.grown hg h.1.1.size (fun g hv => by have := hr g hv; have := h.1.2; omega), h.1.2⟩, pcs_grown h.2.1 hg hr, ?_, h.2.2.2.kept hg (own_apart h.2.2.2 h.2.2.1 (by decide))⟩
  rw [cellsP_append]; simpa using hown
theorem Lk.opened (h : Lk w0 W P L vo out vp op) (k : Nat) (hown : W'.ownsRow (P + 1) 3 1 v' (op.length + 1) (ints op.reverse ++ [.int .i64 (k : Int)])) (hg : W.grownBy W' vp.ownBlock) : Lk w0 W' P L vo out v' (k :: op) := by
  have hr : ∀ g, vp.ownBlock = some g → P < g := fun g hv => by have := (h.2.2.2.lt g hv).1; omega
  refine ⟨⟨h.1.1.grown hg h.1.1.size (fun g hv => by have := hr g hv; have := h.1.2; omega), h.1.2⟩, pcs_grown h.2.1 hg hr, h.2.2.1.kept hg (own_apart h.2.2.1 h.2.2.2 (by decide)), ?_⟩
  rw [List.reverse_cons, ints_append]; simpa [ints] using hown
theorem Lk.sliceO (h : Lk w0 W P L vo out vp op) : ∃ a cap, vo = .slice a out.length cap := by
  rcases h.2.2.1.2 with ⟨rfl, h0⟩ | ⟨g, cap, cur, rfl, _⟩
  · exact ⟨none, 0, by rw [h0]⟩
  · exact ⟨_, cap, rfl⟩
theorem Lk.sliceP (h : Lk w0 W P L vo out vp op) : ∃ a cap, vp = .slice a op.length cap ∧ op.length ≤ cap := by
  rcases h.2.2.2.2 with ⟨rfl, h0⟩ | ⟨g, cap, cur, rfl, _, _, hc, _⟩
  · exact ⟨none, 0, by rw [h0], by omega⟩
  · exact ⟨_, cap, rfl, hc⟩
theorem Lk.pop {a : Option Addr} {cap k : Nat} (h : Lk w0 W P L vo out (.slice a (op.length + 1) cap) (k :: op)) : Lk w0 W P L vo out (.slice a op.length cap) op := by
  refine ⟨h.1, h.2.1, h.2.2.1, ?_⟩
  have h1 := h.2.2.2
  rw [List.reverse_cons, ints_append] at h1
  rcases h1.2 with ⟨e, _⟩ | ⟨g, cap', cur, e, _⟩
  · cases e
  · cases e
    exact ownsRow_pop (by rw [ints_len]; simp) h1
end
theorem own_base {W : World} {e : TypeId} {b b' k n : Nat} {v : Value} {xs : List Value} (h : W.ownsRow b e k v n xs) (hb : b' ≤ b) : W.ownsRow b' e k v n xs := by
  obtain ⟨h1, h2⟩ := h
  refine ⟨h1, ?_⟩
  rcases h2 with h2 | ⟨g, cap, cur, hv, hbg, r⟩
  · exact .inl h2
  · exact .inr ⟨g, cap, cur, hv, by omega, r⟩

theorem own_cell {W : World} {e : TypeId} {b base k n : Nat} {v : Value} {xs : List Value} (h : W.ownsRow base e k v n xs) (hb : b < base) (j : Nat) (u : Value) : (W.setCell ⟨b, j, none⟩ u).ownsRow base e k v n xs := by
  obtain ⟨h1, h2⟩ := h
  refine ⟨h1, ?_⟩
  rcases h2 with h2 | ⟨g, cap, cur, hv, hbg, hg, r⟩
  · exact .inl h2
  · exact .inr ⟨g, cap, cur, hv, hbg, by rw [Below.heap_setCell _ _ _ _ (show g ≠ b by omega)]; exact hg, r⟩
theorem modify_len (out : List Pt) (k : Nat) (f : Pt → Pt) : (out.modify k f).length = out.length := by simp
theorem cellsP_modify (x : Int) : ∀ (out : List Pt) (k : Nat), k < out.length → cellsP (out.modify k fun p => (x, p.2)) = (cellsP out).set (k * 3) (.int .i64 x) := by
  intro out
  induction out with
  | nil => intro k h; simp at h
  | cons p r ih =>
    intro k h
    cases k with
    | zero => rfl
    | succ k =>
      rw [List.modify_succ_cons, cellsP_cons, cellsP_cons, ih k (by simpa using h), show (k + 1) * 3 = k * 3 + 1 + 1 + 1 by omega]
      simp only [List.set_cons_succ]
theorem fit_modify {out : List Pt} {k : Nat} {x : Int} (h : ∀ p ∈ out, Fit p) (hx : -9223372036854775808 ≤ x ∧ x ≤ 9223372036854775807) : ∀ p ∈ out.modify k (fun p => (x, p.2)), Fit p := by
  induction out generalizing k with
  | nil => intro p hp; simp at hp
  | cons q r ih =>
    intro p hp
    cases k with
    | zero =>
      rw [List.modify_zero_cons] at hp
      rcases List.mem_cons.1 hp with rfl | hp
      · exact ⟨hx, (h q (by simp)).2⟩
      · exact h p (List.mem_cons_of_mem _ hp)
    | succ k =>
      rw [List.modify_succ_cons] at hp
      rcases List.mem_cons.1 hp with rfl | hp
      · exact h p (by simp)
      · exact ih (fun p hp => h p (List.mem_cons_of_mem _ hp)) p hp
theorem Lk.setop {w0 W : World} {P g cap k : Nat} {L : List Nm} {vp : Value} {out : List Pt} {op : List Nat} (h : Lk w0 W P L (.slice (some ⟨g, 0, none⟩) out.length cap) out vp op) (x : Int) (hk : k < out.length) :
    Lk w0 (W.setCell ⟨g, k * 3, none⟩ (.int .i64 x)) P L (.slice (some ⟨g, 0, none⟩) out.length cap) (out.modify k fun p => (x, p.2)) vp op := by
  obtain ⟨h1, h2⟩ := h.2.2.1.stored (k * 3) (.int .i64 x)
  have hg := (h.2.2.1.lt g rfl).1
  refine ⟨⟨h.1.1.grown h2 h.1.1.size (fun g' e => by have := Option.some.inj e; have := h.1.2; omega), h.1.2⟩, pcs_grown h.2.1 h2 (fun g' e => by have := Option.some.inj e; omega), ?_, h.2.2.2.kept h2 ?_⟩
  · rw [cellsP_modify x out k hk, modify_len]; exact h1
  · exact own_apart h.2.2.2 h.2.2.1 (by decide)
theorem op_le (u : List UInt8) : opM u ≤ 10 := by
  unfold opM opFrom
  repeat' (first | omega | exact Nat.zero_le _ | (split; · omega) | (unfold opFrom))
theorem fit_snoc {out : List Pt} {p : Pt} (h : ∀ p ∈ out, Fit p) (hp : Fit p) : ∀ q ∈ out ++ [p], Fit q := fun q hq => by
  rcases List.mem_append.1 hq with hq | hq
  · exact h q hq
  · rw [List.mem_singleton.1 hq]; exact hp
theorem fit_leaf {u : ByteArray} (h : u.size ≤ 8000) : Fit (leafM u) := by
  unfold leafM
  cases e : Lib.parseIntB 64 u.data.toList with
  | ok v =>
    have := Lib.parseIntB_bounds e
    rw [show ((2 ^ (64 - 1) : Nat) : Int) = 9223372036854775808 by decide] at this
    exact ⟨by simp, by simp only; omega, by simp⟩
  | _ => exact ⟨by simp, by simp, by simp only; omega⟩
theorem fit_call {u : ByteArray} {L : List Nm} (h : ∀ x ∈ L, x.length ≤ 8000) : Fit (callM u L).1 := by
  have hz := head_size (tail_sizes h)
  have hn := RdI.num_fit (bs (L.tail.tail.tail.headD []))
  unfold callM
  split
  · exact ⟨by simp, by simp, by simp only; omega⟩
  · split
    · exact ⟨by simp, hn, by simp only; omega⟩
    · exact ⟨by simp, by simp, by simp only; omega⟩
theorem call_mem {u : ByteArray} {L : List Nm} {x : Nm} (h : x ∈ (callM u L).2) : x ∈ L := by
  unfold callM at h
  split at h
  · exact List.mem_of_mem_tail (List.mem_of_mem_tail (List.mem_of_mem_tail h))
  · split at h
    · exact List.mem_of_mem_tail (List.mem_of_mem_tail (List.mem_of_mem_tail (List.mem_of_mem_tail (List.mem_of_mem_tail h))))
    · exact List.mem_of_mem_tail (List.mem_of_mem_tail (List.mem_of_mem_tail h))
end Go.Proofs.YtecopedjjfimoaaGreatDoor.ErpI
