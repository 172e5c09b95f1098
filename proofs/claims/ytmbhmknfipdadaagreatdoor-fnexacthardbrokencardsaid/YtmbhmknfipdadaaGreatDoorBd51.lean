/- Texts of ours, laid together. -/
import Derived.Test.YtmbhmknfipdadaaGreatDoorBd48
import Derived.Test.YtmbhmknfipdadaaGreatDoorBd42
import Derived.Test.YtmbhmknfipdadaaGreatDoorBd47
namespace Go.Proofs.YtmbhmknfipdadaaGreatDoor.RteI
open Go.RowKit Go.Maps
open PrtW PrtM ItmW ItmM FrmM EvlM EvlS ValW NameW RteM RteS BookW PrtI RngW
open AnsW (An an0 nm kd nu cd tx told putA rightA good Ans)
open FrmI (EnvF)
attribute [local go_sem] Oper.semAt_some
theorem StW.off {wG : World} {O Bg Bk b0 F l : Nat} {al : List An} {Dg : DataW Value} {cur : ByteArray} {s : St} {W W' : World} (h : StW wG wG O Bg Bk b0 F Dg cur s W) (hG : GvB wG O Bg Bk F al Dg) (hg : W.grownBy W' (some l)) (hl : l < b0) (hlg : wG.heap.size ≤ l) (hO : l ≠ O) (hK : l ≠ Bk) : StW wG wG O Bg Bk b0 F Dg cur s W' := by
 obtain ⟨h1, h0, h2, vP, vB, D, h3, h4, h5, h6⟩ := h
 have hB : Below wG.heap.size wG W' := h1.trans ⟨hg.os, hg.tape, hg.output, hg.size, fun b hb => hg.block b (Nat.lt_of_lt_of_le hb h1.size) (fun e => by have := Option.some.inj e; omega)⟩
 have hk : KG wG O Bk W' := ⟨hB.size, fun b hb _ _ => hB.block b hb⟩
 exact ⟨hB, hk, Nat.le_trans h2 hg.size, vP, vB, D, h3.grown hg (fun e => hO (Option.some.inj e)), RtS.off h4 hg hl, BookN.far h5 h6 hG h0 hk hg.size (hg.block Bk h5.1.lt (fun e => hK (Option.some.inj e).symm)), h6⟩
theorem putObj_grown (W : World) (l : Nat) (o : Obj) : W.grownBy (W.putObj l o) (some l) := ⟨rfl, rfl, rfl, by simp [World.putObj], fun _ _ hn => World.putObj_heap_other (fun e => hn (by rw [e]))⟩
def WkD (W : World) (O Bg Bk : Nat) (vP vK vB : Value) (cur : ByteArray) (d : Bool) : Prop := W.heap[O]? = some (.cells #[.map (some Bg), .map (some Bk), vP, vK, vB, .string cur, .bool d] 96 (0, 0))
theorem WkD.on {W W' : World} {O Bg Bk : Nat} {vP vK vB : Value} {cur : ByteArray} {d : Bool} (h : WkD W O Bg Bk vP vK vB cur d) (hB : Below W.heap.size W W') : WkD W' O Bg Bk vP vK vB cur d := by
 unfold WkD at h ⊢
 rw [hB.block O (ItmW.blk_lt h)]; exact h
theorem WkD.cells {W : World} {O Bg Bk : Nat} {vP vK vB : Value} {cur : ByteArray} {d : Bool} (h : WkD W O Bg Bk vP vK vB cur d) : (W.cell? ⟨O, 0, none⟩ = some (.map (some Bg)) ∧ W.cell? ⟨O, 1, none⟩ = some (.map (some Bk)) ∧ W.cell? ⟨O, 2, none⟩ = some vP ∧ W.cell? ⟨O, 3, none⟩ = some vK ∧ W.cell? ⟨O, 4, none⟩ = some vB ∧ W.cell? ⟨O, 5, none⟩ = some (.string cur) ∧ W.cell? ⟨O, 6, none⟩ = some (.bool d)) ∧ (∀ j, W.frozen? ⟨O, j, none⟩ = false) ∧ O < W.heap.size := by
 unfold WkD at h
 exact ⟨⟨by simp [World.cell?, h], by simp [World.cell?, h], by simp [World.cell?, h], by simp [World.cell?, h], by simp [World.cell?, h], by simp [World.cell?, h], by simp [World.cell?, h]⟩, fun j => by simp [World.frozen?, h], ItmW.blk_lt h⟩
theorem WkB.done {W : World} {O Bg Bk : Nat} {vP vB : Value} {cur : ByteArray} (h : WkB W O Bg Bk vP vB cur) (d : Bool) : WkD (W.setCell ⟨O, 6, none⟩ (.bool d)) O Bg Bk vP (.slice none 0 0) vB cur d := by
 unfold WkB at h; unfold WkD
 rw [PrtW.blk_set _ _ _ _ _ _ h]; simp only [List.setIfInBounds_toArray, List.set_cons_zero, List.set_cons_succ]
theorem WkD.setK {W : World} {O Bg Bk : Nat} {vP vK vB : Value} {cur : ByteArray} {d : Bool} (h : WkD W O Bg Bk vP vK vB cur d) (v : Value) : WkD (W.setCell ⟨O, 3, none⟩ v) O Bg Bk vP v vB cur d := by
 unfold WkD at h ⊢
 rw [PrtW.blk_set _ _ _ _ _ _ h]; simp only [List.setIfInBounds_toArray, List.set_cons_zero, List.set_cons_succ]
structure RtO (F : Rt) (w w' : World) (b0 : Nat) (vP vB : Value) (aK : Option Addr) (S : Nat → Prop) : Prop where
 p : w'.ownsRow b0 9 1 vP (RteO.txtL F.1.1).length (StrW.strs (RteO.txtL F.1.1))
 b : w'.ownsRow b0 9 1 vB (RteO.txtL F.1.2.2).length (StrW.strs (RteO.txtL F.1.2.2))
 pb : ∀ j, vP.ownBlock = some j → vB.ownBlock ≠ some j
 ps : ∀ j, vP.ownBlock = some j → ¬ S j
 bs : ∀ j, vB.ownBlock = some j → ¬ S j
 sl : ∀ j, S j → j < w'.heap.size
 lo : ∀ j, S j → w.heap.size ≤ j
 hb : w.heap.size ≤ b0
 k : F.1.2.1 = [] ∨ ∃ g ads Fl, aK = some ⟨g, 0, none⟩ ∧ OwnA w' Fl g F.1.2.1 ads ∧ S g ∧ ∀ i, i < F.1.2.1.length → ∀ b o, (ads i).1 = some ⟨b, o, none⟩ → 0 < (cd (F.1.2.1.getD i an0)).length → S b
 r : rightA F.1.2.1 = true
 l1 : F.1.1.length ≤ 25
 l2 : F.1.2.2.length ≤ 25
def RteP (F : Rt) (w : World) (v : Value) (w' : World) : Prop := ∃ (b0 : Nat) (vP vB : Value) (aK : Option Addr) (cK : Nat) (S : Nat → Prop), v = .agg #[vP, .slice aK F.1.2.1.length cK, vB, .string F.2.1, .bool F.2.2] ∧ RtO F w w' b0 vP vB aK S
theorem RtO.rom {F : Rt} {w w' : World} {b0 : Nat} {vP vB : Value} {aK : Option Addr} {S : Nat → Prop} (h : RtO F w w' b0 vP vB aK S) (cK k0 : Nat) : RteO.RoM w' b0 vP vB aK F.1.2.1.length cK S (fun i => (cd (F.1.2.1.getD i an0)).length) (RteO.txtL F.1.1) (RteO.txtL F.1.2.2) k0 0 :=
 ⟨h.p, h.b, h.pb, h.ps, h.bs, h.sl, fun hp => by
  rcases h.k with hk | ⟨g, ads, Fl, ha, hO, hg, hc⟩
  ·rw [hk] at hp; exact absurd hp (Nat.lt_irrefl 0)
  ·exact ⟨g, ads, ha, AnsL.OwnA.moX hO hg h.sl hc⟩⟩
theorem RtO.ans {F : Rt} {w w' : World} {b0 : Nat} {vP vB : Value} {aK : Option Addr} {S : Nat → Prop} (h : RtO F w w' b0 vP vB aK S) : Ans w' aK F.1.2.1 := by
 rcases h.k with hk | ⟨g, ads, Fl, rfl, hO, _⟩
 ·rw [hk]; exact Ans.nil _ _
 ·exact OwnA.ans hO h.r
theorem rtp_none (w w' : World) : RteP (([], [], []), ByteArray.empty, false) w (.agg #[.slice none 0 0, .slice none 0 0, .slice none 0 0, .string ByteArray.empty, .bool false]) w' :=
 ⟨w.heap.size, .slice none 0 0, .slice none 0 0, none, 0, fun _ => False, rfl, ⟨World.ownsRow_nil _ _ _ _, World.ownsRow_nil _ _ _ _, fun _ h => (by cases h), fun _ _ h => h, fun _ _ h => h, fun _ h => h.elim, fun _ h => h.elim, Nat.le_refl _, .inl rfl, rfl, by simp, by simp⟩⟩
theorem own_move {w w' : World} {F g : Nat} {ls : List An} {ads : Nat → Option Addr × Nat} (h : OwnA w F g ls ads) (hs : w.heap.size ≤ w'.heap.size) (hg : w'.heap[g]? = w.heap[g]?) (hb : ∀ i, i < ls.length → ∀ b o, (ads i).1 = some ⟨b, o, none⟩ → 0 < (cd (ls.getD i an0)).length → w'.heap[b]? = w.heap[b]?) : OwnA w' F g ls ads := by
 obtain ⟨⟨cs, h1, h2, h3⟩, h4, h5⟩ := h
 refine ⟨⟨cs, by rw [hg]; exact h1, h2, h3⟩, fun i hi => ⟨?_, (h4 i hi).2⟩, h5⟩
 obtain ⟨⟨c1, c2, c3, c4⟩, _⟩ := h4 i hi
 exact ⟨RteO.codes_keep c1 hs (hb i hi), RteO.free_keep c2 hs (hb i hi), c3, c4⟩
theorem gtrans {a b c : World} {g : Nat} (h1 : a.grownBy b (some g)) (h2 : b.grownBy c (some g)) : a.grownBy c (some g) := ⟨h2.os.trans h1.os, h2.tape.trans h1.tape, h2.output.trans h1.output, Nat.le_trans h1.size h2.size, fun k hk hn => (h2.block k (Nat.lt_of_lt_of_le hk h1.size) hn).trans (h1.block k hk hn)⟩
theorem five_grown (W : World) (g : Nat) (v0 v1 v2 v3 v4 : Value) : W.grownBy (((((W.setCell ⟨g, 0, none⟩ v0).setCell ⟨g, 1, none⟩ v1).setCell ⟨g, 2, none⟩ v2).setCell ⟨g, 3, none⟩ v3).setCell ⟨g, 4, none⟩ v4) (some g) :=
 gtrans (gtrans (gtrans (gtrans (AnsO.grown_set W g 0 v0) (AnsO.grown_set _ g 1 v1)) (AnsO.grown_set _ g 2 v2)) (AnsO.grown_set _ g 3 v3)) (AnsO.grown_set _ g 4 v4)
set_option maxHeartbeats 800000 in
theorem rtp_of {F : Rt} {w w3 W W' : World} {E Bg g z : Nat} {vP vB : Value} {ads : Nat → Option Addr × Nat} (hfin : FinR F) (hRt : RtS W (E + 2) vP (.slice none 0 0) vB F.1.1 [] F.1.2.2) (hO : OwnA W (Bg + 1) g F.1.2.1 ads)
  (hcb : ∀ i, i < F.1.2.1.length → ∀ b o, (ads i).1 = some ⟨b, o, none⟩ → 0 < (cd (F.1.2.1.getD i an0)).length → Bg + 1 ≤ b ∧ b < w3.heap.size) (hwB : w.heap.size ≤ Bg) (hwz : z ≤ Bg) (hBg : Bg < w3.heap.size) (h3 : w3.heap.size ≤ E) (hgE : E < g) (hP : ∀ j, vP.ownBlock = some j → E + 2 ≤ j ∧ j < g) (hB : ∀ j, vB.ownBlock = some j → E + 2 ≤ j ∧ j < g)
  (hs : W.heap.size ≤ W'.heap.size) (hk : ∀ b, b ≠ z → b ≠ E → W'.heap[b]? = W.heap[b]?) : RteP F w (.agg #[vP, .slice (some ⟨g, 0, none⟩) F.1.2.1.length F.1.2.1.length, vB, .string F.2.1, .bool F.2.2]) W' := by
 have hO' : OwnA W' (Bg + 1) g F.1.2.1 ads := own_move hO hs (hk g (by omega) (by omega)) (fun i hi b o ha hl => hk b (by have := (hcb i hi b o ha hl).1; omega) (by have := (hcb i hi b o ha hl).2; omega))
 have hgl := hO'.1.lt
 have hsl : ∀ j, (j = g ∨ Bg + 1 ≤ j ∧ j < w3.heap.size) → j < W'.heap.size := fun j hj => by rcases hj with rfl | hj <;> omega
 have hlo : ∀ j, (j = g ∨ Bg + 1 ≤ j ∧ j < w3.heap.size) → w.heap.size ≤ j := fun j hj => by rcases hj with rfl | hj <;> omega
 have hps : ∀ j, vP.ownBlock = some j → ¬ (j = g ∨ Bg + 1 ≤ j ∧ j < w3.heap.size) := fun j hj hS => by
  have := hP j hj
  rcases hS with rfl | hS <;> omega
 have hbs : ∀ j, vB.ownBlock = some j → ¬ (j = g ∨ Bg + 1 ≤ j ∧ j < w3.heap.size) := fun j hj hS => by
  have := hB j hj
  rcases hS with rfl | hS <;> omega
 have hp : W'.ownsRow (E + 2) 9 1 vP (RteO.txtL F.1.1).length (StrW.strs (RteO.txtL F.1.1)) := RteO.row_keep (RteO.own_txt hRt.1) (fun j hj => hk j (by have := (hP j hj).1; omega) (by have := (hP j hj).1; omega))
 have hb : W'.ownsRow (E + 2) 9 1 vB (RteO.txtL F.1.2.2).length (StrW.strs (RteO.txtL F.1.2.2)) := RteO.row_keep (RteO.own_txt hRt.2.1) (fun j hj => hk j (by have := (hB j hj).1; omega) (by have := (hB j hj).1; omega))
 have hpb := hRt.2.2.2
 have hcb2 := fun i hi b o ha hl => (show b = g ∨ Bg + 1 ≤ b ∧ b < w3.heap.size from .inr (hcb i hi b o ha hl))
 clear hk hs hRt hO hcb hP hB
 exact ⟨E + 2, vP, vB, some ⟨g, 0, none⟩, F.1.2.1.length, fun j => j = g ∨ Bg + 1 ≤ j ∧ j < w3.heap.size, rfl, ⟨hp, hb, hpb, hps, hbs, hsl, hlo, by omega, .inr ⟨g, ads, Bg + 1, rfl, hO', .inl rfl, hcb2⟩, hfin.1, hfin.2.1, hfin.2.2.1⟩⟩
theorem RtO.keep {F : Rt} {w w1 w' w'' : World} {b0 : Nat} {vP vB : Value} {aK : Option Addr} {S : Nat → Prop} (h : RtO F w1 w' b0 vP vB aK S) (hw : w.heap.size ≤ w1.heap.size) (hs : w'.heap.size ≤ w''.heap.size) (hk : ∀ b, w1.heap.size ≤ b → b < w'.heap.size → w''.heap[b]? = w'.heap[b]?) : RtO F w w'' b0 vP vB aK S := by
 have hkS : ∀ j, S j → w''.heap[j]? = w'.heap[j]? := fun j hj => hk j (h.lo j hj) (h.sl j hj)
 refine ⟨RteO.row_keep h.p (fun j hj => hk j (by have := (h.p.lt j hj).1; have := h.hb; omega) (h.p.lt j hj).2), RteO.row_keep h.b (fun j hj => hk j (by have := (h.b.lt j hj).1; have := h.hb; omega) (h.b.lt j hj).2), h.pb, h.ps, h.bs, fun j hj => Nat.lt_of_lt_of_le (h.sl j hj) hs, fun j hj => Nat.le_trans hw (h.lo j hj), Nat.le_trans hw h.hb, ?_, h.r, h.l1, h.l2⟩
 rcases h.k with hk0 | ⟨g, ads, Fl, ha, hO, hg, hc⟩
 ·exact .inl hk0
 ·exact .inr ⟨g, ads, Fl, ha, own_move hO hs (hkS g hg) (fun i hi b o ha hl => hkS b (hc i hi b o ha hl)), hg, hc⟩
theorem make_map0 (w : World) : (Instr.makeMap 93 none).run Tryz.prog w = .ok (.map (some w.heap.size)) (w.alloc (.map #[] 0)) := by
 simp [Instr.makeMap, go_sem]
set_option maxRecDepth 10000 in
theorem impl_comeTo (la : Option Addr) (n lc : Nat) (f : FuncId) (x : Value) (w : World) :
  Calls Tryz.prog 66 #[.slice la n lc, .func (.func f) #[x] #[]] w fun e w' => e = .returned (.func (.func 94) #[] #[.pointer (some ⟨w.heap.size, 0, none⟩), .pointer (some ⟨w.heap.size + 1, 0, none⟩)]) ∧ w'.heap[w.heap.size]? = some (.cells #[.slice la n lc] 31 (0, 0)) ∧ w'.heap[w.heap.size + 1]? = some (.cells #[.func (.func f) #[x] #[]] 100 (0, 0)) ∧ Below w.heap.size w w' ∧ w'.heap.size = w.heap.size + 2 := by
 go_enter Tryz.func66, Tryz.ntmps66
 go_wp2
 go_ret
 refine ⟨by simp, ?_, ?_, by go_grown, by simp⟩
 ·exact (Below.heap_alloc _ _ _ (by simp)).trans (heap_alloc_new _ _)
 ·have h := heap_alloc_new (w.alloc (.cells #[.slice la n lc] 31)) (.cells #[.func (.func f) #[x] #[]] 100)
  rw [World.size_alloc] at h
  exact h
theorem stepC_stop {al : List An} {q : It} (h : stopB al q = true) : stepC al q = inm q := by
 unfold stopB at h
 obtain ⟨h1, h2⟩ := Bool.and_eq_true_iff.1 h
 exact if_pos ⟨of_decide_eq_true h1, by simpa using h2⟩
theorem stepC_go {al : List An} {q : It} (h : stopB al q = false) : stepC al q = ByteArray.empty := by
 refine if_neg (fun h2 => ?_)
 unfold stopB at h
 rw [decide_eq_true h2.1, h2.2] at h
 cases h
theorem item_names {q : It} (h : itemB q = true) : (ik q = 1 ∨ ik q = 5 ∨ ik q = 6 → nameB (inm q) = true) ∧ (ik q = 5 ∨ ik q = 6 → rightB (iex q) = true) := by
 obtain ⟨k, s, ty, lo, hi', t, ps, hd⟩ := q
 dsimp only [ik, inm, iex]
 constructor
 ·rintro (rfl | rfl | rfl)
  ·exact item_one h
  ·exact (item_five h).1
  ·exact (item_six h).1
 ·rintro (rfl | rfl)
  ·exact (item_five h).2
  ·exact (item_six h).2
def YldQ (wG : World) (O Bg Bk b0 F : Nat) (Dg : DataW Value) (la : Option Addr) (lc n Bl Bf : Nat) (al : List An) (RL : LoopState → Option Code → World → Prop) (q : It) (s : St) (W : World) (e : Ending) (W' : World) : Prop :=
 (stopB al q = false ∧ e = .returned (.bool true) ∧ W.heap.size ≤ W'.heap.size ∧ (∀ b cs fz, b0 ≤ b → W.heap[b]? = some (.cells cs 57 fz) → W'.heap[b]? = W.heap[b]?) ∧ Cm wG wG O Bg Bk b0 F Dg la lc n Bl Bf (RL .ready none) (stepS al q s) W') ∨
 (stopB al q = true ∧ e = .returned (.bool false) ∧ RL .done (some (.exit 0)) W' ∧ StW wG wG O Bg Bk b0 F Dg (inm q) (stepS al q s) W')
theorem come_rec {b0 F : Nat} (O Bg Bk Bl Bf l D : Nat) (wG : World) (la : Option Addr) (lc : Nat) (ls : List It) (al : List An) (Dg : DataW Value) (G : Rt) (W : World) {fn : FuncId} {tm : Array Value} {ca cb : Code}
  (hI : Its wG la ls) (hf : formB ls = true) (hal : rightA al = true) (hE : ItmI.EnvI wG) (hL : RecL fn tm #[24] ca cb l D .ready none W) (h0 : StW wG wG O Bg Bk b0 F Dg ByteArray.empty ([], [], []) W) (hbl : W.heap[Bl]? = some (.cells #[.slice la ls.length lc] 31 (0, 0))) (hbf : W.heap[Bf]? = some (.cells #[.func (.func 67) #[.pointer (some ⟨O, 0, none⟩)] #[]] 100 (0, 0)))
  (hG : routeL al ls.length ls ([], [], []) = G) (hfin : FinR G)
  (hY : ∀ (i : Nat) (s : St) (W1 : World) (ai : Option Addr) (ci : Nat), i < ls.length → InvW ls i s → Cm wG wG O Bg Bk b0 F Dg la lc ls.length Bl Bf (RecL fn tm #[24] ca cb l D .ready none) s W1 → Parts wG ai (iex (ls.getD i it0)) → (iex (ls.getD i it0)).length ≤ ci →
   YieldAt Fence.wide 0 Tryz.prog l #[.agg #[.int .i64 (ik (ls.getD i it0)), .string (inm (ls.getD i it0)), .int .i64 (ity (ls.getD i it0)), .int .i64 (ilo (ls.getD i it0)), .int .i64 (ihi (ls.getD i it0)), .string (itx (ls.getD i it0)), .slice ai (iex (ls.getD i it0)).length ci, .bool (ihd (ls.getD i it0))]] W1 (YldQ wG O Bg Bk b0 F Dg la lc ls.length Bl Bf al (fun st pe => RecL fn tm #[24] ca cb l D st pe) (ls.getD i it0) s W1)) :
  CallsIn Fence.wide 1 Tryz.prog 94 #[.func (.yield l) #[] #[], .pointer (some ⟨Bl, 0, none⟩), .pointer (some ⟨Bf, 0, none⟩)] W fun e W' => (∃ v, e = .returned v) ∧
   ((RecL fn tm #[24] ca cb l D .ready none W' ∧ StW wG wG O Bg Bk b0 F Dg G.2.1 G.1 W') ∨ (RecL fn tm #[24] ca cb l D .done (some (.exit 0)) W' ∧ StW wG wG O Bg Bk b0 F Dg G.2.1 G.1 W')) := by
 refine (impl_come (m := 0) O Bg Bk Bl Bf l wG wG la lc ls al Dg (RecL fn tm #[24] ca cb l D .ready none) (InvW ls) W G (fun g W' => RecL fn tm #[24] ca cb l D .done (some (.exit 0)) W' ∧ StW wG wG O Bg Bk b0 F Dg g.2.1 g.1 W')
   (fun W W' h hB => h.of_blocks (hB.block _ h.lt) (hB.block _ (Array.getElem?_eq_some_iff.1 h.2).1)) hI (form_at hf).1 hE hal (fun i hi hk => if_right hf hi hk) (fun i hi hk => else_same hf hi hk) (fun i j s hij h => InvW.mono hij h) (fun i s h => h.1) (fun i s hi h hs => InvW.step hf hal i s hi h hs) hY ⟨h0, hbl, hbf, hL⟩ (InvW.zero ls) hG).mono ?_
 rintro e W' ⟨hv, (⟨h1, hC⟩ | ⟨h1, h2, h3⟩)⟩
 ·have hcur : G.2.1 = ByteArray.empty := by
   have h2 := hfin.2.2.2
   rw [h1] at h2
   exact BytM.isEmpty_iff _ |>.1 h2.symm
  exact ⟨hv, .inl ⟨hC.2.2.2, by rw [hcur]; exact hC.1⟩⟩
 ·exact ⟨hv, .inr ⟨h2, h3⟩⟩
theorem rim_ret {R : Ending → World → Prop} {QM : Exit → Act → World → Prop} {tmps : Array Value} {W : World} {g : Nat} {vP vK vB : Value} {c : ByteArray} {d ok : Bool} (hQ : bodyPostM Fence.wide 2 Tryz.prog Tryz.f32 R = QM) (ht : tmps[4]?.getD undef = .pointer (some ⟨g, 0, none⟩)) (h5 : tmps[5]?.getD undef = .bool ok) (hB : RoB W g vP vK vB c d) (hq : R (.returned (.tuple #[.agg #[vP, vK, vB, .string c, .bool d], .bool ok])) W) :
  QM Exit.ret { tmps := tmps, defers := [] } W := by
 obtain ⟨⟨y0, y1, y2, y3, y4⟩, _⟩ := hB.cells
 rw [← hQ]
 exact ⟨.tuple #[.agg #[vP, vK, vB, .string c, .bool d], .bool ok], by simp [results, Tryz.results32, go_sem, ht, h5, y0, y1, y2, y3, y4], hq⟩
theorem rim_ret2 {R : Ending → World → Prop} {QM : Exit → Act → World → Prop} {tmps : Array Value} {W : World} {g D : Nat} {vP vK vB : Value} {c : ByteArray} {d ok : Bool} (hQ : bodyPostM Fence.wide 2 Tryz.prog Tryz.f32 R = QM) (ht : tmps[4]?.getD undef = .pointer (some ⟨g, 0, none⟩)) (h5 : tmps[5]?.getD undef = .bool ok) (hD : W.heap[D]? = some (.deferred (some []))) (hB : RoB W g vP vK vB c d) (hne : g ≠ D) (hq : R (.returned (.tuple #[.agg #[vP, vK, vB, .string c, .bool d], .bool ok])) (W.putObj D (.deferred none))) :
  QM Exit.ret { tmps := tmps, defers := [{ target := .collected D, args := #[] }] } W := by
 have hB2 : RoB (W.putObj D (.deferred none)) g vP vK vB c d := (World.putObj_heap_other hne).trans hB
 obtain ⟨⟨y0, y1, y2, y3, y4⟩, _⟩ := hB2.cells
 rw [← hQ]
 refine ⟨by simp, .inl ⟨_, _, rfl, run_takeDeferred hD, ?_⟩⟩
 exact ⟨.tuple #[.agg #[vP, vK, vB, .string c, .bool d], .bool ok], by simp [results, Tryz.results32, go_sem, ht, h5, y0, y1, y2, y3, y4], hq⟩
set_option maxRecDepth 10000 in
set_option maxHeartbeats 3200000 in
theorem impl_routeOf (la : Option Addr) (lc : Nat) (ls : List It) (aa : Option Addr) (ac : Nat) (al : List An) (w : World) (hc : Its w la ls) (hlc : ls.length ≤ lc) (hA : Ans w aa al) (hE : EnvF w) :
  Calls Tryz.prog 32 #[.slice la ls.length lc, .slice aa al.length ac] w fun e w' => (∃ v, e = .returned (.tuple #[v, .bool (formB ls && rightA al)]) ∧ RteP (routeF ls al) w v w') ∧ Below w.heap.size w w' := by
 have HC := RteS.hid hc
 have HA := RteS.hid hA
 have HE := RteS.hid hE
 clear hc hA hE
 obtain ⟨F, hF⟩ : ∃ F, Hid (routeF ls al = F) := ⟨_, rfl⟩
 rw [hF.out]
 have hb := (Below.refl w.heap.size w).alloc (Nat.le_refl _) (.cells #[.slice none 0 0, .slice none 0 0, .slice none 0 0, .string ⟨#[]⟩, .bool false] 29)
 have HR0 : Hid (RoB (w.alloc (.cells #[.slice none 0 0, .slice none 0 0, .slice none 0 0, .string ⟨#[]⟩, .bool false] 29)) w.heap.size (.slice none 0 0) (.slice none 0 0) (.slice none 0 0) ByteArray.empty false) := heap_alloc_new w _
 have HB0 := RteS.hid hb
 clear hb
 obtain ⟨ok, hok⟩ : ∃ ok, Hid ((formB ls && rightA al) = ok) := ⟨_, rfl⟩
 rw [hok.out]
 refine (callsIn_wide (n := 2)).1 (callsIn_of_wp_marks Tryz.func32 rfl trivial ?_)
 generalize hQM : bodyPostM Fence.wide 2 Tryz.prog Tryz.f32 _ = QM
 have HQM := RteS.hid hQM
 clear hQM
 simp only [Tryz.ntmps32, List.size_toArray, List.length_cons, List.length_nil, Nat.reduceAdd, Nat.reduceSub, Array.replicate_succ, Array.replicate_zero, List.push_toArray, List.append_toArray, List.nil_append, List.cons_append]
 refine wpIn_wide.2 ?_
 go_wp2_with fail
 refine (FrmI.impl_form la lc ls _ (HC.out.on HB0.out) hlc (HE.out.on HB0.out)).mono ?_
 rintro e w1 ⟨rfl, hB1⟩
 have HB1 : Hid (Below w.heap.size w w1) := HB0.out.trans (hB1.mono HB0.out.size)
 have HR1 := RteS.hid (HR0.out.on hB1)
 clear hB1 HR0 HB0
 cases hf : formB ls
 ·have hF0 : F = (([], [], []), ByteArray.empty, false) := hF.out.symm.trans (rt_no (fun h => by rw [hf] at h; exact absurd h.1 (by decide)))
  have hk0 : ok = false := by rw [← hok.out, hf]; rfl
  have HF0 := RteS.hid hF0
  have HK0 := RteS.hid hk0
  clear hF0 hk0 hf
  obtain ⟨⟨y0, y1, y2, y3, y4⟩, yf, yl⟩ := HR1.out.cells
  go_wp2_with fail
  refine rim_ret (g := w.heap.size) HQM.out rfl rfl (HR1.out.five _ _ _ _ _) ?_
  refine ⟨⟨_, by rw [HK0.out], by rw [HF0.out]; exact rtp_none w _⟩, ?bel0⟩
  case bel0 =>
   repeat (refine Below.setCell ?_ (by simp) _)
   exact HB1.out
 have HFr := RteS.hid hf
 clear hf
 go_wp2_with fail
 refine (AnsW.impl_answers aa ac al w1 (HA.out.on HB1.out)).mono ?_
 rintro e w2 ⟨rfl, hB2⟩
 have HB2 : Hid (Below w.heap.size w w2) := HB1.out.trans (hB2.mono HB1.out.size)
 have HR2 := RteS.hid (HR1.out.on hB2)
 clear hB2 HB1 HR1
 cases hra : rightA al
 ·have hF0 : F = (([], [], []), ByteArray.empty, false) := hF.out.symm.trans (rt_no (fun h => by rw [hra] at h; exact absurd h.2 (by decide)))
  have hk0 : ok = false := by rw [← hok.out, hra, Bool.and_false]
  have HF0 := RteS.hid hF0
  have HK0 := RteS.hid hk0
  clear hF0 hk0 hra
  obtain ⟨⟨y0, y1, y2, y3, y4⟩, yf, yl⟩ := HR2.out.cells
  go_wp2_with fail
  refine rim_ret (g := w.heap.size) HQM.out rfl rfl (HR2.out.five _ _ _ _ _) ?_
  refine ⟨⟨_, by rw [HK0.out], by rw [HF0.out]; exact rtp_none w _⟩, ?bel0⟩
  case bel0 =>
   repeat (refine Below.setCell ?_ (by simp) _)
   exact HB2.out
 have HRa := RteS.hid hra
 have hok1 : ok = true := by rw [← hok.out, HFr.out, hra]; rfl
 subst hok1
 clear hra hok
 have hwBg : w.heap.size ≤ w2.heap.size := HB2.out.size
 go_wp2_with fail
 refine (BookW.book_of aa ac al w2 (HA.out.on HB2.out) HRa.out).mono ?_
 rintro e w3 ⟨rfl, hBk, hB3⟩
 have HB3 : Hid (Below w.heap.size w w3) := HB2.out.trans (hB3.mono HB2.out.size)
 have HR3 := RteS.hid (HR2.out.on hB3)
 have HBg := RteS.hid hBk
 have hs23 : w2.heap.size ≤ w3.heap.size := hB3.size
 clear hBk hB3 HB2 HR2
 generalize w2.heap.size = Bg at *
 have hmm := fun w' => make_map0 w'
 go_upto_region 4 with fail
 obtain ⟨Dg, hMp, hHo, hAp⟩ := HBg.out
 have hBgl : Bg < w3.heap.size := hMp.lt
 have HG : Hid (GvB w3 (w3.heap.size + 1) Bg w3.heap.size (Bg + 1) al Dg) := RteS.hid ⟨⟨hMp, hHo, hAp, fun s v b h1 h2 e => by have := blk_from hHo h1 h2; omega⟩, fun s v b h1 h2 e => by have := blk_low hHo h1 h2; omega, fun s v b h1 h2 e => by have := blk_low hHo h1 h2; omega, by omega, by omega⟩
 have hB34 : Below w3.heap.size w3 ((w3.alloc (.map #[] 0)).alloc (.cells #[.map (some Bg), .map (some w3.heap.size), .slice none 0 0, .slice none 0 0, .slice none 0 0, .string ⟨#[]⟩, .bool false] 96)) := ((Below.refl _ w3).alloc (Nat.le_refl _) _).alloc (by simp) _
 have hO4 : WkB ((w3.alloc (.map #[] 0)).alloc (.cells #[.map (some Bg), .map (some w3.heap.size), .slice none 0 0, .slice none 0 0, .slice none 0 0, .string ⟨#[]⟩, .bool false] 96)) (w3.heap.size + 1) Bg w3.heap.size (.slice none 0 0) (.slice none 0 0) ByteArray.empty := by
  have h := heap_alloc_new (w3.alloc (.map #[] 0)) (.cells #[.map (some Bg), .map (some w3.heap.size), .slice none 0 0, .slice none 0 0, .slice none 0 0, .string ⟨#[]⟩, .bool false] 96)
  rw [World.size_alloc] at h
  exact h
 have hM4 : Mp ((w3.alloc (.map #[] 0)).alloc (.cells #[.map (some Bg), .map (some w3.heap.size), .slice none 0 0, .slice none 0 0, .slice none 0 0, .string ⟨#[]⟩, .bool false] 96)) w3.heap.size 0 (.map []) := Mp.on (World.ownsMap_made _ _ _ _) ((Below.refl _ _).alloc (Nat.le_refl _) _)
 have HS4 : Hid (((w3.alloc (.map #[] 0)).alloc (.cells #[.map (some Bg), .map (some w3.heap.size), .slice none 0 0, .slice none 0 0, .slice none 0 0, .string ⟨#[]⟩, .bool false] 96)).heap.size = w3.heap.size + 2) := RteS.hid (by simp)
 generalize (w3.alloc (.map #[] 0)).alloc (.cells #[.map (some Bg), .map (some w3.heap.size), .slice none 0 0, .slice none 0 0, .slice none 0 0, .string ⟨#[]⟩, .bool false] 96) = W4 at *
 have HB34 := RteS.hid hB34
 have HO4 := RteS.hid hO4
 have HM4 := RteS.hid hM4
 clear hMp hHo hAp HBg hB34 hO4 hM4 hmm
 have hs23 := hs23
 go_wp2_with fail
 refine (impl_comeTo la ls.length lc 67 (.pointer (some ⟨w3.heap.size + 1, 0, none⟩)) W4).mono ?_
 rintro e w5 ⟨rfl, hbl, hbf, hB5, hs5⟩
 rw [HS4.out] at hbl hbf hs5 ⊢
 have HBl := RteS.hid hbl
 have HBf := RteS.hid hbf
 have HS5 := RteS.hid hs5
 have HO5 := RteS.hid (HO4.out.on hB5)
 have HM5 := RteS.hid (Mp.on HM4.out hB5)
 have HB35 : Hid (Below w3.heap.size w3 w5) := HB34.out.trans (hB5.mono HB34.out.size)
 clear hbl hbf hs5 hB5 HO4 HM4 HB34 HS4
 go_wp2_with fail
 have hs35 := HS5.out
 obtain ⟨E, hE5⟩ : ∃ E, Hid (w5.heap.size = E) := ⟨_, rfl⟩
 have hEw : E = w3.heap.size + 4 := hE5.out.symm.trans HS5.out
 have HRt : Hid (routeL al ls.length ls ([], [], []) = F) := RteS.hid ((rt_yes HFr.out HRa.out).symm.trans hF.out)
 have h24 := (form_at HFr.out).1
 have HFin : Hid (FinR F) := RteS.hid (by
  have h := route_fin HFr.out HRa.out _ 0 ls.length ([], [], []) (Nat.le_refl _) (by omega) (by omega) (InvW.zero ls)
  rw [List.drop_zero, HRt.out] at h
  exact h)
 have HI3 := RteS.hid (HC.out.on HB3.out)
 have HE3 := RteS.hid ((HE.out.on HB3.out).1)
 clear hF HC HA HE HS5 hs35
 refine (wpIn_wide (n := 2)).1 ?_
 refine range_one 0 (n := 2) (gf := 94) (lb := #[.pointer (some ⟨w3.heap.size + 2, 0, none⟩), .pointer (some ⟨w3.heap.size + 2 + 1, 0, none⟩)]) rfl (by omega) rfl trivial (fun args w => rfl)
  (fun W => StW w3 w3 (w3.heap.size + 1) Bg w3.heap.size (E + 2) (Bg + 1) Dg F.2.1 F.1 W) ?hcall (fun _ _ h => h) ?hdone
 case hcall =>
  rw [hE5.out]
  intro fn W hfn hS hB hL
  have hBw : Below w3.heap.size w3 W := HB35.out.trans (hB.mono (by omega))
  have hB5 : Below w5.heap.size w5 W := by rw [hE5.out]; exact hB
  have hst0 : StW w3 w3 (w3.heap.size + 1) Bg w3.heap.size (E + 2) (Bg + 1) Dg ByteArray.empty ([], [], []) W :=
   ⟨hBw, ⟨hBw.size, fun b hb _ _ => hBw.block b hb⟩, by omega, .slice none 0 0, .slice none 0 0, .map [], HO5.out.on hB5, RtS.nil _ _, BookN.zero (Mp.on HM5.out hB5), SubD.zero _⟩
  have hbl := (hB5.block _ (ItmW.blk_lt HBl.out)).trans HBl.out
  have hbf := (hB5.block _ (ItmW.blk_lt HBf.out)).trans HBf.out
  refine come_rec (w3.heap.size + 1) Bg w3.heap.size (w3.heap.size + 2) (w3.heap.size + 2 + 1) (E + 1) E w3 la lc ls al Dg F W HI3.out HFr.out HRa.out HE3.out hL hst0 hbl hbf HRt.out HFin.out ?_
  clear hst0 hbl hbf hB5 hBw hL hB hS
  intro i s W1 ai ci hi hInv hC hP hci
  refine round_at3 (fun RL => YldQ w3 (w3.heap.size + 1) Bg w3.heap.size (E + 2) (Bg + 1) Dg la lc ls.length (w3.heap.size + 2) (w3.heap.size + 2 + 1) al RL (ls.getD i it0) s W1) hfn (by omega) hC.2.2.2 (fun _ _ h => h) ?_
  intro RL ob r0 rb rp
  simp only [List.setIfInBounds_toArray, List.set_cons_zero, List.set_cons_succ]
  have hit := (behind_at ((form_at HFr.out).2.1 i hi)).1
  have hno := fun hn => InvW.no HFr.out hi hInv hn
  have hfit := HI3.out.2.1 i hi
  have hInv1 := hInv.1
  have hl1 := hInv.2.1
  have hl2 := hInv.2.2.1
  have hl3 := hInv.2.2.2.1
  have HSt := RteS.hid hC.1
  have HBl1 := RteS.hid hC.2.1
  have HBf1 := RteS.hid hC.2.2.1
  have HR0 := RteS.hid r0
  have HRb := RteS.hid rb
  have HRp := RteS.hid rp
  have HP := RteS.hid hP
  have HNo := RteS.hid hno
  have HIt := RteS.hid hit
  have HFit := RteS.hid hfit
  have HEw := RteS.hid hEw
  clear hC r0 rb rp hP hno hit hfit hEw hInv
  obtain ⟨q, hq⟩ : ∃ q, Hid (ls.getD i it0 = q) := ⟨_, rfl⟩
  rw [hq.out] at HP HNo HIt HFit hci ⊢
  obtain ⟨k, sn, ty, lo, hi', t, ps, hd⟩ := q
  obtain ⟨P, K, B⟩ := s
  dsimp only [ik, inm, ity, ilo, ihi, itx, iex, ihd] at HP HNo hci hInv1 hl1 hl2 hl3 ⊢
  clear hq
  gi_wp2
  have hEw := HEw.out
  have hb0 : E + 2 ≤ W1.heap.size := HSt.out.2.2.1
  have hb12 := item_box W1 k sn ty lo hi' t ai ps.length ci hd
  have r1 := HRb.out _ _ W1 _ HR0.out (hb12.block (E + 1) (by omega)) (hb12.block E (by omega))
  refine ⟨r1, ?_⟩
  have HR2 := RteS.hid (HRp.out _ _ .busy none _ r1)
  have HS2 := RteS.hid ((HSt.out.on hb12).off HG.out (putObj_grown _ (E + 1) (ob .busy none)) (by omega) (by omega) (by omega) (by omega))
  have hW2 : ∀ b, b < W1.heap.size → b ≠ E + 1 → ((W1.alloc (.cells #[.int .i64 k, .string sn, .int .i64 ty, .int .i64 lo, .int .i64 hi', .string t, .slice ai ps.length ci, .bool hd] 57)).putObj (E + 1) (ob .busy none)).heap[b]? = W1.heap[b]? := fun b hb hn => (World.putObj_heap_other hn).trans (hb12.block b hb)
  have hX2 : ItB ((W1.alloc (.cells #[.int .i64 k, .string sn, .int .i64 ty, .int .i64 lo, .int .i64 hi', .string t, .slice ai ps.length ci, .bool hd] 57)).putObj (E + 1) (ob .busy none)) W1.heap.size k sn ty lo hi' t ai ps.length ci hd := (World.putObj_heap_other (show W1.heap.size ≠ E + 1 by omega)).trans (heap_alloc_new W1 _)
  have hs12 : W1.heap.size ≤ ((W1.alloc (.cells #[.int .i64 k, .string sn, .int .i64 ty, .int .i64 lo, .int .i64 hi', .string t, .slice ai ps.length ci, .bool hd] 57)).putObj (E + 1) (ob .busy none)).heap.size := by simp [World.putObj]
  have HBl2 := RteS.hid ((hW2 _ (ItmW.blk_lt HBl1.out) (by omega)).trans HBl1.out)
  have HBf2 := RteS.hid ((hW2 _ (ItmW.blk_lt HBf1.out) (by omega)).trans HBf1.out)
  have HW2 := RteS.hid hW2
  generalize (W1.alloc (.cells #[.int .i64 k, .string sn, .int .i64 ty, .int .i64 lo, .int .i64 hi', .string t, .slice ai ps.length ci, .bool hd] 57)).putObj (E + 1) (ob .busy none) = W2 at *
  obtain ⟨z0, z1, z2, z3, z4, z5, z6, z7⟩ := hX2.cells
  have hxl : W1.heap.size < W2.heap.size := ItmW.blk_lt hX2
  clear hW2 hX2 r1 hb12 hEw
  gi_wp2
  have hEw := HEw.out
  have hnm := item_names HIt.out
  refine ⟨trivial, rfl, (CallsIn.inRound _ (callsIn_wide.2 (impl_step (w3.heap.size + 1) Bg w3.heap.size al K Dg P B k sn ty lo hi' t ai ps ci hd W2 w3 w3 (Nat.le_refl _) (by omega) (by omega) (by omega) (by omega) (by omega) HS2.out hnm.1 hnm.2 (fun _ => HIt.out) (by have := HFit.out.2; unfold maxLen; dsimp only [itx] at this; omega) (by omega) (by omega) (by omega) hInv1 (fun hk => HNo.out (hnm.1 (.inl hk))) HP.out hci HE3.out HG.out HRa.out))).mono ?_⟩
  rintro e w6 ⟨rfl, hs6, hk6, hi6, hst6⟩
  have HR6 := RteS.hid (HRb.out _ _ W2 w6 HR2.out (hk6 (E + 1) (by omega) (by omega) (by omega)) (hk6 E (by omega) (by omega) (by omega)))
  have HBl6 := RteS.hid ((hk6 (w3.heap.size + 2) (by omega) (by omega) (by omega)).trans HBl2.out)
  have HBf6 := RteS.hid ((hk6 (w3.heap.size + 2 + 1) (by omega) (by omega) (by omega)).trans HBf2.out)
  have HI6 : Hid (∀ b cs fz, E + 2 ≤ b → W1.heap[b]? = some (.cells cs 57 fz) → w6.heap[b]? = W1.heap[b]?) := fun b cs fz hb hc => by
   have h1 := HW2.out b (ItmW.blk_lt hc) (by omega)
   exact (hi6 b cs fz (by omega) (by omega) (h1.trans hc)).trans h1
  have HS6 := RteS.hid hst6
  obtain ⟨-, -, -, vP6, vB6, D6, hWk6, -⟩ := hst6
  have HWk6 := RteS.hid hWk6
  clear hk6 hi6 hWk6 HR2 HS2 HW2 HBl2 HBf2 HR0 HSt HBl1 HBf1 hnm hEw z0 z1 z2 z3 z4 z5 z6 z7
  gi_wp2
  refine ⟨trivial, rfl, (CallsIn.inRound _ (callsIn_wide.2 (impl_ended (w3.heap.size + 1) Bg w3.heap.size vP6 vB6 _ w6 HWk6.out))).mono ?_⟩
  rintro e w7 ⟨rfl, rfl⟩
  have hnm2 : Hid (stopB al (k, sn, ty, lo, hi', t, ps, hd) = true → nameB sn = true) := fun h => (item_names HIt.out).1 (.inl (of_decide_eq_true (Bool.and_eq_true_iff.1 h).1))
  cases hstop : stopB al (k, sn, ty, lo, hi', t, ps, hd)
  ·rw [stepC_go hstop] at HS6 ⊢
   rw [show (!ByteArray.empty.toList.isEmpty) = false by rw [BytM.toList_eq]; rfl]
   have HStop := RteS.hid hstop
   clear hstop
   gi_wp2
   have hEw := HEw.out
   refine ⟨HR6.out, .inl ⟨HStop.out, rfl, by show _ ≤ _; simp [World.putObj]; omega, fun b cs fz hb hc => (World.putObj_heap_other (by omega)).trans (HI6.out b cs fz hb hc), HS6.out.off HG.out (putObj_grown _ _ _) (by omega) (by omega) (by omega) (by omega), (World.putObj_heap_other (by omega)).trans HBl6.out, (World.putObj_heap_other (by omega)).trans HBf6.out, HRp.out _ _ _ _ _ HR6.out⟩⟩
  ·rw [stepC_stop hstop] at HS6 ⊢
   have hnf := name_full (hnm2.out hstop)
   dsimp only [inm]
   rw [show (!sn.toList.isEmpty) = true by rw [hnf]; rfl]
   have HStop := RteS.hid hstop
   clear hstop
   gi_wp2
   have hEw := HEw.out
   refine ⟨HR6.out, .inr ⟨HStop.out, rfl, HRp.out _ _ _ _ _ HR6.out, HS6.out.off HG.out (putObj_grown _ _ _) (by omega) (by omega) (by omega) (by omega)⟩⟩
 case hdone =>
  rw [hE5.out]
  intro W o h1 hD
  have hSt : StW w3 w3 (w3.heap.size + 1) Bg w3.heap.size (E + 2) (Bg + 1) Dg F.2.1 F.1 W := h1
  have HSt := RteS.hid (hSt.off HG.out (putObj_grown W (E + 1) o) (by omega) (by omega) (by omega) (by omega))
  have HD := RteS.hid hD
  have HRo := RteS.hid (HR3.out.on HSt.out.1)
  clear hSt h1 hD
  generalize W.putObj (E + 1) o = W8 at *
  obtain ⟨hB8, hK8, hb8, vP, vB, D8, hWk8, hRt8, hBn8, hSub8⟩ := HSt.out
  have HB8 := RteS.hid hB8
  have HK8 := RteS.hid hK8
  have HRt8 := RteS.hid hRt8
  have HBn8 := RteS.hid hBn8
  have HSub8 := RteS.hid hSub8
  have HWk8 := RteS.hid hWk8
  have HEw := RteS.hid hEw
  clear hB8 hK8 hRt8 hBn8 hSub8 hWk8 HSt hEw
  go_wp2_with fail
  refine (impl_ended (w3.heap.size + 1) Bg w3.heap.size vP vB F.2.1 W8 HWk8.out).mono ?_
  rintro e w9 ⟨rfl, rfl⟩
  rw [← HFin.out.2.2.2]
  obtain ⟨⟨y0, y1, y2, y3, y4, y5, y6⟩, yf, yl⟩ := HWk8.out.cells
  go_upto_region 9 with fail
  have hEw := HEw.out
  have hg9 := AnsO.grown_set w9 (w3.heap.size + 1) 6 (.bool F.2.2)
  have HWk9 := RteS.hid (HWk8.out.done F.2.2)
  have HB9 : Hid (Below w3.heap.size w3 (w9.setCell ⟨w3.heap.size + 1, 6, none⟩ (.bool F.2.2))) := HB8.out.trans ⟨hg9.os, hg9.tape, hg9.output, hg9.size, fun b hb => hg9.block b (by omega) (fun e => by have := Option.some.inj e; omega)⟩
  have HBn9 := RteS.hid (BookN.far HBn8.out HSub8.out HG.out HK8.out ⟨HB9.out.size, fun b hb _ _ => HB9.out.block b hb⟩ hg9.size (hg9.block w3.heap.size HBn8.out.1.lt (fun e => by have := Option.some.inj e; omega)))
  have HRt9 := RteS.hid (RtS.off HRt8.out hg9 (by omega))
  have HD9 : Hid ((w9.setCell ⟨w3.heap.size + 1, 6, none⟩ (.bool F.2.2)).heap[E]? = some (.deferred (some []))) := (hg9.block E (ItmW.blk_lt HD.out) (fun e => by have := Option.some.inj e; omega)).trans HD.out
  have HRo9 : Hid (RoB (w9.setCell ⟨w3.heap.size + 1, 6, none⟩ (.bool F.2.2)) w.heap.size (.slice none 0 0) (.slice none 0 0) (.slice none 0 0) ByteArray.empty false) := (hg9.block w.heap.size (ItmW.blk_lt HRo.out) (fun e => by have := Option.some.inj e; omega)).trans HRo.out
  have hb9 : E + 2 ≤ (w9.setCell ⟨w3.heap.size + 1, 6, none⟩ (.bool F.2.2)).heap.size := by simp; omega
  generalize w9.setCell ⟨w3.heap.size + 1, 6, none⟩ (.bool F.2.2) = W9 at *
  clear y0 y1 y2 y3 y4 y5 y6 yf yl hg9 HWk8 HB8 HK8 HBn8 HRt8 HD HRo hEw
  obtain ⟨ads, hK9⟩ := book_kept HBn9.out.2.1
  have HKp := RteS.hid hK9
  obtain ⟨⟨y0, y1, y2, y3, y4, y5, y6⟩, yf, yl⟩ := HWk9.out.cells
  clear hK9
  go_wp2_with fail
  refine (BookW.answers_in2 w3.heap.size F.1.2.1 W9 HBn9.out.1 HBn9.out.2.1 HBn9.out.2.2.1 HFin.out.1 ads HKp.out).mono ?_
  rintro e w10 ⟨⟨g, rfl, hg, hO⟩, hB10⟩
  have HO := RteS.hid hO
  have HWk10 := RteS.hid (HWk9.out.on hB10)
  have HB10 : Hid (Below w3.heap.size w3 w10) := HB9.out.trans (hB10.mono HB9.out.size)
  have HRt10 := RteS.hid (HRt9.out.on hB10)
  have HD10 : Hid (w10.heap[E]? = some (.deferred (some []))) := (hB10.block E (ItmW.blk_lt HD9.out)).trans HD9.out
  have HRo10 := RteS.hid (HRo9.out.on hB10)
  have hb10 : E + 2 ≤ w10.heap.size := Nat.le_trans hb9 hB10.size
  have HPl : Hid (∀ j, vP.ownBlock = some j → E + 2 ≤ j ∧ j < W9.heap.size) := fun j hj => HRt9.out.1.lt j hj
  have HBl : Hid (∀ j, vB.ownBlock = some j → E + 2 ≤ j ∧ j < W9.heap.size) := fun j hj => HRt9.out.2.1.lt j hj
  clear y0 y1 y2 y3 y4 y5 y6 yf yl hO hB10 HWk9 HB9 HRt9 HD9 HRo9
  obtain ⟨⟨y0, y1, y2, y3, y4, y5, y6⟩, yf, yl⟩ := HWk10.out.cells
  go_upto_region 10 with fail
  have hEw := HEw.out
  have hg11 := AnsO.grown_set w10 (w3.heap.size + 1) 3 (.slice (some ⟨g, 0, none⟩) F.1.2.1.length F.1.2.1.length)
  have hcb : ∀ i, i < F.1.2.1.length → ∀ b o, (ads i).1 = some ⟨b, o, none⟩ → 0 < (cd (F.1.2.1.getD i an0)).length → Bg + 1 ≤ b ∧ b < w3.heap.size := fun i hi b o ha hl => by
   have hbk : BookW.Blk (av (kd (F.1.2.1.getD i an0)) (nu (F.1.2.1.getD i an0)) (ads i).1 (cd (F.1.2.1.getD i an0)).length (ads i).2 (tx (F.1.2.1.getD i an0))) b := ⟨_, _, o, _, _, _, by rw [ha], hl⟩
   have h9 := HSub8.out _ _ b (HKp.out i hi).1 hbk
   exact ⟨blk_from HG.out.book.2.1 h9 hbk, blk_low HG.out.book.2.1 h9 hbk⟩
  have hO11 : OwnA (w10.setCell ⟨w3.heap.size + 1, 3, none⟩ (.slice (some ⟨g, 0, none⟩) F.1.2.1.length F.1.2.1.length)) (Bg + 1) g F.1.2.1 ads := own_move HO.out hg11.size (hg11.block g HO.out.1.lt (fun e => by have := Option.some.inj e; omega)) (fun i hi b o ha hl => hg11.block b (by have := (hcb i hi b o ha hl).2; have := HB10.out.size; omega) (fun e => by have := Option.some.inj e; have := (hcb i hi b o ha hl).2; omega))
  have HO11 := RteS.hid hO11
  have HCb := RteS.hid hcb
  have HWk11 := RteS.hid (HWk10.out.setK (.slice (some ⟨g, 0, none⟩) F.1.2.1.length F.1.2.1.length))
  have HB11 : Hid (Below w3.heap.size w3 (w10.setCell ⟨w3.heap.size + 1, 3, none⟩ (.slice (some ⟨g, 0, none⟩) F.1.2.1.length F.1.2.1.length))) := HB10.out.trans ⟨hg11.os, hg11.tape, hg11.output, hg11.size, fun b hb => hg11.block b (by omega) (fun e => by have := Option.some.inj e; omega)⟩
  have HRt11 := RteS.hid (RtS.off HRt10.out hg11 (by omega))
  have HD11 : Hid ((w10.setCell ⟨w3.heap.size + 1, 3, none⟩ (.slice (some ⟨g, 0, none⟩) F.1.2.1.length F.1.2.1.length)).heap[E]? = some (.deferred (some []))) := (hg11.block E (by omega) (fun e => by have := Option.some.inj e; omega)).trans HD10.out
  have HRo11 : Hid (RoB (w10.setCell ⟨w3.heap.size + 1, 3, none⟩ (.slice (some ⟨g, 0, none⟩) F.1.2.1.length F.1.2.1.length)) w.heap.size (.slice none 0 0) (.slice none 0 0) (.slice none 0 0) ByteArray.empty false) := (hg11.block w.heap.size (ItmW.blk_lt HRo10.out) (fun e => by have := Option.some.inj e; omega)).trans HRo10.out
  generalize w10.setCell ⟨w3.heap.size + 1, 3, none⟩ (.slice (some ⟨g, 0, none⟩) F.1.2.1.length F.1.2.1.length) = W11 at *
  clear y0 y1 y2 y3 y4 y5 y6 yf yl hg11 HWk10 HRt10 HD10 HRo10 HO hcb hO11 hEw HB10
  obtain ⟨⟨y0, y1, y2, y3, y4, y5, y6⟩, yf, yl⟩ := HWk11.out.cells
  obtain ⟨⟨x0, x1, x2, x3, x4⟩, xf, xl⟩ := HRo11.out.cells
  obtain ⟨aP, cP, hvP, -⟩ := own_shape HRt11.out.1
  obtain ⟨aB, cB, hvB, -⟩ := own_shape HRt11.out.2.1
  subst hvP hvB
  go_wp2_with fail
  have hEw := HEw.out
  have hg12 := five_grown W11 w.heap.size (.slice aP (F.1.1).length cP) (.slice (some ⟨g, 0, none⟩) F.1.2.1.length F.1.2.1.length) (.slice aB (F.1.2.2).length cB) (.string F.2.1) (.bool F.2.2)
  have hEl := ItmW.blk_lt HD11.out
  have hw3 := HB3.out.size
  refine rim_ret2 (g := w.heap.size) (D := E) HQM.out rfl rfl ((hg12.block E hEl (fun e => by have := Option.some.inj e; omega)).trans HD11.out) (HRo11.out.five _ _ _ _ _) (by omega) ?_
  have hg13 := putObj_grown (((((W11.setCell ⟨w.heap.size, 0, none⟩ (.slice aP (F.1.1).length cP)).setCell ⟨w.heap.size, 1, none⟩ (.slice (some ⟨g, 0, none⟩) F.1.2.1.length F.1.2.1.length)).setCell ⟨w.heap.size, 2, none⟩ (.slice aB (F.1.2.2).length cB)).setCell ⟨w.heap.size, 3, none⟩ (.string F.2.1)).setCell ⟨w.heap.size, 4, none⟩ (.bool F.2.2)) E (.deferred none)
  refine ⟨⟨_, rfl, rtp_of HFin.out HRt11.out HO11.out HCb.out hwBg hwBg (by omega) (by omega) (by omega) (fun j hj => ⟨(HPl.out j hj).1, by have := (HPl.out j hj).2; omega⟩) (fun j hj => ⟨(HBl.out j hj).1, by have := (HBl.out j hj).2; omega⟩) (Nat.le_trans hg12.size hg13.size) (fun b h1 h2 => ?keep)⟩, ?bel⟩
  case keep =>
   refine (World.putObj_heap_other h2).trans ?_
   rw [Below.heap_setCell _ _ _ _ h1, Below.heap_setCell _ _ _ _ h1, Below.heap_setCell _ _ _ _ h1, Below.heap_setCell _ _ _ _ h1, Below.heap_setCell _ _ _ _ h1]
  case bel =>
   have h11 : Below w.heap.size w W11 := HB3.out.trans (HB11.out.mono hw3)
   have h12 := h11.trans ⟨hg12.os, hg12.tape, hg12.output, hg12.size, fun b hb => hg12.block b (by have := h11.size; omega) (fun e => by have := Option.some.inj e; omega)⟩
   exact h12.trans ⟨hg13.os, hg13.tape, hg13.output, hg13.size, fun b hb => hg13.block b (by have := h12.size; omega) (fun e => by have := Option.some.inj e; omega)⟩
theorem ro_ret {Q : Ending → World → Prop} {tmps : Array Value} {W : World} {g : Nat} {vP vK vB : Value} {c : ByteArray} {d : Bool} (ht : tmps[4]?.getD undef = .pointer (some ⟨g, 0, none⟩)) (hB : RoB W g vP vK vB c d) (hq : Q (.returned (.agg #[vP, vK, vB, .string c, .bool d])) W) :
  bodyPost Tryz.prog Tryz.f12 Q Exit.ret { tmps := tmps, defers := [] } W := by
 obtain ⟨⟨y0, y1, y2, y3, y4⟩, _⟩ := hB.cells
 exact bodyPost_ret (v := .agg #[vP, vK, vB, .string c, .bool d]) (by simp [results, Tryz.results12, go_sem, ht, y0, y1, y2, y3, y4]) rfl hq
set_option maxRecDepth 10000 in
set_option maxHeartbeats 3200000 in
theorem impl_route (la : Option Addr) (lc : Nat) (ls : List It) (aa : Option Addr) (ac : Nat) (al : List An) (w : World) (hc : Its w la ls) (hlc : ls.length ≤ lc) (hA : Ans w aa al) (hE : EnvF w) :
  Calls Tryz.prog 12 #[.slice la ls.length lc, .slice aa al.length ac] w fun e w' => (∃ v, e = .returned v ∧ RteP (routeF ls al) w v w') ∧ Below w.heap.size w w' := by
 obtain ⟨F, hF⟩ : ∃ F, Hid (routeF ls al = F) := ⟨_, rfl⟩
 rw [hF.out]
 have hb := (Below.refl w.heap.size w).alloc (Nat.le_refl _) (.cells #[.slice none 0 0, .slice none 0 0, .slice none 0 0, .string ⟨#[]⟩, .bool false] 29)
 have HR0 : Hid (RoB (w.alloc (.cells #[.slice none 0 0, .slice none 0 0, .slice none 0 0, .string ⟨#[]⟩, .bool false] 29)) w.heap.size (.slice none 0 0) (.slice none 0 0) (.slice none 0 0) ByteArray.empty false) := heap_alloc_new w _
 have HC := RteS.hid (hc.on hb)
 have HA := RteS.hid (hA.on hb)
 have HE := RteS.hid (hE.on hb)
 have HB0 := RteS.hid hb
 have HS0 : Hid ((w.alloc (.cells #[.slice none 0 0, .slice none 0 0, .slice none 0 0, .string ⟨#[]⟩, .bool false] 29)).heap.size = w.heap.size + 1) := RteS.hid (by simp)
 clear hc hA hE hb
 go_enter Tryz.func12, Tryz.ntmps12
 go_upto_region 1 with fail
 generalize w.alloc (.cells #[.slice none 0 0, .slice none 0 0, .slice none 0 0, .string ⟨#[]⟩, .bool false] 29) = W0 at *
 go_wp2_with fail
 refine (impl_routeOf la lc ls aa ac al W0 HC.out hlc HA.out HE.out).mono ?_
 rw [hF.out]
 rintro e w1 ⟨⟨v, rfl, b0, vP, vB, aK, cK, S, rfl, hO⟩, hB1⟩
 have HO := RteS.hid hO
 have HB1 : Hid (Below w.heap.size w w1) := HB0.out.trans (hB1.mono HB0.out.size)
 have HR1 := RteS.hid (HR0.out.on hB1)
 have hs01 := hB1.size
 have hs0 := HS0.out
 obtain ⟨aP, cP, hvP, -⟩ := own_shape hO.p
 obtain ⟨aB, cB, hvB, -⟩ := own_shape hO.b
 subst hvP hvB
 have hb1 := RteO.ro_box w1 (.slice aP (RteO.txtL F.1.1).length cP) (.slice aK F.1.2.1.length cK) (.slice aB (RteO.txtL F.1.2.2).length cB) F.2.1 F.2.2
 have HX := RteS.hid (RteO.ro_laid w1 (.slice aP (RteO.txtL F.1.1).length cP) (.slice aK F.1.2.1.length cK) (.slice aB (RteO.txtL F.1.2.2).length cB) F.2.1 F.2.2)
 have HR2 := RteS.hid (HR1.out.on hb1)
 have HBx := RteS.hid hb1
 obtain ⟨⟨x0, x1, x2, x3, x4⟩, xf, xl⟩ := HR2.out.cells
 obtain ⟨⟨y0, y1, y2, y3, y4⟩, yf, yl⟩ := HX.out.cells
 clear hO hB1 HR0 HC HA HE hb1 HR1
 go_upto_region 2 with fail
 generalize w1.alloc (.cells #[.slice aP (RteO.txtL F.1.1).length cP, .slice aK F.1.2.1.length cK, .slice aB (RteO.txtL F.1.2.2).length cB, .string F.2.1, .bool F.2.2] 29) = W2 at *
 go_wp2_with fail
 have hg := five_grown W2 w.heap.size (.slice aP (RteO.txtL F.1.1).length cP) (.slice aK F.1.2.1.length cK) (.slice aB (RteO.txtL F.1.2.2).length cB) (.string F.2.1) (.bool F.2.2)
 refine ro_ret (g := w.heap.size) rfl (HR2.out.five _ _ _ _ _) ?_
 have hB2 := HB1.out.trans (HBx.out.mono HB1.out.size)
 refine ⟨⟨_, rfl, b0, _, _, aK, cK, S, rfl, HO.out.keep (by omega) (Nat.le_trans HBx.out.size hg.size) (fun b h1 h2 => (hg.block b (Nat.lt_of_lt_of_le h2 HBx.out.size) (fun e => by have := Option.some.inj e; omega)).trans (HBx.out.block b h2))⟩, hB2.trans ⟨hg.os, hg.tape, hg.output, hg.size, fun b hb => hg.block b (Nat.lt_of_lt_of_le hb hB2.size) (fun e => by have := Option.some.inj e; omega)⟩⟩
end Go.Proofs.YtmbhmknfipdadaaGreatDoor.RteI
namespace Go.Proofs.YtmbhmknfipdadaaGreatDoor.RteN
open Go.RowKit
open PrtW ItmW ItmM FrmM RteM RteS RteO
open AnsW (An Ans rightA)
open FrmI (EnvF)
open StrW (Strs strs_own)
def amongB (P : List ByteArray) (s : ByteArray) : Bool := decide (∃ i, i < P.length ∧ (P.getD i ByteArray.empty).toList = s.toList)
theorem among_yes {P : List ByteArray} {s : ByteArray} {i : Nat} (hi : i < P.length) (h : (P.getD i ByteArray.empty).toList = s.toList) : amongB P s = true := decide_eq_true ⟨i, hi, h⟩
theorem among_no {P : List ByteArray} {s : ByteArray} (h : ∀ i, i < P.length → ¬ (P.getD i ByteArray.empty).toList = s.toList) : amongB P s = false := decide_eq_false (fun ⟨i, hi, h1⟩ => h i hi h1)
def onB (ls : List It) (al : List An) (s : ByteArray) : Bool := decide (s.size ≤ 8000) && amongB (routeF ls al).1.1 s
@[go_sem] theorem route_path (vP vK vB : Value) (c : ByteArray) (d : Bool) (w : World) : (Instr.field 29 (.agg #[vP, vK, vB, .string c, .bool d]) 0).run Tryz.prog w = .ok vP w := by kernel_rfl
theorem text_at {W : World} {a : Option Addr} {P : List ByteArray} (h : Strs W a (txtL P)) {i : Nat} (hi : i < P.length) : ∃ b o, a = some ⟨b, o, none⟩ ∧ b < W.heap.size ∧ W.cell? ⟨b, o + i, none⟩ = some (.string (P.getD i ByteArray.empty)) := by
 obtain ⟨b, o, ha, hb, hc⟩ := h.at (i := i) (by rw [txt_len]; exact hi)
 refine ⟨b, o, ha, hb, hc.trans ?_⟩
 unfold txtL StrW.encS
 simp [hi]
set_option maxRecDepth 10000 in
set_option maxHeartbeats 1600000 in
theorem lib_index (a : Option Addr) (cap : Nat) (P : List ByteArray) (s : ByteArray) (w : World) (hS : Strs w a (txtL P)) (hl : P.length ≤ 1000) :
  Calls Tryz.prog 74 #[.slice a P.length cap, .string s] w fun e w' => (∃ z : Int, e = .returned (.int .i64 z) ∧ (0 ≤ z ↔ amongB P s = true)) ∧ w' = w := by
 have HS := hid hS
 clear hS
 go_enter Tryz.func74, Tryz.ntmps74
 go_wp2
 go_loop [8] (fun iv => ∃ i : Nat, i ≤ P.length ∧ iv = .int .i64 (i : Int) ∧ Hid (∀ j, j < i → ¬ (P.getD j ByteArray.empty).toList = s.toList)) (fun iv => P.length - (intOf iv).toNat)
 case atStart => exact ⟨0, Nat.zero_le _, rfl, fun j hj => absurd hj (Nat.not_lt_zero _)⟩
 case round =>
  obtain ⟨i, hi, rfl, hN⟩ := hrel
  by_cases hlt : i < P.length
  ·obtain ⟨b, o, rfl, hb, c0⟩ := text_at HS.out hlt
   by_cases he : (P.getD i ByteArray.empty).toList = s.toList
   ·have hq : (s.toList == (P.getD i ByteArray.empty).toList) = true := beq_iff_eq.2 he.symm
    have HY := hid (among_yes hlt he)
    generalize P.getD i ByteArray.empty = x at hq c0
    clear he hN
    go_wp2
    go_ret
    exact ⟨⟨_, rfl, fun _ => HY.out, fun _ => by omega⟩, rfl⟩
   ·have hq : (s.toList == (P.getD i ByteArray.empty).toList) = false := Bool.eq_false_iff.2 (fun h => he (eq_of_beq h).symm)
    have HN2 : Hid (∀ j, j < i + 1 → ¬ (P.getD j ByteArray.empty).toList = s.toList) := fun j hj => by
     rcases Nat.lt_or_ge j i with h | h
     ·exact hN.out j h
     ·obtain rfl : j = i := by omega
      exact he
    clear he hN
    generalize P.getD i ByteArray.empty = x at hq c0
    go_wp2
    refine ⟨⟨i + 1, by omega, by go_num, HN2⟩, by simp [intOf]; omega⟩
  ·obtain rfl : i = P.length := by omega
   have HY := hid (among_no hN.out)
   go_wp2
   go_ret
   exact ⟨⟨_, rfl, fun h => absurd h (by decide), fun h => by rw [HY.out] at h; cases h⟩, rfl⟩
set_option maxRecDepth 10000 in
set_option maxHeartbeats 1600000 in
theorem lib_contains (a : Option Addr) (cap : Nat) (P : List ByteArray) (s : ByteArray) (w : World) (hS : Strs w a (txtL P)) (hl : P.length ≤ 1000) :
  Calls Tryz.prog 43 #[.slice a P.length cap, .string s] w fun e w' => e = .returned (.bool (amongB P s)) ∧ w' = w := by
 have HS := hid hS
 clear hS
 obtain ⟨r, hr⟩ : ∃ r, Hid (amongB P s = r) := ⟨_, rfl⟩
 rw [hr.out]
 go_enter Tryz.func43, Tryz.ntmps43
 go_wp2_with fail
 refine (lib_index a cap P s w HS.out hl).mono ?_
 rw [hr.out]
 rintro e w1 ⟨⟨z, rfl, hz⟩, rfl⟩
 cases r
 ·have h0 : ¬ 0 ≤ z := fun h => by have := hz.1 h; cases this
  have hd0 : decide (0 ≤ z) = false := decide_eq_false h0
  clear hz
  go_wp2_with fail
  go_ret
  exact ⟨rfl, rfl⟩
 ·have h0 : 0 ≤ z := hz.2 rfl
  have hd0 : decide (0 ≤ z) = true := decide_eq_true h0
  clear hz
  go_wp2_with fail
  go_ret
  exact ⟨rfl, rfl⟩
open Go.RowKit
open PrtW ItmW ItmM FrmM RteM RteS RteO
open AnsW (An Ans rightA)
open FrmI (EnvF)
open StrW (Strs strs_own)
def hardN (ls : List It) (s : ByteArray) : Bool := decide (∃ i, i < ls.length ∧ (inm (ls.getD i it0)).toList = s.toList ∧ ihd (ls.getD i it0) = true)
def hardM (ls : List It) (B : List ByteArray) : Bool := decide (∃ j, j < B.length ∧ hardN ls (B.getD j ByteArray.empty) = true)
def hardI (ls : List It) (B : List ByteArray) : Bool := decide (∃ i, i < ls.length ∧ ihd (ls.getD i it0) = true ∧ amongB B (inm (ls.getD i it0)) = true)
theorem hard_eq (ls : List It) (B : List ByteArray) : hardI ls B = hardM ls B := by
 unfold hardI hardM
 apply decide_eq_decide.2
 constructor
 ·rintro ⟨i, hi, hd, ha⟩
  obtain ⟨j, hj, he⟩ := of_decide_eq_true ha
  exact ⟨j, hj, decide_eq_true ⟨i, hi, he.symm, hd⟩⟩
 ·rintro ⟨j, hj, hn⟩
  obtain ⟨i, hi, he, hd⟩ := of_decide_eq_true hn
  exact ⟨i, hi, hd, among_yes hj he.symm⟩
set_option maxRecDepth 10000 in
set_option maxHeartbeats 1600000 in
theorem spec_hardN (a : Option Addr) (cap : Nat) (ls : List It) (s : ByteArray) (w : World) (hc : Its w a ls) :
  Calls Tryz.prog 47 #[.slice a ls.length cap, .string s] w fun e w' => e = .returned (.bool (hardN ls s)) ∧ w' = w := by
 have HC := hid hc
 have hl := hc.1
 clear hc
 obtain ⟨r, hr⟩ : ∃ r, Hid (hardN ls s = r) := ⟨_, rfl⟩
 rw [hr.out]
 go_enter Tryz.func47, Tryz.ntmps47
 go_wp2
 go_loop [5] (fun iv => ∃ i : Nat, i ≤ ls.length ∧ iv = .int .i64 (i : Int) ∧ Hid (∀ j, j < i → ¬ ((inm (ls.getD j it0)).toList = s.toList ∧ ihd (ls.getD j it0) = true))) (fun iv => ls.length - (intOf iv).toNat)
 case atStart => exact ⟨0, Nat.zero_le _, rfl, fun j hj => absurd hj (Nat.not_lt_zero _)⟩
 case round =>
  obtain ⟨i, hi, rfl, hN⟩ := hrel
  by_cases hlt : i < ls.length
  ·obtain ⟨_, b, o, ai, ci, rfl, hb, ⟨e0, e1, e2, e3, e4, e5, e6, e7⟩, _, _, _⟩ := HC.out.at (Below.refl _ _) hlt
   by_cases he : (inm (ls.getD i it0)).toList = s.toList
   ·have hq : ((inm (ls.getD i it0)).toList == s.toList) = true := beq_iff_eq.2 he
    by_cases hd : ihd (ls.getD i it0) = true
    ·have HY : Hid (true = r) := (show hardN ls s = true from decide_eq_true ⟨i, hlt, he, hd⟩).symm.trans hr.out
     rw [hd] at e7
     clear he hN hd e0 e2 e3 e4 e5 e6
     generalize inm (ls.getD i it0) = x at hq e1
     go_wp2
     go_ret
     exact ⟨congrArg (fun b => Ending.returned (.bool b)) HY.out, rfl⟩
    ·have hd2 : ihd (ls.getD i it0) = false := by simpa using hd
     have HN2 : Hid (∀ j, j < i + 1 → ¬ ((inm (ls.getD j it0)).toList = s.toList ∧ ihd (ls.getD j it0) = true)) := fun j hj => by
      rcases Nat.lt_or_ge j i with h | h
      ·exact hN.out j h
      ·obtain rfl : j = i := by omega
       exact fun h => hd h.2
     rw [hd2] at e7
     clear he hN hd hd2 e0 e2 e3 e4 e5 e6
     generalize inm (ls.getD i it0) = x at hq e1
     go_wp2
     refine ⟨⟨i + 1, by omega, by go_num, HN2⟩, by simp [intOf]; omega⟩
   ·have hq : ((inm (ls.getD i it0)).toList == s.toList) = false := Bool.eq_false_iff.2 (fun h => he (eq_of_beq h))
    have HN2 : Hid (∀ j, j < i + 1 → ¬ ((inm (ls.getD j it0)).toList = s.toList ∧ ihd (ls.getD j it0) = true)) := fun j hj => by
     rcases Nat.lt_or_ge j i with h | h
     ·exact hN.out j h
     ·obtain rfl : j = i := by omega
      exact fun h => he h.1
    clear he hN e0 e2 e3 e4 e5 e6 e7
    generalize inm (ls.getD i it0) = x at hq e1
    go_wp2
    refine ⟨⟨i + 1, by omega, by go_num, HN2⟩, by simp [intOf]; omega⟩
  ·obtain rfl : i = ls.length := by omega
   have HY : Hid (false = r) := (show hardN ls s = false from decide_eq_false (fun ⟨j, hj, h1, h2⟩ => hN.out j hj ⟨h1, h2⟩)).symm.trans hr.out
   go_wp2
   go_ret
   exact ⟨congrArg (fun b => Ending.returned (.bool b)) HY.out, rfl⟩
set_option maxRecDepth 10000 in
set_option maxHeartbeats 1600000 in
theorem spec_hb (la : Option Addr) (lc : Nat) (ls : List It) (aa : Option Addr) (ac : Nat) (an : List An) (w : World) (hc : Its w la ls) (hA : Ans w aa an) :
  Calls Tryz.prog 24 #[.slice la ls.length lc, .slice aa an.length ac] w fun e w' => e = .returned (.bool (hardM ls (routeF ls an).1.2.2)) ∧ Below w.heap.size w w' := by
 have HC := hid hc
 have HA := hid hA
 clear hc hA
 obtain ⟨ok, hok⟩ : ∃ ok, Hid ((formB ls && rightA an) = ok) := ⟨_, rfl⟩
 obtain ⟨r, hr⟩ : ∃ r, Hid (hardM ls (routeF ls an).1.2.2 = r) := ⟨_, rfl⟩
 rw [hr.out]
 go_enter Tryz.func24, Tryz.ntmps24
 go_wp2_with fail
 refine (spec_right la lc ls aa ac an w HC.out HA.out).mono ?_
 rw [hok.out]
 rintro e w1 ⟨rfl, hB1⟩
 have HB1 := hid hB1
 clear hB1
 cases ok
 ·have hr0 : r = false := by
   rw [← hr.out, rt_no (fun h => by have := hok.out; rw [h.1, h.2] at this; cases this)]
   exact decide_eq_false (fun ⟨j, hj, _⟩ => absurd hj (Nat.not_lt_zero _))
  subst hr0
  clear hr hok
  go_wp2_with fail
  go_ret
  exact ⟨rfl, HB1.out⟩
 ·have h12 := Bool.and_eq_true_iff.1 hok.out
  have HF : Hid (routeL an ls.length ls ([], [], []) = routeF ls an) := (rt_yes h12.1 h12.2).symm
  have h1 := h12.1
  have h2 := h12.2
  clear h12 hok
  go_wp2_with fail
  refine (spec_way la lc ls aa ac an w1 (HC.out.on HB1.out) (HA.out.on HB1.out) h1 h2).mono ?_
  rw [HF.out]
  rintro e w2 ⟨⟨vP, vK, vB, rfl, hS, -, -, hl1⟩, hB2⟩
  have HB2 : Hid (Below w.heap.size w w2) := HB1.out.trans (hB2.mono HB1.out.size)
  obtain ⟨aB, cB, hvB, hP, -, -⟩ := strs_own (own_txt hS.2.1) (by rw [txt_len]; omega)
  rw [txt_len] at hvB
  subst hvB
  generalize (routeF ls an).1.2.2 = B at hl1 hP hr ⊢
  have hbx := ro_box w2 vP vK (.slice aB B.length cB) (routeF ls an).2.1 (routeF ls an).2.2
  have HX := hid (ro_laid w2 vP vK (.slice aB B.length cB) (routeF ls an).2.1 (routeF ls an).2.2)
  have HP := hid (hP.on hbx)
  have HB3 : Hid (Below w.heap.size w (w2.alloc (.cells #[vP, vK, .slice aB B.length cB, .string (routeF ls an).2.1, .bool (routeF ls an).2.2] 29))) := HB2.out.trans (hbx.mono HB2.out.size)
  obtain ⟨aP, cP, hvP, -⟩ := own_shape hS.1
  subst hvP
  have hvK : ∃ ak ck nk, vK = .slice ak nk ck := by
   rcases hS.2.2.1 with ⟨h, -⟩ | ⟨qs, h, -⟩
   ·exact ⟨_, _, _, h⟩
   ·obtain ⟨g, c, h2⟩ := h.2.2; exact ⟨_, _, _, h2⟩
  obtain ⟨ak, ck, nk, rfl⟩ := hvK
  clear hS hB2 hP hbx HB2
  go_upto_region 4 with fail
  generalize w2.alloc (.cells #[_, _, _, _, _] 29) = W3 at *
  generalize w2.heap.size = g at *
  obtain ⟨⟨x0, x1, x2, x3, x4⟩, xf, xl⟩ := HX.out.cells
  have HC3 := hid (HC.out.on HB3.out)
  clear HC HA HF HX h1 h2
  go_wp2_with fail
  go_loop [6] (fun iv => ∃ j : Nat, j ≤ B.length ∧ iv = .int .i64 (j : Int) ∧ Hid (∀ m, m < j → ¬ hardN ls (B.getD m ByteArray.empty) = true)) (fun iv => B.length - (intOf iv).toNat)
  case atStart => exact ⟨0, Nat.zero_le _, rfl, fun j hj => absurd hj (Nat.not_lt_zero _)⟩
  case round =>
   obtain ⟨i, hi, rfl, hN⟩ := hrel
   by_cases hlt : i < B.length
   ·obtain ⟨b, o, rfl, hb, c0⟩ := text_at HP.out hlt
    obtain ⟨q, hq⟩ : ∃ q, Hid (hardN ls (B.getD i ByteArray.empty) = q) := ⟨_, rfl⟩
    have HY : Hid (q = true → true = r) := fun h => (show hardM ls B = true from decide_eq_true ⟨i, hlt, hq.out.trans h⟩).symm.trans hr.out
    have HN2 : Hid (q = false → ∀ m, m < i + 1 → ¬ hardN ls (B.getD m ByteArray.empty) = true) := fun h m hm => by
     rcases Nat.lt_or_ge m i with h1 | h1
     ·exact hN.out m h1
     ·obtain rfl : m = i := by omega
      rw [hq.out, h]; decide
    clear hN
    generalize B.getD i ByteArray.empty = x at c0 hq
    go_wp2_with fail
    refine (spec_hardN la lc ls x W3 HC3.out).mono ?_
    rw [hq.out]
    rintro e w4 ⟨rfl, rfl⟩
    cases q
    ·have HN3 := hid (HN2.out rfl)
     clear HN2 HY hq
     go_wp2_with fail
     refine ⟨⟨i + 1, by omega, by go_num, HN3⟩, by simp [intOf]; omega⟩
    ·have HY2 := hid (HY.out rfl)
     clear HN2 HY hq
     go_wp2_with fail
     go_ret
     exact ⟨congrArg (fun b => Ending.returned (.bool b)) HY2.out, HB3.out⟩
   ·obtain rfl : i = B.length := by omega
    have HY : Hid (false = r) := (show hardM ls B = false from decide_eq_false (fun ⟨j, hj, h1⟩ => hN.out j hj h1)).symm.trans hr.out
    go_wp2_with fail
    go_ret
    exact ⟨congrArg (fun b => Ending.returned (.bool b)) HY.out, HB3.out⟩
def BrX (W : World) (g : Nat) (aB : Option Addr) (cB : Nat) (B : List ByteArray) : Prop := W.heap[g]? = some (.cells #[.slice aB B.length cB] 26 (0, 0)) ∧ Strs W aB (txtL B)
theorem BrX.on {W W' : World} {g : Nat} {aB : Option Addr} {cB : Nat} {B : List ByteArray} (h : BrX W g aB cB B) (hB : Below W.heap.size W W') : BrX W' g aB cB B := ⟨(hB.block g (ItmW.blk_lt h.1)).trans h.1, h.2.on hB⟩
set_option maxRecDepth 10000 in
set_option maxHeartbeats 1600000 in
theorem look_hard (k : Int) (s : ByteArray) (ty lo hi : Int) (t : ByteArray) (v : Value) (hd : Bool) (g : Nat) (aB : Option Addr) (cB : Nat) (B : List ByteArray) (w : World) (hv : ∃ a n c, v = .slice a n c) (h : BrX w g aB cB B) (hl : B.length ≤ 1000) :
  Calls Tryz.prog 49 #[.agg #[.int .i64 k, .string s, .int .i64 ty, .int .i64 lo, .int .i64 hi, .string t, v, .bool hd], .pointer (some ⟨g, 0, none⟩)] w fun e w' => e = .returned (.bool (hd && amongB B s)) ∧ Below w.heap.size w w' := by
 obtain ⟨a, n, c, rfl⟩ := hv
 obtain ⟨r, hr⟩ : ∃ r, Hid (amongB B s = r) := ⟨_, rfl⟩
 rw [hr.out]
 have hbx := item_box w k s ty lo hi t a n c hd
 have HB := hid hbx
 have H := hid (h.on hbx)
 have c0 : w.cell? ⟨g, 0, none⟩ = some (.slice aB B.length cB) := by simp [World.cell?, h.1]
 have cl : g < w.heap.size := ItmW.blk_lt h.1
 clear h hbx
 cases hd
 ·go_enter Tryz.func49, Tryz.ntmps49
  go_wp2_with fail
  go_ret
  exact ⟨rfl, HB.out⟩
 ·go_enter Tryz.func49, Tryz.ntmps49
  go_wp2_with fail
  refine (lib_contains aB cB B s _ H.out.2 hl).mono ?_
  rw [hr.out]
  rintro e w2 ⟨rfl, rfl⟩
  go_wp2_with fail
  go_ret
  exact ⟨rfl, HB.out⟩
set_option maxRecDepth 10000 in
set_option maxHeartbeats 1600000 in
theorem lib_indexF (a : Option Addr) (cap : Nat) (ls : List It) (g : Nat) (aB : Option Addr) (cB : Nat) (B : List ByteArray) (w : World) (hc : Its w a ls) (h : BrX w g aB cB B) (hl : B.length ≤ 1000) :
  Calls Tryz.prog 77 #[.slice a ls.length cap, .func (.func 49) #[] #[.pointer (some ⟨g, 0, none⟩)]] w fun e w' => (∃ z : Int, e = .returned (.int .i64 z) ∧ (0 ≤ z ↔ hardI ls B = true)) ∧ Below w.heap.size w w' := by
 have HC := hid hc
 have H := hid h
 have hll := hc.1
 clear hc h
 go_enter Tryz.func77, Tryz.ntmps77
 go_wp2_with fail
 go_loopw [8] (fun iv wr => ∃ i : Nat, i ≤ ls.length ∧ iv = .int .i64 (i : Int) ∧ Hid (∀ j, j < i → ¬ (ihd (ls.getD j it0) = true ∧ amongB B (inm (ls.getD j it0)) = true)) ∧ Hid (Below w.heap.size w wr)) (fun iv _ => ls.length - (intOf iv).toNat)
 case atStart => exact ⟨0, Nat.zero_le _, rfl, fun j hj => absurd hj (Nat.not_lt_zero _), Below.refl _ _⟩
 case round =>
  obtain ⟨i, hi, rfl, hN, hB⟩ := hrel
  by_cases hlt : i < ls.length
  ·obtain ⟨_, b, o, ai, ci, rfl, hb, ⟨e0, e1, e2, e3, e4, e5, e6, e7⟩, _, _, _⟩ := HC.out.at hB.out hlt
   have hbl : b < wr.heap.size := Nat.lt_of_lt_of_le hb hB.out.size
   obtain ⟨r, hr⟩ : ∃ r, Hid ((ihd (ls.getD i it0) && amongB B (inm (ls.getD i it0))) = r) := ⟨_, rfl⟩
   have HY : Hid (r = true → hardI ls B = true) := fun h => by
    have h2 := Bool.and_eq_true_iff.1 (hr.out.trans h)
    exact decide_eq_true ⟨i, hlt, h2.1, h2.2⟩
   have HN2 : Hid (r = false → ∀ j, j < i + 1 → ¬ (ihd (ls.getD j it0) = true ∧ amongB B (inm (ls.getD j it0)) = true)) := fun h j hj => by
    rcases Nat.lt_or_ge j i with h1 | h1
    ·exact hN.out j h1
    ·obtain rfl : j = i := by omega
     intro h3
     have h4 := hr.out
     rw [h3.1, h3.2, h] at h4
     cases h4
   clear hN
   generalize ls.getD i it0 = q at e0 e1 e2 e3 e4 e5 e6 e7 hr
   obtain ⟨k, sn, ty, lo, hi', t, ps, hd⟩ := q
   dsimp only [ik, inm, ity, ilo, ihi, itx, iex, ihd] at e0 e1 e2 e3 e4 e5 e6 e7 hr
   go_wp2_with fail
   refine (look_hard k sn ty lo hi' t (.slice ai ps.length ci) hd g aB cB B wr ⟨_, _, _, rfl⟩ (H.out.on hB.out) hl).mono ?_
   rw [hr.out]
   rintro e w4 ⟨rfl, hB4⟩
   have HB4 : Hid (Below w.heap.size w w4) := hB.out.trans (hB4.mono hB.out.size)
   clear hB4 hB e0 e1 e2 e3 e4 e5 e6 e7
   cases r
   ·have HN3 := hid (HN2.out rfl)
    clear HN2 HY hr
    go_wp2_with fail
    refine ⟨⟨i + 1, by omega, by go_num, HN3, HB4⟩, by simp [intOf]; omega⟩
   ·have HY2 := hid (HY.out rfl)
    clear HN2 HY hr
    go_wp2_with fail
    go_ret
    exact ⟨⟨_, rfl, fun _ => HY2.out, fun _ => by omega⟩, HB4.out⟩
  ·obtain rfl : i = ls.length := by omega
   have HY : Hid (hardI ls B = false) := decide_eq_false (fun ⟨j, hj, h1⟩ => hN.out j hj h1)
   go_wp2_with fail
   go_ret
   exact ⟨⟨_, rfl, fun h => absurd h (by decide), fun h => by rw [HY.out] at h; cases h⟩, hB.out⟩
set_option maxRecDepth 10000 in
set_option maxHeartbeats 1600000 in
theorem lib_containsF (a : Option Addr) (cap : Nat) (ls : List It) (g : Nat) (aB : Option Addr) (cB : Nat) (B : List ByteArray) (w : World) (hc : Its w a ls) (h : BrX w g aB cB B) (hl : B.length ≤ 1000) :
  Calls Tryz.prog 48 #[.slice a ls.length cap, .func (.func 49) #[] #[.pointer (some ⟨g, 0, none⟩)]] w fun e w' => e = .returned (.bool (hardM ls B)) ∧ Below w.heap.size w w' := by
 have HC := hid hc
 have H := hid h
 clear hc h
 obtain ⟨r, hr⟩ : ∃ r, Hid (hardM ls B = r) := ⟨_, rfl⟩
 rw [hr.out]
 go_enter Tryz.func48, Tryz.ntmps48
 go_wp2_with fail
 refine (lib_indexF a cap ls g aB cB B w HC.out H.out hl).mono ?_
 rw [hard_eq, hr.out]
 rintro e w1 ⟨⟨z, rfl, hz⟩, hB1⟩
 have HB1 := hid hB1
 clear hB1
 cases r
 ·have h0 : ¬ 0 ≤ z := fun h => by have := hz.1 h; cases this
  have hd0 : decide (0 ≤ z) = false := decide_eq_false h0
  clear hz
  go_wp2_with fail
  go_ret
  exact ⟨rfl, HB1.out⟩
 ·have h0 : 0 ≤ z := hz.2 rfl
  have hd0 : decide (0 ≤ z) = true := decide_eq_true h0
  clear hz
  go_wp2_with fail
  go_ret
  exact ⟨rfl, HB1.out⟩
@[go_sem] theorem route_broken (vP vK vB : Value) (c : ByteArray) (d : Bool) (w : World) : (Instr.field 29 (.agg #[vP, vK, vB, .string c, .bool d]) 2).run Tryz.prog w = .ok vB w := by kernel_rfl
set_option maxRecDepth 10000 in
set_option maxHeartbeats 1600000 in
theorem impl_hb (la : Option Addr) (lc : Nat) (ls : List It) (aa : Option Addr) (ac : Nat) (an : List An) (w : World) (hc : Its w la ls) (hlc : ls.length ≤ lc) (hA : Ans w aa an) (hE : EnvF w) :
  Calls Tryz.prog 25 #[.slice la ls.length lc, .slice aa an.length ac] w fun e w' => e = .returned (.bool (hardM ls (routeF ls an).1.2.2)) ∧ Below w.heap.size w w' := by
 have HC := hid hc
 have HA := hid hA
 have HE := hid hE
 clear hc hA hE
 obtain ⟨r, hr⟩ : ∃ r, Hid (hardM ls (routeF ls an).1.2.2 = r) := ⟨_, rfl⟩
 rw [hr.out]
 go_enter Tryz.func25, Tryz.ntmps25
 go_wp2_with fail
 refine (RteI.impl_route la lc ls aa ac an w HC.out hlc HA.out HE.out).mono ?_
 rintro e w1 ⟨⟨v, rfl, b0, vP, vB, aK, cK, S, rfl, hO⟩, hB1⟩
 have hl1 := hO.l2
 obtain ⟨aB, cB, hvB, hP, -, -⟩ := strs_own hO.b (by rw [txt_len]; omega)
 rw [txt_len] at hvB
 subst hvB
 have hbx : Below w1.heap.size w1 (w1.alloc (.cells #[.slice aB (routeF ls an).1.2.2.length cB] 26)) := (Below.refl _ _).alloc (Nat.le_refl _) _
 have HX : Hid (BrX (w1.alloc (.cells #[.slice aB (routeF ls an).1.2.2.length cB] 26)) w1.heap.size aB cB (routeF ls an).1.2.2) := ⟨heap_alloc_new w1 _, hP.on hbx⟩
 have HB2 : Hid (Below w.heap.size w (w1.alloc (.cells #[.slice aB (routeF ls an).1.2.2.length cB] 26))) := hB1.trans (hbx.mono hB1.size)
 have HC2 := hid (HC.out.on HB2.out)
 clear hO hB1 hP hbx HC HA HE
 go_upto_region 2 with fail
 generalize w1.alloc (.cells #[.slice aB (routeF ls an).1.2.2.length cB] 26) = W2 at *
 go_wp2_with fail
 refine (lib_containsF la lc ls w1.heap.size aB cB _ W2 HC2.out HX.out (by omega)).mono ?_
 rw [hr.out]
 rintro e w3 ⟨rfl, hB3⟩
 have HB3 : Hid (Below w.heap.size w w3) := HB2.out.trans (hB3.mono HB2.out.size)
 clear hB3
 go_wp2_with fail
 go_ret
 exact ⟨rfl, HB3.out⟩
end Go.Proofs.YtmbhmknfipdadaaGreatDoor.RteN
namespace Go.Proofs.YtmbhmknfipdadaaGreatDoor.RteY
open Go.RowKit
open PrtW ItmW ItmM FrmM RteM RteS RteN
open AnsW (An Ans bulk eqAnsL szAnsL toAnsL Raw)
open FrmI (EnvF)
open RteX (raw_on)
set_option maxRecDepth 10000 in
set_option maxHeartbeats 3200000 in
theorem law_hb (a : Option Addr) (cap : Nat) (ls : List It) (aA : Option Addr) (cA : Nat) (al : List An) (w : World) (hR : RawI w a ls) (hA : Raw w aA al) (hE : EnvF w) :
  Calls Tryz.prog 6 #[.slice a ls.length cap, .slice aA al.length cA] w fun e w' => e = .returned (.bool true) ∧ Below w.heap.size w w' := by
 have HR := hid hR
 have HA := hid hA
 have HE := hid hE
 clear hR hA hE
 go_enter Tryz.func6, Tryz.ntmps6
 go_wp2_with fail
 refine (szItsL a cap ls 1048576 (Nat.le_refl _) w HR.out).mono ?_
 rintro e w1 ⟨⟨z, rfl, hz, hzv⟩, hB1⟩
 have HB1 := hid hB1
 by_cases hbig : 1048576 < ls.length + bulkI ls
 ·have hz0 : z < 0 := hz.2 hbig
  clear hz hB1 hzv
  go_wp2_with fail
  go_ret
  exact ⟨rfl, HB1.out⟩
 obtain ⟨l0, hl0, hl1⟩ : ∃ l0 : Nat, z = (l0 : Int) ∧ l0 ≤ 1048576 := ⟨1048576 - (ls.length + bulkI ls), by have := hzv (by omega); omega, by omega⟩
 subst hl0
 have hz0 : ¬ ((l0 : Nat) : Int) < 0 := by omega
 clear hz hzv hB1
 go_wp2_with fail
 refine (szAnsL aA cA al l0 hl1 w1 (raw_on HA.out HB1.out)).mono ?_
 rintro e w2 ⟨⟨r, rfl, hr, _⟩, hB2⟩
 have HB2 : Hid (Below w.heap.size w w2) := HB1.out.trans (hB2.mono HB1.out.size)
 clear hB2 HB1 hz0
 by_cases hbig2 : l0 < al.length + bulk al
 ·have hr0 : r < 0 := hr.2 hbig2
  clear hr
  go_wp2_with fail
  go_ret
  exact ⟨rfl, HB2.out⟩
 have hr0 : ¬ r < 0 := fun h => hbig2 (hr.1 h)
 have HI := hid (HR.out.its (by omega))
 have HAn := hid (HA.out.ans (by omega))
 obtain ⟨F, hF⟩ : ∃ F, Hid (hardM ls (routeF ls al).1.2.2 = F) := ⟨_, rfl⟩
 clear hr HR HA hbig hbig2 hl1
 go_wp2_with fail
 refine (toItsL a cap ls w2 (HI.out.on HB2.out)).mono ?_
 rintro e w3 ⟨rfl, hP3, hB3⟩
 have HB3 : Hid (Below w.heap.size w w3) := HB2.out.trans (hB3.mono HB2.out.size)
 have HP3 := hid hP3
 generalize w2.heap.size = g2 at *
 clear hP3 hB3 HB2 hr0
 go_wp2_with fail
 refine (toAnsL aA cA al w3 (HAn.out.on HB3.out)).mono ?_
 rintro e w4 ⟨rfl, hQ4, hB4⟩
 have HB4 : Hid (Below w.heap.size w w4) := HB3.out.trans (hB4.mono HB3.out.size)
 have HP4 := hid (HP3.out.on hB4)
 have HQ4 := hid hQ4
 generalize w3.heap.size = g3 at *
 clear hQ4 hB4 HB3 HP3
 go_wp2_with fail
 refine (spec_hb (some ⟨g2, 0, none⟩) ls.length ls (some ⟨g3, 0, none⟩) al.length al w4 HP4.out HQ4.out).mono ?_
 rw [hF.out]
 rintro e w5 ⟨rfl, hB5⟩
 have HB5 : Hid (Below w.heap.size w w5) := HB4.out.trans (hB5.mono HB4.out.size)
 clear hB5 HB4 HP4 HQ4
 go_wp2_with fail
 refine (toItsL a cap ls w5 (HI.out.on HB5.out)).mono ?_
 rintro e w6 ⟨rfl, hP6, hB6⟩
 have HB6 : Hid (Below w.heap.size w w6) := HB5.out.trans (hB6.mono HB5.out.size)
 have HP6 := hid hP6
 generalize w5.heap.size = g5 at *
 clear hP6 hB6 HB5
 go_wp2_with fail
 refine (toAnsL aA cA al w6 (HAn.out.on HB6.out)).mono ?_
 rintro e w7 ⟨rfl, hQ7, hB7⟩
 have HB7 : Hid (Below w.heap.size w w7) := HB6.out.trans (hB7.mono HB6.out.size)
 have HP7 := hid (HP6.out.on hB7)
 have HQ7 := hid hQ7
 generalize w6.heap.size = g6 at *
 clear hQ7 hB7 HB6 HP6
 go_wp2_with fail
 refine (impl_hb (some ⟨g5, 0, none⟩) ls.length ls (some ⟨g6, 0, none⟩) al.length al w7 HP7.out (Nat.le_refl _) HQ7.out (HE.out.on HB7.out)).mono ?_
 rw [hF.out]
 rintro e w8 ⟨rfl, hB8⟩
 have HB8 : Hid (Below w.heap.size w w8) := HB7.out.trans (hB8.mono HB7.out.size)
 have HP8 := hid (HP7.out.on hB8)
 have HQ8 := hid (HQ7.out.on hB8)
 have hFF : (F != F) = false := by simp
 clear hB8 HB7 HP7 HQ7
 go_wp2_with fail
 refine (toItsL a cap ls w8 (HI.out.on HB8.out)).mono ?_
 rintro e w9 ⟨rfl, hP9, hB9⟩
 have HB9 : Hid (Below w.heap.size w w9) := HB8.out.trans (hB9.mono HB8.out.size)
 have HN9 := hid hP9
 have HP9 := hid (HP8.out.on hB9)
 have HQ9 := hid (HQ8.out.on hB9)
 generalize w8.heap.size = g8 at *
 clear hP9 hB9 HB8 HP8 HQ8
 go_wp2_with fail
 refine (eqItsL (some ⟨g5, 0, none⟩) (some ⟨g8, 0, none⟩) ls.length ls.length ls w9 HP9.out HN9.out).mono ?_
 rintro e w10 ⟨rfl, hB10⟩
 have HB10 : Hid (Below w.heap.size w w10) := HB9.out.trans (hB10.mono HB9.out.size)
 have HQ10 := hid (HQ9.out.on hB10)
 clear hB10 HB9 HP9 HN9 HQ9
 go_wp2_with fail
 refine (toAnsL aA cA al w10 (HAn.out.on HB10.out)).mono ?_
 rintro e w11 ⟨rfl, hP11, hB11⟩
 have HB11 : Hid (Below w.heap.size w w11) := HB10.out.trans (hB11.mono HB10.out.size)
 have HN11 := hid hP11
 have HQ11 := hid (HQ10.out.on hB11)
 generalize w10.heap.size = g10 at *
 clear hP11 hB11 HB10 HQ10
 go_wp2_with fail
 refine (eqAnsL (some ⟨g6, 0, none⟩) (some ⟨g10, 0, none⟩) al.length al.length al w11 HQ11.out HN11.out).mono ?_
 rintro e w12 ⟨rfl, hB12⟩
 have HB12 : Hid (Below w.heap.size w w12) := HB11.out.trans (hB12.mono HB11.out.size)
 clear hB12 HB11 HQ11 HN11
 go_wp2_with fail
 go_ret
 exact ⟨rfl, HB12.out⟩
end Go.Proofs.YtmbhmknfipdadaaGreatDoor.RteY
