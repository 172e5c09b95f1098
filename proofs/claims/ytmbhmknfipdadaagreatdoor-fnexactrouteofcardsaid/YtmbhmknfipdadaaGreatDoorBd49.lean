/- Texts of ours, laid together. -/
import Derived.Test.YtmbhmknfipdadaaGreatDoorBd48
import Derived.Test.YtmbhmknfipdadaaGreatDoorBd42
import Derived.Test.YtmbhmknfipdadaaGreatDoorBd47
namespace Go.Proofs.YtmbhmknfipdadaaGreatDoor.RteI
open Go.RowKit Go.Maps
open PrtW PrtM ItmW ItmM FrmM EvlM EvlS ValW NameW RteM RteS BookW PrtI RngW
open AnsW (An an0 nm kd nu cd tx told putA rightA good Ans)
open FrmI (EnvF)
attribute [local go_sem] Oper.semAt_some
theorem StW.off {wG : World} {O Bg Bk b0 F l : Nat} {al : List An} {Dg : DataW Value} {cur : ByteArray} {s : St} {W W' : World} (h : StW wG wG O Bg Bk b0 F Dg cur s W) (hG : GvB wG O Bg Bk F al Dg) (hg : W.grownBy W' (some l)) (hl : l < b0) (hlg : wG.heap.size ≤ l) (hO : l ≠ O) (hK : l ≠ Bk) : StW wG wG O Bg Bk b0 F Dg cur s W' := by
 obtain ⟨h1, h0, h2, vP, vB, D, h3, h4, h5, h6⟩ := h
 have hB : Below wG.heap.size wG W' := h1.trans ⟨hg.os, hg.tape, hg.output, hg.size, fun b hb => hg.block b (Nat.lt_of_lt_of_le hb h1.size) (fun e => by have := Option.some.inj e; omega)⟩
 have hk : KG wG O Bk W' := ⟨hB.size, fun b hb _ _ => hB.block b hb⟩
 exact ⟨hB, hk, Nat.le_trans h2 hg.size, vP, vB, D, h3.grown hg (fun e => hO (Option.some.inj e)), RtS.off h4 hg hl, BookN.far h5 h6 hG h0 hk hg.size (hg.block Bk h5.1.lt (fun e => hK (Option.some.inj e).symm)), h6⟩
theorem putObj_grown (W : World) (l : Nat) (o : Obj) : W.grownBy (W.putObj l o) (some l) := ⟨rfl, rfl, rfl, by simp [World.putObj], fun _ _ hn => World.putObj_heap_other (fun e => hn (by rw [e]))⟩
def WkD (W : World) (O Bg Bk : Nat) (vP vK vB : Value) (cur : ByteArray) (d : Bool) : Prop := W.heap[O]? = some (.cells #[.map (some Bg), .map (some Bk), vP, vK, vB, .string cur, .bool d] 96 (0, 0))
theorem WkD.on {W W' : World} {O Bg Bk : Nat} {vP vK vB : Value} {cur : ByteArray} {d : Bool} (h : WkD W O Bg Bk vP vK vB cur d) (hB : Below W.heap.size W W') : WkD W' O Bg Bk vP vK vB cur d := by
 unfold WkD at h ⊢
 rw [hB.block O (ItmW.blk_lt h)]; exact h
theorem WkD.cells {W : World} {O Bg Bk : Nat} {vP vK vB : Value} {cur : ByteArray} {d : Bool} (h : WkD W O Bg Bk vP vK vB cur d) : (W.cell? ⟨O, 0, none⟩ = some (.map (some Bg)) ∧ W.cell? ⟨O, 1, none⟩ = some (.map (some Bk)) ∧ W.cell? ⟨O, 2, none⟩ = some vP ∧ W.cell? ⟨O, 3, none⟩ = some vK ∧ W.cell? ⟨O, 4, none⟩ = some vB ∧ W.cell? ⟨O, 5, none⟩ = some (.string cur) ∧ W.cell? ⟨O, 6, none⟩ = some (.bool d)) ∧ (∀ j, W.frozen? ⟨O, j, none⟩ = false) ∧ O < W.heap.size := by
 unfold WkD at h
 exact ⟨⟨by simp [World.cell?, h], by simp [World.cell?, h], by simp [World.cell?, h], by simp [World.cell?, h], by simp [World.cell?, h], by simp [World.cell?, h], by simp [World.cell?, h]⟩, fun j => by simp [World.frozen?, h], ItmW.blk_lt h⟩
theorem WkB.done {W : World} {O Bg Bk : Nat} {vP vB : Value} {cur : ByteArray} (h : WkB W O Bg Bk vP vB cur) (d : Bool) : WkD (W.setCell ⟨O, 6, none⟩ (.bool d)) O Bg Bk vP (.slice none 0 0) vB cur d := by
 unfold WkB at h; unfold WkD
 rw [PrtW.blk_set _ _ _ _ _ _ h]; simp only [List.setIfInBounds_toArray, List.set_cons_zero, List.set_cons_succ]
theorem WkD.setK {W : World} {O Bg Bk : Nat} {vP vK vB : Value} {cur : ByteArray} {d : Bool} (h : WkD W O Bg Bk vP vK vB cur d) (v : Value) : WkD (W.setCell ⟨O, 3, none⟩ v) O Bg Bk vP v vB cur d := by
 unfold WkD at h ⊢
 rw [PrtW.blk_set _ _ _ _ _ _ h]; simp only [List.setIfInBounds_toArray, List.set_cons_zero, List.set_cons_succ]
structure RtO (F : Rt) (w w' : World) (b0 : Nat) (vP vB : Value) (aK : Option Addr) (S : Nat → Prop) : Prop where
 p : w'.ownsRow b0 9 1 vP (RteO.txtL F.1.1).length (StrW.strs (RteO.txtL F.1.1))
 b : w'.ownsRow b0 9 1 vB (RteO.txtL F.1.2.2).length (StrW.strs (RteO.txtL F.1.2.2))
 pb : ∀ j, vP.ownBlock = some j → vB.ownBlock ≠ some j
 ps : ∀ j, vP.ownBlock = some j → ¬ S j
 bs : ∀ j, vB.ownBlock = some j → ¬ S j
 sl : ∀ j, S j → j < w'.heap.size
 lo : ∀ j, S j → w.heap.size ≤ j
 hb : w.heap.size ≤ b0
 k : F.1.2.1 = [] ∨ ∃ g ads Fl, aK = some ⟨g, 0, none⟩ ∧ OwnA w' Fl g F.1.2.1 ads ∧ S g ∧ ∀ i, i < F.1.2.1.length → ∀ b o, (ads i).1 = some ⟨b, o, none⟩ → 0 < (cd (F.1.2.1.getD i an0)).length → S b
 r : rightA F.1.2.1 = true
 l1 : F.1.1.length ≤ 25
 l2 : F.1.2.2.length ≤ 25
def RteP (F : Rt) (w : World) (v : Value) (w' : World) : Prop := ∃ (b0 : Nat) (vP vB : Value) (aK : Option Addr) (cK : Nat) (S : Nat → Prop), v = .agg #[vP, .slice aK F.1.2.1.length cK, vB, .string F.2.1, .bool F.2.2] ∧ RtO F w w' b0 vP vB aK S
theorem RtO.rom {F : Rt} {w w' : World} {b0 : Nat} {vP vB : Value} {aK : Option Addr} {S : Nat → Prop} (h : RtO F w w' b0 vP vB aK S) (cK k0 : Nat) : RteO.RoM w' b0 vP vB aK F.1.2.1.length cK S (fun i => (cd (F.1.2.1.getD i an0)).length) (RteO.txtL F.1.1) (RteO.txtL F.1.2.2) k0 0 :=
 ⟨h.p, h.b, h.pb, h.ps, h.bs, h.sl, fun hp => by
  rcases h.k with hk | ⟨g, ads, Fl, ha, hO, hg, hc⟩
  ·rw [hk] at hp; exact absurd hp (Nat.lt_irrefl 0)
  ·exact ⟨g, ads, ha, AnsL.OwnA.moX hO hg h.sl hc⟩⟩
theorem RtO.ans {F : Rt} {w w' : World} {b0 : Nat} {vP vB : Value} {aK : Option Addr} {S : Nat → Prop} (h : RtO F w w' b0 vP vB aK S) : Ans w' aK F.1.2.1 := by
 rcases h.k with hk | ⟨g, ads, Fl, rfl, hO, _⟩
 ·rw [hk]; exact Ans.nil _ _
 ·exact OwnA.ans hO h.r
theorem rtp_none (w w' : World) : RteP (([], [], []), ByteArray.empty, false) w (.agg #[.slice none 0 0, .slice none 0 0, .slice none 0 0, .string ByteArray.empty, .bool false]) w' :=
 ⟨w.heap.size, .slice none 0 0, .slice none 0 0, none, 0, fun _ => False, rfl, ⟨World.ownsRow_nil _ _ _ _, World.ownsRow_nil _ _ _ _, fun _ h => (by cases h), fun _ _ h => h, fun _ _ h => h, fun _ h => h.elim, fun _ h => h.elim, Nat.le_refl _, .inl rfl, rfl, by simp, by simp⟩⟩
theorem own_move {w w' : World} {F g : Nat} {ls : List An} {ads : Nat → Option Addr × Nat} (h : OwnA w F g ls ads) (hs : w.heap.size ≤ w'.heap.size) (hg : w'.heap[g]? = w.heap[g]?) (hb : ∀ i, i < ls.length → ∀ b o, (ads i).1 = some ⟨b, o, none⟩ → 0 < (cd (ls.getD i an0)).length → w'.heap[b]? = w.heap[b]?) : OwnA w' F g ls ads := by
 obtain ⟨⟨cs, h1, h2, h3⟩, h4, h5⟩ := h
 refine ⟨⟨cs, by rw [hg]; exact h1, h2, h3⟩, fun i hi => ⟨?_, (h4 i hi).2⟩, h5⟩
 obtain ⟨⟨c1, c2, c3, c4⟩, _⟩ := h4 i hi
 exact ⟨RteO.codes_keep c1 hs (hb i hi), RteO.free_keep c2 hs (hb i hi), c3, c4⟩
theorem gtrans {a b c : World} {g : Nat} (h1 : a.grownBy b (some g)) (h2 : b.grownBy c (some g)) : a.grownBy c (some g) := ⟨h2.os.trans h1.os, h2.tape.trans h1.tape, h2.output.trans h1.output, Nat.le_trans h1.size h2.size, fun k hk hn => (h2.block k (Nat.lt_of_lt_of_le hk h1.size) hn).trans (h1.block k hk hn)⟩
theorem five_grown (W : World) (g : Nat) (v0 v1 v2 v3 v4 : Value) : W.grownBy (((((W.setCell ⟨g, 0, none⟩ v0).setCell ⟨g, 1, none⟩ v1).setCell ⟨g, 2, none⟩ v2).setCell ⟨g, 3, none⟩ v3).setCell ⟨g, 4, none⟩ v4) (some g) :=
 gtrans (gtrans (gtrans (gtrans (AnsO.grown_set W g 0 v0) (AnsO.grown_set _ g 1 v1)) (AnsO.grown_set _ g 2 v2)) (AnsO.grown_set _ g 3 v3)) (AnsO.grown_set _ g 4 v4)
set_option maxHeartbeats 800000 in
theorem rtp_of {F : Rt} {w w3 W W' : World} {E Bg g z : Nat} {vP vB : Value} {ads : Nat → Option Addr × Nat} (hfin : FinR F) (hRt : RtS W (E + 2) vP (.slice none 0 0) vB F.1.1 [] F.1.2.2) (hO : OwnA W (Bg + 1) g F.1.2.1 ads)
  (hcb : ∀ i, i < F.1.2.1.length → ∀ b o, (ads i).1 = some ⟨b, o, none⟩ → 0 < (cd (F.1.2.1.getD i an0)).length → Bg + 1 ≤ b ∧ b < w3.heap.size) (hwB : w.heap.size ≤ Bg) (hwz : z ≤ Bg) (hBg : Bg < w3.heap.size) (h3 : w3.heap.size ≤ E) (hgE : E < g) (hP : ∀ j, vP.ownBlock = some j → E + 2 ≤ j ∧ j < g) (hB : ∀ j, vB.ownBlock = some j → E + 2 ≤ j ∧ j < g)
  (hs : W.heap.size ≤ W'.heap.size) (hk : ∀ b, b ≠ z → b ≠ E → W'.heap[b]? = W.heap[b]?) : RteP F w (.agg #[vP, .slice (some ⟨g, 0, none⟩) F.1.2.1.length F.1.2.1.length, vB, .string F.2.1, .bool F.2.2]) W' := by
 have hO' : OwnA W' (Bg + 1) g F.1.2.1 ads := own_move hO hs (hk g (by omega) (by omega)) (fun i hi b o ha hl => hk b (by have := (hcb i hi b o ha hl).1; omega) (by have := (hcb i hi b o ha hl).2; omega))
 have hgl := hO'.1.lt
 have hsl : ∀ j, (j = g ∨ Bg + 1 ≤ j ∧ j < w3.heap.size) → j < W'.heap.size := fun j hj => by rcases hj with rfl | hj <;> omega
 have hlo : ∀ j, (j = g ∨ Bg + 1 ≤ j ∧ j < w3.heap.size) → w.heap.size ≤ j := fun j hj => by rcases hj with rfl | hj <;> omega
 have hps : ∀ j, vP.ownBlock = some j → ¬ (j = g ∨ Bg + 1 ≤ j ∧ j < w3.heap.size) := fun j hj hS => by
  have := hP j hj
  rcases hS with rfl | hS <;> omega
 have hbs : ∀ j, vB.ownBlock = some j → ¬ (j = g ∨ Bg + 1 ≤ j ∧ j < w3.heap.size) := fun j hj hS => by
  have := hB j hj
  rcases hS with rfl | hS <;> omega
 have hp : W'.ownsRow (E + 2) 9 1 vP (RteO.txtL F.1.1).length (StrW.strs (RteO.txtL F.1.1)) := RteO.row_keep (RteO.own_txt hRt.1) (fun j hj => hk j (by have := (hP j hj).1; omega) (by have := (hP j hj).1; omega))
 have hb : W'.ownsRow (E + 2) 9 1 vB (RteO.txtL F.1.2.2).length (StrW.strs (RteO.txtL F.1.2.2)) := RteO.row_keep (RteO.own_txt hRt.2.1) (fun j hj => hk j (by have := (hB j hj).1; omega) (by have := (hB j hj).1; omega))
 have hpb := hRt.2.2.2
 have hcb2 := fun i hi b o ha hl => (show b = g ∨ Bg + 1 ≤ b ∧ b < w3.heap.size from .inr (hcb i hi b o ha hl))
 clear hk hs hRt hO hcb hP hB
 exact ⟨E + 2, vP, vB, some ⟨g, 0, none⟩, F.1.2.1.length, fun j => j = g ∨ Bg + 1 ≤ j ∧ j < w3.heap.size, rfl, ⟨hp, hb, hpb, hps, hbs, hsl, hlo, by omega, .inr ⟨g, ads, Bg + 1, rfl, hO', .inl rfl, hcb2⟩, hfin.1, hfin.2.1, hfin.2.2.1⟩⟩
theorem RtO.keep {F : Rt} {w w1 w' w'' : World} {b0 : Nat} {vP vB : Value} {aK : Option Addr} {S : Nat → Prop} (h : RtO F w1 w' b0 vP vB aK S) (hw : w.heap.size ≤ w1.heap.size) (hs : w'.heap.size ≤ w''.heap.size) (hk : ∀ b, w1.heap.size ≤ b → b < w'.heap.size → w''.heap[b]? = w'.heap[b]?) : RtO F w w'' b0 vP vB aK S := by
 have hkS : ∀ j, S j → w''.heap[j]? = w'.heap[j]? := fun j hj => hk j (h.lo j hj) (h.sl j hj)
 refine ⟨RteO.row_keep h.p (fun j hj => hk j (by have := (h.p.lt j hj).1; have := h.hb; omega) (h.p.lt j hj).2), RteO.row_keep h.b (fun j hj => hk j (by have := (h.b.lt j hj).1; have := h.hb; omega) (h.b.lt j hj).2), h.pb, h.ps, h.bs, fun j hj => Nat.lt_of_lt_of_le (h.sl j hj) hs, fun j hj => Nat.le_trans hw (h.lo j hj), Nat.le_trans hw h.hb, ?_, h.r, h.l1, h.l2⟩
 rcases h.k with hk0 | ⟨g, ads, Fl, ha, hO, hg, hc⟩
 ·exact .inl hk0
 ·exact .inr ⟨g, ads, Fl, ha, own_move hO hs (hkS g hg) (fun i hi b o ha hl => hkS b (hc i hi b o ha hl)), hg, hc⟩
theorem make_map0 (w : World) : (Instr.makeMap 93 none).run Tryz.prog w = .ok (.map (some w.heap.size)) (w.alloc (.map #[] 0)) := by
 simp [Instr.makeMap, go_sem]
set_option maxRecDepth 10000 in
theorem impl_comeTo (la : Option Addr) (n lc : Nat) (f : FuncId) (x : Value) (w : World) :
  Calls Tryz.prog 66 #[.slice la n lc, .func (.func f) #[x] #[]] w fun e w' => e = .returned (.func (.func 94) #[] #[.pointer (some ⟨w.heap.size, 0, none⟩), .pointer (some ⟨w.heap.size + 1, 0, none⟩)]) ∧ w'.heap[w.heap.size]? = some (.cells #[.slice la n lc] 31 (0, 0)) ∧ w'.heap[w.heap.size + 1]? = some (.cells #[.func (.func f) #[x] #[]] 100 (0, 0)) ∧ Below w.heap.size w w' ∧ w'.heap.size = w.heap.size + 2 := by
 go_enter Tryz.func66, Tryz.ntmps66
 go_wp2
 go_ret
 refine ⟨by simp, ?_, ?_, by go_grown, by simp⟩
 ·exact (Below.heap_alloc _ _ _ (by simp)).trans (heap_alloc_new _ _)
 ·have h := heap_alloc_new (w.alloc (.cells #[.slice la n lc] 31)) (.cells #[.func (.func f) #[x] #[]] 100)
  rw [World.size_alloc] at h
  exact h
theorem stepC_stop {al : List An} {q : It} (h : stopB al q = true) : stepC al q = inm q := by
 unfold stopB at h
 obtain ⟨h1, h2⟩ := Bool.and_eq_true_iff.1 h
 exact if_pos ⟨of_decide_eq_true h1, by simpa using h2⟩
theorem stepC_go {al : List An} {q : It} (h : stopB al q = false) : stepC al q = ByteArray.empty := by
 refine if_neg (fun h2 => ?_)
 unfold stopB at h
 rw [decide_eq_true h2.1, h2.2] at h
 cases h
theorem item_names {q : It} (h : itemB q = true) : (ik q = 1 ∨ ik q = 5 ∨ ik q = 6 → nameB (inm q) = true) ∧ (ik q = 5 ∨ ik q = 6 → rightB (iex q) = true) := by
 obtain ⟨k, s, ty, lo, hi', t, ps, hd⟩ := q
 dsimp only [ik, inm, iex]
 constructor
 ·rintro (rfl | rfl | rfl)
  ·exact item_one h
  ·exact (item_five h).1
  ·exact (item_six h).1
 ·rintro (rfl | rfl)
  ·exact (item_five h).2
  ·exact (item_six h).2
def YldQ (wG : World) (O Bg Bk b0 F : Nat) (Dg : DataW Value) (la : Option Addr) (lc n Bl Bf : Nat) (al : List An) (RL : LoopState → Option Code → World → Prop) (q : It) (s : St) (W : World) (e : Ending) (W' : World) : Prop :=
 (stopB al q = false ∧ e = .returned (.bool true) ∧ W.heap.size ≤ W'.heap.size ∧ (∀ b cs fz, b0 ≤ b → W.heap[b]? = some (.cells cs 57 fz) → W'.heap[b]? = W.heap[b]?) ∧ Cm wG wG O Bg Bk b0 F Dg la lc n Bl Bf (RL .ready none) (stepS al q s) W') ∨
 (stopB al q = true ∧ e = .returned (.bool false) ∧ RL .done (some (.exit 0)) W' ∧ StW wG wG O Bg Bk b0 F Dg (inm q) (stepS al q s) W')
theorem come_rec {b0 F : Nat} (O Bg Bk Bl Bf l D : Nat) (wG : World) (la : Option Addr) (lc : Nat) (ls : List It) (al : List An) (Dg : DataW Value) (G : Rt) (W : World) {fn : FuncId} {tm : Array Value} {ca cb : Code}
  (hI : Its wG la ls) (hf : formB ls = true) (hal : rightA al = true) (hE : ItmI.EnvI wG) (hL : RecL fn tm #[24] ca cb l D .ready none W) (h0 : StW wG wG O Bg Bk b0 F Dg ByteArray.empty ([], [], []) W) (hbl : W.heap[Bl]? = some (.cells #[.slice la ls.length lc] 31 (0, 0))) (hbf : W.heap[Bf]? = some (.cells #[.func (.func 67) #[.pointer (some ⟨O, 0, none⟩)] #[]] 100 (0, 0)))
  (hG : routeL al ls.length ls ([], [], []) = G) (hfin : FinR G)
  (hY : ∀ (i : Nat) (s : St) (W1 : World) (ai : Option Addr) (ci : Nat), i < ls.length → InvW ls i s → Cm wG wG O Bg Bk b0 F Dg la lc ls.length Bl Bf (RecL fn tm #[24] ca cb l D .ready none) s W1 → Parts wG ai (iex (ls.getD i it0)) → (iex (ls.getD i it0)).length ≤ ci →
   YieldAt Fence.wide 0 Tryz.prog l #[.agg #[.int .i64 (ik (ls.getD i it0)), .string (inm (ls.getD i it0)), .int .i64 (ity (ls.getD i it0)), .int .i64 (ilo (ls.getD i it0)), .int .i64 (ihi (ls.getD i it0)), .string (itx (ls.getD i it0)), .slice ai (iex (ls.getD i it0)).length ci, .bool (ihd (ls.getD i it0))]] W1 (YldQ wG O Bg Bk b0 F Dg la lc ls.length Bl Bf al (fun st pe => RecL fn tm #[24] ca cb l D st pe) (ls.getD i it0) s W1)) :
  CallsIn Fence.wide 1 Tryz.prog 94 #[.func (.yield l) #[] #[], .pointer (some ⟨Bl, 0, none⟩), .pointer (some ⟨Bf, 0, none⟩)] W fun e W' => (∃ v, e = .returned v) ∧
   ((RecL fn tm #[24] ca cb l D .ready none W' ∧ StW wG wG O Bg Bk b0 F Dg G.2.1 G.1 W') ∨ (RecL fn tm #[24] ca cb l D .done (some (.exit 0)) W' ∧ StW wG wG O Bg Bk b0 F Dg G.2.1 G.1 W')) := by
 refine (impl_come (m := 0) O Bg Bk Bl Bf l wG wG la lc ls al Dg (RecL fn tm #[24] ca cb l D .ready none) (InvW ls) W G (fun g W' => RecL fn tm #[24] ca cb l D .done (some (.exit 0)) W' ∧ StW wG wG O Bg Bk b0 F Dg g.2.1 g.1 W')
   (fun W W' h hB => h.of_blocks (hB.block _ h.lt) (hB.block _ (Array.getElem?_eq_some_iff.1 h.2).1)) hI (form_at hf).1 hE hal (fun i hi hk => if_right hf hi hk) (fun i hi hk => else_same hf hi hk) (fun i j s hij h => InvW.mono hij h) (fun i s h => h.1) (fun i s hi h hs => InvW.step hf hal i s hi h hs) hY ⟨h0, hbl, hbf, hL⟩ (InvW.zero ls) hG).mono ?_
 rintro e W' ⟨hv, (⟨h1, hC⟩ | ⟨h1, h2, h3⟩)⟩
 ·have hcur : G.2.1 = ByteArray.empty := by
   have h2 := hfin.2.2.2
   rw [h1] at h2
   exact BytM.isEmpty_iff _ |>.1 h2.symm
  exact ⟨hv, .inl ⟨hC.2.2.2, by rw [hcur]; exact hC.1⟩⟩
 ·exact ⟨hv, .inr ⟨h2, h3⟩⟩
theorem rim_ret {R : Ending → World → Prop} {QM : Exit → Act → World → Prop} {tmps : Array Value} {W : World} {g : Nat} {vP vK vB : Value} {c : ByteArray} {d ok : Bool} (hQ : bodyPostM Fence.wide 2 Tryz.prog Tryz.f32 R = QM) (ht : tmps[4]?.getD undef = .pointer (some ⟨g, 0, none⟩)) (h5 : tmps[5]?.getD undef = .bool ok) (hB : RoB W g vP vK vB c d) (hq : R (.returned (.tuple #[.agg #[vP, vK, vB, .string c, .bool d], .bool ok])) W) :
  QM Exit.ret { tmps := tmps, defers := [] } W := by
 obtain ⟨⟨y0, y1, y2, y3, y4⟩, _⟩ := hB.cells
 rw [← hQ]
 exact ⟨.tuple #[.agg #[vP, vK, vB, .string c, .bool d], .bool ok], by simp [results, Tryz.results32, go_sem, ht, h5, y0, y1, y2, y3, y4], hq⟩
theorem rim_ret2 {R : Ending → World → Prop} {QM : Exit → Act → World → Prop} {tmps : Array Value} {W : World} {g D : Nat} {vP vK vB : Value} {c : ByteArray} {d ok : Bool} (hQ : bodyPostM Fence.wide 2 Tryz.prog Tryz.f32 R = QM) (ht : tmps[4]?.getD undef = .pointer (some ⟨g, 0, none⟩)) (h5 : tmps[5]?.getD undef = .bool ok) (hD : W.heap[D]? = some (.deferred (some []))) (hB : RoB W g vP vK vB c d) (hne : g ≠ D) (hq : R (.returned (.tuple #[.agg #[vP, vK, vB, .string c, .bool d], .bool ok])) (W.putObj D (.deferred none))) :
  QM Exit.ret { tmps := tmps, defers := [{ target := .collected D, args := #[] }] } W := by
 have hB2 : RoB (W.putObj D (.deferred none)) g vP vK vB c d := (World.putObj_heap_other hne).trans hB
 obtain ⟨⟨y0, y1, y2, y3, y4⟩, _⟩ := hB2.cells
 rw [← hQ]
 refine ⟨by simp, .inl ⟨_, _, rfl, run_takeDeferred hD, ?_⟩⟩
 exact ⟨.tuple #[.agg #[vP, vK, vB, .string c, .bool d], .bool ok], by simp [results, Tryz.results32, go_sem, ht, h5, y0, y1, y2, y3, y4], hq⟩
set_option maxRecDepth 10000 in
set_option maxHeartbeats 3200000 in
theorem impl_routeOf (la : Option Addr) (lc : Nat) (ls : List It) (aa : Option Addr) (ac : Nat) (al : List An) (w : World) (hc : Its w la ls) (hlc : ls.length ≤ lc) (hA : Ans w aa al) (hE : EnvF w) :
  Calls Tryz.prog 32 #[.slice la ls.length lc, .slice aa al.length ac] w fun e w' => (∃ v, e = .returned (.tuple #[v, .bool (formB ls && rightA al)]) ∧ RteP (routeF ls al) w v w') ∧ Below w.heap.size w w' := by
 have HC := RteS.hid hc
 have HA := RteS.hid hA
 have HE := RteS.hid hE
 clear hc hA hE
 obtain ⟨F, hF⟩ : ∃ F, Hid (routeF ls al = F) := ⟨_, rfl⟩
 rw [hF.out]
 have hb := (Below.refl w.heap.size w).alloc (Nat.le_refl _) (.cells #[.slice none 0 0, .slice none 0 0, .slice none 0 0, .string ⟨#[]⟩, .bool false] 29)
 have HR0 : Hid (RoB (w.alloc (.cells #[.slice none 0 0, .slice none 0 0, .slice none 0 0, .string ⟨#[]⟩, .bool false] 29)) w.heap.size (.slice none 0 0) (.slice none 0 0) (.slice none 0 0) ByteArray.empty false) := heap_alloc_new w _
 have HB0 := RteS.hid hb
 clear hb
 obtain ⟨ok, hok⟩ : ∃ ok, Hid ((formB ls && rightA al) = ok) := ⟨_, rfl⟩
 rw [hok.out]
 refine (callsIn_wide (n := 2)).1 (callsIn_of_wp_marks Tryz.func32 rfl trivial ?_)
 generalize hQM : bodyPostM Fence.wide 2 Tryz.prog Tryz.f32 _ = QM
 have HQM := RteS.hid hQM
 clear hQM
 simp only [Tryz.ntmps32, List.size_toArray, List.length_cons, List.length_nil, Nat.reduceAdd, Nat.reduceSub, Array.replicate_succ, Array.replicate_zero, List.push_toArray, List.append_toArray, List.nil_append, List.cons_append]
 refine wpIn_wide.2 ?_
 go_wp2_with fail
 refine (FrmI.impl_form la lc ls _ (HC.out.on HB0.out) hlc (HE.out.on HB0.out)).mono ?_
 rintro e w1 ⟨rfl, hB1⟩
 have HB1 : Hid (Below w.heap.size w w1) := HB0.out.trans (hB1.mono HB0.out.size)
 have HR1 := RteS.hid (HR0.out.on hB1)
 clear hB1 HR0 HB0
 cases hf : formB ls
 ·have hF0 : F = (([], [], []), ByteArray.empty, false) := hF.out.symm.trans (rt_no (fun h => by rw [hf] at h; exact absurd h.1 (by decide)))
  have hk0 : ok = false := by rw [← hok.out, hf]; rfl
  have HF0 := RteS.hid hF0
  have HK0 := RteS.hid hk0
  clear hF0 hk0 hf
  obtain ⟨⟨y0, y1, y2, y3, y4⟩, yf, yl⟩ := HR1.out.cells
  go_wp2_with fail
  refine rim_ret (g := w.heap.size) HQM.out rfl rfl (HR1.out.five _ _ _ _ _) ?_
  refine ⟨⟨_, by rw [HK0.out], by rw [HF0.out]; exact rtp_none w _⟩, ?bel0⟩
  case bel0 =>
   repeat (refine Below.setCell ?_ (by simp) _)
   exact HB1.out
 have HFr := RteS.hid hf
 clear hf
 go_wp2_with fail
 refine (AnsW.impl_answers aa ac al w1 (HA.out.on HB1.out)).mono ?_
 rintro e w2 ⟨rfl, hB2⟩
 have HB2 : Hid (Below w.heap.size w w2) := HB1.out.trans (hB2.mono HB1.out.size)
 have HR2 := RteS.hid (HR1.out.on hB2)
 clear hB2 HB1 HR1
 cases hra : rightA al
 ·have hF0 : F = (([], [], []), ByteArray.empty, false) := hF.out.symm.trans (rt_no (fun h => by rw [hra] at h; exact absurd h.2 (by decide)))
  have hk0 : ok = false := by rw [← hok.out, hra, Bool.and_false]
  have HF0 := RteS.hid hF0
  have HK0 := RteS.hid hk0
  clear hF0 hk0 hra
  obtain ⟨⟨y0, y1, y2, y3, y4⟩, yf, yl⟩ := HR2.out.cells
  go_wp2_with fail
  refine rim_ret (g := w.heap.size) HQM.out rfl rfl (HR2.out.five _ _ _ _ _) ?_
  refine ⟨⟨_, by rw [HK0.out], by rw [HF0.out]; exact rtp_none w _⟩, ?bel0⟩
  case bel0 =>
   repeat (refine Below.setCell ?_ (by simp) _)
   exact HB2.out
 have HRa := RteS.hid hra
 have hok1 : ok = true := by rw [← hok.out, HFr.out, hra]; rfl
 subst hok1
 clear hra hok
 have hwBg : w.heap.size ≤ w2.heap.size := HB2.out.size
 go_wp2_with fail
 refine (BookW.book_of aa ac al w2 (HA.out.on HB2.out) HRa.out).mono ?_
 rintro e w3 ⟨rfl, hBk, hB3⟩
 have HB3 : Hid (Below w.heap.size w w3) := HB2.out.trans (hB3.mono HB2.out.size)
 have HR3 := RteS.hid (HR2.out.on hB3)
 have HBg := RteS.hid hBk
 have hs23 : w2.heap.size ≤ w3.heap.size := hB3.size
 clear hBk hB3 HB2 HR2
 generalize w2.heap.size = Bg at *
 have hmm := fun w' => make_map0 w'
 go_upto_region 4 with fail
 obtain ⟨Dg, hMp, hHo, hAp⟩ := HBg.out
 have hBgl : Bg < w3.heap.size := hMp.lt
 have HG : Hid (GvB w3 (w3.heap.size + 1) Bg w3.heap.size (Bg + 1) al Dg) := RteS.hid ⟨⟨hMp, hHo, hAp, fun s v b h1 h2 e => by have := blk_from hHo h1 h2; omega⟩, fun s v b h1 h2 e => by have := blk_low hHo h1 h2; omega, fun s v b h1 h2 e => by have := blk_low hHo h1 h2; omega, by omega, by omega⟩
 have hB34 : Below w3.heap.size w3 ((w3.alloc (.map #[] 0)).alloc (.cells #[.map (some Bg), .map (some w3.heap.size), .slice none 0 0, .slice none 0 0, .slice none 0 0, .string ⟨#[]⟩, .bool false] 96)) := ((Below.refl _ w3).alloc (Nat.le_refl _) _).alloc (by simp) _
 have hO4 : WkB ((w3.alloc (.map #[] 0)).alloc (.cells #[.map (some Bg), .map (some w3.heap.size), .slice none 0 0, .slice none 0 0, .slice none 0 0, .string ⟨#[]⟩, .bool false] 96)) (w3.heap.size + 1) Bg w3.heap.size (.slice none 0 0) (.slice none 0 0) ByteArray.empty := by
  have h := heap_alloc_new (w3.alloc (.map #[] 0)) (.cells #[.map (some Bg), .map (some w3.heap.size), .slice none 0 0, .slice none 0 0, .slice none 0 0, .string ⟨#[]⟩, .bool false] 96)
  rw [World.size_alloc] at h
  exact h
 have hM4 : Mp ((w3.alloc (.map #[] 0)).alloc (.cells #[.map (some Bg), .map (some w3.heap.size), .slice none 0 0, .slice none 0 0, .slice none 0 0, .string ⟨#[]⟩, .bool false] 96)) w3.heap.size 0 (.map []) := Mp.on (World.ownsMap_made _ _ _ _) ((Below.refl _ _).alloc (Nat.le_refl _) _)
 have HS4 : Hid (((w3.alloc (.map #[] 0)).alloc (.cells #[.map (some Bg), .map (some w3.heap.size), .slice none 0 0, .slice none 0 0, .slice none 0 0, .string ⟨#[]⟩, .bool false] 96)).heap.size = w3.heap.size + 2) := RteS.hid (by simp)
 generalize (w3.alloc (.map #[] 0)).alloc (.cells #[.map (some Bg), .map (some w3.heap.size), .slice none 0 0, .slice none 0 0, .slice none 0 0, .string ⟨#[]⟩, .bool false] 96) = W4 at *
 have HB34 := RteS.hid hB34
 have HO4 := RteS.hid hO4
 have HM4 := RteS.hid hM4
 clear hMp hHo hAp HBg hB34 hO4 hM4 hmm
 have hs23 := hs23
 go_wp2_with fail
 refine (impl_comeTo la ls.length lc 67 (.pointer (some ⟨w3.heap.size + 1, 0, none⟩)) W4).mono ?_
 rintro e w5 ⟨rfl, hbl, hbf, hB5, hs5⟩
 rw [HS4.out] at hbl hbf hs5 ⊢
 have HBl := RteS.hid hbl
 have HBf := RteS.hid hbf
 have HS5 := RteS.hid hs5
 have HO5 := RteS.hid (HO4.out.on hB5)
 have HM5 := RteS.hid (Mp.on HM4.out hB5)
 have HB35 : Hid (Below w3.heap.size w3 w5) := HB34.out.trans (hB5.mono HB34.out.size)
 clear hbl hbf hs5 hB5 HO4 HM4 HB34 HS4
 go_wp2_with fail
 have hs35 := HS5.out
 obtain ⟨E, hE5⟩ : ∃ E, Hid (w5.heap.size = E) := ⟨_, rfl⟩
 have hEw : E = w3.heap.size + 4 := hE5.out.symm.trans HS5.out
 have HRt : Hid (routeL al ls.length ls ([], [], []) = F) := RteS.hid ((rt_yes HFr.out HRa.out).symm.trans hF.out)
 have h24 := (form_at HFr.out).1
 have HFin : Hid (FinR F) := RteS.hid (by
  have h := route_fin HFr.out HRa.out _ 0 ls.length ([], [], []) (Nat.le_refl _) (by omega) (by omega) (InvW.zero ls)
  rw [List.drop_zero, HRt.out] at h
  exact h)
 have HI3 := RteS.hid (HC.out.on HB3.out)
 have HE3 := RteS.hid ((HE.out.on HB3.out).1)
 clear hF HC HA HE HS5 hs35
 refine (wpIn_wide (n := 2)).1 ?_
 refine range_one 0 (n := 2) (gf := 94) (lb := #[.pointer (some ⟨w3.heap.size + 2, 0, none⟩), .pointer (some ⟨w3.heap.size + 2 + 1, 0, none⟩)]) rfl (by omega) rfl trivial (fun args w => rfl)
  (fun W => StW w3 w3 (w3.heap.size + 1) Bg w3.heap.size (E + 2) (Bg + 1) Dg F.2.1 F.1 W) ?hcall (fun _ _ h => h) ?hdone
 case hcall =>
  rw [hE5.out]
  intro fn W hfn hS hB hL
  have hBw : Below w3.heap.size w3 W := HB35.out.trans (hB.mono (by omega))
  have hB5 : Below w5.heap.size w5 W := by rw [hE5.out]; exact hB
  have hst0 : StW w3 w3 (w3.heap.size + 1) Bg w3.heap.size (E + 2) (Bg + 1) Dg ByteArray.empty ([], [], []) W :=
   ⟨hBw, ⟨hBw.size, fun b hb _ _ => hBw.block b hb⟩, by omega, .slice none 0 0, .slice none 0 0, .map [], HO5.out.on hB5, RtS.nil _ _, BookN.zero (Mp.on HM5.out hB5), SubD.zero _⟩
  have hbl := (hB5.block _ (ItmW.blk_lt HBl.out)).trans HBl.out
  have hbf := (hB5.block _ (ItmW.blk_lt HBf.out)).trans HBf.out
  refine come_rec (w3.heap.size + 1) Bg w3.heap.size (w3.heap.size + 2) (w3.heap.size + 2 + 1) (E + 1) E w3 la lc ls al Dg F W HI3.out HFr.out HRa.out HE3.out hL hst0 hbl hbf HRt.out HFin.out ?_
  clear hst0 hbl hbf hB5 hBw hL hB hS
  intro i s W1 ai ci hi hInv hC hP hci
  refine round_at3 (fun RL => YldQ w3 (w3.heap.size + 1) Bg w3.heap.size (E + 2) (Bg + 1) Dg la lc ls.length (w3.heap.size + 2) (w3.heap.size + 2 + 1) al RL (ls.getD i it0) s W1) hfn (by omega) hC.2.2.2 (fun _ _ h => h) ?_
  intro RL ob r0 rb rp
  simp only [List.setIfInBounds_toArray, List.set_cons_zero, List.set_cons_succ]
  have hit := (behind_at ((form_at HFr.out).2.1 i hi)).1
  have hno := fun hn => InvW.no HFr.out hi hInv hn
  have hfit := HI3.out.2.1 i hi
  have hInv1 := hInv.1
  have hl1 := hInv.2.1
  have hl2 := hInv.2.2.1
  have hl3 := hInv.2.2.2.1
  have HSt := RteS.hid hC.1
  have HBl1 := RteS.hid hC.2.1
  have HBf1 := RteS.hid hC.2.2.1
  have HR0 := RteS.hid r0
  have HRb := RteS.hid rb
  have HRp := RteS.hid rp
  have HP := RteS.hid hP
  have HNo := RteS.hid hno
  have HIt := RteS.hid hit
  have HFit := RteS.hid hfit
  have HEw := RteS.hid hEw
  clear hC r0 rb rp hP hno hit hfit hEw hInv
  obtain ⟨q, hq⟩ : ∃ q, Hid (ls.getD i it0 = q) := ⟨_, rfl⟩
  rw [hq.out] at HP HNo HIt HFit hci ⊢
  obtain ⟨k, sn, ty, lo, hi', t, ps, hd⟩ := q
  obtain ⟨P, K, B⟩ := s
  dsimp only [ik, inm, ity, ilo, ihi, itx, iex, ihd] at HP HNo hci hInv1 hl1 hl2 hl3 ⊢
  clear hq
  gi_wp2
  have hEw := HEw.out
  have hb0 : E + 2 ≤ W1.heap.size := HSt.out.2.2.1
  have hb12 := item_box W1 k sn ty lo hi' t ai ps.length ci hd
  have r1 := HRb.out _ _ W1 _ HR0.out (hb12.block (E + 1) (by omega)) (hb12.block E (by omega))
  refine ⟨r1, ?_⟩
  have HR2 := RteS.hid (HRp.out _ _ .busy none _ r1)
  have HS2 := RteS.hid ((HSt.out.on hb12).off HG.out (putObj_grown _ (E + 1) (ob .busy none)) (by omega) (by omega) (by omega) (by omega))
  have hW2 : ∀ b, b < W1.heap.size → b ≠ E + 1 → ((W1.alloc (.cells #[.int .i64 k, .string sn, .int .i64 ty, .int .i64 lo, .int .i64 hi', .string t, .slice ai ps.length ci, .bool hd] 57)).putObj (E + 1) (ob .busy none)).heap[b]? = W1.heap[b]? := fun b hb hn => (World.putObj_heap_other hn).trans (hb12.block b hb)
  have hX2 : ItB ((W1.alloc (.cells #[.int .i64 k, .string sn, .int .i64 ty, .int .i64 lo, .int .i64 hi', .string t, .slice ai ps.length ci, .bool hd] 57)).putObj (E + 1) (ob .busy none)) W1.heap.size k sn ty lo hi' t ai ps.length ci hd := (World.putObj_heap_other (show W1.heap.size ≠ E + 1 by omega)).trans (heap_alloc_new W1 _)
  have hs12 : W1.heap.size ≤ ((W1.alloc (.cells #[.int .i64 k, .string sn, .int .i64 ty, .int .i64 lo, .int .i64 hi', .string t, .slice ai ps.length ci, .bool hd] 57)).putObj (E + 1) (ob .busy none)).heap.size := by simp [World.putObj]
  have HBl2 := RteS.hid ((hW2 _ (ItmW.blk_lt HBl1.out) (by omega)).trans HBl1.out)
  have HBf2 := RteS.hid ((hW2 _ (ItmW.blk_lt HBf1.out) (by omega)).trans HBf1.out)
  have HW2 := RteS.hid hW2
  generalize (W1.alloc (.cells #[.int .i64 k, .string sn, .int .i64 ty, .int .i64 lo, .int .i64 hi', .string t, .slice ai ps.length ci, .bool hd] 57)).putObj (E + 1) (ob .busy none) = W2 at *
  obtain ⟨z0, z1, z2, z3, z4, z5, z6, z7⟩ := hX2.cells
  have hxl : W1.heap.size < W2.heap.size := ItmW.blk_lt hX2
  clear hW2 hX2 r1 hb12 hEw
  gi_wp2
  have hEw := HEw.out
  have hnm := item_names HIt.out
  refine ⟨trivial, rfl, (CallsIn.inRound _ (callsIn_wide.2 (impl_step (w3.heap.size + 1) Bg w3.heap.size al K Dg P B k sn ty lo hi' t ai ps ci hd W2 w3 w3 (Nat.le_refl _) (by omega) (by omega) (by omega) (by omega) (by omega) HS2.out hnm.1 hnm.2 (fun _ => HIt.out) (by have := HFit.out.2; unfold maxLen; dsimp only [itx] at this; omega) (by omega) (by omega) (by omega) hInv1 (fun hk => HNo.out (hnm.1 (.inl hk))) HP.out hci HE3.out HG.out HRa.out))).mono ?_⟩
  rintro e w6 ⟨rfl, hs6, hk6, hi6, hst6⟩
  have HR6 := RteS.hid (HRb.out _ _ W2 w6 HR2.out (hk6 (E + 1) (by omega) (by omega) (by omega)) (hk6 E (by omega) (by omega) (by omega)))
  have HBl6 := RteS.hid ((hk6 (w3.heap.size + 2) (by omega) (by omega) (by omega)).trans HBl2.out)
  have HBf6 := RteS.hid ((hk6 (w3.heap.size + 2 + 1) (by omega) (by omega) (by omega)).trans HBf2.out)
  have HI6 : Hid (∀ b cs fz, E + 2 ≤ b → W1.heap[b]? = some (.cells cs 57 fz) → w6.heap[b]? = W1.heap[b]?) := fun b cs fz hb hc => by
   have h1 := HW2.out b (ItmW.blk_lt hc) (by omega)
   exact (hi6 b cs fz (by omega) (by omega) (h1.trans hc)).trans h1
  have HS6 := RteS.hid hst6
  obtain ⟨-, -, -, vP6, vB6, D6, hWk6, -⟩ := hst6
  have HWk6 := RteS.hid hWk6
  clear hk6 hi6 hWk6 HR2 HS2 HW2 HBl2 HBf2 HR0 HSt HBl1 HBf1 hnm hEw z0 z1 z2 z3 z4 z5 z6 z7
  gi_wp2
  refine ⟨trivial, rfl, (CallsIn.inRound _ (callsIn_wide.2 (impl_ended (w3.heap.size + 1) Bg w3.heap.size vP6 vB6 _ w6 HWk6.out))).mono ?_⟩
  rintro e w7 ⟨rfl, rfl⟩
  have hnm2 : Hid (stopB al (k, sn, ty, lo, hi', t, ps, hd) = true → nameB sn = true) := fun h => (item_names HIt.out).1 (.inl (of_decide_eq_true (Bool.and_eq_true_iff.1 h).1))
  cases hstop : stopB al (k, sn, ty, lo, hi', t, ps, hd)
  ·rw [stepC_go hstop] at HS6 ⊢
   rw [show (!ByteArray.empty.toList.isEmpty) = false by rw [BytM.toList_eq]; rfl]
   have HStop := RteS.hid hstop
   clear hstop
   gi_wp2
   have hEw := HEw.out
   refine ⟨HR6.out, .inl ⟨HStop.out, rfl, by show _ ≤ _; simp [World.putObj]; omega, fun b cs fz hb hc => (World.putObj_heap_other (by omega)).trans (HI6.out b cs fz hb hc), HS6.out.off HG.out (putObj_grown _ _ _) (by omega) (by omega) (by omega) (by omega), (World.putObj_heap_other (by omega)).trans HBl6.out, (World.putObj_heap_other (by omega)).trans HBf6.out, HRp.out _ _ _ _ _ HR6.out⟩⟩
  ·rw [stepC_stop hstop] at HS6 ⊢
   have hnf := name_full (hnm2.out hstop)
   dsimp only [inm]
   rw [show (!sn.toList.isEmpty) = true by rw [hnf]; rfl]
   have HStop := RteS.hid hstop
   clear hstop
   gi_wp2
   have hEw := HEw.out
   refine ⟨HR6.out, .inr ⟨HStop.out, rfl, HRp.out _ _ _ _ _ HR6.out, HS6.out.off HG.out (putObj_grown _ _ _) (by omega) (by omega) (by omega) (by omega)⟩⟩
 case hdone =>
  rw [hE5.out]
  intro W o h1 hD
  have hSt : StW w3 w3 (w3.heap.size + 1) Bg w3.heap.size (E + 2) (Bg + 1) Dg F.2.1 F.1 W := h1
  have HSt := RteS.hid (hSt.off HG.out (putObj_grown W (E + 1) o) (by omega) (by omega) (by omega) (by omega))
  have HD := RteS.hid hD
  have HRo := RteS.hid (HR3.out.on HSt.out.1)
  clear hSt h1 hD
  generalize W.putObj (E + 1) o = W8 at *
  obtain ⟨hB8, hK8, hb8, vP, vB, D8, hWk8, hRt8, hBn8, hSub8⟩ := HSt.out
  have HB8 := RteS.hid hB8
  have HK8 := RteS.hid hK8
  have HRt8 := RteS.hid hRt8
  have HBn8 := RteS.hid hBn8
  have HSub8 := RteS.hid hSub8
  have HWk8 := RteS.hid hWk8
  have HEw := RteS.hid hEw
  clear hB8 hK8 hRt8 hBn8 hSub8 hWk8 HSt hEw
  go_wp2_with fail
  refine (impl_ended (w3.heap.size + 1) Bg w3.heap.size vP vB F.2.1 W8 HWk8.out).mono ?_
  rintro e w9 ⟨rfl, rfl⟩
  rw [← HFin.out.2.2.2]
  obtain ⟨⟨y0, y1, y2, y3, y4, y5, y6⟩, yf, yl⟩ := HWk8.out.cells
  go_upto_region 9 with fail
  have hEw := HEw.out
  have hg9 := AnsO.grown_set w9 (w3.heap.size + 1) 6 (.bool F.2.2)
  have HWk9 := RteS.hid (HWk8.out.done F.2.2)
  have HB9 : Hid (Below w3.heap.size w3 (w9.setCell ⟨w3.heap.size + 1, 6, none⟩ (.bool F.2.2))) := HB8.out.trans ⟨hg9.os, hg9.tape, hg9.output, hg9.size, fun b hb => hg9.block b (by omega) (fun e => by have := Option.some.inj e; omega)⟩
  have HBn9 := RteS.hid (BookN.far HBn8.out HSub8.out HG.out HK8.out ⟨HB9.out.size, fun b hb _ _ => HB9.out.block b hb⟩ hg9.size (hg9.block w3.heap.size HBn8.out.1.lt (fun e => by have := Option.some.inj e; omega)))
  have HRt9 := RteS.hid (RtS.off HRt8.out hg9 (by omega))
  have HD9 : Hid ((w9.setCell ⟨w3.heap.size + 1, 6, none⟩ (.bool F.2.2)).heap[E]? = some (.deferred (some []))) := (hg9.block E (ItmW.blk_lt HD.out) (fun e => by have := Option.some.inj e; omega)).trans HD.out
  have HRo9 : Hid (RoB (w9.setCell ⟨w3.heap.size + 1, 6, none⟩ (.bool F.2.2)) w.heap.size (.slice none 0 0) (.slice none 0 0) (.slice none 0 0) ByteArray.empty false) := (hg9.block w.heap.size (ItmW.blk_lt HRo.out) (fun e => by have := Option.some.inj e; omega)).trans HRo.out
  have hb9 : E + 2 ≤ (w9.setCell ⟨w3.heap.size + 1, 6, none⟩ (.bool F.2.2)).heap.size := by simp; omega
  generalize w9.setCell ⟨w3.heap.size + 1, 6, none⟩ (.bool F.2.2) = W9 at *
  clear y0 y1 y2 y3 y4 y5 y6 yf yl hg9 HWk8 HB8 HK8 HBn8 HRt8 HD HRo hEw
  obtain ⟨ads, hK9⟩ := book_kept HBn9.out.2.1
  have HKp := RteS.hid hK9
  obtain ⟨⟨y0, y1, y2, y3, y4, y5, y6⟩, yf, yl⟩ := HWk9.out.cells
  clear hK9
  go_wp2_with fail
  refine (BookW.answers_in2 w3.heap.size F.1.2.1 W9 HBn9.out.1 HBn9.out.2.1 HBn9.out.2.2.1 HFin.out.1 ads HKp.out).mono ?_
  rintro e w10 ⟨⟨g, rfl, hg, hO⟩, hB10⟩
  have HO := RteS.hid hO
  have HWk10 := RteS.hid (HWk9.out.on hB10)
  have HB10 : Hid (Below w3.heap.size w3 w10) := HB9.out.trans (hB10.mono HB9.out.size)
  have HRt10 := RteS.hid (HRt9.out.on hB10)
  have HD10 : Hid (w10.heap[E]? = some (.deferred (some []))) := (hB10.block E (ItmW.blk_lt HD9.out)).trans HD9.out
  have HRo10 := RteS.hid (HRo9.out.on hB10)
  have hb10 : E + 2 ≤ w10.heap.size := Nat.le_trans hb9 hB10.size
  have HPl : Hid (∀ j, vP.ownBlock = some j → E + 2 ≤ j ∧ j < W9.heap.size) := fun j hj => HRt9.out.1.lt j hj
  have HBl : Hid (∀ j, vB.ownBlock = some j → E + 2 ≤ j ∧ j < W9.heap.size) := fun j hj => HRt9.out.2.1.lt j hj
  clear y0 y1 y2 y3 y4 y5 y6 yf yl hO hB10 HWk9 HB9 HRt9 HD9 HRo9
  obtain ⟨⟨y0, y1, y2, y3, y4, y5, y6⟩, yf, yl⟩ := HWk10.out.cells
  go_upto_region 10 with fail
  have hEw := HEw.out
  have hg11 := AnsO.grown_set w10 (w3.heap.size + 1) 3 (.slice (some ⟨g, 0, none⟩) F.1.2.1.length F.1.2.1.length)
  have hcb : ∀ i, i < F.1.2.1.length → ∀ b o, (ads i).1 = some ⟨b, o, none⟩ → 0 < (cd (F.1.2.1.getD i an0)).length → Bg + 1 ≤ b ∧ b < w3.heap.size := fun i hi b o ha hl => by
   have hbk : BookW.Blk (av (kd (F.1.2.1.getD i an0)) (nu (F.1.2.1.getD i an0)) (ads i).1 (cd (F.1.2.1.getD i an0)).length (ads i).2 (tx (F.1.2.1.getD i an0))) b := ⟨_, _, o, _, _, _, by rw [ha], hl⟩
   have h9 := HSub8.out _ _ b (HKp.out i hi).1 hbk
   exact ⟨blk_from HG.out.book.2.1 h9 hbk, blk_low HG.out.book.2.1 h9 hbk⟩
  have hO11 : OwnA (w10.setCell ⟨w3.heap.size + 1, 3, none⟩ (.slice (some ⟨g, 0, none⟩) F.1.2.1.length F.1.2.1.length)) (Bg + 1) g F.1.2.1 ads := own_move HO.out hg11.size (hg11.block g HO.out.1.lt (fun e => by have := Option.some.inj e; omega)) (fun i hi b o ha hl => hg11.block b (by have := (hcb i hi b o ha hl).2; have := HB10.out.size; omega) (fun e => by have := Option.some.inj e; have := (hcb i hi b o ha hl).2; omega))
  have HO11 := RteS.hid hO11
  have HCb := RteS.hid hcb
  have HWk11 := RteS.hid (HWk10.out.setK (.slice (some ⟨g, 0, none⟩) F.1.2.1.length F.1.2.1.length))
  have HB11 : Hid (Below w3.heap.size w3 (w10.setCell ⟨w3.heap.size + 1, 3, none⟩ (.slice (some ⟨g, 0, none⟩) F.1.2.1.length F.1.2.1.length))) := HB10.out.trans ⟨hg11.os, hg11.tape, hg11.output, hg11.size, fun b hb => hg11.block b (by omega) (fun e => by have := Option.some.inj e; omega)⟩
  have HRt11 := RteS.hid (RtS.off HRt10.out hg11 (by omega))
  have HD11 : Hid ((w10.setCell ⟨w3.heap.size + 1, 3, none⟩ (.slice (some ⟨g, 0, none⟩) F.1.2.1.length F.1.2.1.length)).heap[E]? = some (.deferred (some []))) := (hg11.block E (by omega) (fun e => by have := Option.some.inj e; omega)).trans HD10.out
  have HRo11 : Hid (RoB (w10.setCell ⟨w3.heap.size + 1, 3, none⟩ (.slice (some ⟨g, 0, none⟩) F.1.2.1.length F.1.2.1.length)) w.heap.size (.slice none 0 0) (.slice none 0 0) (.slice none 0 0) ByteArray.empty false) := (hg11.block w.heap.size (ItmW.blk_lt HRo10.out) (fun e => by have := Option.some.inj e; omega)).trans HRo10.out
  generalize w10.setCell ⟨w3.heap.size + 1, 3, none⟩ (.slice (some ⟨g, 0, none⟩) F.1.2.1.length F.1.2.1.length) = W11 at *
  clear y0 y1 y2 y3 y4 y5 y6 yf yl hg11 HWk10 HRt10 HD10 HRo10 HO hcb hO11 hEw HB10
  obtain ⟨⟨y0, y1, y2, y3, y4, y5, y6⟩, yf, yl⟩ := HWk11.out.cells
  obtain ⟨⟨x0, x1, x2, x3, x4⟩, xf, xl⟩ := HRo11.out.cells
  obtain ⟨aP, cP, hvP, -⟩ := own_shape HRt11.out.1
  obtain ⟨aB, cB, hvB, -⟩ := own_shape HRt11.out.2.1
  subst hvP hvB
  go_wp2_with fail
  have hEw := HEw.out
  have hg12 := five_grown W11 w.heap.size (.slice aP (F.1.1).length cP) (.slice (some ⟨g, 0, none⟩) F.1.2.1.length F.1.2.1.length) (.slice aB (F.1.2.2).length cB) (.string F.2.1) (.bool F.2.2)
  have hEl := ItmW.blk_lt HD11.out
  have hw3 := HB3.out.size
  refine rim_ret2 (g := w.heap.size) (D := E) HQM.out rfl rfl ((hg12.block E hEl (fun e => by have := Option.some.inj e; omega)).trans HD11.out) (HRo11.out.five _ _ _ _ _) (by omega) ?_
  have hg13 := putObj_grown (((((W11.setCell ⟨w.heap.size, 0, none⟩ (.slice aP (F.1.1).length cP)).setCell ⟨w.heap.size, 1, none⟩ (.slice (some ⟨g, 0, none⟩) F.1.2.1.length F.1.2.1.length)).setCell ⟨w.heap.size, 2, none⟩ (.slice aB (F.1.2.2).length cB)).setCell ⟨w.heap.size, 3, none⟩ (.string F.2.1)).setCell ⟨w.heap.size, 4, none⟩ (.bool F.2.2)) E (.deferred none)
  refine ⟨⟨_, rfl, rtp_of HFin.out HRt11.out HO11.out HCb.out hwBg hwBg (by omega) (by omega) (by omega) (fun j hj => ⟨(HPl.out j hj).1, by have := (HPl.out j hj).2; omega⟩) (fun j hj => ⟨(HBl.out j hj).1, by have := (HBl.out j hj).2; omega⟩) (Nat.le_trans hg12.size hg13.size) (fun b h1 h2 => ?keep)⟩, ?bel⟩
  case keep =>
   refine (World.putObj_heap_other h2).trans ?_
   rw [Below.heap_setCell _ _ _ _ h1, Below.heap_setCell _ _ _ _ h1, Below.heap_setCell _ _ _ _ h1, Below.heap_setCell _ _ _ _ h1, Below.heap_setCell _ _ _ _ h1]
  case bel =>
   have h11 : Below w.heap.size w W11 := HB3.out.trans (HB11.out.mono hw3)
   have h12 := h11.trans ⟨hg12.os, hg12.tape, hg12.output, hg12.size, fun b hb => hg12.block b (by have := h11.size; omega) (fun e => by have := Option.some.inj e; omega)⟩
   exact h12.trans ⟨hg13.os, hg13.tape, hg13.output, hg13.size, fun b hb => hg13.block b (by have := h12.size; omega) (fun e => by have := Option.some.inj e; omega)⟩
theorem ro_ret {Q : Ending → World → Prop} {tmps : Array Value} {W : World} {g : Nat} {vP vK vB : Value} {c : ByteArray} {d : Bool} (ht : tmps[4]?.getD undef = .pointer (some ⟨g, 0, none⟩)) (hB : RoB W g vP vK vB c d) (hq : Q (.returned (.agg #[vP, vK, vB, .string c, .bool d])) W) :
  bodyPost Tryz.prog Tryz.f12 Q Exit.ret { tmps := tmps, defers := [] } W := by
 obtain ⟨⟨y0, y1, y2, y3, y4⟩, _⟩ := hB.cells
 exact bodyPost_ret (v := .agg #[vP, vK, vB, .string c, .bool d]) (by simp [results, Tryz.results12, go_sem, ht, y0, y1, y2, y3, y4]) rfl hq
set_option maxRecDepth 10000 in
set_option maxHeartbeats 3200000 in
theorem impl_route (la : Option Addr) (lc : Nat) (ls : List It) (aa : Option Addr) (ac : Nat) (al : List An) (w : World) (hc : Its w la ls) (hlc : ls.length ≤ lc) (hA : Ans w aa al) (hE : EnvF w) :
  Calls Tryz.prog 12 #[.slice la ls.length lc, .slice aa al.length ac] w fun e w' => (∃ v, e = .returned v ∧ RteP (routeF ls al) w v w') ∧ Below w.heap.size w w' := by
 obtain ⟨F, hF⟩ : ∃ F, Hid (routeF ls al = F) := ⟨_, rfl⟩
 rw [hF.out]
 have hb := (Below.refl w.heap.size w).alloc (Nat.le_refl _) (.cells #[.slice none 0 0, .slice none 0 0, .slice none 0 0, .string ⟨#[]⟩, .bool false] 29)
 have HR0 : Hid (RoB (w.alloc (.cells #[.slice none 0 0, .slice none 0 0, .slice none 0 0, .string ⟨#[]⟩, .bool false] 29)) w.heap.size (.slice none 0 0) (.slice none 0 0) (.slice none 0 0) ByteArray.empty false) := heap_alloc_new w _
 have HC := RteS.hid (hc.on hb)
 have HA := RteS.hid (hA.on hb)
 have HE := RteS.hid (hE.on hb)
 have HB0 := RteS.hid hb
 have HS0 : Hid ((w.alloc (.cells #[.slice none 0 0, .slice none 0 0, .slice none 0 0, .string ⟨#[]⟩, .bool false] 29)).heap.size = w.heap.size + 1) := RteS.hid (by simp)
 clear hc hA hE hb
 go_enter Tryz.func12, Tryz.ntmps12
 go_upto_region 1 with fail
 generalize w.alloc (.cells #[.slice none 0 0, .slice none 0 0, .slice none 0 0, .string ⟨#[]⟩, .bool false] 29) = W0 at *
 go_wp2_with fail
 refine (impl_routeOf la lc ls aa ac al W0 HC.out hlc HA.out HE.out).mono ?_
 rw [hF.out]
 rintro e w1 ⟨⟨v, rfl, b0, vP, vB, aK, cK, S, rfl, hO⟩, hB1⟩
 have HO := RteS.hid hO
 have HB1 : Hid (Below w.heap.size w w1) := HB0.out.trans (hB1.mono HB0.out.size)
 have HR1 := RteS.hid (HR0.out.on hB1)
 have hs01 := hB1.size
 have hs0 := HS0.out
 obtain ⟨aP, cP, hvP, -⟩ := own_shape hO.p
 obtain ⟨aB, cB, hvB, -⟩ := own_shape hO.b
 subst hvP hvB
 have hb1 := RteO.ro_box w1 (.slice aP (RteO.txtL F.1.1).length cP) (.slice aK F.1.2.1.length cK) (.slice aB (RteO.txtL F.1.2.2).length cB) F.2.1 F.2.2
 have HX := RteS.hid (RteO.ro_laid w1 (.slice aP (RteO.txtL F.1.1).length cP) (.slice aK F.1.2.1.length cK) (.slice aB (RteO.txtL F.1.2.2).length cB) F.2.1 F.2.2)
 have HR2 := RteS.hid (HR1.out.on hb1)
 have HBx := RteS.hid hb1
 obtain ⟨⟨x0, x1, x2, x3, x4⟩, xf, xl⟩ := HR2.out.cells
 obtain ⟨⟨y0, y1, y2, y3, y4⟩, yf, yl⟩ := HX.out.cells
 clear hO hB1 HR0 HC HA HE hb1 HR1
 go_upto_region 2 with fail
 generalize w1.alloc (.cells #[.slice aP (RteO.txtL F.1.1).length cP, .slice aK F.1.2.1.length cK, .slice aB (RteO.txtL F.1.2.2).length cB, .string F.2.1, .bool F.2.2] 29) = W2 at *
 go_wp2_with fail
 have hg := five_grown W2 w.heap.size (.slice aP (RteO.txtL F.1.1).length cP) (.slice aK F.1.2.1.length cK) (.slice aB (RteO.txtL F.1.2.2).length cB) (.string F.2.1) (.bool F.2.2)
 refine ro_ret (g := w.heap.size) rfl (HR2.out.five _ _ _ _ _) ?_
 have hB2 := HB1.out.trans (HBx.out.mono HB1.out.size)
 refine ⟨⟨_, rfl, b0, _, _, aK, cK, S, rfl, HO.out.keep (by omega) (Nat.le_trans HBx.out.size hg.size) (fun b h1 h2 => (hg.block b (Nat.lt_of_lt_of_le h2 HBx.out.size) (fun e => by have := Option.some.inj e; omega)).trans (HBx.out.block b h2))⟩, hB2.trans ⟨hg.os, hg.tape, hg.output, hg.size, fun b hb => hg.block b (Nat.lt_of_lt_of_le hb hB2.size) (fun e => by have := Option.some.inj e; omega)⟩⟩
end Go.Proofs.YtmbhmknfipdadaaGreatDoor.RteI
namespace Go.Proofs.YtmbhmknfipdadaaGreatDoor.RteX
open Go.RowKit
open PrtW ItmW ItmM FrmM RteM RteS RteO
open AnsW (An an0 nm cd Ans tot bulk eqAnsL szAnsL toAnsL toAnsR Raw MkA mark_answersX Within tot_bulk)
open FldK (MkI WithinI mark_items mkI_of eqStrs marks marks_len)
open FrmI (EnvF)
open RteI (RteP RtO impl_route)
open StrW (Strs strs_own)
structure MoW (F : Rt) (W : World) (g : Nat) (aP : Option Addr) (cP : Nat) (aK : Option Addr) (cK : Nat) (aB : Option Addr) (cB : Nat) : Prop where
 o : RoB W g (.slice aP (txtL F.1.1).length cP) (.slice aK F.1.2.1.length cK) (.slice aB (txtL F.1.2.2).length cB) F.2.1 F.2.2
 p : Strs W aP (txtL F.1.1)
 k : Ans W aK F.1.2.1
 b : Strs W aB (txtL F.1.2.2)
theorem MoW.on {F : Rt} {W W' : World} {g : Nat} {aP : Option Addr} {cP : Nat} {aK : Option Addr} {cK : Nat} {aB : Option Addr} {cB : Nat} (h : MoW F W g aP cP aK cK aB cB) (hB : Below W.heap.size W W') : MoW F W' g aP cP aK cK aB cB := ⟨h.o.on hB, h.p.on hB, h.k.on hB, h.b.on hB⟩
theorem mod_of {F : Rt} {w w' : World} {e : Ending} (h : RteF F w e w') : ∃ aP cP aK cK aB cB, e = .returned (.agg #[.slice aP (txtL F.1.1).length cP, .slice aK F.1.2.1.length cK, .slice aB (txtL F.1.2.2).length cB, .string F.2.1, .bool F.2.2]) ∧ Strs w' aP (txtL F.1.1) ∧ Ans w' aK F.1.2.1 ∧ Strs w' aB (txtL F.1.2.2) := by
 obtain ⟨b0, _, vP, vK, vB, rfl, hS, hr, h1, h2⟩ := h
 obtain ⟨aP, cP, rfl, hP, -, -⟩ := strs_own (own_txt hS.1) (by rw [txt_len]; omega)
 obtain ⟨aB, cB, rfl, hB, -, -⟩ := strs_own (own_txt hS.2.1) (by rw [txt_len]; omega)
 obtain ⟨aK, cK, rfl, hK⟩ := hS.ans hr
 exact ⟨aP, cP, aK, cK, aB, cB, rfl, hP, hK, hB⟩
theorem imp_of {F : Rt} {w w' : World} {v : Value} (h : RteP F w v w') : ∃ b0 aP cP aK cK aB cB S, v = .agg #[.slice aP (txtL F.1.1).length cP, .slice aK F.1.2.1.length cK, .slice aB (txtL F.1.2.2).length cB, .string F.2.1, .bool F.2.2] ∧ RtO F w w' b0 (.slice aP (txtL F.1.1).length cP) (.slice aB (txtL F.1.2.2).length cB) aK S := by
 obtain ⟨b0, vP, vB, aK, cK, S, rfl, hO⟩ := h
 obtain ⟨aP, cP, hvP, -⟩ := own_shape hO.p
 obtain ⟨aB, cB, hvB, -⟩ := own_shape hO.b
 subst hvP hvB
 exact ⟨b0, aP, cP, aK, cK, aB, cB, S, rfl, hO⟩
theorem rto_strs {F : Rt} {w w' : World} {b0 : Nat} {aP aB aK : Option Addr} {cP cB : Nat} {S : Nat → Prop} (h : RtO F w w' b0 (.slice aP (txtL F.1.1).length cP) (.slice aB (txtL F.1.2.2).length cB) aK S) : Strs w' aP (txtL F.1.1) ∧ Strs w' aB (txtL F.1.2.2) := by
 obtain ⟨a1, c1, h1, hP, -, -⟩ := strs_own h.p (by have := h.l1; rw [txt_len]; omega)
 obtain ⟨a2, c2, h2, hB, -, -⟩ := strs_own h.b (by have := h.l2; rw [txt_len]; omega)
 cases h1; cases h2
 exact ⟨hP, hB⟩
theorem rto_below {F : Rt} {w w' w'' : World} {b0 : Nat} {vP vB : Value} {aK : Option Addr} {S : Nat → Prop} (h : RtO F w w' b0 vP vB aK S) (hB : Below w'.heap.size w' w'') : RtO F w w'' b0 vP vB aK S := h.keep (Nat.le_refl _) hB.size (fun b _ hb => hB.block b hb)
theorem known_cd {K : List An} (h : AnsW.rightA K = true) {k : Nat} (hk : k < K.length) : (cd (K.getD k an0)).length ≤ 30 := by
 have h3 := (AnsW.okA_parts ((AnsW.rightA_at h).2 k hk)).2.2
 generalize K.getD k an0 = q at h3 ⊢
 unfold ValK.answeredB at h3
 simp at h3
 rcases ValM.kinds h3.1 with ⟨_, _, h, _⟩ | ⟨_, _, _, h, _⟩ | ⟨_, _, _, h, _⟩ | ⟨_, _, h, _⟩ | ⟨_, _, h, _⟩
 ·omega
 ·omega
 ·omega
 ·have := ValM.rises_len h; omega
 ·omega
theorem known_tot {K : List An} (h : AnsW.rightA K = true) : tot (fun i => (cd (K.getD i an0)).length) K.length ≤ 1048576 := by
 have hl := (AnsW.rightA_at h).1
 have h2 : ∀ k, k ≤ K.length → tot (fun i => (cd (K.getD i an0)).length) k ≤ 30 * k := by
  intro k
  induction k with
  | zero => intro _; exact Nat.le_refl _
  | succ k ih =>
   intro hk
   have h3 := ih (by omega)
   have h4 : (cd (K.getD k an0)).length ≤ 30 := known_cd h (by omega)
   show tot (fun i => (cd (K.getD i an0)).length) k + (cd (K.getD k an0)).length ≤ _
   omega
 have := h2 K.length (Nat.le_refl _)
 omega
theorem within_low {w w' : World} {g e lo : Nat} (h : WithinI w w' g e) (he : e ≤ lo) : w.heap.size ≤ w'.heap.size ∧ ∀ b, lo ≤ b → b < w.heap.size → w'.heap[b]? = w.heap[b]? := ⟨h.2.2.2.1, fun b h1 h2 => h.2.2.2.2 b h2 (.inr (by omega))⟩
theorem within_lowA {w w' : World} {g e lo : Nat} (h : Within w w' g e) (he : e ≤ lo) : w.heap.size ≤ w'.heap.size ∧ ∀ b, lo ≤ b → b < w.heap.size → w'.heap[b]? = w.heap[b]? := ⟨h.2.2.2.1, fun b h1 h2 => h.2.2.2.2 b h2 (.inr (by omega))⟩
theorem mkA_within {w w' : World} {g e n : Nat} {len : Nat → Nat} {g1 e1 : Nat} (h : MkA w g e n len) (hW : WithinI w w' g1 e1) (hd : e1 ≤ g) : MkA w' g e n len := by
 obtain ⟨hge, cs, h1, h2, h3⟩ := h
 refine ⟨hge, cs, by rw [hW.2.2.2.2 g (AnsW.blk_lt h1) (.inr (by omega))]; exact h1, h2, fun i hi => ?_⟩
 obtain ⟨g', a, b, c, zs, d, f⟩ := h3 i hi
 exact ⟨g', a, b, c, zs, d, by rw [hW.2.2.2.2 g' (AnsW.blk_lt f) (.inr (by omega))]; exact f⟩
set_option maxRecDepth 10000 in
set_option maxHeartbeats 3200000 in
theorem law_route (a : Option Addr) (cap : Nat) (ls : List It) (aA : Option Addr) (cA : Nat) (al : List An) (w : World) (hR : RawI w a ls) (hA : Raw w aA al) (hE : EnvF w) :
  Calls Tryz.prog 3 #[.slice a ls.length cap, .slice aA al.length cA] w fun e w' => e = .returned (.bool true) ∧ Below w.heap.size w w' := by
 have HR := hid hR
 have HA := hid hA
 have HE := hid hE
 clear hR hA hE
 go_enter Tryz.func3, Tryz.ntmps3
 go_wp2_with fail
 refine (szItsL a cap ls 1048576 (Nat.le_refl _) w HR.out).mono ?_
 rintro e w1 ⟨⟨z, rfl, hz, hzv⟩, hB1⟩
 have HB1 := hid hB1
 by_cases hbig : 1048576 < ls.length + bulkI ls
 ·have hz0 : z < 0 := hz.2 hbig
  clear hz hB1 hzv
  go_wp2_with fail
  go_ret
  exact ⟨rfl, HB1.out⟩
 obtain ⟨l0, hl0, hl1⟩ : ∃ l0 : Nat, z = (l0 : Int) ∧ l0 ≤ 1048576 := ⟨1048576 - (ls.length + bulkI ls), by have := hzv (by omega); omega, by omega⟩
 subst hl0
 have hz0 : ¬ ((l0 : Nat) : Int) < 0 := by omega
 clear hz hzv hB1
 go_wp2_with fail
 refine (szAnsL aA cA al l0 hl1 w1 (raw_on HA.out HB1.out)).mono ?_
 rintro e w2 ⟨⟨r, rfl, hr, _⟩, hB2⟩
 have HB2 : Hid (Below w.heap.size w w2) := HB1.out.trans (hB2.mono HB1.out.size)
 clear hB2 HB1 hz0
 by_cases hbig2 : l0 < al.length + bulk al
 ·have hr0 : r < 0 := hr.2 hbig2
  clear hr
  go_wp2_with fail
  go_ret
  exact ⟨rfl, HB2.out⟩
 have hr0 : ¬ r < 0 := fun h => hbig2 (hr.1 h)
 have hl : ls.length ≤ 1048576 := by omega
 have hla : al.length ≤ 1048576 := by omega
 have HI := hid (HR.out.its (by omega))
 have HAn := hid (HA.out.ans (by omega))
 have htot : FldK.totI (fun i => (iex (ls.getD i it0)).length) ls.length ≤ 1048576 := by
  have h1 := FldK.tot_bulkI ls ls.length (Nat.le_refl _)
  rw [List.take_length] at h1
  omega
 have htotA : tot (fun i => (cd (al.getD i an0)).length) al.length ≤ 1048576 := by
  have h1 := tot_bulk al al.length (Nat.le_refl _)
  rw [List.take_length] at h1
  omega
 obtain ⟨F, hF⟩ : ∃ F, Hid (routeF ls al = F) := ⟨_, rfl⟩
 clear hr HR HA hbig hbig2 hl1
 go_wp2_with fail
 refine (toItsL a cap ls w2 (HI.out.on HB2.out)).mono ?_
 rintro e w3 ⟨rfl, hP3, hB3⟩
 have HB3 : Hid (Below w.heap.size w w3) := HB2.out.trans (hB3.mono HB2.out.size)
 have HP3 := hid hP3
 generalize w2.heap.size = g2 at *
 clear hP3 hB3 HB2 hr0
 go_wp2_with fail
 refine (toAnsL aA cA al w3 (HAn.out.on HB3.out)).mono ?_
 rintro e w4 ⟨rfl, hQ4, hB4⟩
 have HB4 : Hid (Below w.heap.size w w4) := HB3.out.trans (hB4.mono HB3.out.size)
 have HP4 := hid (HP3.out.on hB4)
 have HQ4 := hid hQ4
 generalize w3.heap.size = g3 at *
 clear hQ4 hB4 HB3 HP3
 go_wp2_with fail
 refine (spec_route (some ⟨g2, 0, none⟩) ls.length ls (some ⟨g3, 0, none⟩) al.length al w4 HP4.out HQ4.out).mono ?_
 rw [hF.out]
 rintro e w5 ⟨hE5, hB5⟩
 obtain ⟨aP, cP, aK, cK, aB, cB, rfl, hmP, hmK, hmB⟩ := mod_of hE5
 have HB5 : Hid (Below w.heap.size w w5) := HB4.out.trans (hB5.mono HB4.out.size)
 have hbx := ro_box w5 (.slice aP (txtL F.1.1).length cP) (.slice aK F.1.2.1.length cK) (.slice aB (txtL F.1.2.2).length cB) F.2.1 F.2.2
 have HM6 : Hid (MoW F (w5.alloc (.cells #[.slice aP (txtL F.1.1).length cP, .slice aK F.1.2.1.length cK, .slice aB (txtL F.1.2.2).length cB, .string F.2.1, .bool F.2.2] 29)) w5.heap.size aP cP aK cK aB cB) := ⟨ro_laid w5 _ _ _ _ _, hmP.on hbx, hmK.on hbx, hmB.on hbx⟩
 have HB6 : Hid (Below w.heap.size w (w5.alloc (.cells #[.slice aP (txtL F.1.1).length cP, .slice aK F.1.2.1.length cK, .slice aB (txtL F.1.2.2).length cB, .string F.2.1, .bool F.2.2] 29))) := HB5.out.trans (hbx.mono HB5.out.size)
 clear hE5 hB5 hmP hmK hmB hbx HB5 HB4 HP4 HQ4
 go_upto_region 9 with fail
 generalize w5.alloc (.cells #[.slice aP (txtL F.1.1).length cP, .slice aK F.1.2.1.length cK, .slice aB (txtL F.1.2.2).length cB, .string F.2.1, .bool F.2.2] 29) = W6 at *
 generalize w5.heap.size = g6 at *
 have HMo : Hid (∀ W, Below W6.heap.size W6 W → MoW F W g6 aP cP aK cK aB cB) := fun W hB => HM6.out.on hB
 have HIw : Hid (∀ W, Below W6.heap.size W6 W → Its W a ls) := fun W hB => (HI.out.on HB6.out).on hB
 have HAw : Hid (∀ W, Below W6.heap.size W6 W → Ans W aA al) := fun W hB => (HAn.out.on HB6.out).on hB
 have HEw : Hid (∀ W, Below W6.heap.size W6 W → EnvF W) := fun W hB => (HE.out.on HB6.out).on hB
 have HLe : Hid (∀ W, Below W6.heap.size W6 W → W6.heap.size ≤ W.heap.size) := fun W hB => hB.size
 have HBw : Hid (∀ W, Below W6.heap.size W6 W → Below w.heap.size w W) := fun W hB => HB6.out.trans (hB.mono HB6.out.size)
 go_wp2_with fail
 refine (toItsR a cap ls W6 (HI.out.on HB6.out)).mono ?_
 rintro e w7 ⟨rfl, hB7, hR7⟩
 have HP7 := hid (hR7.its hl HI.out.2.1 HI.out.len)
 have HX7 := hid (mkI_of hR7)
 have HM7 := hid hB7
 clear hR7 hB7 HM6 HE HB6
 generalize W6.heap.size = g7 at *
 go_wp2_with fail
 refine (toAnsR aA cA al w7 (HAw.out w7 HM7.out)).mono ?_
 rintro e w8 ⟨rfl, hB8, hR8⟩
 have HQ8 := hid (hR8.ans hla HAn.out.2.1 HAn.out.len)
 have HY8 := hid (hR8.mkA rfl)
 have HM8 : Hid (Below g7 W6 w8) := HM7.out.trans (hB8.mono (by have := HX7.out.1; omega))
 have HP8 := hid (HP7.out.on hB8)
 have HX8 := hid (HX7.out.on hB8)
 have hg78 : g7 < w7.heap.size := HX7.out.1
 have hg88 : w7.heap.size < w8.heap.size := HY8.out.1
 clear hR8 hB8 HM7 HP7 HX7
 generalize w7.heap.size = g8 at *
 go_wp2_with fail
 refine (impl_route (some ⟨g7, 0, none⟩) ls.length ls (some ⟨g8, 0, none⟩) al.length al w8 HP8.out (Nat.le_refl _) HQ8.out (HEw.out w8 HM8.out)).mono ?_
 rw [hF.out]
 rintro e w9 ⟨⟨v, rfl, hRP⟩, hB9⟩
 obtain ⟨b0, pP, dP, pK, dK, pB, dB, S, rfl, hO⟩ := imp_of hRP
 have hbx := ro_box w9 (.slice pP (txtL F.1.1).length dP) (.slice pK F.1.2.1.length dK) (.slice pB (txtL F.1.2.2).length dB) F.2.1 F.2.2
 have HR9 := hid (ro_laid w9 (.slice pP (txtL F.1.1).length dP) (.slice pK F.1.2.1.length dK) (.slice pB (txtL F.1.2.2).length dB) F.2.1 F.2.2)
 have HPl : Hid (∀ j, (Value.slice pP (txtL F.1.1).length dP).ownBlock = some j → w8.heap.size ≤ j ∧ j < w9.heap.size) := fun j hj => ⟨Nat.le_trans hO.hb (hO.p.lt j hj).1, (hO.p.lt j hj).2⟩
 have HBl : Hid (∀ j, (Value.slice pB (txtL F.1.2.2).length dB).ownBlock = some j → w8.heap.size ≤ j ∧ j < w9.heap.size) := fun j hj => ⟨Nat.le_trans hO.hb (hO.b.lt j hj).1, (hO.b.lt j hj).2⟩
 have HSl : Hid (∀ j, S j → w8.heap.size ≤ j ∧ j < w9.heap.size) := fun j hj => ⟨hO.lo j hj, hO.sl j hj⟩
 have hB89 := hB9.trans (hbx.mono hB9.size)
 have HO9 := hid (rto_below hO hbx)
 have HM9 := hid (HM8.out.trans (hB89.mono (by omega)))
 have HP9 := hid (HP8.out.on hB89)
 have HX9 := hid (HX8.out.on hB89)
 have HQ9 := hid (HQ8.out.on hB89)
 have HY9 := hid (HY8.out.on hB89)
 have hs89 : w8.heap.size ≤ w9.heap.size := hB9.size
 clear hRP hO hbx hB9 hB89 HM8 HP8 HX8 HQ8 HY8
 go_upto_region 12 with fail
 generalize w9.alloc (.cells #[.slice pP (txtL F.1.1).length dP, .slice pK F.1.2.1.length dK, .slice pB (txtL F.1.2.2).length dB, .string F.2.1, .bool F.2.2] 29) = W9 at *
 generalize w9.heap.size = g9 at *
 obtain ⟨⟨x0, x1, x2, x3, x4⟩, xf, xl⟩ := HR9.out.cells
 obtain ⟨⟨y0, y1, y2, y3, y4⟩, yf, yl⟩ := (HMo.out W9 HM9.out).o.cells
 go_wp2_with fail
 have hm := HMo.out W9 HM9.out
 have hst := rto_strs HO9.out
 refine (eq_route pP aP pK aK pB aB dP cP dK cK dB cB (txtL F.1.1) (txtL F.1.2.2) F.1.2.1 F.2.1 F.2.2 W9 hst.1 hm.p HO9.out.ans hm.k hst.2 hm.b).mono ?_
 rintro e w10 ⟨rfl, hB10⟩
 have HO10 := hid (rto_below HO9.out hB10)
 have HM10 := hid (HM9.out.trans (hB10.mono (HLe.out _ HM9.out)))
 have HP10 := hid (HP9.out.on hB10)
 have HX10 := hid (HX9.out.on hB10)
 have HQ10 := hid (HQ9.out.on hB10)
 have HY10 := hid (HY9.out.on hB10)
 have HR10 := hid (HR9.out.on hB10)
 clear hB10 hm hst x0 x1 x2 x3 x4 xf xl y0 y1 y2 y3 y4 yf yl HO9 HM9 HP9 HX9 HQ9 HY9 HR9
 go_wp2_with fail
 refine (toItsL a cap ls w10 (HIw.out w10 HM10.out)).mono ?_
 rintro e w11 ⟨rfl, hN11, hB11⟩
 have HN11 := hid hN11
 have HO11 := hid (rto_below HO10.out hB11)
 have HM11 := hid (HM10.out.trans (hB11.mono (HLe.out _ HM10.out)))
 have HP11 := hid (HP10.out.on hB11)
 have HX11 := hid (HX10.out.on hB11)
 have HQ11 := hid (HQ10.out.on hB11)
 have HY11 := hid (HY10.out.on hB11)
 have HR11 := hid (HR10.out.on hB11)
 clear hN11 hB11 HO10 HM10 HP10 HX10 HQ10 HY10 HR10
 generalize w10.heap.size = g10 at *
 go_wp2_with fail
 refine (eqItsL (some ⟨g7, 0, none⟩) (some ⟨g10, 0, none⟩) ls.length ls.length ls w11 HP11.out HN11.out).mono ?_
 rintro e w12 ⟨rfl, hB12⟩
 have HO12 := hid (rto_below HO11.out hB12)
 have HM12 := hid (HM11.out.trans (hB12.mono (HLe.out _ HM11.out)))
 have HX12 := hid (HX11.out.on hB12)
 have HQ12 := hid (HQ11.out.on hB12)
 have HY12 := hid (HY11.out.on hB12)
 have HR12 := hid (HR11.out.on hB12)
 clear hB12 HO11 HM11 HP11 HN11 HX11 HQ11 HY11 HR11
 go_wp2_with fail
 refine (toAnsL aA cA al w12 (HAw.out w12 HM12.out)).mono ?_
 rintro e w13 ⟨rfl, hN13, hB13⟩
 have HN13 := hid hN13
 have HO13 := hid (rto_below HO12.out hB13)
 have HM13 := hid (HM12.out.trans (hB13.mono (HLe.out _ HM12.out)))
 have HX13 := hid (HX12.out.on hB13)
 have HQ13 := hid (HQ12.out.on hB13)
 have HY13 := hid (HY12.out.on hB13)
 have HR13 := hid (HR12.out.on hB13)
 clear hN13 hB13 HO12 HM12 HX12 HQ12 HY12 HR12
 generalize w12.heap.size = g12 at *
 go_wp2_with fail
 refine (eqAnsL (some ⟨g8, 0, none⟩) (some ⟨g12, 0, none⟩) al.length al.length al w13 HQ13.out HN13.out).mono ?_
 rintro e w14 ⟨rfl, hB14⟩
 have HO14 := hid (rto_below HO13.out hB14)
 have HM14 := hid (HM13.out.trans (hB14.mono (HLe.out _ HM13.out)))
 have HX14 := hid (HX13.out.on hB14)
 have HY14 := hid (HY13.out.on hB14)
 have HR14 := hid (HR13.out.on hB14)
 clear hB14 HO13 HM13 HQ13 HN13 HX13 HY13 HR13
 go_wp2_with fail
 refine (mark_items g7 g8 ls.length ls.length (fun i => (iex (ls.getD i it0)).length) w14 HX14.out hl htot).mono ?_
 rintro e w15 ⟨⟨z15, rfl, hz1, hz2⟩, hW15⟩
 obtain ⟨k15, rfl⟩ : ∃ k : Nat, z15 = (k : Int) := ⟨z15.toNat, by omega⟩
 have hk15 : 1 ≤ k15 := by omega
 have hk15b : k15 ≤ 20000000 := by omega
 have HO15 := hid (HO14.out.keep (Nat.le_refl _) (within_low hW15 (Nat.le_of_lt hg88)).1 (within_low hW15 (Nat.le_of_lt hg88)).2)
 have HM15 := hid (HM14.out.trans (hW15.below (Nat.le_refl _) (HLe.out _ HM14.out)))
 have HY15 := hid (mkA_within HY14.out hW15 (Nat.le_refl _))
 have HR15 : Hid (RoB w15 g9 (.slice pP (txtL F.1.1).length dP) (.slice pK F.1.2.1.length dK) (.slice pB (txtL F.1.2.2).length dB) F.2.1 F.2.2) := (hW15.2.2.2.2 g9 (ItmW.blk_lt HR14.out) (.inr (by omega))).trans HR14.out
 clear hz1 hz2 hW15 HO14 HM14 HX14 HY14 HR14
 go_wp2_with fail
 refine (mark_answersX k15 hk15 hk15b g8 w8.heap.size al.length al.length (fun i => (cd (al.getD i an0)).length) w15 HY15.out hla htotA).mono ?_
 rintro e w16 ⟨⟨z16, rfl, hz16, -⟩, hW16⟩
 have HO16 := hid (HO15.out.keep (Nat.le_refl _) (within_lowA hW16 (Nat.le_refl _)).1 (within_lowA hW16 (Nat.le_refl _)).2)
 have HM16 := hid (HM15.out.trans (hW16.below (Nat.le_of_lt hg78) (HLe.out _ HM15.out)))
 have HR16 : Hid (RoB w16 g9 (.slice pP (txtL F.1.1).length dP) (.slice pK F.1.2.1.length dK) (.slice pB (txtL F.1.2.2).length dB) F.2.1 F.2.2) := (hW16.2.2.2.2 g9 (ItmW.blk_lt HR15.out) (.inr (by omega))).trans HR15.out
 have hz0 : ¬ z16 < 0 := by omega
 have hzd : decide (z16 < 0) = false := by simp; omega
 clear hW16 HO15 HM15 HY15 HR15 hk15 hk15b hz16
 obtain ⟨⟨x0, x1, x2, x3, x4⟩, xf, xl⟩ := HR16.out.cells
 obtain ⟨⟨y0, y1, y2, y3, y4⟩, yf, yl⟩ := (HMo.out w16 HM16.out).o.cells
 go_wp2_with fail
 have hm := HMo.out w16 HM16.out
 have hst := rto_strs HO16.out
 refine (eq_route pP aP pK aK pB aB dP cP dK cK dB cB (txtL F.1.1) (txtL F.1.2.2) F.1.2.1 F.2.1 F.2.2 w16 hst.1 hm.p HO16.out.ans hm.k hst.2 hm.b).mono ?_
 rintro e w17 ⟨rfl, hB17⟩
 have HO17 := hid (rto_below HO16.out hB17)
 have HM17 := hid (HM16.out.trans (hB17.mono (HLe.out _ HM16.out)))
 have HR17 := hid (HR16.out.on hB17)
 clear hB17 hm hst x0 x1 x2 x3 x4 xf xl y0 y1 y2 y3 y4 yf yl HO16 HM16 HR16
 obtain ⟨⟨x0, x1, x2, x3, x4⟩, xf, xl⟩ := HR17.out.cells
 have hlK : F.1.2.1.length ≤ 30 := (AnsW.rightA_at HO17.out.r).1
 have hlP : (txtL F.1.1).length ≤ 1000 := by have := HO17.out.l1; rw [txt_len]; omega
 have hlB : (txtL F.1.2.2).length ≤ 1000 := by have := HO17.out.l2; rw [txt_len]; omega
 have htK : tot (fun i => (cd (F.1.2.1.getD i an0)).length) F.1.2.1.length ≤ 1048576 := known_tot HO17.out.r
 go_wp2_with fail
 refine (mark_route b0 (.slice pP (txtL F.1.1).length dP) (.slice pB (txtL F.1.2.2).length dB) pK F.1.2.1.length dK S (fun i => (cd (F.1.2.1.getD i an0)).length) (txtL F.1.1) (txtL F.1.2.2) F.2.1 F.2.2 w17 hlP hlB (by omega) htK (HO17.out.rom dK _)).mono ?_
 rintro e w18 ⟨rfl, hM18, hW18⟩
 have HK18 := hid hM18
 have hlow : ∀ j, RoS (.slice pP (txtL F.1.1).length dP) (.slice pB (txtL F.1.2.2).length dB) S j → w8.heap.size ≤ j ∧ j < g9 := fun j hj => by
  rcases hj with h | h | h
  ·exact HPl.out j h
  ·exact HBl.out j h
  ·exact HSl.out j h
 have HM18 := hid (HM17.out.trans (hW18.below (fun j hj => by have := (hlow j hj).1; omega) (HLe.out _ HM17.out)))
 have HR18 : Hid (RoB w18 g9 (.slice pP (txtL F.1.1).length dP) (.slice pK F.1.2.1.length dK) (.slice pB (txtL F.1.2.2).length dB) F.2.1 F.2.2) := (hW18.2.2.2.2 g9 (ItmW.blk_lt HR17.out) (fun h => by have := (hlow g9 h).2; omega)).trans HR17.out
 clear hM18 hW18 hlow HO17 HM17 HR17 x0 x1 x2 x3 x4 xf xl
 obtain ⟨m, hm⟩ : ∃ m, Hid (((AnsL.posX (1 + (txtL F.1.1).length) (fun i => (cd (F.1.2.1.getD i an0)).length) F.1.2.1.length : Nat) : Int) + ((txtL F.1.2.2).length : Int) = m) := ⟨_, rfl⟩
 have hm0 : ¬ m < 0 := by rw [← hm.out]; omega
 rw [hm.out]
 obtain ⟨⟨x0, x1, x2, x3, x4⟩, xf, xl⟩ := HR18.out.cells
 go_wp2_with fail
 refine (held_route b0 (.slice pP (txtL F.1.1).length dP) (.slice pB (txtL F.1.2.2).length dB) pK F.1.2.1.length dK (txtL F.1.1).length (txtL F.1.2.2).length S (fun i => (cd (F.1.2.1.getD i an0)).length) F.2.1 F.2.2 w18 hlP hlB (by omega) htK HK18.out).mono ?_
 rintro e w19 ⟨rfl, hB19⟩
 rw [hm.out]
 have HM19 := hid (HM18.out.trans (hB19.mono (HLe.out _ HM18.out)))
 have HR19 := hid (HR18.out.on hB19)
 have HK19 := hid (HK18.out.on hB19)
 clear hB19 HM18 HR18 HK18 x0 x1 x2 x3 x4 xf xl
 go_wp2_with fail
 refine (toItsL a cap ls w19 (HIw.out w19 HM19.out)).mono ?_
 rintro e w20 ⟨rfl, hP20, hB20⟩
 have HP20 := hid hP20
 have HM20 := hid (HM19.out.trans (hB20.mono (HLe.out _ HM19.out)))
 have HR20 := hid (HR19.out.on hB20)
 have HK20 := hid (HK19.out.on hB20)
 clear hP20 hB20 HM19 HR19 HK19
 generalize w19.heap.size = g19 at *
 go_wp2_with fail
 refine (toAnsL aA cA al w20 (HAw.out w20 HM20.out)).mono ?_
 rintro e w21 ⟨rfl, hQ21, hB21⟩
 have HQ21 := hid hQ21
 have HM21 := hid (HM20.out.trans (hB21.mono (HLe.out _ HM20.out)))
 have HR21 := hid (HR20.out.on hB21)
 have HK21 := hid (HK20.out.on hB21)
 have HP21 := hid (HP20.out.on hB21)
 clear hQ21 hB21 HM20 HR20 HK20 HP20
 generalize w20.heap.size = g20 at *
 go_wp2_with fail
 refine (impl_route (some ⟨g19, 0, none⟩) ls.length ls (some ⟨g20, 0, none⟩) al.length al w21 HP21.out (Nat.le_refl _) HQ21.out (HEw.out w21 HM21.out)).mono ?_
 rw [hF.out]
 rintro e w22 ⟨⟨v, rfl, hRP⟩, hB22⟩
 obtain ⟨b2, qP, fP, qK, fK, qB, fB, S2, rfl, hO⟩ := imp_of hRP
 have hbx := ro_box w22 (.slice qP (txtL F.1.1).length fP) (.slice qK F.1.2.1.length fK) (.slice qB (txtL F.1.2.2).length fB) F.2.1 F.2.2
 have HZ22 := hid (ro_laid w22 (.slice qP (txtL F.1.1).length fP) (.slice qK F.1.2.1.length fK) (.slice qB (txtL F.1.2.2).length fB) F.2.1 F.2.2)
 have hB212 := hB22.trans (hbx.mono hB22.size)
 have HO22 := hid (rto_below hO hbx)
 have HM22 := hid (HM21.out.trans (hB212.mono (HLe.out _ HM21.out)))
 have HR22 := hid (HR21.out.on hB212)
 have HK22 := hid (HK21.out.on hB212)
 clear hRP hO hbx hB22 hB212 HM21 HR21 HK21 HP21 HQ21
 go_upto_region 32 with fail
 generalize w22.alloc (.cells #[.slice qP (txtL F.1.1).length fP, .slice qK F.1.2.1.length fK, .slice qB (txtL F.1.2.2).length fB, .string F.2.1, .bool F.2.2] 29) = W22 at *
 generalize w22.heap.size = g22 at *
 obtain ⟨⟨x0, x1, x2, x3, x4⟩, xf, xl⟩ := HZ22.out.cells
 obtain ⟨⟨y0, y1, y2, y3, y4⟩, yf, yl⟩ := (HMo.out W22 HM22.out).o.cells
 go_wp2_with fail
 have hmo := HMo.out W22 HM22.out
 have hst := rto_strs HO22.out
 refine (eq_route qP aP qK aK qB aB fP cP fK cK fB cB (txtL F.1.1) (txtL F.1.2.2) F.1.2.1 F.2.1 F.2.2 W22 hst.1 hmo.p HO22.out.ans hmo.k hst.2 hmo.b).mono ?_
 rintro e w23 ⟨rfl, hB23⟩
 have HM23 := hid (HM22.out.trans (hB23.mono (HLe.out _ HM22.out)))
 have HR23 := hid (HR22.out.on hB23)
 have HK23 := hid (HK22.out.on hB23)
 clear hB23 hmo hst x0 x1 x2 x3 x4 xf xl y0 y1 y2 y3 y4 yf yl HO22 HM22 HR22 HK22 HZ22
 obtain ⟨⟨x0, x1, x2, x3, x4⟩, xf, xl⟩ := HR23.out.cells
 go_wp2_with fail
 refine (held_route b0 (.slice pP (txtL F.1.1).length dP) (.slice pB (txtL F.1.2.2).length dB) pK F.1.2.1.length dK (txtL F.1.1).length (txtL F.1.2.2).length S (fun i => (cd (F.1.2.1.getD i an0)).length) F.2.1 F.2.2 w23 hlP hlB (by omega) htK HK23.out).mono ?_
 rintro e w24 ⟨rfl, hB24⟩
 rw [hm.out]
 have HM24 := hid (HM23.out.trans (hB24.mono (HLe.out _ HM23.out)))
 clear hB24 HM23 HR23 HK23 x0 x1 x2 x3 x4 xf xl
 go_wp2_with fail
 go_ret
 exact ⟨rfl, HBw.out _ HM24.out⟩
end Go.Proofs.YtmbhmknfipdadaaGreatDoor.RteX
