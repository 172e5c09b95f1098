/- Texts of ours, laid together. -/
import Derived.Test.YtmbhmknfipdadaaGreatDoorBd35
import Derived.Test.YtmbhmknfipdadaaGreatDoorBd28
namespace Go.Proofs.YtmbhmknfipdadaaGreatDoor.BookW
open Go.RowKit Go.Maps
open ValW RdS RdI AnsW
open ValI (At4)
theorem blk_fresh {k n : Int} {a : Option Addr} {len cap : Nat} {t : ByteArray} {b F : Nat} (h : Blk (av k n a len cap t) b) (hf : Fresh a F) : F ≤ b := by
 obtain ⟨k', n', o, l', c, t', hv, hl⟩ := h
 simp only [av, Value.agg.injEq, Array.mk.injEq, List.cons.injEq, Value.slice.injEq] at hv
 obtain ⟨_, _, ⟨rfl, _, _⟩, _⟩ := hv
 exact hf b o rfl
def BkS (W0 : World) (B : Nat) (w' : World) : Prop := W0.grownBy w' (some B) ∧ B + 1 ≤ w'.heap.size
theorem BkS.on {W0 W W' : World} {B : Nat} (h : BkS W0 B W) (hB : Below W.heap.size W W') : BkS W0 B W' :=
 ⟨⟨hB.os.trans h.1.os, hB.tape.trans h.1.tape, hB.output.trans h.1.output, Nat.le_trans h.1.size hB.size, fun k hk hn => (hB.block k (Nat.lt_of_lt_of_le hk h.1.size)).trans (h.1.block k hk hn)⟩, Nat.le_trans h.2 hB.size⟩
theorem BkS.grown {W0 W W' : World} {B : Nat} (h : BkS W0 B W) (hg : W.grownBy W' (some B)) : BkS W0 B W' :=
 ⟨⟨hg.os.trans h.1.os, hg.tape.trans h.1.tape, hg.output.trans h.1.output, Nat.le_trans h.1.size hg.size, fun k hk hn => (hg.block k (Nat.lt_of_lt_of_le hk h.1.size) hn).trans (h.1.block k hk hn)⟩, Nat.le_trans h.2 hg.size⟩
theorem BkS.one {W0 W : World} {B : Nat} (_h : BkS W0 B W) (t : ByteArray) : One (W.alloc (.cells #[.string t] 9)) W.heap.size t := One.laid W t
theorem BkS.all {W0 W : World} {B g : Nat} {p : An} {a : Option Addr} {c : Nat} (h : BkS W0 B W) (hF : Five W0 g 0 p a c) (hne : g ≠ B) (hl : g < W0.heap.size) : BkS W0 B W ∧ W.cell? ⟨g, 0, none⟩ = some (.string (nm p)) ∧ W.cell? ⟨g, 0 + 1, none⟩ = some (.int .i64 (kd p)) ∧ W.cell? ⟨g, 0 + 2, none⟩ = some (.int .i64 (nu p)) ∧ W.cell? ⟨g, 0 + 3, none⟩ = some (.slice a (cd p).length c) ∧ W.cell? ⟨g, 0 + 4, none⟩ = some (.string (tx p)) := by
 have hb := h.1.block g hl (fun e => hne (Option.some.inj e))
 have hc : ∀ j, W.cell? ⟨g, j, none⟩ = W0.cell? ⟨g, j, none⟩ := fun j => World.cell?_of_block (w := W0) hb
 obtain ⟨h0, h1, h2, h3, h4⟩ := hF
 exact ⟨h, by rw [hc]; exact h0, by rw [hc]; exact h1, by rw [hc]; exact h2, by rw [hc]; exact h3, by rw [hc]; exact h4⟩
theorem below_of_grown {w W : World} {B : Nat} {W0 : World} (hB : Below B w W0) (h : BkS W0 B W) (hl : B ≤ W0.heap.size) : Below B w W :=
 hB.trans ⟨h.1.os, h.1.tape, h.1.output, h.1.size, fun k hk => h.1.block k (by omega) (fun e => by have := Option.some.inj e; omega)⟩
theorem make_map (n : Nat) (w : World) : (Instr.makeMap 93 (some (.int .i64 n))).run Tryz.prog w = .ok (.map (some w.heap.size)) (w.alloc (.map #[] 0)) := by
 simp [Instr.makeMap, run_underlying Tryz.underlying93, asInt, go_sem]
set_option maxRecDepth 10000 in
set_option maxHeartbeats 6400000 in
theorem book_of (a : Option Addr) (cap : Nat) (ls : List An) (w : World) (hc : Ans w a ls) (hr : rightA ls = true) :
  Calls Tryz.prog 65 #[.slice a ls.length cap] w fun e w' => e = .returned (.map (some w.heap.size)) ∧ Book w' w.heap.size ls ∧ Below w.heap.size w w' := by
 have HC : Hid (Ans w a ls) := hc
 have hl := hc.1
 have hmm := fun w' => make_map ls.length w'
 have hlen : ls.length ≤ 30 := (rightA_at hr).1
 have HR := hid (rightA_at hr).2
 clear hc hr
 go_enter Tryz.func65, Tryz.ntmps65
 go_wp2_with fail
 go_loopw [11] (fun i wr => ∃ (k : Nat) (D : DataW Value), k ≤ ls.length ∧ i = .int .i64 k ∧ Hid (Mp wr w.heap.size k D) ∧ Hid (Holds wr (w.heap.size + 1) D ls k) ∧ Hid (Apt D) ∧ Below w.heap.size w wr) (fun i _ => ls.length - (intOf i).toNat)
 case atStart => exact ⟨0, .map [], Nat.zero_le _, rfl, World.ownsMap_made _ _ _ _, holds_zero _ _ _, apt_zero, (Below.refl _ _).alloc (Nat.le_refl _) _⟩
 case round =>
  obtain ⟨k, D, hk, rfl, HM, HH, HA, hbel⟩ := hrel
  by_cases hlt : k < ls.length
  ·obtain ⟨h1, _, h3⟩ := okA_parts (HR.out k hlt)
   obtain ⟨hfit, b, o, ai, ci, rfl, hb, hF, hcd⟩ := HC.out.at (Below.refl _ _) hlt
   have hF1 := hF.on hb hbel
   have hput := fun W W' v (h : Holds W (w.heap.size + 1) D ls k) (hg : W.grownBy W' (some w.heap.size)) hv => h.put HM.out.isMap (Nat.lt_succ_self _) hg HR.out hlt (v := v) hv
   have hlt0 := HM.out.lt
   have HI := hid HM.out.isMap
   generalize ls.getD k an0 = p at hF hF1 hcd hfit h1 h3 hput
   obtain ⟨s, x, n, zs, t⟩ := p
   dsimp only [nm, kd, nu, cd, tx] at hcd h1 h3 hput
   have HP := hid hput
   have hs20 : s.size ≤ 20 := (of_decide_eq_true h1).2.1
   have HSz : Hid (s.size ≤ 100000) := by show _ ≤ _; omega
   have HSm : Hid (s.size ≤ maxLen) := by show _ ≤ _; unfold maxLen; omega
   have HKm : Hid (k < maxLen) := by show _ < _; unfold maxLen; omega
   have HTz : Hid (t.size ≤ 100000) := by
    show _ ≤ _
    have hrt : ValM.right x n zs t = true := by unfold ValK.answeredB at h3; simp at h3; exact h3.1
    rcases ValM.kinds hrt with ⟨_, _, _, h⟩ | ⟨_, _, _, _, h⟩ | ⟨_, _, _, _, h⟩ | ⟨_, _, _, h⟩ | ⟨_, _, _, _, h⟩ <;> omega
   have HB : Hid (Below w.heap.size w wr) := hbel
   have HCd := hid hcd
   obtain ⟨c0, c1, c2, c3, c4⟩ := hF1
   dsimp only [nm, kd, nu, cd, tx] at c0 c1 c2 c3 c4
   go_upto_region 5 with fail
   obtain ⟨W0, hW0⟩ : ∃ W0, Hid (wr.alloc (.cells #[.string s, .int .i64 x, .int .i64 n, .slice ai zs.length ci, .string t] 61) = W0) := ⟨_, rfl⟩
   have hF0 : Five (wr.alloc (.cells #[.string s, .int .i64 x, .int .i64 n, .slice ai zs.length ci, .string t] 61)) wr.heap.size 0 (s, x, n, zs, t) ai ci := ⟨by simp, by simp, by simp, by simp, by simp⟩
   have hal := (Below.refl wr.heap.size wr).alloc (Nat.le_refl _) (.cells #[.string s, .int .i64 x, .int .i64 n, .slice ai zs.length ci, .string t] 61)
   have hB1 : Below w.heap.size w (wr.alloc (.cells #[.string s, .int .i64 x, .int .i64 n, .slice ai zs.length ci, .string t] 61)) := HB.out.alloc HB.out.size _
   have hgl : wr.heap.size < (wr.alloc (.cells #[.string s, .int .i64 x, .int .i64 n, .slice ai zs.length ci, .string t] 61)).heap.size := by simp
   have HM2 := hid (Mp.on (Mp.on HM.out hal) (Below.refl _ _).drew)
   have HH2 := hid ((HH.out.on hal).on (Below.refl _ _).drew)
   rw [hW0.out] at hF0 hB1 hgl HM2 HH2 ⊢
   have HF := hid hF0
   have HBW := hid hB1
   have HBl : Hid (w.heap.size ≤ W0.heap.size) := hB1.size
   have hgB : wr.heap.size ≠ w.heap.size := by omega
   have hS0 : BkS W0 w.heap.size W0.drew := ⟨⟨rfl, rfl, rfl, Nat.le_refl _, fun _ _ _ => rfl⟩, by show _ ≤ W0.heap.size; omega⟩
   clear HM HH
   have HM := HM2
   have HH := HH2
   clear HM2 HH2 hal
   generalize wr.heap.size = g at *
   clear hbel hcd hF0 hB1 hfit h1 h3 hF hput c0 c1 c2 c3 c4 hW0
   refine wp_region_held_drew (S := (fun w' => BkS W0 w.heap.size w' ∧ w'.cell? ⟨g, 0, none⟩ = some (.string s) ∧ w'.cell? ⟨g, 0 + 1, none⟩ = some (.int .i64 x) ∧ w'.cell? ⟨g, 0 + 2, none⟩ = some (.int .i64 n) ∧ w'.cell? ⟨g, 0 + 3, none⟩ = some (.slice ai zs.length ci) ∧ w'.cell? ⟨g, 0 + 4, none⟩ = some (.string t))) (by kernel_rfl) ?_ (fun hHeld => ?_)
   ·(try dsimp only) <;> (first | exact BkS.all hSn HF.out hgB hgl | exact BkS.all hS0 HF.out hgB hgl)
   refine tk 0 (some 15) rfl hHeld ?_; (try simp only [Act.put, pA, pB, pC]); refine tk 1 (some 16) rfl hHeld ?_; (try simp only [Act.put, pA, pB, pC]); refine tk 2 (some 17) rfl hHeld ?_; (try simp only [Act.put, pA, pB, pC]); refine tk 5 (some 20) rfl hHeld ?_; (try simp only [Act.put, pA, pB, pC]); refine tk 6 (some 21) rfl hHeld ?_; (try simp only [Act.put, pA, pB, pC])
   refine wpAnyH_ready (rs := [3]) (by kernel_rfl) (by simp) ?_
   refine AllReadyH.cons rfl (fun K hK => ?_) AllReadyH.nil
   go_simp
   have hSn := hHeld.1.on ((Below.refl _ _).alloc (Nat.le_refl _) (.cells #[.string s] 9))
   have HM2 := hid (Mp.on HM.out ((Below.refl _ _).alloc (Nat.le_refl _) (.cells #[.string s] 9)))
   have HH2 := hid (HH.out.on ((Below.refl _ _).alloc (Nat.le_refl _) (.cells #[.string s] 9)))
   clear HM HH
   have HM := HM2
   have HH := HH2
   clear HM2 HH2
   (try have HV2 := hid (HV.out.on ((Below.refl _ _).alloc (Nat.le_refl _) (.cells #[.string s] 9))))
   (try clear HV)
   (try have HV := HV2)
   (try clear HV2)
   have HSl := hHeld.1.one s
   refine hK.out _ _ ?_ (fun hHeld2 => ?_)
   ·(try dsimp only) <;> (first | exact BkS.all hSn HF.out hgB hgl | exact BkS.all hS0 HF.out hgB hgl)
   clear hK K hHeld
   have hHeld := hHeld2
   clear hHeld2
   (try simp only [Act.put, pA, pB, pC])
   refine wpAnyH_ready (rs := [4]) (by kernel_rfl) (by simp) ?_
   refine AllReadyH.cons rfl (fun K hK => ?_) AllReadyH.nil
   go_simp
   go_at_call 93
   have hp := hHeld.1
   refine (laid_at s _ _ HSl HSz.out).mono ?_
   rintro e w' ⟨rfl, hB⟩
   have HM2 := hid (Mp.on HM.out hB)
   have HH2 := hid (HH.out.on hB)
   clear HM HH
   have HM := HM2
   have HH := HH2
   clear HM2 HH2
   (try have HV2 := hid (HV.out.on hB))
   (try clear HV)
   (try have HV := HV2)
   (try clear HV2)
   have hSn := hp.on hB
   clear hp hB HSl
   (try go_wp2_with fail)
   refine hK.out _ _ ?_ (fun hHeld2 => ?_)
   ·(try dsimp only) <;> (first | exact BkS.all hSn HF.out hgB hgl | exact BkS.all hS0 HF.out hgB hgl)
   clear hK K hHeld
   have hHeld := hHeld2
   clear hHeld2
   (try simp only [Act.put, pA, pB, pC])
   refine wpAnyH_ready (rs := [7]) (by kernel_rfl) (by simp) ?_
   refine AllReadyH.cons rfl (fun K hK => ?_) AllReadyH.nil
   go_simp
   go_at_call 92
   have hp := hHeld.1
   refine (copied_in x n ai ci zs t _ (HCd.out.on (below_of_grown HBW.out hp HBl.out)) HTz.out).mono ?_
   rintro e w' ⟨a', cap', rfl, hcd, hfr, hfs, hnc, hB⟩
   have HAp : Hid (∀ (s' : List UInt8) (v' : Value) (b : Nat), (∀ z, D.atKey (.string s') z = .held v') → Blk (av x n a' zs.length cap' t) b → Blk v' b → False) := fun s' v' b hs' hb1 hb2 => Nat.lt_irrefl _ (Nat.lt_of_lt_of_le (HH.out.low hs' hb2) (blk_fresh hb1 hfs))
   (try have HSl2 := HSl.on hB)
   (try clear HSl)
   (try have HSl := HSl2)
   (try clear HSl2)
   have HV : Hid (Cpy w' (w.heap.size + 1) (s, x, n, zs, t) (av x n a' zs.length cap' t)) := ⟨a', cap', rfl, hcd, hfr, fun b o hb => Nat.le_trans hp.2 (hfs b o hb), hnc⟩
   have HM2 := hid (Mp.on HM.out hB)
   have HH2 := hid (HH.out.on hB)
   clear HM HH
   have HM := HM2
   have HH := HH2
   clear HM2 HH2
   have hSn := hp.on hB
   clear hp hB hcd hfr hfs hnc
   (try go_wp2_with fail)
   refine hK.out _ _ ?_ (fun hHeld2 => ?_)
   ·(try dsimp only) <;> (first | exact BkS.all hSn HF.out hgB hgl | exact BkS.all hS0 HF.out hgB hgl)
   clear hK K hHeld
   have hHeld := hHeld2
   clear hHeld2
   (try simp only [Act.put, pA, pB, pC])
   refine wpAnyH_ready (rs := [8]) (by kernel_rfl) (by simp) ?_
   refine AllReadyH.cons rfl (fun K hK => ?_) AllReadyH.nil
   obtain ⟨wm, hrun, hown, hgr⟩ := HM.out.update key_law Tryz.underlying93 HKm.out (key := .string s) (val := av x n a' zs.length cap' t) (Go.WideMaps.keyOf_string_mk Tryz.underlying9 HSm.out) rfl
   go_simp
   have hSn := hHeld.1.grown hgr
   refine hK.out _ _ ?_ (fun hHeld2 => ?_)
   ·(try dsimp only) <;> (first | exact BkS.all hSn HF.out hgB hgl | exact BkS.all hS0 HF.out hgB hgl)
   clear hK K hHeld
   have hHeld := hHeld2
   clear hHeld2
   (try simp only [Act.put, pA, pB, pC])
   refine wpAnyH_done (by kernel_rfl) ?_ _
   have HBL := hid (below_of_grown HBW.out hHeld.1 HBl.out)
   have HHn := hid (HP.out _ _ _ HH.out hgr HV.out)
   have HMn := hid hown
   have HAn := hid (HA.out.put (s := s.data.toList) HI.out HAp.out)
   clear hHeld hS0 HF HH HM hown hgr hrun
   go_wp2_with fail
   refine ⟨⟨k + 1, _, by omega, by go_num, HMn, HHn, HAn.out, HBL.out⟩, by simp [intOf]; omega⟩
  ·obtain rfl : k = ls.length := by omega
   go_wp2
   go_ret
   exact ⟨rfl, ⟨D, HM.out, HH.out, HA.out⟩, hbel⟩
end Go.Proofs.YtmbhmknfipdadaaGreatDoor.BookW
namespace Go.Proofs.YtmbhmknfipdadaaGreatDoor.AnsW
open Go.RowKit
open ValW NameW RdS RdI BookW
theorem zeroV (w : World) : (zeroValue 59).run Tryz.prog w = .ok (av 0 0 none 0 0 ByteArray.empty) w := by kernel_rfl
end Go.Proofs.YtmbhmknfipdadaaGreatDoor.AnsW
namespace Go.Proofs.YtmbhmknfipdadaaGreatDoor.BookW
open Go.RowKit Go.Maps
open ValW RdS RdI AnsW
def namesA (ls : List An) : List (List UInt8) := ls.map fun p => (nm p).data.toList
theorem holds_mem {w : World} {F : Nat} {D : DataW Value} {ls : List An} (h : Holds w F D ls ls.length) : (∀ p ∈ ls, ∃ v, Cpy w F p v ∧ ∀ z, D.atKey (.string (nm p).data.toList) z = .held v) ∧ ∀ s, s ∉ namesA ls → ∀ z, D.atKey (.string s) z = z := by
 refine ⟨fun p hp => ?_, fun s hs => h.2 s fun i hi e => hs (List.mem_map.2 ⟨_, getD_mem hi, e⟩)⟩
 obtain ⟨i, hi, rfl⟩ := List.mem_iff_getElem.1 hp
 have := h.1 i hi
 rw [getD_at hi] at this
 exact this
theorem holds_of {w : World} {F : Nat} {D : DataW Value} {ls : List An} (h1 : ∀ p ∈ ls, ∃ v, Cpy w F p v ∧ ∀ z, D.atKey (.string (nm p).data.toList) z = .held v) (h2 : ∀ s, s ∉ namesA ls → ∀ z, D.atKey (.string s) z = z) : Holds w F D ls ls.length :=
 ⟨fun i hi => h1 _ (getD_mem hi), fun s hs => h2 s fun hm => by
  obtain ⟨p, hp, e⟩ := List.mem_map.1 hm
  obtain ⟨i, hi, rfl⟩ := List.mem_iff_getElem.1 hp
  exact hs i hi (by rw [getD_at hi]; exact e)⟩
theorem names_nodup {ls : List An} (h : Ris ls) : (namesA ls).Nodup := by
 refine List.pairwise_map.2 (h.imp fun {p q} hl e => ?_)
 rw [show nm p = nm q from data_ne.1 e, lessB_irrefl] at hl
 cases hl
theorem collected {w : World} {F : Nat} {D : DataW Value} {ls : List An} (h : Holds w F D ls ls.length) (hr : Ris ls) : Collected D (fun _ => false) (namesA ls) := by
 refine ⟨names_nodup hr, fun x => ?_⟩
 obtain ⟨h1, h2⟩ := holds_mem h
 constructor
 ·intro hx
  obtain ⟨p, hp, rfl⟩ := List.mem_map.1 hx
  obtain ⟨v, _, hv⟩ := h1 p hp
  exact ⟨has_true_of_atKey hv, rfl⟩
 ·rintro ⟨hx, _⟩
  by_cases hm : x ∈ namesA ls
  ·exact hm
  ·rw [has_false_of_atKey (h2 x hm)] at hx; cases hx
theorem keys_perm {w : World} {B n F : Nat} {D : DataW Value} {ls : List An} (hM : Mp w B n D) (h : Holds w F D ls ls.length) (hr : Ris ls) : (namesA ls).Perm (strKeys D) := (collected h hr).perm hM key_law Tryz.underlying9 (fun _ => rfl)
theorem book_size {w : World} {B n F : Nat} {D : DataW Value} {ls : List An} (hM : Mp w B n D) (h : Holds w F D ls ls.length) (hr : Ris ls) : Maps.size D = ls.length := by
 have hp := (keys_perm hM h hr).length_eq
 obtain ⟨es, rfl⟩ := hM.isMap
 rw [size_eq]
 simpa [strKeys, namesA] using hp.symm
theorem mp_size {w : World} {B n : Nat} {D : DataW Value} (h : Mp w B n D) : Mp w B (Maps.size D) D := by
 obtain ⟨es, clock, hb, F, hs, hD⟩ := h
 refine ⟨es, clock, hb, F, ?_, hD⟩
 rw [hD, size_eq, length_read]
 exact Nat.le_refl _
theorem Book.put {w w' : World} {B n : Nat} {ls : List An} {D : DataW Value} {p : An} {v : Value} (hM : IsMap D) (hH : Holds w (B + 1) D ls ls.length) (hA : Apt D) (hr : rightA ls = true) (hr' : rightA (putA ls p) = true) (hg : w.grownBy w' (some B))
  (hM' : Mp w' B n (D.put (.string (nm p).data.toList) (.held v))) (hv : Cpy w (B + 1) p v) (hn : ∀ s' v' b, (∀ z, D.atKey (.string s') z = .held v') → Blk v b → Blk v' b → False) : Book w' B (putA ls p) := by
 have hR := (right_ris hr).2.1
 have hH' : Holds w' (B + 1) (D.put (.string (nm p).data.toList) (.held v)) (putA ls p) (putA ls p).length := by
  obtain ⟨h1, h2⟩ := holds_mem hH
  refine holds_of (fun q hq => ?_) (fun s hs z => ?_)
  ·rcases (putA_mem hR q).1 hq with rfl | ⟨hm, hne⟩
   ·exact ⟨v, hv.grown (Nat.lt_succ_self _) hg, fun z => atKey_put_same hM (show WideAt.IsKeyLit (.string _) from trivial) _ _⟩
   ·obtain ⟨u, hu, hat⟩ := h1 q hm
    exact ⟨u, hu.grown (Nat.lt_succ_self _) hg, fun z => by rw [atKey_put_other (fun e => hne (data_ne.1 (Lit.string.inj e)))]; exact hat z⟩
  ·have hsp : s ≠ (nm p).data.toList := fun e => hs (List.mem_map.2 ⟨p, (putA_mem hR p).2 (.inl rfl), e.symm⟩)
   rw [atKey_put_other (fun e => hsp (Lit.string.inj e))]
   refine h2 s (fun hm => hs ?_) z
   obtain ⟨q, hq, rfl⟩ := List.mem_map.1 hm
   exact List.mem_map.2 ⟨q, (putA_mem hR q).2 (.inr ⟨hq, fun e => hsp (by rw [e])⟩), rfl⟩
 have e := book_size hM' hH' (right_ris hr').2.1
 exact ⟨_, e ▸ mp_size hM', hH', hA.put hM hn⟩
def CdO (w : World) (F : Nat) (x : Option Addr × Nat) (zs : List Int) : Prop := Codes w x.1 zs ∧ Free w x.1 zs ∧ Fresh x.1 F ∧ (x.1 = none → x.2 = 0)
theorem CdO.on {w w' : World} {F : Nat} {x : Option Addr × Nat} {zs : List Int} (h : CdO w F x zs) (hB : Below w.heap.size w w') : CdO w' F x zs := ⟨h.1.on hB, h.2.1.on hB, h.2.2.1, h.2.2.2⟩
def Kept (w : World) (F : Nat) (D : DataW Value) (ls : List An) (ads : Nat → Option Addr × Nat) : Prop :=
 ∀ i, i < ls.length → (∀ z, D.atKey (.string (nm (ls.getD i an0)).data.toList) z = .held (av (kd (ls.getD i an0)) (nu (ls.getD i an0)) (ads i).1 (cd (ls.getD i an0)).length (ads i).2 (tx (ls.getD i an0)))) ∧ CdO w F (ads i) (cd (ls.getD i an0))
theorem book_kept {w : World} {F : Nat} {D : DataW Value} {ls : List An} (h : Holds w F D ls ls.length) : ∃ ads, Kept w F D ls ads := by
 have hx : ∀ i, ∃ x : Option Addr × Nat, i < ls.length → (∀ z, D.atKey (.string (nm (ls.getD i an0)).data.toList) z = .held (av (kd (ls.getD i an0)) (nu (ls.getD i an0)) x.1 (cd (ls.getD i an0)).length x.2 (tx (ls.getD i an0)))) ∧ CdO w F x (cd (ls.getD i an0)) := fun i => by
  by_cases hi : i < ls.length
  ·obtain ⟨v, ⟨a, cap, rfl, h1, h2, h3, h4⟩, hv⟩ := h.1 i hi
   exact ⟨(a, cap), fun _ => ⟨hv, h1, h2, h3, h4⟩⟩
  ·exact ⟨(none, 0), fun h => absurd h hi⟩
 exact ⟨fun i => Classical.choose (hx i), fun i hi => Classical.choose_spec (hx i) hi⟩
def Apart (ls : List An) (ads : Nat → Option Addr × Nat) : Prop := ∀ i j b o o', i < ls.length → j < ls.length → i ≠ j → (ads i).1 = some ⟨b, o, none⟩ → 0 < (cd (ls.getD i an0)).length → (ads j).1 = some ⟨b, o', none⟩ → 0 < (cd (ls.getD j an0)).length → False
theorem Kept.apart {w : World} {F : Nat} {D : DataW Value} {ls : List An} {ads : Nat → Option Addr × Nat} (h : Kept w F D ls ads) (hA : Apt D) (hr : Ris ls) : Apart ls ads := by
 intro i j b o o' hi hj hne h1 h2 h3 h4
 obtain ⟨k1, _⟩ := h i hi
 obtain ⟨k2, _⟩ := h j hj
 refine hA _ _ _ _ b (fun e => ?_) k1 k2 ⟨_, _, o, _, _, _, by rw [h1], h2⟩ ⟨_, _, o', _, _, _, by rw [h3], h4⟩
 have he : nm (ls.getD i an0) = nm (ls.getD j an0) := data_ne.1 e
 rcases Nat.lt_or_gt_of_ne hne with hl | hl
 ·have := List.pairwise_iff_getElem.1 hr i j hi hj hl
  rw [← getD_at, ← getD_at, he, lessB_irrefl] at this
  cases this
 ·have := List.pairwise_iff_getElem.1 hr j i hj hi hl
  rw [← getD_at, ← getD_at, he, lessB_irrefl] at this
  cases this
theorem less_lt : ∀ x y : List UInt8, Op.bytesLess x y = true → x < y
 | [], [], h => by simp [Op.bytesLess] at h
 | [], b :: y, _ => List.nil_lt_cons _ _
 | a :: x, [], h => by simp [Op.bytesLess] at h
 | a :: x, b :: y, h => by
  simp only [Op.bytesLess, Bool.or_eq_true, Bool.and_eq_true, decide_eq_true_eq, beq_iff_eq] at h
  rw [List.cons_lt_cons_iff]
  rcases h with h | ⟨rfl, h⟩
  ·exact .inl h
  ·exact .inr ⟨rfl, less_lt x y h⟩
theorem names_sorted {ls : List An} (h : Ris ls) : (namesA ls).mergeSort leB = namesA ls := by
 refine List.mergeSort_of_pairwise (List.pairwise_map.2 (h.imp fun {p q} hl => ?_))
 unfold lessB at hl
 rw [ByteArray.toList_eq, ByteArray.toList_eq] at hl
 show decide _ = true
 rw [decide_eq_true_eq]
 exact List.le_of_lt (less_lt _ _ hl)
open Go.RowKit Go.Maps
open ValW RdS RdI AnsW
def OffB (D : DataW Value) (B : Nat) : Prop := ∀ (s : List UInt8) (v : Value) (b : Nat), (∀ z, D.atKey (.string s) z = .held v) → Blk v b → b ≠ B
def BookN (w : World) (F B : Nat) (ls : List An) (D : DataW Value) : Prop := Mp w B ls.length D ∧ Holds w F D ls ls.length ∧ Apt D ∧ OffB D B
theorem BookN.f {w : World} {F B : Nat} {ls : List An} {D : DataW Value} (h : BookN w F B ls D) : BookF w F B ls := ⟨D, h.1, h.2.1, h.2.2.1⟩
theorem BookN.on {w w' : World} {F B : Nat} {ls : List An} {D : DataW Value} (h : BookN w F B ls D) (hB : Below w.heap.size w w') : BookN w' F B ls D := ⟨h.1.on hB, h.2.1.on hB, h.2.2⟩
theorem BookN.zero {w : World} {F B : Nat} (h : Mp w B 0 (.map [])) : BookN w F B [] (.map []) := ⟨h, holds_zero _ _ _, apt_zero, fun _ _ _ h _ => by have := h (.map []); cases this⟩
theorem Cpy.grown2 {w w' : World} {F B : Nat} {p : An} {v : Value} (h : Cpy w F p v) (hn : ∀ b, Blk v b → b ≠ B) (hg : w.grownBy w' (some B)) : Cpy w' F p v := by
 obtain ⟨a, cap, rfl, h2, h3, h4, h5⟩ := h
 refine ⟨a, cap, rfl, ⟨h2.1, fun hp => ?_⟩, fun b o ha i hi => ?_, h4, h5⟩
 ·obtain ⟨b, o, ha, hb, hc⟩ := h2.2 hp
  have hne : some b ≠ some B := fun e => hn b ⟨_, _, o, _, _, _, by rw [ha], hp⟩ (Option.some.inj e)
  exact ⟨b, o, ha, Nat.lt_of_lt_of_le hb hg.size, fun i hi => by rw [World.cell?_of_block (w := w) (hg.block b hb hne)]; exact hc i hi⟩
 ·obtain ⟨hb, hf⟩ := h3 b o ha i hi
  have hne : some b ≠ some B := fun e => hn b ⟨_, _, o, _, _, _, by rw [ha], by omega⟩ (Option.some.inj e)
  exact ⟨Nat.lt_of_lt_of_le hb hg.size, by rw [World.frozen?_of_block (w := w) (hg.block b hb hne)]; exact hf⟩
theorem BookN.put {w w' : World} {F B n : Nat} {ls : List An} {D : DataW Value} {p : An} {v : Value} (h : BookN w F B ls D) (hr : rightA ls = true) (hr' : rightA (putA ls p) = true) (hg : w.grownBy w' (some B))
  (hM' : Mp w' B n (D.put (.string (nm p).data.toList) (.held v))) (hv : Cpy w F p v) (hvn : ∀ b, Blk v b → b ≠ B) (hn : ∀ s' v' b, (∀ z, D.atKey (.string s') z = .held v') → Blk v b → Blk v' b → False) : BookN w' F B (putA ls p) (D.put (.string (nm p).data.toList) (.held v)) := by
 have hM := h.1.isMap
 have hR := (right_ris hr).2.1
 have hH' : Holds w' F (D.put (.string (nm p).data.toList) (.held v)) (putA ls p) (putA ls p).length := by
  obtain ⟨h1, h2⟩ := holds_mem h.2.1
  refine holds_of (fun q hq => ?_) (fun s hs z => ?_)
  ·rcases (putA_mem hR q).1 hq with rfl | ⟨hm, hne⟩
   ·exact ⟨v, hv.grown2 hvn hg, fun z => atKey_put_same hM (show WideAt.IsKeyLit (.string _) from trivial) _ _⟩
   ·obtain ⟨u, hu, hat⟩ := h1 q hm
    exact ⟨u, hu.grown2 (fun b hb => h.2.2.2 _ u b hat hb) hg, fun z => by rw [atKey_put_other (fun e => hne (data_ne.1 (Lit.string.inj e)))]; exact hat z⟩
  ·have hsp : s ≠ (nm p).data.toList := fun e => hs (List.mem_map.2 ⟨p, (putA_mem hR p).2 (.inl rfl), e.symm⟩)
   rw [atKey_put_other (fun e => hsp (Lit.string.inj e))]
   refine h2 s (fun hm => hs ?_) z
   obtain ⟨q, hq, rfl⟩ := List.mem_map.1 hm
   exact List.mem_map.2 ⟨q, (putA_mem hR q).2 (.inr ⟨hq, fun e => hsp (by rw [e])⟩), rfl⟩
 have e := book_size hM' hH' (right_ris hr').2.1
 refine ⟨e ▸ mp_size hM', hH', h.2.2.1.put hM hn, fun s u b hs hb => ?_⟩
 by_cases es : s = (nm p).data.toList
 ·subst es
  have hu : u = v := held_inj hs (fun z => atKey_put_same hM (show WideAt.IsKeyLit (.string _) from trivial) _ _)
  rw [hu] at hb
  exact hvn b hb
 ·exact h.2.2.2 s u b (fun z => by rw [← hs z, atKey_put_other (fun e => es (Lit.string.inj e))]) hb
open Go.RowKit Go.Maps
open ValW RdS RdI AnsW
def RowO (w : World) (g n k : Nat) (ls : List An) (ads : Nat → Option Addr × Nat) : Prop :=
 ∃ cs : Array Value, w.heap[g]? = some (.cells cs 61 (0, 0)) ∧ cs.size = n * 5 ∧ ∀ i, i < k →
  cs[i * 5]? = some (.string (nm (ls.getD i an0))) ∧ cs[i * 5 + 1]? = some (.int .i64 (kd (ls.getD i an0))) ∧ cs[i * 5 + 2]? = some (.int .i64 (nu (ls.getD i an0))) ∧ cs[i * 5 + 3]? = some (.slice (ads i).1 (cd (ls.getD i an0)).length (ads i).2) ∧ cs[i * 5 + 4]? = some (.string (tx (ls.getD i an0)))
theorem RowO.lt {w : World} {g n k : Nat} {ls : List An} {ads : Nat → Option Addr × Nat} (h : RowO w g n k ls ads) : g < w.heap.size := by
 obtain ⟨cs, hg, _⟩ := h
 exact blk_lt hg
theorem RowO.room {w : World} {g n k : Nat} {ls : List An} {ads : Nat → Option Addr × Nat} (h : RowO w g n k ls ads) {j : Nat} (hj : j < n * 5) : (∃ v, w.cell? ⟨g, j, none⟩ = some v) ∧ w.frozen? ⟨g, j, none⟩ = false := by
 obtain ⟨cs, hg, hs, _⟩ := h
 refine ⟨⟨cs[j]'(by omega), ?_⟩, by simp [World.frozen?, hg]⟩
 simp [World.cell?, hg, show j < cs.size by omega]
theorem RowO.on {w w' : World} {g n k : Nat} {ls : List An} {ads : Nat → Option Addr × Nat} (h : RowO w g n k ls ads) (hB : Below w.heap.size w w') : RowO w' g n k ls ads := by
 have hl := h.lt
 obtain ⟨cs, hg, hs, hc⟩ := h
 exact ⟨cs, by rw [hB.block g hl]; exact hg, hs, hc⟩
theorem RowO.put {w : World} {g n k : Nat} {ls : List An} {ads : Nat → Option Addr × Nat} (h : RowO w g n k ls ads) (hk : k < n) :
  RowO (put5 w g (k * 5) (.string (nm (ls.getD k an0))) (.int .i64 (kd (ls.getD k an0))) (.int .i64 (nu (ls.getD k an0))) (.slice (ads k).1 (cd (ls.getD k an0)).length (ads k).2) (.string (tx (ls.getD k an0)))) g n (k + 1) ls ads := by
 obtain ⟨cs, hg, hs, hc⟩ := h
 unfold put5
 refine ⟨_, blk_set _ _ _ _ _ _ (blk_set _ _ _ _ _ _ (blk_set _ _ _ _ _ _ (blk_set _ _ _ _ _ _ (blk_set _ _ _ _ _ _ hg)))), by simpa using hs, fun i hi => ?_⟩
 simp only [Array.getElem?_setIfInBounds, Array.size_setIfInBounds]
 by_cases he : i = k
 ·subst he
  refine ⟨?_, ?_, ?_, ?_, ?_⟩
  ·rw [if_neg (by omega), if_neg (by omega), if_neg (by omega), if_neg (by omega), if_pos rfl, if_pos (by omega)]
  ·rw [if_neg (by omega), if_neg (by omega), if_neg (by omega), if_pos rfl, if_pos (by omega)]
  ·rw [if_neg (by omega), if_neg (by omega), if_pos rfl, if_pos (by omega)]
  ·rw [if_neg (by omega), if_pos rfl, if_pos (by omega)]
  ·rw [if_pos rfl, if_pos (by omega)]
 ·obtain ⟨c0, c1, c2, c3, c4⟩ := hc i (by omega)
  refine ⟨?_, ?_, ?_, ?_, ?_⟩
  all_goals
   rw [if_neg (by omega), if_neg (by omega), if_neg (by omega), if_neg (by omega), if_neg (by omega)]
   assumption
theorem RowO.five {w : World} {g n k : Nat} {ls : List An} {ads : Nat → Option Addr × Nat} (h : RowO w g n k ls ads) {i : Nat} (hi : i < k) : Five w g (i * 5) (ls.getD i an0) (ads i).1 (ads i).2 := by
 obtain ⟨cs, hg, hs, hc⟩ := h
 obtain ⟨c0, c1, c2, c3, c4⟩ := hc i hi
 unfold Five
 simp only [World.cell?, hg]
 simp [c0, c1, c2, c3, c4]
def OwnA (w : World) (F g : Nat) (ls : List An) (ads : Nat → Option Addr × Nat) : Prop :=
 RowO w g ls.length ls.length ls ads ∧ (∀ i, i < ls.length → CdO w F (ads i) (cd (ls.getD i an0)) ∧ ∀ b o, (ads i).1 = some ⟨b, o, none⟩ → 0 < (cd (ls.getD i an0)).length → b ≠ g) ∧ Apart ls ads
theorem OwnA.on {w w' : World} {F g : Nat} {ls : List An} {ads : Nat → Option Addr × Nat} (h : OwnA w F g ls ads) (hB : Below w.heap.size w w') : OwnA w' F g ls ads := ⟨h.1.on hB, fun i hi => ⟨(h.2.1 i hi).1.on hB, (h.2.1 i hi).2⟩, h.2.2⟩
theorem good_fit {p : An} (h : good p = true) : Fit p := by
 unfold good at h
 rw [Bool.and_eq_true] at h
 obtain ⟨h1, h3⟩ := h
 have hs20 : (nm p).size ≤ 20 := (of_decide_eq_true h1).2.1
 have hrt : ValM.right (kd p) (nu p) (cd p) (tx p) = true := by unfold ValK.answeredB at h3; simp at h3; exact h3.1
 refine ⟨by omega, ?_⟩
 rcases ValM.kinds hrt with ⟨_, _, _, h⟩ | ⟨_, _, _, _, h⟩ | ⟨_, _, _, _, h⟩ | ⟨_, _, _, h⟩ | ⟨_, _, _, _, h⟩ <;> omega
theorem OwnA.ans {w : World} {F g : Nat} {ls : List An} {ads : Nat → Option Addr × Nat} (h : OwnA w F g ls ads) (hr : rightA ls = true) : Ans w (some ⟨g, 0, none⟩) ls := by
 obtain ⟨h1, _, h3⟩ := right_ris hr
 refine ⟨by omega, fun i hi => good_fit (h3 _ (getD_mem hi)), fun _ => ⟨g, 0, rfl, h.1.lt, fun i hi => ?_⟩⟩
 obtain ⟨⟨k1, _, _, k4⟩, _⟩ := h.2.1 i hi
 refine ⟨(ads i).1, (ads i).2, ?_, k1, k4⟩
 rw [Nat.zero_add]
 exact h.1.five hi
set_option maxRecDepth 10000 in
theorem kept_look {w W : World} {B n F : Nat} {D : DataW Value} {ls : List An} {ads : Nat → Option Addr × Nat} (hM : Mp w B n D) (hK : Kept w F D ls ads) (hW : W.heap[B]? = w.heap[B]?) {i : Nat} (hi : i < ls.length) (hs : (nm (ls.getD i an0)).size ≤ maxLen) :
  (Instr.lookup 93 (.map (some B)) (.string (nm (ls.getD i an0))) false).run Tryz.prog W = .ok (av (kd (ls.getD i an0)) (nu (ls.getD i an0)) (ads i).1 (cd (ls.getD i an0)).length (ads i).2 (tx (ls.getD i an0))) W := by
 have hM2 : Mp W B n D := by
  obtain ⟨es, clock, hb, F, hsz, hD⟩ := hM
  exact ⟨es, clock, by rw [hW]; exact hb, F, hsz, hD⟩
 obtain ⟨v, ps, hrun, hv⟩ := World.ownsMap.lookup hM2 key_law Tryz.underlying93 (zeroV W) (rfl : heldR (av 0 0 none 0 0 ByteArray.empty) = some (.held (av 0 0 none 0 0 ByteArray.empty), [])) (Go.WideMaps.keyOf_string_mk Tryz.underlying9 hs)
 have hv1 := Option.some.inj hv
 injection hv1 with hv2 _
 rw [(hK i hi).1] at hv2
 injection hv2 with hv3
 rw [hrun, hv3]
theorem Tryz.infoStr : (Tryz.prog.info? 9).map (fun i => (i.zero, i.size, i.bytes)) = some (some (.string ⟨#[]⟩), 1, 16) := by kernel_rfl
end Go.Proofs.YtmbhmknfipdadaaGreatDoor.BookW
namespace Go.Proofs.YtmbhmknfipdadaaGreatDoor.AnsW
open Go.RowKit
open ValW NameW RdS RdI BookW
end Go.Proofs.YtmbhmknfipdadaaGreatDoor.AnsW
