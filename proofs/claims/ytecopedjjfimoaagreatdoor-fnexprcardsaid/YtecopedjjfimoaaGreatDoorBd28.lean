/- Texts of ours, laid together: ErpTake, ErpOp, TexSpec. -/
import Derived.Test.YtecopedjjfimoaaGreatDoorBd12
import Derived.Test.YtecopedjjfimoaaGreatDoorBd25
import Derived.Test.YtecopedjjfimoaaGreatDoorBd0
import Derived.Deep.Cut
import Derived.Deep.CutRange
import Derived.Deep.RegionHeld
import Derived.Test.YtecopedjjfimoaaGreatDoorBd13
import Derived.Test.YtecopedjjfimoaaGreatDoorBd23
import Derived.Test.YtecopedjjfimoaaGreatDoorBd21
import Derived.Deep.RegionHeld3
/- The program's reader: pieces that are left. -/
namespace Go.Proofs.YtecopedjjfimoaaGreatDoor.ErpI
open Go.RowKit
open StrW
open FldK (Only only_trans)

/-- the pieces L are left, at P; their row lies below B -/
def Pcs (w : World) (P B : Nat) (L : List Nm) : Prop :=
  ∃ a cap, w.heap[P]? = some (.cells #[.slice a L.length cap] 171 (0, 0)) ∧ Strs w a L ∧ L.length ≤ cap ∧ (∀ g o, a = some ⟨g, o, none⟩ → 0 < L.length → g ≠ P ∧ g < B)
theorem pcs_cells {w : World} {P : Nat} {v : Value} {T : TypeId} (h : w.heap[P]? = some (.cells #[v] T (0, 0))) : w.cell? ⟨P, 0, none⟩ = some v ∧ (∀ j, w.frozen? ⟨P, j, none⟩ = false) ∧ P < w.heap.size :=
  ⟨by simp [World.cell?, h], fun j => by simp [World.frozen?, h], (Array.getElem?_eq_some_iff.1 h).1⟩

theorem take_none (P B : Nat) (w : World) (h : Pcs w P B []) :
    Calls Tryz.prog 133 #[.pointer (some ⟨P, 0, none⟩)] w fun e w' => e = .returned (.string ByteArray.empty) ∧ w' = w := by
  obtain ⟨a, cap, hb, -, -, -⟩ := h
  obtain ⟨c0, hf, hlt⟩ := pcs_cells hb
  simp only [List.length_nil] at c0
  clear hb hf
  go_enter Tryz.func133, Tryz.ntmps133
  go_wp2
  go_ret
  exact ⟨rfl, rfl⟩

set_option maxHeartbeats 400000 in
theorem take_some (P B : Nat) (x : Nm) (L : List Nm) (w : World) (h : Pcs w P B (x :: L)) :
    Calls Tryz.prog 133 #[.pointer (some ⟨P, 0, none⟩)] w fun e w' => e = .returned (encS x) ∧ Pcs w' P B L ∧ Only w w' P := by
  obtain ⟨a, cap, hb, hS, hcap, hne⟩ := h
  obtain ⟨c0, hf, hlt⟩ := pcs_cells hb
  have hl := hS.1
  have hf0 := hf 0
  obtain ⟨b, o, rfl, hbl, hc⟩ := hS.2 (by simp)
  have d0 := hc 0 (by simp)
  obtain ⟨hbP, hbB⟩ := hne b o rfl (by simp)
  simp only [Nat.add_zero, List.getD_cons_zero] at d0
  unfold StrW.encS at d0 ⊢
  simp only [List.length_cons] at c0 hcap hl
  have HS : Hid (Strs w (some ⟨b, o + 1, none⟩) L) := ⟨by omega, fun hp => ⟨b, o + 1, rfl, hbl, fun i hi => by
    have := hc (i + 1) (by simp; omega)
    rw [show o + 1 + i = o + (i + 1) by omega]; simpa using this⟩⟩
  have HB := hid hb
  clear hb hf hS hne hc
  have HO : ∀ v, Hid (Only w (w.setCell ⟨P, 0, none⟩ v) P) := fun v => (Only.refl w P).set 0 v
  have HBS : ∀ v, Hid ((w.setCell ⟨P, 0, none⟩ v).heap[P]? = some (.cells #[v] 171 (0, 0))) := fun v => by
    show _ = _
    rw [PrtW.blk_set _ _ _ _ _ _ HB.out]; simp
  have HSS : ∀ v, Hid (Strs (w.setCell ⟨P, 0, none⟩ v) (some ⟨b, o + 1, none⟩) L) := fun v => by
    refine ⟨HS.out.1, fun hp => ?_⟩
    obtain ⟨b1, o1, ha, hb1, hc1⟩ := HS.out.2 hp
    cases ha
    exact ⟨b, o + 1, rfl, by simpa using hb1, fun i hi => by rw [World.cell?_of_block (w := w) (Below.heap_setCell _ _ _ _ hbP)]; exact hc1 i hi⟩
  rcases (by omega : cap = 1 ∨ 1 < cap) with rfl | hcp
  · obtain rfl : L = [] := List.length_eq_zero_iff.1 (by omega)
    go_enter Tryz.func133, Tryz.ntmps133
    go_wp2
    go_ret
    exact ⟨rfl, ⟨_, 0, (HBS _).out, Strs.nil _ _, Nat.le_refl _, fun g o _ h => absurd h (by simp)⟩, (HO _).out⟩
  · go_enter Tryz.func133, Tryz.ntmps133
    go_wp2
    go_ret
    exact ⟨rfl, ⟨_, cap - 1, (HBS _).out, (HSS _).out, by omega, fun g o e _ => by cases e; exact ⟨hbP, hbB⟩⟩, (HO _).out⟩

/-- the next piece is taken: the empty text at the end -/
theorem take_in (P B : Nat) (L : List Nm) (w : World) (h : Pcs w P B L) :
    Calls Tryz.prog 133 #[.pointer (some ⟨P, 0, none⟩)] w fun e w' => e = .returned (encS (L.headD [])) ∧ Pcs w' P B L.tail ∧ Only w w' P := by
  cases L with
  | nil => exact (take_none P B w h).mono fun e w' ⟨h1, h2⟩ => by subst h2; exact ⟨h1, h, Only.refl _ _⟩
  | cons x L => exact take_some P B x L w h

/-- is this the next piece? -/
def nextB (L : List Nm) (u : Nm) : Bool := match L with
  | [] => false
  | x :: _ => decide (x = u)
set_option maxHeartbeats 400000 in
theorem next_in (P B : Nat) (L : List Nm) (u : ByteArray) (w : World) (h : Pcs w P B L) :
    Calls Tryz.prog 134 #[.pointer (some ⟨P, 0, none⟩), .string u] w fun e w' => e = .returned (.bool (nextB L u.data.toList)) ∧ w' = w := by
  obtain ⟨a, cap, hb, hS, hcap, hne⟩ := h
  obtain ⟨c0, hf, hlt⟩ := pcs_cells hb
  clear hb hf hne
  cases L with
  | nil =>
    simp only [List.length_nil] at c0
    unfold nextB
    simp only
    go_enter Tryz.func134, Tryz.ntmps134
    go_wp2
    go_ret
    exact ⟨rfl, rfl⟩
  | cons x L =>
    have hl := hS.1
    obtain ⟨b, o, rfl, hbl, hc⟩ := hS.2 (by simp)
    have d0 := hc 0 (by simp)
    simp only [Nat.add_zero, List.getD_cons_zero] at d0
    unfold StrW.encS at d0
    simp only [List.length_cons] at c0 hcap hl
    obtain ⟨y, hy⟩ : ∃ y : ByteArray, (⟨x.toArray⟩ : ByteArray) = y := ⟨_, rfl⟩
    have hxy : x = y.data.toList := by rw [← hy]
    rw [hy] at d0
    unfold nextB
    simp only
    have he : (y.toList == u.toList) = decide (x = u.data.toList) := by
      rw [BytM.toList_eq, BytM.toList_eq, hxy]; exact (Bool.eq_iff_iff.2 (by simp))
    obtain ⟨r, hr⟩ : ∃ r, decide (x = u.data.toList) = r := ⟨_, rfl⟩
    rw [hr] at he ⊢
    clear hS hc hy hxy hr
    go_enter Tryz.func134, Tryz.ntmps134
    go_wp2
    go_ret
    exact ⟨rfl, rfl⟩
theorem Pcs.on {w w' : World} {P B : Nat} {L : List Nm} (h : Pcs w P B L) (hB : Below w.heap.size w w') : Pcs w' P B L := by
  obtain ⟨a, cap, h1, h2, h3, h4⟩ := h
  exact ⟨a, cap, by rw [hB.block _ (pcs_cells h1).2.2]; exact h1, h2.on hB, h3, h4⟩
theorem Pcs.set {w : World} {P B : Nat} {L : List Nm} (h : Pcs w P B L) {k : Nat} (hk : B ≤ k) (hP : P ≠ k) (j : Nat) (v : Value) : Pcs (w.setCell ⟨k, j, none⟩ v) P B L := by
  obtain ⟨a, cap, h1, h2, h3, h4⟩ := h
  refine ⟨a, cap, by rw [Below.heap_setCell _ _ _ _ hP]; exact h1, ⟨h2.1, fun hp => ?_⟩, h3, h4⟩
  obtain ⟨b, o, rfl, hb, hc⟩ := h2.2 hp
  have := h4 b o rfl hp
  exact ⟨b, o, rfl, by simpa using hb, fun i hi => by rw [World.cell?_of_block (w := w) (Below.heap_setCell _ _ _ _ (show b ≠ k by omega))]; exact hc i hi⟩
end Go.Proofs.YtecopedjjfimoaaGreatDoor.ErpI
/- The program's reader: marks, and the op of a sign. -/
namespace Go.Proofs.YtecopedjjfimoaaGreatDoor.ErpI
open Go.RowKit
open PrtI PrtW

def markB (r : Int) : Bool := decide (r = 40 ∨ r = 41 ∨ r = 33 ∨ r = 44 ∨ r = 32)
theorem is_mark (r : Int) (w : World) : Calls Tryz.prog 164 #[.int .i32 r] w fun e w' => e = .returned (.bool (markB r)) ∧ w' = w := by
  unfold markB
  by_cases h1 : r = 40
  · subst h1
    go_enter Tryz.func164, Tryz.ntmps164
    go_wp2
    go_ret
    exact ⟨rfl, rfl⟩
  by_cases h2 : r = 41
  · subst h2
    go_enter Tryz.func164, Tryz.ntmps164
    go_wp2
    go_ret
    exact ⟨rfl, rfl⟩
  by_cases h3 : r = 33
  · subst h3
    go_enter Tryz.func164, Tryz.ntmps164
    go_wp2
    go_ret
    exact ⟨rfl, rfl⟩
  by_cases h4 : r = 44
  · subst h4
    go_enter Tryz.func164, Tryz.ntmps164
    go_wp2
    go_ret
    exact ⟨rfl, rfl⟩
  by_cases h5 : r = 32
  · subst h5
    go_enter Tryz.func164, Tryz.ntmps164
    go_wp2
    go_ret
    exact ⟨rfl, rfl⟩
  rw [decide_eq_false (by omega)]
  have k1 : (r == 40) = false := by simp [h1]
  have k2 : (r == 41) = false := by simp [h2]
  have k3 : (r == 33) = false := by simp [h3]
  have k4 : (r == 44) = false := by simp [h4]
  have k5 : (r == 32) = false := by simp [h5]
  clear h1 h2 h3 h4 h5
  go_enter Tryz.func164, Tryz.ntmps164
  go_wp2
  go_ret
  exact ⟨rfl, rfl⟩

/-- the op of a sign, looked for from k up to 10 -/
def opFrom (u : List UInt8) : Nat → Nat → Nat
  | 0, _ => 0
  | f + 1, k => if signL k = u then k else opFrom u f (k + 1)
def opM (u : List UInt8) : Nat := opFrom u 8 3
theorem op_step {u : List UInt8} {k : Nat} (h : k ≤ 10) : opFrom u (11 - k) k = if signL k = u then k else opFrom u (11 - (k + 1)) (k + 1) := by
  rw [show 11 - k = (11 - (k + 1)) + 1 by omega]; rfl

set_option maxRecDepth 10000 in
set_option maxHeartbeats 1600000 in
theorem op_of (u : ByteArray) (w : World) (hE : EnvS w) :
    Calls Tryz.prog 137 #[.string u] w fun e w' => e = .returned (.int .i64 (opM u.data.toList)) ∧ Below w.heap.size w w' := by
  obtain ⟨G, hG⟩ : ∃ G, Hid (opM u.data.toList = G) := ⟨_, rfl⟩
  rw [hG.out]
  have HE := hid hE
  have hg := hE.1
  clear hE
  go_enter Tryz.func137, Tryz.ntmps137
  go_wp2_with fail
  go_loopw [3] (fun op wr => ∃ k : Nat, op = .int .i64 k ∧ 3 ≤ k ∧ k ≤ 11 ∧ Hid (opFrom u.data.toList (11 - k) k = G) ∧ w = wr) (fun op _ => (11 - intOf op).toNat)
  case atStart => exact ⟨3, rfl, by omega, by omega, hG, rfl⟩
  case round =>
    obtain ⟨k, rfl, hk3, hk11, hS, rfl⟩ := hrel
    by_cases hk : k ≤ 10
    · have hst := hS.out
      rw [op_step hk] at hst
      have HST := hid hst
      obtain ⟨-, -, -, -, -, -, c6⟩ := HE.out.2 k (by omega)
      obtain ⟨y, hy⟩ : ∃ y, Hid (signF k = y) := ⟨_, rfl⟩
      rw [hy.out] at c6
      have hk' : (k : Int) ≤ 10 := by omega
      have hyl : y.data.toList = signL k := by rw [← hy.out]; simp [signF]
      have he : (y.toList == u.toList) = decide (signL k = u.data.toList) := by
        rw [BytM.toList_eq, BytM.toList_eq, hyl]; exact (Bool.eq_iff_iff.2 (by simp))
      clear hst hS hyl hy
      by_cases q : signL k = u.data.toList
      · rw [if_pos q] at HST
        rw [decide_eq_true q] at he
        obtain rfl := HST.out
        clear q
        go_wp2_with fail
        go_ret
        exact ⟨rfl, Below.refl _ _⟩
      · rw [if_neg q] at HST
        rw [decide_eq_false q] at he
        clear q
        go_wp2_with fail
        refine ⟨⟨k + 1, by go_num, by omega, by omega, HST, trivial⟩, by simp [intOf]; omega⟩
    · obtain rfl : k = 11 := by omega
      have hst : 0 = G := hS.out
      subst hst
      go_wp2_with fail
      go_ret
      exact ⟨rfl, Below.refl _ _⟩
end Go.Proofs.YtecopedjjfimoaaGreatDoor.ErpI
/- The model's text of an expression. -/
namespace Go.Proofs.YtecopedjjfimoaaGreatDoor.TexS
open Go.RowKit
open PrtW PrtM NameW PrtS PrtI DecM TexM

theorem ret_str {a b : ByteArray} (h : a = b) : Ending.returned (.string a) = .returned (.string b) := by rw [h]
theorem tup_str {a b : ByteArray} {v : Value} (h : a = b) : Ending.returned (.tuple #[.string a, v]) = .returned (.tuple #[.string b, v]) := by rw [h]
set_option maxHeartbeats 400000 in
theorem spec_sign (k : Nat) (w : World) (h1 : 3 ≤ k) (h2 : k ≤ 10) :
    Calls Tryz.prog 103 #[.int .i64 k] w fun e w' => e = .returned (.string (signF k)) ∧ Below w.heap.size w w' := by
  rcases (by omega : k = 3 ∨ k = 4 ∨ k = 5 ∨ k = 6 ∨ k = 7 ∨ k = 8 ∨ k = 9 ∨ k = 10) with rfl | rfl | rfl | rfl | rfl | rfl | rfl | rfl
  all_goals
    go_enter Tryz.func103, Tryz.ntmps103
    go_wp2
    go_ret
    exact ⟨rfl, by go_grown⟩

theorem below_one (w : World) (o : Obj) : Below w.heap.size w (w.alloc o) := (Below.refl _ _).alloc (Nat.le_refl _) o

set_option maxRecDepth 10000 in
set_option maxHeartbeats 3200000 in
theorem spec_txt (a : Option Addr) (cap : Nat) (ps : List Pt) (hlen : ps.length ≤ 20) : ∀ (d : Nat) (k : Nat) (r : List Pt) (w : World), k ≤ ps.length → behind d (ps.drop k) = some r → Parts w a ps →
    Calls Tryz.prog 72 #[.slice a ps.length cap, .int .i64 k] w fun e w' => e = .returned (.tuple #[.string ⟨(txt d (ps.drop k)).toArray⟩, .int .i64 ((ps.length - r.length : Nat) : Int)]) ∧ Below w.heap.size w w' := by
  intro d
  induction d with
  | zero => intro k r w hk h; cases h
  | succ d ih =>
    intro k r w hk hbd hP
    have HI := hid ih
    have HP := hid hP
    clear ih hP
    have hlt : k < ps.length := by
      rcases Nat.lt_or_ge k ps.length with h | h
      · exact h
      · rw [List.drop_of_length_le h] at hbd; cases hbd
    obtain ⟨b, o, x, n, t, rfl, hb, hg, hf, c0, c1, c2⟩ := parts_at HP.out hlt
    rw [drop_at ps k hlt, hg] at hbd ⊢
    obtain ⟨hp, hcs⟩ := behind_cases hbd
    have htl := txt_len _ _ _ hbd
    have hsz := part_size hp
    have hdl : (ps.drop (k + 1)).length = ps.length - (k + 1) := List.length_drop
    obtain ⟨T, hT⟩ : ∃ T : ByteArray, Hid ((⟨(txt (d + 1) ((x, n, t) :: ps.drop (k + 1))).toArray⟩ : ByteArray) = T) := ⟨_, rfl⟩
    rw [hT.out]
    clear hg htl
    have hin := part_in hp
    have HPB := hid hp
    clear hp hf
    rcases hcs with ⟨h0, rfl⟩ | ⟨h0, hb1⟩ | ⟨h0, r1, hb1, hb2⟩
    · have hlf : Hid (T = ⟨(leafL (x, n, t)).toArray⟩) := by
        show _ = _
        rw [← hT.out, txt_succ, if_pos h0]
      have hend : Hid (ps.length - (ps.drop (k + 1)).length = k + 1) := by show _ = _; omega
      rw [hend.out]
      rcases leaf_op HPB.out h0 with e | e | e | e <;> simp only at e <;> subst e
      · have hn := part_num HPB.out
        clear hdl hbd h0
        go_enter Tryz.func72, Tryz.ntmps72
        go_wp2_with fail
        refine (DecS.dec3_in n _ (by omega) (by omega)).mono ?_
        rintro e w1 ⟨rfl, hB1⟩
        have HB1 : Hid (Below w.heap.size w w1) := (below_one w _).trans (hB1.mono (by simp))
        rw [show (⟨(Lib.itoa n).toArray⟩ : ByteArray) = T from hlf.out.symm]
        clear hB1 c0 c1 c2
        go_wp2_with fail
        go_ret2
        exact ⟨rfl, HB1.out⟩
      · clear hdl hbd h0
        go_enter Tryz.func72, Tryz.ntmps72
        go_wp2_with fail
        go_ret2
        exact ⟨tup_str (by rw [hlf.out]; exact (eq_mk rfl)), by go_grown⟩
      · have hn := part_has HPB.out
        clear hdl hbd h0
        go_enter Tryz.func72, Tryz.ntmps72
        go_wp2_with fail
        obtain ⟨D, hD⟩ : ∃ D : ByteArray, Hid ((⟨(Lib.decDigits n.toNat).toArray⟩ : ByteArray) = D) := ⟨_, rfl⟩
        have hDs : D.size ≤ 19 := by
          rw [← hD.out, size_len, data_mk]
          exact dec_len19 (by omega)
        have HW : Hid (Below w.heap.size w (w.alloc (.cells #[.int .i64 12, .int .i64 n, .string t] 99))) := below_one w _
        have k1 : (w.alloc (.cells #[.int .i64 12, .int .i64 n, .string t] 99)).cell? ⟨w.heap.size, 1, none⟩ = some (.int .i64 n) := by go_simp
        have k2 : (w.alloc (.cells #[.int .i64 12, .int .i64 n, .string t] 99)).cell? ⟨w.heap.size, 2, none⟩ = some (.string t) := by go_simp
        have hg : w.heap.size < (w.alloc (.cells #[.int .i64 12, .int .i64 n, .string t] 99)).heap.size := by simp
        clear c0 c1 c2
        generalize w.alloc (.cells #[.int .i64 12, .int .i64 n, .string t] 99) = W1 at *
        generalize hgg : w.heap.size = g at *
        have HGG := hid hgg
        clear hgg
        have hB0 : Below W1.heap.size W1 W1.drew := (Below.refl _ _).drew
        have q1 : ¬ 9223372036854775807 < 4 + t.size := by omega
        have q2 : ¬ 9223372036854775807 < 4 + t.size + 1 := by omega
        have q3 : ¬ 9223372036854775807 < 4 + t.size + 1 + D.size := by omega
        have q4 : ¬ 9223372036854775807 < 4 + t.size + 1 + D.size + 1 := by omega
        refine wp_region_held_drew (S := (fun w' => Below W1.heap.size W1 w' ∧ w'.cell? ⟨g, 1, none⟩ = some (.int .i64 n) ∧ w'.cell? ⟨g, 2, none⟩ = some (.string t))) (by kernel_rfl) ?_ (fun hHeld => ?_)
        · (try dsimp only) <;> (first | exact ⟨hBn, (hBn.cell (p := ⟨g, 1, none⟩) hg).trans k1, (hBn.cell (p := ⟨g, 2, none⟩) hg).trans k2⟩ | exact ⟨hB0, k1, k2⟩)
        refine wpAnyH_take (i := 0) (oi := { dst := some 34, op := Go.Op.fieldAddr 99 (Go.Operand.tmp 6) 2, type := 0, pos := "l04_expr.go:72", after := #[], guard := none }) (v := ?_) rfl (by kernel_rfl) (by kernel_rfl) (by kernel_rfl) (fun _ _ _ h => h) (Or.inl ⟨by rfl, ?yld40⟩) hHeld ?nxt40
        case yld40 => (intro w hSw; (try dsimp only at hSw); go_simp) <;> with_reducible rfl
        (try simp only [Act.put, List.setIfInBounds_toArray, List.set_cons_zero, List.set_cons_succ])
        refine wpAnyH_take (i := 1) (oi := { dst := some 35, op := Go.Op.load 9 (Go.Operand.tmp 34), type := 9, pos := "l04_expr.go:72", after := #[{ on := 0, ground := Go.Ground.data }], guard := none }) (v := ?_) rfl (by kernel_rfl) (by kernel_rfl) (by kernel_rfl) (fun _ _ _ h => h) (Or.inl ⟨by rfl, ?yld41⟩) hHeld ?nxt41
        case yld41 => (intro w hSw; (try dsimp only at hSw); go_simp) <;> with_reducible rfl
        (try simp only [Act.put, List.setIfInBounds_toArray, List.set_cons_zero, List.set_cons_succ])
        refine wpAnyH_take (i := 2) (oi := { dst := some 36, op := Go.Op.binOp Go.BinOp.add 9 (Go.Operand.const (Go.Value.string { data := #[104, 97, 115, 40] })) (Go.Operand.tmp 35) 9, type := 9, pos := "l04_expr.go:72", after := #[{ on := 1, ground := Go.Ground.data }], guard := none }) (v := ?_) rfl (by kernel_rfl) (by kernel_rfl) (by kernel_rfl) (fun _ _ _ h => h) (Or.inl ⟨by rfl, ?yld42⟩) hHeld ?nxt42
        case yld42 => (intro w hSw; (try dsimp only at hSw); go_simp) <;> with_reducible rfl
        (try simp only [Act.put, List.setIfInBounds_toArray, List.set_cons_zero, List.set_cons_succ])
        refine wpAnyH_take (i := 3) (oi := { dst := some 37, op := Go.Op.binOp Go.BinOp.add 9 (Go.Operand.tmp 36) (Go.Operand.const (Go.Value.string { data := #[44] })) 9, type := 9, pos := "l04_expr.go:72", after := #[{ on := 2, ground := Go.Ground.data }], guard := none }) (v := ?_) rfl (by kernel_rfl) (by kernel_rfl) (by kernel_rfl) (fun _ _ _ h => h) (Or.inl ⟨by rfl, ?yld43⟩) hHeld ?nxt43
        case yld43 => (intro w hSw; (try dsimp only at hSw); go_simp) <;> with_reducible rfl
        (try simp only [Act.put, List.setIfInBounds_toArray, List.set_cons_zero, List.set_cons_succ])
        refine wpAnyH_take (i := 4) (oi := { dst := some 38, op := Go.Op.fieldAddr 99 (Go.Operand.tmp 6) 1, type := 0, pos := "l04_expr.go:72", after := #[], guard := none }) (v := ?_) rfl (by kernel_rfl) (by kernel_rfl) (by kernel_rfl) (fun _ _ _ h => h) (Or.inl ⟨by rfl, ?yld44⟩) hHeld ?nxt44
        case yld44 => (intro w hSw; (try dsimp only at hSw); go_simp) <;> with_reducible rfl
        (try simp only [Act.put, List.setIfInBounds_toArray, List.set_cons_zero, List.set_cons_succ])
        refine wpAnyH_take (i := 5) (oi := { dst := some 39, op := Go.Op.load 2 (Go.Operand.tmp 38), type := 2, pos := "l04_expr.go:72", after := #[{ on := 4, ground := Go.Ground.data }], guard := none }) (v := ?_) rfl (by kernel_rfl) (by kernel_rfl) (by kernel_rfl) (fun _ _ _ h => h) (Or.inl ⟨by rfl, ?yld45⟩) hHeld ?nxt45
        case yld45 => (intro w hSw; (try dsimp only at hSw); go_simp) <;> with_reducible rfl
        (try simp only [Act.put, List.setIfInBounds_toArray, List.set_cons_zero, List.set_cons_succ])
        refine wpAnyH_take (i := 9) (oi := { dst := some 43, op := Go.Op.move (Go.Operand.tmp 1), type := 3, pos := "l04_expr.go:72", after := #[{ on := 10, ground := Go.Ground.gcOnly Go.Departure.lateStores }], guard := none }) (v := ?_) rfl (by kernel_rfl) (by kernel_rfl) (by kernel_rfl) (fun _ _ _ h => h) (Or.inl ⟨by rfl, ?yld46⟩) hHeld ?nxt46
        case yld46 => (intro w hSw; (try dsimp only at hSw); go_simp) <;> with_reducible rfl
        (try simp only [Act.put, List.setIfInBounds_toArray, List.set_cons_zero, List.set_cons_succ])
        refine wpAnyH_ready (rs := [6]) (by kernel_rfl) (by simp) ?_
        refine AllReadyH.cons (o := { dst := some 40, op := Go.Op.call { callee := Go.Callee.value (Go.Operand.func 94), args := #[Go.Operand.tmp 39], argTypes := #[2] }, type := 9, pos := "l04_expr.go:72", after := #[{ on := 5, ground := Go.Ground.data }], guard := none }) rfl (fun K hK => ?_) AllReadyH.nil
        go_simp
        go_at_call 94
        have hp := hHeld.1
        refine (DecS.dec_in n _ (by omega) (by omega)).mono ?_
        rintro e w' ⟨rfl, hB⟩
        rw [hD.out]
        have hBn := hp.trans (hB.mono hp.size)
        clear hp hB
        (try go_wp2_with fail)
        refine hK.out _ _ ?_ (fun hHeld2 => ?_)
        · (try dsimp only) <;> (first | exact ⟨hBn, (hBn.cell (p := ⟨g, 1, none⟩) hg).trans k1, (hBn.cell (p := ⟨g, 2, none⟩) hg).trans k2⟩ | exact ⟨hB0, k1, k2⟩)
        clear hK K hHeld
        have hHeld := hHeld2
        clear hHeld2
        (try simp only [Act.put, List.setIfInBounds_toArray, List.set_cons_zero, List.set_cons_succ])
        refine wpAnyH_take (i := 7) (oi := { dst := some 41, op := Go.Op.binOp Go.BinOp.add 9 (Go.Operand.tmp 37) (Go.Operand.tmp 40) 9, type := 9, pos := "l04_expr.go:72", after := #[{ on := 3, ground := Go.Ground.data }, { on := 6, ground := Go.Ground.data }], guard := none }) (v := ?_) rfl (by kernel_rfl) (by kernel_rfl) (by kernel_rfl) (fun _ _ _ h => h) (Or.inl ⟨by rfl, ?yld47⟩) hHeld ?nxt47
        case yld47 => (intro w hSw; (try dsimp only at hSw); go_simp) <;> with_reducible rfl
        (try simp only [Act.put, List.setIfInBounds_toArray, List.set_cons_zero, List.set_cons_succ])
        refine wpAnyH_take (i := 8) (oi := { dst := some 42, op := Go.Op.binOp Go.BinOp.add 9 (Go.Operand.tmp 41) (Go.Operand.const (Go.Value.string { data := #[41] })) 9, type := 9, pos := "l04_expr.go:72", after := #[{ on := 7, ground := Go.Ground.data }], guard := none }) (v := ?_) rfl (by kernel_rfl) (by kernel_rfl) (by kernel_rfl) (fun _ _ _ h => h) (Or.inl ⟨by rfl, ?yld48⟩) hHeld ?nxt48
        case yld48 => (intro w hSw; (try dsimp only at hSw); go_simp) <;> with_reducible rfl
        (try simp only [Act.put, List.setIfInBounds_toArray, List.set_cons_zero, List.set_cons_succ])
        refine wpAnyH_take (i := 10) (oi := { dst := some 4, op := Go.Op.assign (Go.Operand.tmp 42), type := 9, pos := "l04_expr.go:72", after := #[{ on := 8, ground := Go.Ground.data }, { on := 6, ground := Go.Ground.chain }, { on := 0, ground := Go.Ground.phase }, { on := 1, ground := Go.Ground.phase }, { on := 2, ground := Go.Ground.phase }, { on := 3, ground := Go.Ground.phase }, { on := 4, ground := Go.Ground.phase }, { on := 5, ground := Go.Ground.phase }, { on := 6, ground := Go.Ground.phase }, { on := 7, ground := Go.Ground.phase }, { on := 8, ground := Go.Ground.phase }, { on := 9, ground := Go.Ground.textOnly Go.Departure.lateStores }], guard := none }) (v := ?_) rfl (by kernel_rfl) (by kernel_rfl) (by kernel_rfl) (fun _ _ _ h => h) (Or.inl ⟨by rfl, ?yld49⟩) hHeld ?nxt49
        case yld49 => (intro w hSw; (try dsimp only at hSw); go_simp) <;> with_reducible rfl
        (try simp only [Act.put, List.setIfInBounds_toArray, List.set_cons_zero, List.set_cons_succ])
        refine wpAnyH_take (i := 11) (oi := { dst := some 5, op := Go.Op.assign (Go.Operand.tmp 43), type := 3, pos := "l04_expr.go:72", after := #[{ on := 9, ground := Go.Ground.data }, { on := 10, ground := Go.Ground.chain }, { on := 0, ground := Go.Ground.phase }, { on := 1, ground := Go.Ground.phase }, { on := 2, ground := Go.Ground.phase }, { on := 3, ground := Go.Ground.phase }, { on := 4, ground := Go.Ground.phase }, { on := 5, ground := Go.Ground.phase }, { on := 6, ground := Go.Ground.phase }, { on := 7, ground := Go.Ground.phase }, { on := 8, ground := Go.Ground.phase }, { on := 9, ground := Go.Ground.phase }, { on := 10, ground := Go.Ground.phase }], guard := none }) (v := ?_) rfl (by kernel_rfl) (by kernel_rfl) (by kernel_rfl) (fun _ _ _ h => h) (Or.inl ⟨by rfl, ?yld50⟩) hHeld ?nxt50
        case yld50 => (intro w hSw; (try dsimp only at hSw); go_simp) <;> with_reducible rfl
        (try simp only [Act.put, List.setIfInBounds_toArray, List.set_cons_zero, List.set_cons_succ])
        refine wpAnyH_done (by kernel_rfl) ?_ _
        have HBL := hid hHeld.1
        clear hHeld hB0
        go_wp2_with fail
        go_ret2
        refine ⟨tup_str ?_, ?_⟩
        · rw [hlf.out]
          apply eq_mk
          rw [data_add, data_add, data_add, data_add, ← hD.out, data_mk]
          simp [leafL]
        · have hb2 := HW.out
          rw [HGG.out]
          exact hb2.trans (HBL.out.mono (Nat.le_of_lt hg))
      · clear hdl hbd h0
        go_enter Tryz.func72, Tryz.ntmps72
        go_wp2_with fail
        go_ret2
        refine ⟨tup_str ?_, by go_grown⟩
        rw [hlf.out]
        apply eq_mk
        rw [data_add, data_add]
        simp [leafL]
    · have hx : x = 11 := many_one h0
      subst hx
      obtain ⟨s, hs⟩ : ∃ s : ByteArray, Hid ((⟨(txt d (ps.drop (k + 1))).toArray⟩ : ByteArray) = s) := ⟨_, rfl⟩
      have hsl : s.size ≤ 800 := by
        have h1 := txt_len _ _ _ hb1
        rw [← hs.out, size_len, data_mk]
        omega
      have hfin : Hid ((⟨#[33]⟩ : ByteArray) ++ s = T) := by
        show _ = _
        rw [← hT.out]
        apply eq_mk
        rw [data_add, ← hs.out, data_mk]
        rw [txt_one]
        rfl
      have HB1 := hid hb1
      have hk1 : k + 1 ≤ ps.length := hlt
      clear hbd hb1 hdl h0
      go_enter Tryz.func72, Tryz.ntmps72
      go_wp2_with fail
      refine (HI.out (k + 1) r _ hk1 HB1.out (HP.out.alloc _)).mono ?_
      rintro e w2 ⟨rfl, hB2⟩
      have HB2 : Hid (Below w.heap.size w w2) := (below_one w _).trans (hB2.mono (by simp))
      rw [hs.out]
      clear hB2 c0 c1 c2 HI
      go_wp2_with fail
      go_ret2
      exact ⟨tup_str hfin.out, HB2.out⟩
    · have hx := many_two h0
      obtain ⟨j, rfl⟩ : ∃ j : Nat, x = j := ⟨x.toNat, by omega⟩
      obtain ⟨s1, hs1⟩ : ∃ s : ByteArray, Hid ((⟨(txt d (ps.drop (k + 1))).toArray⟩ : ByteArray) = s) := ⟨_, rfl⟩
      obtain ⟨s2, hs2⟩ : ∃ s : ByteArray, Hid ((⟨(txt d r1).toArray⟩ : ByteArray) = s) := ⟨_, rfl⟩
      obtain ⟨sg, hsg⟩ : ∃ s : ByteArray, Hid (signF j = s) := ⟨_, rfl⟩
      have hr1 := (behind_suffix _ _ _ hb1)
      have hsuf : r1 <:+ ps := hr1.1.trans (List.drop_suffix _ _)
      have hdr := suffix_drop hsuf
      have hll := hsuf.length_le
      have hsl1 : s1.size ≤ 800 := by
        have h1 := txt_len _ _ _ hb1
        rw [← hs1.out, size_len, data_mk]
        omega
      have hsl2 : s2.size ≤ 800 := by
        have h1 := txt_len _ _ _ hb2
        rw [← hs2.out, size_len, data_mk]
        omega
      have hsgl : sg.size ≤ 2 := by
        rw [← hsg.out, size_len]
        exact sign_len j
      have hfin : Hid ((⟨#[40]⟩ : ByteArray) ++ s1 ++ ⟨#[32]⟩ ++ sg ++ ⟨#[32]⟩ ++ s2 ++ ⟨#[41]⟩ = T) := by
        show _ = _
        rw [← hT.out]
        apply eq_mk
        rw [data_add, data_add, data_add, data_add, data_add, data_add, ← hs1.out, ← hs2.out, ← hsg.out, data_mk, data_mk, txt_succ, if_neg (by rw [h0]; decide), if_neg (by rw [h0]; decide)]
        rw [show rest d (ps.drop (k + 1)) = r1 by unfold rest; rw [hb1]; rfl]
        simp [signF]
      have HB1 := hid hb1
      have HB2 := hid hb2
      have HDR := hid hdr
      have hk1 : k + 1 ≤ ps.length := hlt
      obtain ⟨k1, hk1'⟩ : ∃ k1, k1 = ps.length - r1.length := ⟨_, rfl⟩
      rw [← hk1'] at HDR
      have HK1 := hid hk1'
      have hk1l : k1 ≤ ps.length := by omega
      have e1 : (((j : Nat) : Int) == 1) = false := by rw [beq_eq_false_iff_ne]; omega
      have e2 : (((j : Nat) : Int) == 2) = false := by rw [beq_eq_false_iff_ne]; omega
      have e3 : (((j : Nat) : Int) == 12) = false := by rw [beq_eq_false_iff_ne]; omega
      have e4 : (((j : Nat) : Int) == 13) = false := by rw [beq_eq_false_iff_ne]; omega
      have e5 : (((j : Nat) : Int) == 11) = false := by rw [beq_eq_false_iff_ne]; omega
      clear hbd hb1 hb2 hdl h0 hr1 hsuf hdr hk1' hin
      go_enter Tryz.func72, Tryz.ntmps72
      go_wp2_with fail
      refine (HI.out (k + 1) r1 _ hk1 HB1.out (HP.out.alloc _)).mono ?_
      rintro e w2 ⟨rfl, hB2⟩
      have HBL2 : Hid (Below w.heap.size w w2) := (below_one w _).trans (hB2.mono (by simp))
      have k0 : w2.cell? ⟨w.heap.size, 0, none⟩ = some (.int .i64 j) := by
        rw [hB2.cell (p := ⟨w.heap.size, 0, none⟩) (by simp)]
        go_simp
      have hgl : w.heap.size < w2.heap.size := by have := hB2.size; simp at this; omega
      rw [hs1.out, ← HK1.out]
      clear hB2 c0 c1 c2
      go_wp2_with fail
      refine (HI.out k1 r w2 hk1l (by rw [HDR.out]; exact HB2.out) (HP.out.on HBL2.out)).mono ?_
      rintro e w3 ⟨rfl, hB3⟩
      have HBL3 : Hid (Below w.heap.size w w3) := HBL2.out.trans (hB3.mono HBL2.out.size)
      rw [← hB3.cell (p := ⟨w.heap.size, 0, none⟩) hgl] at k0
      rw [HDR.out, hs2.out]
      clear hB3 HI
      go_wp2_with fail
      refine (spec_sign j w3 (by omega) (by omega)).mono ?_
      rintro e w4 ⟨rfl, hB4⟩
      have HBL4 : Hid (Below w.heap.size w w4) := HBL3.out.trans (hB4.mono HBL3.out.size)
      rw [hsg.out]
      clear hB4 k0
      go_wp2_with fail
      go_ret2
      exact ⟨tup_str hfin.out, HBL4.out⟩

set_option maxHeartbeats 800000 in
theorem spec_text (a : Option Addr) (cap : Nat) (ps : List Pt) (w : World) (hP : Parts w a ps) :
    Calls Tryz.prog 30 #[.slice a ps.length cap] w fun e w' => e = .returned (.string (textB ps)) ∧ Below w.heap.size w w' := by
  have hl := hP.1
  have HP := hid hP
  clear hP
  unfold textB
  obtain ⟨r, hr⟩ : ∃ r, Hid (rightB ps = r) := ⟨_, rfl⟩
  rw [hr.out]
  cases r
  · rw [if_neg (by decide)]
    by_cases h4 : 400 < ps.length
    · go_enter Tryz.func30, Tryz.ntmps30
      go_wp2_with fail
      go_ret
      exact ⟨rfl, Below.refl _ _⟩
    · go_enter Tryz.func30, Tryz.ntmps30
      go_wp2_with fail
      refine (spec_right a cap ps w HP.out).mono ?_
      rintro e w1 ⟨rfl, hB⟩
      rw [hr.out]
      have HB := hid hB
      clear hB
      go_wp2_with fail
      go_ret
      exact ⟨rfl, HB.out⟩
  · rw [if_pos rfl]
    obtain ⟨h20, hbd⟩ := right_behind hr.out
    obtain ⟨T, hT⟩ : ∃ T : ByteArray, Hid ((⟨(txt 6 ps).toArray⟩ : ByteArray) = T) := ⟨_, rfl⟩
    rw [hT.out]
    have HBD := hid hbd
    clear hbd
    go_enter Tryz.func30, Tryz.ntmps30
    go_wp2_with fail
    refine (spec_right a cap ps w HP.out).mono ?_
    rintro e w1 ⟨rfl, hB⟩
    rw [hr.out]
    have HB := hid hB
    have HP1 := hid (HP.out.on hB)
    clear hB
    go_wp2_with fail
    refine (spec_txt a cap ps h20 6 0 [] w1 (Nat.zero_le _) (by rw [List.drop_zero]; exact HBD.out) HP1.out).mono ?_
    rintro e w2 ⟨rfl, hB2⟩
    have HB2 : Hid (Below w.heap.size w w2) := HB.out.trans (hB2.mono HB.out.size)
    rw [List.drop_zero, hT.out]
    clear hB2
    go_wp2_with fail
    go_ret
    exact ⟨rfl, HB2.out⟩
end Go.Proofs.YtecopedjjfimoaaGreatDoor.TexS
