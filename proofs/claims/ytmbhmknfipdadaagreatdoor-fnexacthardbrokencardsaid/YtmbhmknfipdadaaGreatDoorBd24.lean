/- Texts of ours, laid together. -/
import Derived.Test.YtmbhmknfipdadaaGreatDoorBd15
import Derived.Test.YtmbhmknfipdadaaGreatDoorBd10
import Derived.Test.YtmbhmknfipdadaaGreatDoorShelf
namespace Go.Proofs.YtmbhmknfipdadaaGreatDoor.ItmI
open Go.RowKit
open PrtW PrtM NameW ItmW ValM ItmM
open PrtI (EnvS between_any)
open ItmS (At8 At8.laid below_one)
theorem beq_dec (x y : Int) : (x == y) = decide (x = y) := by rw [Bool.eq_iff_iff]; simp
set_option maxRecDepth 10000 in
set_option maxHeartbeats 1600000 in
theorem impl_bounds (k : Int) (s : ByteArray) (ty lo hi : Int) (t : ByteArray) (a : Option Addr) (len cap : Nat) (hd : Bool) (w : World) :
  Calls Tryz.prog 138 #[.agg #[.int .i64 k, .string s, .int .i64 ty, .int .i64 lo, .int .i64 hi, .string t, .slice a len cap, .bool hd]] w fun e w' => e = .returned (.bool (rangeB ty lo hi)) ∧ Below w.heap.size w w' := by
 rcases (by omega : ty = 1 ∨ ty = 2 ∨ ty = 3 ∨ ty = 4 ∨ (ty ≠ 1 ∧ ty ≠ 2 ∧ ty ≠ 3 ∧ ty ≠ 4)) with rfl | rfl | rfl | rfl | ⟨h1, h2, h3, h4⟩
 ·by_cases h0 : -1000000 ≤ lo
  ·have e : rangeB 1 lo hi = inB hi lo 1000000 := by unfold rangeB inB; rw [if_pos rfl, Bool.eq_iff_iff, Bool.and_eq_true, decide_eq_true_iff, decide_eq_true_iff]; omega
   rw [e]
   clear e
   go_enter Tryz.func138, Tryz.ntmps138
   go_wp2_with (first | (go_at_call 127; refine (between_any _ _ _ _).mono ?_; rintro e w' ⟨rfl, rfl⟩))
   go_ret
   exact ⟨rfl, by go_grown⟩
  ·have e : rangeB 1 lo hi = false := by unfold rangeB; rw [if_pos rfl, decide_eq_false (by omega), Bool.false_and]
   rw [e]
   clear e
   go_enter Tryz.func138, Tryz.ntmps138
   go_wp2
   go_ret
   exact ⟨rfl, by go_grown⟩
 ·by_cases h0 : lo = 1
  ·subst h0
   have e : rangeB 2 1 hi = inB hi 1 20 := by unfold rangeB inB; simp
   rw [e]
   clear e
   go_enter Tryz.func138, Tryz.ntmps138
   go_wp2_with (first | (go_at_call 127; refine (between_any _ _ _ _).mono ?_; rintro e w' ⟨rfl, rfl⟩))
   go_ret
   exact ⟨rfl, by go_grown⟩
  ·have e : rangeB 2 lo hi = false := by unfold rangeB; simp [h0]
   rw [e]
   have e0 : (lo == 1) = false := by simp [h0]
   go_enter Tryz.func138, Tryz.ntmps138
   go_wp2
   go_ret
   exact ⟨rfl, by go_grown⟩
 ·by_cases h0 : lo = 1
  ·subst h0
   have e : rangeB 3 1 hi = inB hi 1 20 := by unfold rangeB inB; simp
   rw [e]
   clear e
   go_enter Tryz.func138, Tryz.ntmps138
   go_wp2_with (first | (go_at_call 127; refine (between_any _ _ _ _).mono ?_; rintro e w' ⟨rfl, rfl⟩))
   go_ret
   exact ⟨rfl, by go_grown⟩
  ·have e : rangeB 3 lo hi = false := by unfold rangeB; simp [h0]
   rw [e]
   have e0 : (lo == 1) = false := by simp [h0]
   go_enter Tryz.func138, Tryz.ntmps138
   go_wp2
   go_ret
   exact ⟨rfl, by go_grown⟩
 ·by_cases h0 : lo = 0
  ·subst h0
   have e : rangeB 4 0 hi = inB hi 1 40 := by unfold rangeB inB; simp
   rw [e]
   clear e
   go_enter Tryz.func138, Tryz.ntmps138
   go_wp2_with (first | (go_at_call 127; refine (between_any _ _ _ _).mono ?_; rintro e w' ⟨rfl, rfl⟩))
   go_ret
   exact ⟨rfl, by go_grown⟩
  ·have e : rangeB 4 lo hi = false := by unfold rangeB; simp [h0]
   rw [e]
   have e0 : (lo == 0) = false := by simp [h0]
   go_enter Tryz.func138, Tryz.ntmps138
   go_wp2
   go_ret
   exact ⟨rfl, by go_grown⟩
 ·have e : rangeB ty lo hi = false := by unfold rangeB; simp [h1, h2, h3, h4]
  rw [e]
  have e1 : (ty == 1) = false := by simp [h1]
  have e2 : (ty == 2) = false := by simp [h2]
  have e3 : (ty == 3) = false := by simp [h3]
  have e4 : (ty == 4) = false := by simp [h4]
  go_enter Tryz.func138, Tryz.ntmps138
  go_wp2
  go_ret
  exact ⟨rfl, by go_grown⟩
set_option maxRecDepth 10000 in
set_option maxHeartbeats 800000 in
theorem impl_asked (t : ByteArray) (w : World) (ht : t.size ≤ maxLen) :
  Calls Tryz.prog 139 #[.string t] w fun e w' => e = .returned (.bool (labelB t)) ∧ Below w.heap.size w w' := by
 have HT := hid ht
 have HT2 : Hid (t.size ≤ 9223372036854775807) := Nat.le_trans ht (by decide)
 unfold maxLen at ht
 obtain ⟨b1, hb1⟩ : ∃ b, Hid (inB (t.size : Int) 1 60 = b) := ⟨_, rfl⟩
 obtain ⟨b2, hb2⟩ : ∃ b, Hid (plainB t = b) := ⟨_, rfl⟩
 cases b1
 ·have e : labelB t = false := by
   have := hb1.out
   unfold inB at this
   rw [decide_eq_false_iff_not] at this
   unfold labelB
   by_cases h1 : 1 ≤ t.size
   ·rw [decide_eq_false (p := (t.size : Int) ≤ 60) (by omega), Bool.and_false, Bool.false_and, Bool.and_false]
   ·rw [decide_eq_false h1, Bool.false_and]
  rw [e]
  clear e
  go_enter Tryz.func139, Tryz.ntmps139
  go_wp2_with (first | (go_at_call 127; refine (between_any _ _ _ _).mono ?_; rintro e w' ⟨rfl, rfl⟩; rw [hb1.out]))
  go_ret
  exact ⟨rfl, Below.refl _ _⟩
 have h1 : 1 ≤ t.size ∧ t.size ≤ 60 := by
  have := hb1.out
  unfold inB at this
  rw [decide_eq_true_iff] at this
  omega
 have e : labelB t = (b2 && ((⟨(Lib.trimB t.data.toList 32).toArray⟩ : ByteArray).toList == t.toList)) := by
  rw [trim_same t h1.1, ← hb2.out]
  unfold labelB
  rw [decide_eq_true h1.1, decide_eq_true (p := (t.size : Int) ≤ 60) (by omega), Bool.true_and, Bool.and_true]
 rw [e]
 clear e
 obtain ⟨b3, hb3⟩ : ∃ b, ((⟨(Lib.trimB t.data.toList 32).toArray⟩ : ByteArray).toList == t.toList) = b := ⟨_, rfl⟩
 rw [hb3]
 cases b2
 ·go_enter Tryz.func139, Tryz.ntmps139
  go_wp2_with (first | (go_at_call 127; refine (between_any _ _ _ _).mono ?_; rintro e w' ⟨rfl, rfl⟩; rw [hb1.out]) | (go_at_call 173; refine (ValI.plain_impl t _ HT.out).mono ?_; rintro e w' ⟨rfl, rfl⟩; rw [hb2.out]))
  go_ret
  exact ⟨rfl, Below.refl _ _⟩
 ·rw [Bool.true_and]
  go_enter Tryz.func139, Tryz.ntmps139
  go_wp2_with (first | (go_at_call 127; refine (between_any _ _ _ _).mono ?_; rintro e w' ⟨rfl, rfl⟩; rw [hb1.out]) | (go_at_call 173; refine (ValI.plain_impl t _ HT.out).mono ?_; rintro e w' ⟨rfl, rfl⟩; rw [hb2.out]))
  refine (Tryz.strings_Trim_one t 32 (by decide) _ HT2.out).mono ?_
  rintro e w1 ⟨rfl, hw⟩
  have HW : Hid (Below w'.heap.size w' w1) := by
   rcases hw with h | h
   ·rw [h]; exact Below.refl _ _
   ·rw [h]; exact (Below.refl _ _).drew
  clear hw
  generalize (⟨(Lib.trimB t.data.toList 32).toArray⟩ : ByteArray) = tt at *
  go_wp2_with fail
  go_ret
  exact ⟨rfl, HW.out⟩
open Go.RowKit
open PrtW PrtM NameW ItmW ValM ItmM
open PrtI (EnvS between_any impl_truth impl_right)
open ItmS (At8 At8.laid below_one)
def namedO (k : Nat) : Bool := [false, true, false, false, false, true, true].getD k false
def typedO (k : Nat) : Bool := [false, true, false, false, false, false, false].getD k false
def saidO (k : Nat) : Bool := [false, true, false, false, false, true, false].getD k false
def hardO (k : Nat) : Bool := [false, false, false, false, false, true, false].getD k false
def tellsO (k : Nat) : Int := [0, 0, 2, 0, 0, 2, 1].getD k 0
def EnvO (w : World) : Prop := 3 < w.heap.size ∧ ∀ k, k < 7 →
 w.cell? ⟨3, k * 5, none⟩ = some (.bool (namedO k)) ∧ w.cell? ⟨3, k * 5 + 1, none⟩ = some (.bool (typedO k)) ∧ w.cell? ⟨3, k * 5 + 2, none⟩ = some (.bool (saidO k)) ∧ w.cell? ⟨3, k * 5 + 3, none⟩ = some (.bool (hardO k)) ∧ w.cell? ⟨3, k * 5 + 4, none⟩ = some (.int .i64 (tellsO k))
theorem EnvO.on {w w' : World} (h : EnvO w) (hB : Below w.heap.size w w') : EnvO w' := by
 refine ⟨Nat.lt_of_lt_of_le h.1 hB.size, fun k hk => ?_⟩
 have hc := (bcell hB).1
 simp only [hc _ _ h.1]
 exact h.2 k hk
theorem z1 {α : Type _} (l : List α) (i : Nat) (a : α) : l.toArray.setIfInBounds i a = (l.set i a).toArray := List.setIfInBounds_toArray ..
theorem z2 {α : Type _} (a b : α) (l : List α) : (a :: l).set 0 b = b :: l := rfl
theorem z3 {α : Type _} (a b : α) (l : List α) (n : Nat) : (a :: l).set (n + 1) b = a :: l.set n b := rfl
def EnvI (w : World) : Prop := EnvS w ∧ EnvO w
theorem EnvI.on {w w' : World} (h : EnvI w) (hB : Below w.heap.size w w') : EnvI w' := ⟨h.1.on hB, h.2.on hB⟩
def asF (a m e : Bool) : Bool := (a && m) || (!a && e)
set_option maxHeartbeats 800000 in
theorem as_for (a m e : Bool) (w : World) : Calls Tryz.prog 137 #[.bool a, .bool m, .bool e] w fun r w' => r = .returned (.bool (asF a m e)) ∧ w' = w := by
 cases a <;> cases m <;> cases e
 all_goals
  go_enter Tryz.func137, Tryz.ntmps137
  go_wp2
  go_ret
  exact ⟨rfl, rfl⟩
def tellsI (ps : List Pt) : Int := if truthB ps = true then 2 else if rightB ps = true then 1 else 0
set_option maxHeartbeats 800000 in
theorem expr_tells (a : Option Addr) (cap : Nat) (ps : List Pt) (w : World) (hP : Parts w a ps) (hcap : ps.length ≤ cap) (hE : EnvS w) :
  Calls Tryz.prog 140 #[.slice a ps.length cap] w fun e w' => e = .returned (.int .i64 (tellsI ps)) ∧ Below w.heap.size w w' := by
 have hl := hP.1
 have HP := hid hP
 have HE := hid hE
 clear hP hE
 obtain ⟨b1, hb1⟩ : ∃ b, Hid (truthB ps = b) := ⟨_, rfl⟩
 obtain ⟨b2, hb2⟩ : ∃ b, Hid (rightB ps = b) := ⟨_, rfl⟩
 unfold tellsI
 rw [hb1.out, hb2.out]
 cases b1
 ·go_enter Tryz.func140, Tryz.ntmps140
  go_wp2_with fail
  refine (impl_truth a cap ps _ HP.out hcap HE.out).mono ?_
  rintro e w1 ⟨rfl, hB1⟩
  rw [hb1.out]
  have HB1 := hid hB1
  clear hB1
  go_wp2_with fail
  refine (impl_right a cap ps _ (HP.out.on HB1.out) hcap (HE.out.on HB1.out)).mono ?_
  rintro e w2 ⟨rfl, hB2⟩
  rw [hb2.out]
  have HB2 := hid (HB1.out.trans (hB2.mono HB1.out.size))
  clear hB2
  cases b2
  all_goals
   go_wp2_with fail
   go_ret
   exact ⟨rfl, HB2.out⟩
 ·go_enter Tryz.func140, Tryz.ntmps140
  go_wp2_with fail
  refine (impl_truth a cap ps _ HP.out hcap HE.out).mono ?_
  rintro e w1 ⟨rfl, hB1⟩
  rw [hb1.out]
  have HB1 := hid hB1
  clear hB1
  go_wp2_with fail
  go_ret
  exact ⟨rfl, HB1.out⟩
def tabI (k : Nat) (s : ByteArray) (ty lo hi : Int) (t : ByteArray) (ps : List Pt) (hd : Bool) : Bool :=
 asF (namedO k) (nameB s) s.toList.isEmpty && (asF (typedO k) (rangeB ty lo hi) ((ty == 0) && ((lo == 0) && (hi == 0))) && (asF (saidO k) (labelB t) t.toList.isEmpty && (asF (tellsO k != 0) (tellsI ps == tellsO k) (((ps.length : Nat) : Int) == 0) && (hardO k || !hd))))
theorem truth_right {ps : List Pt} (h : truthB ps = true) : rightB ps = true := by unfold truthB at h; rw [Bool.and_eq_true] at h; exact h.1
theorem tells_two (ps : List Pt) : (tellsI ps == 2) = truthB ps := by
 unfold tellsI
 cases truthB ps
 ·cases rightB ps <;> simp
 ·simp
theorem tells_one (ps : List Pt) : (tellsI ps == 1) = (rightB ps && !truthB ps) := by
 unfold tellsI
 cases h : truthB ps
 ·cases rightB ps <;> simp
 ·rw [truth_right h]; simp
theorem bare_eq (ty lo hi : Int) : bareB ty lo hi = ((ty == 0) && ((lo == 0) && (hi == 0))) := by unfold bareB; rw [beq_dec, beq_dec, beq_dec]
theorem parts_eq (ps : List Pt) : noParts ps = (((ps.length : Nat) : Int) == 0) := by unfold noParts; rw [beq_dec]
theorem asf_t (m e : Bool) : asF true m e = m := by unfold asF; simp
theorem asf_f (m e : Bool) : asF false m e = e := by unfold asF; simp
theorem tab_item (k : Nat) (h1 : 1 ≤ k) (h6 : k ≤ 6) (s : ByteArray) (ty lo hi : Int) (t : ByteArray) (ps : List Pt) (hd : Bool) : itemB ((k : Int), s, ty, lo, hi, t, ps, hd) = tabI k s ty lo hi t ps hd := by
 rcases (by omega : k = 1 ∨ k = 2 ∨ k = 3 ∨ k = 4 ∨ k = 5 ∨ k = 6) with rfl | rfl | rfl | rfl | rfl | rfl
 ·show (nameB s && (rangeB ty lo hi && (labelB t && (noParts ps && !hd)))) = _
  unfold tabI
  rw [show namedO 1 = true from rfl, show typedO 1 = true from rfl, show saidO 1 = true from rfl, show tellsO 1 = 0 from rfl, show hardO 1 = false from rfl, show ((0 : Int) != 0) = false from rfl, asf_t, asf_t, asf_t, asf_f, parts_eq, Bool.false_or]
 ·show (noText s && (bareB ty lo hi && (noText t && (truthB ps && !hd)))) = _
  unfold tabI
  rw [show namedO 2 = false from rfl, show typedO 2 = false from rfl, show saidO 2 = false from rfl, show tellsO 2 = 2 from rfl, show hardO 2 = false from rfl, show ((2 : Int) != 0) = true from rfl, asf_f, asf_f, asf_f, asf_t, tells_two, bare_eq, Bool.false_or]
  rfl
 ·show (noText s && (bareB ty lo hi && (noText t && (noParts ps && !hd)))) = _
  unfold tabI
  rw [show namedO 3 = false from rfl, show typedO 3 = false from rfl, show saidO 3 = false from rfl, show tellsO 3 = 0 from rfl, show hardO 3 = false from rfl, show ((0 : Int) != 0) = false from rfl, asf_f, asf_f, asf_f, asf_f, parts_eq, bare_eq, Bool.false_or]
  rfl
 ·show (noText s && (bareB ty lo hi && (noText t && (noParts ps && !hd)))) = _
  unfold tabI
  rw [show namedO 4 = false from rfl, show typedO 4 = false from rfl, show saidO 4 = false from rfl, show tellsO 4 = 0 from rfl, show hardO 4 = false from rfl, show ((0 : Int) != 0) = false from rfl, asf_f, asf_f, asf_f, asf_f, parts_eq, bare_eq, Bool.false_or]
  rfl
 ·show (nameB s && (bareB ty lo hi && (labelB t && truthB ps))) = _
  unfold tabI
  rw [show namedO 5 = true from rfl, show typedO 5 = false from rfl, show saidO 5 = true from rfl, show tellsO 5 = 2 from rfl, show hardO 5 = true from rfl, show ((2 : Int) != 0) = true from rfl, asf_t, asf_f, asf_t, asf_t, tells_two, bare_eq, Bool.true_or, Bool.and_true]
 ·show (nameB s && (bareB ty lo hi && (noText t && (rightB ps && (!truthB ps && !hd))))) = _
  unfold tabI
  rw [show namedO 6 = true from rfl, show typedO 6 = false from rfl, show saidO 6 = false from rfl, show tellsO 6 = 1 from rfl, show hardO 6 = false from rfl, show ((1 : Int) != 0) = true from rfl, asf_t, asf_f, asf_f, asf_t, tells_one, bare_eq, Bool.false_or, Bool.and_assoc (rightB ps)]
  rfl
theorem item_out {k : Int} {s : ByteArray} {ty lo hi : Int} {t : ByteArray} {ps : List Pt} {hd : Bool} (h : ¬ (1 ≤ k ∧ k ≤ 6)) : itemB (k, s, ty, lo, hi, t, ps, hd) = false := by
 have h1 : ¬ k = 1 := by omega
 have h2 : ¬ k = 2 := by omega
 have h3 : ¬ k = 3 := by omega
 have h4 : ¬ k = 4 := by omega
 have h5 : ¬ k = 5 := by omega
 have h6 : ¬ k = 6 := by omega
 unfold itemB; simp only [h1, h2, h3, h4, h5, h6, if_false, or_self]
def At5 (w : World) (b : Nat) (v0 v1 v2 v3 v4 : Value) : Prop := (w.cell? ⟨b, 0, none⟩ = some v0 ∧ w.cell? ⟨b, 1, none⟩ = some v1 ∧ w.cell? ⟨b, 2, none⟩ = some v2 ∧ w.cell? ⟨b, 3, none⟩ = some v3 ∧ w.cell? ⟨b, 4, none⟩ = some v4) ∧ b < w.heap.size
theorem At5.on {w w' : World} {b : Nat} {v0 v1 v2 v3 v4 : Value} (h : At5 w b v0 v1 v2 v3 v4) (hB : Below w.heap.size w w') : At5 w' b v0 v1 v2 v3 v4 := by
 obtain ⟨⟨h0, h1, h2, h3, h4⟩, hl⟩ := h
 exact ⟨⟨by rw [hB.cell (p := ⟨b, _, none⟩) hl]; exact h0, by rw [hB.cell (p := ⟨b, _, none⟩) hl]; exact h1, by rw [hB.cell (p := ⟨b, _, none⟩) hl]; exact h2, by rw [hB.cell (p := ⟨b, _, none⟩) hl]; exact h3, by rw [hB.cell (p := ⟨b, _, none⟩) hl]; exact h4⟩, Nat.lt_of_lt_of_le hl hB.size⟩
theorem At5.laid (w : World) (T : TypeId) (v0 v1 v2 v3 v4 : Value) : At5 (w.alloc (.cells #[v0, v1, v2, v3, v4] T)) w.heap.size v0 v1 v2 v3 v4 := ⟨⟨by simp, by simp, by simp, by simp, by simp⟩, by simp⟩
def Two (w0 w : World) (k : Int) (s : ByteArray) (ty lo hi : Int) (t : ByteArray) (a : Option Addr) (len cap : Nat) (hd : Bool) (o1 o2 o3 o4 : Bool) (o5 : Int) : Prop :=
 At8 w w0.heap.size (.int .i64 k) (.string s) (.int .i64 ty) (.int .i64 lo) (.int .i64 hi) (.string t) (.slice a len cap) (.bool hd) ∧ At5 w (w0.heap.size + 1) (.bool o1) (.bool o2) (.bool o3) (.bool o4) (.int .i64 o5) ∧ Below w0.heap.size w0 w
theorem Two.on {w0 w w' : World} {k : Int} {s : ByteArray} {ty lo hi : Int} {t : ByteArray} {a : Option Addr} {len cap : Nat} {hd : Bool} {o1 o2 o3 o4 : Bool} {o5 : Int} (h : Two w0 w k s ty lo hi t a len cap hd o1 o2 o3 o4 o5) (hB : Below w.heap.size w w') : Two w0 w' k s ty lo hi t a len cap hd o1 o2 o3 o4 o5 :=
 ⟨h.1.on hB, h.2.1.on hB, h.2.2.trans (hB.mono h.2.2.size)⟩
theorem Two.laid (w : World) (T1 T2 : TypeId) (k : Int) (s : ByteArray) (ty lo hi : Int) (t : ByteArray) (a : Option Addr) (len cap : Nat) (hd : Bool) (o1 o2 o3 o4 : Bool) (o5 : Int) :
  Two w ((w.alloc (.cells #[.int .i64 k, .string s, .int .i64 ty, .int .i64 lo, .int .i64 hi, .string t, .slice a len cap, .bool hd] T1)).alloc (.cells #[.bool o1, .bool o2, .bool o3, .bool o4, .int .i64 o5] T2)) k s ty lo hi t a len cap hd o1 o2 o3 o4 o5 := by
 refine ⟨(At8.laid w T1 _ _ _ _ _ _ _ _).on (below_one _ _), ?_, (below_one _ _).trans ((below_one _ _).mono (by simp))⟩
 have := At5.laid (w.alloc (.cells #[.int .i64 k, .string s, .int .i64 ty, .int .i64 lo, .int .i64 hi, .string t, .slice a len cap, .bool hd] T1)) T2 (.bool o1) (.bool o2) (.bool o3) (.bool o4) (.int .i64 o5)
 rw [World.size_alloc] at this
 exact this
theorem Two.all {w0 w : World} {k : Int} {s : ByteArray} {ty lo hi : Int} {t : ByteArray} {a : Option Addr} {len cap : Nat} {hd : Bool} {o1 o2 o3 o4 : Bool} {o5 : Int} (h : Two w0 w k s ty lo hi t a len cap hd o1 o2 o3 o4 o5) :
  (w.cell? ⟨w0.heap.size, 0, none⟩ = some (.int .i64 k) ∧ w.cell? ⟨w0.heap.size, 1, none⟩ = some (.string s) ∧ w.cell? ⟨w0.heap.size, 2, none⟩ = some (.int .i64 ty) ∧ w.cell? ⟨w0.heap.size, 3, none⟩ = some (.int .i64 lo) ∧ w.cell? ⟨w0.heap.size, 4, none⟩ = some (.int .i64 hi) ∧ w.cell? ⟨w0.heap.size, 5, none⟩ = some (.string t) ∧ w.cell? ⟨w0.heap.size, 6, none⟩ = some (.slice a len cap) ∧ w.cell? ⟨w0.heap.size, 7, none⟩ = some (.bool hd)) ∧
  (w.cell? ⟨w0.heap.size + 1, 0, none⟩ = some (.bool o1) ∧ w.cell? ⟨w0.heap.size + 1, 1, none⟩ = some (.bool o2) ∧ w.cell? ⟨w0.heap.size + 1, 2, none⟩ = some (.bool o3) ∧ w.cell? ⟨w0.heap.size + 1, 3, none⟩ = some (.bool o4) ∧ w.cell? ⟨w0.heap.size + 1, 4, none⟩ = some (.int .i64 o5)) ∧ w0.heap.size + 1 < w.heap.size := ⟨h.1.1, h.2.1.1, h.2.1.2⟩
theorem keepT {w0 w : World} {k : Int} {s : ByteArray} {ty lo hi : Int} {t : ByteArray} {a : Option Addr} {len cap : Nat} {hd : Bool} {o1 o2 o3 o4 : Bool} {o5 : Int} (h : Two w0 w k s ty lo hi t a len cap hd o1 o2 o3 o4 o5) :
  Two w0 w k s ty lo hi t a len cap hd o1 o2 o3 o4 o5 ∧ (w.cell? ⟨w0.heap.size, 0, none⟩ = some (.int .i64 k) ∧ w.cell? ⟨w0.heap.size, 1, none⟩ = some (.string s) ∧ w.cell? ⟨w0.heap.size, 2, none⟩ = some (.int .i64 ty) ∧ w.cell? ⟨w0.heap.size, 3, none⟩ = some (.int .i64 lo) ∧ w.cell? ⟨w0.heap.size, 4, none⟩ = some (.int .i64 hi) ∧ w.cell? ⟨w0.heap.size, 5, none⟩ = some (.string t) ∧ w.cell? ⟨w0.heap.size, 6, none⟩ = some (.slice a len cap) ∧ w.cell? ⟨w0.heap.size, 7, none⟩ = some (.bool hd)) ∧
  (w.cell? ⟨w0.heap.size + 1, 0, none⟩ = some (.bool o1) ∧ w.cell? ⟨w0.heap.size + 1, 1, none⟩ = some (.bool o2) ∧ w.cell? ⟨w0.heap.size + 1, 2, none⟩ = some (.bool o3) ∧ w.cell? ⟨w0.heap.size + 1, 3, none⟩ = some (.bool o4) ∧ w.cell? ⟨w0.heap.size + 1, 4, none⟩ = some (.int .i64 o5)) := ⟨h, h.1.1, h.2.1.1⟩
open Go.RowKit
open PrtW PrtM NameW ItmW ValM ItmM
open PrtI (EnvS between_any impl_truth impl_right)
open ItmS (At8 At8.laid below_one)
set_option maxRecDepth 10000 in
set_option maxHeartbeats 12800000 in
theorem item_A (j : Nat) (hk : 1 ≤ j ∧ j ≤ 6) (s : ByteArray) (ty lo hi : Int) (t : ByteArray) (a : Option Addr) (cap : Nat) (ps : List Pt) (hd : Bool) (w : World) (hP : Parts w a ps) (_hcap : ps.length ≤ cap) (hs : s.size ≤ maxLen) (ht : t.size ≤ maxLen) (hE : EnvI w) (hr : asF (namedO j) (nameB s) s.toList.isEmpty = false) :
  Calls Tryz.prog 117 #[.agg #[.int .i64 j, .string s, .int .i64 ty, .int .i64 lo, .int .i64 hi, .string t, .slice a ps.length cap, .bool hd]] w fun e w' => e = .returned (.bool (tabI j s ty lo hi t ps hd)) ∧ Below w.heap.size w w' := by
 have HP := hid hP
 have HS := hid hs
 have HT := hid ht
 have HE := hid hE
 have hpl := hP.1
 clear hP hs ht hE
 have hin : Hid (inB (j : Int) 1 6 = true) := decide_eq_true (by omega)
 have hg := HE.out.2.1
 have hj7 : j < 7 := by omega
 obtain ⟨g0, g1, g2, g3, g4⟩ := HE.out.2.2 j hj7
 unfold tabI
 rw [hr, Bool.false_and]
 generalize namedO j = o1 at *
 generalize typedO j = o2 at *
 generalize saidO j = o3 at *
 generalize hardO j = o4 at *
 generalize tellsO j = o5 at *
 obtain ⟨v1, h1⟩ : ∃ v, Hid (nameB s = v) := ⟨_, rfl⟩
 obtain ⟨v2, h2⟩ : ∃ v, Hid (rangeB ty lo hi = v) := ⟨_, rfl⟩
 obtain ⟨v3, h3⟩ : ∃ v, Hid (labelB t = v) := ⟨_, rfl⟩
 obtain ⟨v4, h4⟩ : ∃ v, Hid (tellsI ps = v) := ⟨_, rfl⟩
 obtain ⟨es, hes⟩ : ∃ v, s.toList.isEmpty = v := ⟨_, rfl⟩
 obtain ⟨et, het⟩ : ∃ v, t.toList.isEmpty = v := ⟨_, rfl⟩
 obtain ⟨ez, hez⟩ : ∃ v, (((ps.length : Nat) : Int) == 0) = v := ⟨_, rfl⟩
 obtain ⟨et5, het5⟩ : ∃ v, (o5 != 0) = v := ⟨_, rfl⟩
 obtain ⟨e45, he45⟩ : ∃ v, (v4 == o5) = v := ⟨_, rfl⟩
 have hr1 : Hid (asF o1 v1 es = false) := by show _ = _; rw [← hr, h1.out, hes]
 obtain ⟨r2, hr2⟩ : ∃ v, Hid (asF o2 v2 ((ty == 0) && ((lo == 0) && (hi == 0))) = v) := ⟨_, rfl⟩
 obtain ⟨r3, hr3⟩ : ∃ v, Hid (asF o3 v3 et = v) := ⟨_, rfl⟩
 obtain ⟨r4, hr4⟩ : ∃ v, Hid (asF et5 e45 ez = v) := ⟨_, rfl⟩
 have HW := hid (Two.laid w 57 179 j s ty lo hi t a ps.length cap hd o1 o2 o3 o4 o5)
 go_enter Tryz.func117, Tryz.ntmps117
 go_wp2_with (first | (go_at_call 127; refine (between_any _ _ _ _).mono ?_; rintro e w' ⟨rfl, rfl⟩; rw [hin.out]))
 have hT := HW.out
 obtain ⟨W0, hW0⟩ : ∃ W0, Hid ((w.alloc (.cells #[.int .i64 j, .string s, .int .i64 ty, .int .i64 lo, .int .i64 hi, .string t, .slice a ps.length cap, .bool hd] 57)).alloc (.cells #[.bool o1, .bool o2, .bool o3, .bool o4, .int .i64 o5] 179) = W0) := ⟨_, rfl⟩
 rw [hW0.out] at hT ⊢
 have h0 : Two w W0.drew j s ty lo hi t a ps.length cap hd o1 o2 o3 o4 o5 := hT.on (Below.refl _ _).drew
 clear hT hW0 g0 g1 g2 g3 g4 HW
 refine wp_region_held_drew (S := (fun w' => Two w w' j s ty lo hi t a ps.length cap hd o1 o2 o3 o4 o5 ∧ (w'.cell? ⟨w.heap.size, 0, none⟩ = some (.int .i64 j) ∧ w'.cell? ⟨w.heap.size, 1, none⟩ = some (.string s) ∧ w'.cell? ⟨w.heap.size, 2, none⟩ = some (.int .i64 ty) ∧ w'.cell? ⟨w.heap.size, 3, none⟩ = some (.int .i64 lo) ∧ w'.cell? ⟨w.heap.size, 4, none⟩ = some (.int .i64 hi) ∧ w'.cell? ⟨w.heap.size, 5, none⟩ = some (.string t) ∧ w'.cell? ⟨w.heap.size, 6, none⟩ = some (.slice a ps.length cap) ∧ w'.cell? ⟨w.heap.size, 7, none⟩ = some (.bool hd)) ∧ (w'.cell? ⟨w.heap.size + 1, 0, none⟩ = some (.bool o1) ∧ w'.cell? ⟨w.heap.size + 1, 1, none⟩ = some (.bool o2) ∧ w'.cell? ⟨w.heap.size + 1, 2, none⟩ = some (.bool o3) ∧ w'.cell? ⟨w.heap.size + 1, 3, none⟩ = some (.bool o4) ∧ w'.cell? ⟨w.heap.size + 1, 4, none⟩ = some (.int .i64 o5)))) (by kernel_rfl) ?_ (fun hHeld => ?_)
 ·(try dsimp only) <;> (first | exact keepT hN | exact keepT h0)
 refine tk 0 (some 12) rfl hHeld ?_; (try simp only [Act.put, pA, pB, pC]); refine tk 1 (some 13) rfl hHeld ?_; (try simp only [Act.put, pA, pB, pC]); refine tk 2 (some 14) rfl hHeld ?_; (try simp only [Act.put, pA, pB, pC]); refine tk 3 (some 15) rfl hHeld ?_; (try simp only [Act.put, pA, pB, pC]); refine tk 5 (some 17) rfl hHeld ?_; (try simp only [Act.put, pA, pB, pC]); refine tk 6 (some 18) rfl hHeld ?_; (try simp only [Act.put, pA, pB, pC]); refine tk 7 (some 19) rfl hHeld ?_; (try simp only [Act.put, pA, pB, pC])
 refine wpAnyH_ready (rs := [4]) (by kernel_rfl) (by simp) ?_
 refine AllReadyH.cons rfl (fun K hK => ?_) AllReadyH.nil
 go_simp
 go_at_call 91
 have hp := hHeld.1
 refine (impl_name s _ HS.out).mono ?_
 rintro e w' ⟨rfl, rfl⟩
 rw [h1.out]
 have hN := hp
 clear hp
 (try go_wp2_with fail)
 refine hK.out _ _ ?_ (fun hHeld2 => ?_)
 ·(try dsimp only) <;> (first | exact keepT hN | exact keepT h0)
 clear hK K hHeld
 have hHeld := hHeld2
 clear hHeld2
 (try simp only [Act.put, pA, pB, pC])
 refine wpAnyH_ready (rs := [8]) (by kernel_rfl) (by simp) ?_
 refine AllReadyH.cons rfl (fun K hK => ?_) AllReadyH.nil
 go_simp
 go_at_call 137
 have hp := hHeld.1
 refine (as_for _ _ _ _).mono ?_
 rintro e w' ⟨rfl, rfl⟩
 (first | rw [hr1.out] | rw [hr2.out] | rw [hr3.out] | rw [hr4.out])
 have hN := hp
 clear hp
 (try go_wp2_with fail)
 refine hK.out _ _ ?_ (fun hHeld2 => ?_)
 ·(try dsimp only) <;> (first | exact keepT hN | exact keepT h0)
 clear hK K hHeld
 have hHeld := hHeld2
 clear hHeld2
 (try simp only [Act.put, pA, pB, pC]); refine tk 9 (some 21) rfl hHeld ?_; (try simp only [Act.put, pA, pB, pC]); refine tp 10 (some 22) rfl hHeld ?_; (try simp only [Act.put, pA, pB, pC]); refine tp 11 (some 23) rfl hHeld ?_; (try simp only [Act.put, pA, pB, pC]); refine tp 12 (some 24) rfl hHeld ?_; (try simp only [Act.put, pA, pB, pC]); refine tp 13 (some 25) rfl hHeld ?_; (try simp only [Act.put, pA, pB, pC]); refine tp 14 (some 26) rfl hHeld ?_; (try simp only [Act.put, pA, pB, pC]); refine tp 15 (some 27) rfl hHeld ?_; (try simp only [Act.put, pA, pB, pC]); refine tp 16 (some 28) rfl hHeld ?_; (try simp only [Act.put, pA, pB, pC]); refine tp 17 (some 29) rfl hHeld ?_; (try simp only [Act.put, pA, pB, pC]); refine tp 18 (some 30) rfl hHeld ?_; (try simp only [Act.put, pA, pB, pC]); refine tp 19 (some 31) rfl hHeld ?_; (try simp only [Act.put, pA, pB, pC]); refine tp 20 (some 32) rfl hHeld ?_
 (try simp only [Act.put, pA, pB, pC]); refine tp 21 (some 33) rfl hHeld ?_; (try simp only [Act.put, pA, pB, pC]); refine tp 22 (some 34) rfl hHeld ?_; (try simp only [Act.put, pA, pB, pC]); refine tp 23 (some 35) rfl hHeld ?_; (try simp only [Act.put, pA, pB, pC]); refine tp 24 (some 36) rfl hHeld ?_; (try simp only [Act.put, pA, pB, pC]); refine tp 25 (some 37) rfl hHeld ?_; (try simp only [Act.put, pA, pB, pC]); refine tp 26 (some 38) rfl hHeld ?_; (try simp only [Act.put, pA, pB, pC]); refine tp 27 (some 39) rfl hHeld ?_; (try simp only [Act.put, pA, pB, pC]); refine tk 28 (some 40) rfl hHeld ?_; (try simp only [Act.put, pA, pB, pC]); refine tk 29 (some 41) rfl hHeld ?_; (try simp only [Act.put, pA, pB, pC]); refine tp 30 (some 42) rfl hHeld ?_; (try simp only [Act.put, pA, pB, pC]); refine tp 31 (some 43) rfl hHeld ?_; (try simp only [Act.put, pA, pB, pC]); refine tp 32 (some 44) rfl hHeld ?_
 (try simp only [Act.put, pA, pB, pC]); refine tp 33 (some 45) rfl hHeld ?_; (try simp only [Act.put, pA, pB, pC]); refine tp 34 (some 46) rfl hHeld ?_; (try simp only [Act.put, pA, pB, pC]); refine tp 35 (some 47) rfl hHeld ?_; (try simp only [Act.put, pA, pB, pC]); refine tp 36 (some 48) rfl hHeld ?_; (try simp only [Act.put, pA, pB, pC]); refine tp 37 (some 49) rfl hHeld ?_; (try simp only [Act.put, pA, pB, pC]); refine tp 38 (some 50) rfl hHeld ?_; (try simp only [Act.put, pA, pB, pC]); refine tk 39 (some 51) rfl hHeld ?_; (try simp only [Act.put, pA, pB, pC]); refine tk 40 (some 52) rfl hHeld ?_; (try simp only [Act.put, pA, pB, pC]); refine tp 41 (some 53) rfl hHeld ?_; (try simp only [Act.put, pA, pB, pC]); refine tp 42 (some 54) rfl hHeld ?_; (try simp only [Act.put, pA, pB, pC]); refine tp 43 (some 55) rfl hHeld ?_; (try simp only [Act.put, pA, pB, pC]); refine tp 44 (some 56) rfl hHeld ?_
 (try simp only [Act.put, pA, pB, pC]); refine tp 45 (some 57) rfl hHeld ?_; (try simp only [Act.put, pA, pB, pC]); refine tp 46 (some 58) rfl hHeld ?_; (try simp only [Act.put, pA, pB, pC]); refine tp 47 (some 59) rfl hHeld ?_; (try simp only [Act.put, pA, pB, pC]); refine tp 48 (some 60) rfl hHeld ?_; (try simp only [Act.put, pA, pB, pC]); refine tp 49 (some 61) rfl hHeld ?_; (try simp only [Act.put, pA, pB, pC]); refine tp 50 (some 62) rfl hHeld ?_; (try simp only [Act.put, pA, pB, pC]); refine tp 51 (some 63) rfl hHeld ?_; (try simp only [Act.put, pA, pB, pC]); refine tp 52 (some 64) rfl hHeld ?_; (try simp only [Act.put, pA, pB, pC]); refine tp 53 (some 65) rfl hHeld ?_; (try simp only [Act.put, pA, pB, pC]); refine tp 54 (some 66) rfl hHeld ?_; (try simp only [Act.put, pA, pB, pC]); refine tk 55 (some 67) rfl hHeld ?_; (try simp only [Act.put, pA, pB, pC]); refine tk 56 (some 68) rfl hHeld ?_
 (try simp only [Act.put, pA, pB, pC]); refine tp 57 (some 69) rfl hHeld ?_; (try simp only [Act.put, pA, pB, pC]); refine tp 58 (some 70) rfl hHeld ?_; (try simp only [Act.put, pA, pB, pC]); refine tp 59 (some 71) rfl hHeld ?_; (try simp only [Act.put, pA, pB, pC]); refine tp 60 (some 72) rfl hHeld ?_; (try simp only [Act.put, pA, pB, pC]); refine tp 61 (some 73) rfl hHeld ?_; (try simp only [Act.put, pA, pB, pC]); refine tp 62 (some 74) rfl hHeld ?_; (try simp only [Act.put, pA, pB, pC]); refine tp 63 (some 75) rfl hHeld ?_; (try simp only [Act.put, pA, pB, pC]); refine tk 64 (some 76) rfl hHeld ?_; (try simp only [Act.put, pA, pB, pC]); refine tk 65 (some 2) rfl hHeld ?_; (try simp only [Act.put, pA, pB, pC])
 refine wpAnyH_done (by kernel_rfl) ?_ _
 have HZ := hid hHeld.1
 clear hHeld h0
 go_wp2_with fail
 go_ret
 exact ⟨rfl, HZ.out.2.2⟩
open Go.RowKit
open PrtW PrtM NameW ItmW ValM ItmM
open PrtI (EnvS between_any impl_truth impl_right)
open ItmS (At8 At8.laid below_one)
set_option maxRecDepth 10000 in
set_option maxHeartbeats 12800000 in
theorem item_B (j : Nat) (hk : 1 ≤ j ∧ j ≤ 6) (s : ByteArray) (ty lo hi : Int) (t : ByteArray) (a : Option Addr) (cap : Nat) (ps : List Pt) (hd : Bool) (w : World) (hP : Parts w a ps) (hcap : ps.length ≤ cap) (hs : s.size ≤ maxLen) (ht : t.size ≤ maxLen) (hE : EnvI w) (e1 : (ty == 0) = false) (hr : asF (namedO j) (nameB s) s.toList.isEmpty = true) :
  Calls Tryz.prog 117 #[.agg #[.int .i64 j, .string s, .int .i64 ty, .int .i64 lo, .int .i64 hi, .string t, .slice a ps.length cap, .bool hd]] w fun e w' => e = .returned (.bool (tabI j s ty lo hi t ps hd)) ∧ Below w.heap.size w w' := by
 have HP := hid hP
 have HS := hid hs
 have HT := hid ht
 have HE := hid hE
 have hpl := hP.1
 clear hP hs ht hE
 have hin : Hid (inB (j : Int) 1 6 = true) := decide_eq_true (by omega)
 have hg := HE.out.2.1
 have hj7 : j < 7 := by omega
 obtain ⟨g0, g1, g2, g3, g4⟩ := HE.out.2.2 j hj7
 unfold tabI
 simp only [hr, e1, Bool.false_and, Bool.true_and]
 generalize namedO j = o1 at *
 generalize typedO j = o2 at *
 generalize saidO j = o3 at *
 generalize hardO j = o4 at *
 generalize tellsO j = o5 at *
 obtain ⟨v1, h1⟩ : ∃ v, Hid (nameB s = v) := ⟨_, rfl⟩
 obtain ⟨v2, h2⟩ : ∃ v, Hid (rangeB ty lo hi = v) := ⟨_, rfl⟩
 obtain ⟨v3, h3⟩ : ∃ v, Hid (labelB t = v) := ⟨_, rfl⟩
 obtain ⟨v4, h4⟩ : ∃ v, Hid (tellsI ps = v) := ⟨_, rfl⟩
 obtain ⟨es, hes⟩ : ∃ v, s.toList.isEmpty = v := ⟨_, rfl⟩
 obtain ⟨et, het⟩ : ∃ v, t.toList.isEmpty = v := ⟨_, rfl⟩
 obtain ⟨ez, hez⟩ : ∃ v, (((ps.length : Nat) : Int) == 0) = v := ⟨_, rfl⟩
 obtain ⟨et5, het5⟩ : ∃ v, (o5 != 0) = v := ⟨_, rfl⟩
 obtain ⟨e45, he45⟩ : ∃ v, (v4 == o5) = v := ⟨_, rfl⟩
 rw [h2.out, h3.out, h4.out, het, hez, het5, he45]
 have hr1 : Hid (asF o1 v1 es = true) := by show _ = _; rw [← hr, h1.out, hes]
 obtain ⟨r2, hr2⟩ : ∃ v, Hid (asF o2 v2 false = v) := ⟨_, rfl⟩
 obtain ⟨r3, hr3⟩ : ∃ v, Hid (asF o3 v3 et = v) := ⟨_, rfl⟩
 obtain ⟨r4, hr4⟩ : ∃ v, Hid (asF et5 e45 ez = v) := ⟨_, rfl⟩
 have HW := hid (Two.laid w 57 179 j s ty lo hi t a ps.length cap hd o1 o2 o3 o4 o5)
 rw [hr2.out, hr3.out, hr4.out]
 cases r2
 case false =>
  go_enter Tryz.func117, Tryz.ntmps117
  go_wp2_with (first | (go_at_call 127; refine (between_any _ _ _ _).mono ?_; rintro e w' ⟨rfl, rfl⟩; rw [hin.out]))
  have hT := HW.out
  obtain ⟨W0, hW0⟩ : ∃ W0, Hid ((w.alloc (.cells #[.int .i64 j, .string s, .int .i64 ty, .int .i64 lo, .int .i64 hi, .string t, .slice a ps.length cap, .bool hd] 57)).alloc (.cells #[.bool o1, .bool o2, .bool o3, .bool o4, .int .i64 o5] 179) = W0) := ⟨_, rfl⟩
  rw [hW0.out] at hT ⊢
  have h0 : Two w W0.drew j s ty lo hi t a ps.length cap hd o1 o2 o3 o4 o5 := hT.on (Below.refl _ _).drew
  clear hT hW0 g0 g1 g2 g3 g4 HW
  refine wp_region_held_drew (S := (fun w' => Two w w' j s ty lo hi t a ps.length cap hd o1 o2 o3 o4 o5 ∧ (w'.cell? ⟨w.heap.size, 0, none⟩ = some (.int .i64 j) ∧ w'.cell? ⟨w.heap.size, 1, none⟩ = some (.string s) ∧ w'.cell? ⟨w.heap.size, 2, none⟩ = some (.int .i64 ty) ∧ w'.cell? ⟨w.heap.size, 3, none⟩ = some (.int .i64 lo) ∧ w'.cell? ⟨w.heap.size, 4, none⟩ = some (.int .i64 hi) ∧ w'.cell? ⟨w.heap.size, 5, none⟩ = some (.string t) ∧ w'.cell? ⟨w.heap.size, 6, none⟩ = some (.slice a ps.length cap) ∧ w'.cell? ⟨w.heap.size, 7, none⟩ = some (.bool hd)) ∧ (w'.cell? ⟨w.heap.size + 1, 0, none⟩ = some (.bool o1) ∧ w'.cell? ⟨w.heap.size + 1, 1, none⟩ = some (.bool o2) ∧ w'.cell? ⟨w.heap.size + 1, 2, none⟩ = some (.bool o3) ∧ w'.cell? ⟨w.heap.size + 1, 3, none⟩ = some (.bool o4) ∧ w'.cell? ⟨w.heap.size + 1, 4, none⟩ = some (.int .i64 o5)))) (by kernel_rfl) ?_ (fun hHeld => ?_)
  ·(try dsimp only) <;> (first | exact keepT hN | exact keepT h0)
  refine tk 0 (some 12) rfl hHeld ?_; (try simp only [Act.put, pA, pB, pC]); refine tk 1 (some 13) rfl hHeld ?_; (try simp only [Act.put, pA, pB, pC]); refine tk 2 (some 14) rfl hHeld ?_; (try simp only [Act.put, pA, pB, pC]); refine tk 3 (some 15) rfl hHeld ?_; (try simp only [Act.put, pA, pB, pC]); refine tk 5 (some 17) rfl hHeld ?_; (try simp only [Act.put, pA, pB, pC]); refine tk 6 (some 18) rfl hHeld ?_; (try simp only [Act.put, pA, pB, pC]); refine tk 7 (some 19) rfl hHeld ?_; (try simp only [Act.put, pA, pB, pC])
  refine wpAnyH_ready (rs := [4]) (by kernel_rfl) (by simp) ?_
  refine AllReadyH.cons rfl (fun K hK => ?_) AllReadyH.nil
  go_simp
  go_at_call 91
  have hp := hHeld.1
  refine (impl_name s _ HS.out).mono ?_
  rintro e w' ⟨rfl, rfl⟩
  rw [h1.out]
  have hN := hp
  clear hp
  (try go_wp2_with fail)
  refine hK.out _ _ ?_ (fun hHeld2 => ?_)
  ·(try dsimp only) <;> (first | exact keepT hN | exact keepT h0)
  clear hK K hHeld
  have hHeld := hHeld2
  clear hHeld2
  (try simp only [Act.put, pA, pB, pC])
  refine wpAnyH_ready (rs := [8]) (by kernel_rfl) (by simp) ?_
  refine AllReadyH.cons rfl (fun K hK => ?_) AllReadyH.nil
  go_simp
  go_at_call 137
  have hp := hHeld.1
  refine (as_for _ _ _ _).mono ?_
  rintro e w' ⟨rfl, rfl⟩
  (first | rw [hr1.out] | rw [hr2.out] | rw [hr3.out] | rw [hr4.out])
  have hN := hp
  clear hp
  (try go_wp2_with fail)
  refine hK.out _ _ ?_ (fun hHeld2 => ?_)
  ·(try dsimp only) <;> (first | exact keepT hN | exact keepT h0)
  clear hK K hHeld
  have hHeld := hHeld2
  clear hHeld2
  (try simp only [Act.put, pA, pB, pC]); refine tk 9 (some 21) rfl hHeld ?_; (try simp only [Act.put, pA, pB, pC]); refine tk 10 (some 22) rfl hHeld ?_; (try simp only [Act.put, pA, pB, pC]); refine tk 11 (some 23) rfl hHeld ?_; (try simp only [Act.put, pA, pB, pC]); refine tk 12 (some 24) rfl hHeld ?_; (try simp only [Act.put, pA, pB, pC]); refine tk 14 (some 26) rfl hHeld ?_; (try simp only [Act.put, pA, pB, pC]); refine tk 15 (some 27) rfl hHeld ?_; (try simp only [Act.put, pA, pB, pC]); refine tk 16 (some 28) rfl hHeld ?_; (try simp only [Act.put, pA, pB, pC])
  refine wpAnyH_ready (rs := [13]) (by kernel_rfl) (by simp) ?_
  refine AllReadyH.cons rfl (fun K hK => ?_) AllReadyH.nil
  go_simp
  go_at_call 138
  have hp := hHeld.1
  refine (impl_bounds j s ty lo hi t a ps.length cap hd _).mono ?_
  rintro e w' ⟨rfl, hB⟩
  rw [h2.out]
  have hN := hp.on hB
  clear hp hB
  (try go_wp2_with fail)
  refine hK.out _ _ ?_ (fun hHeld2 => ?_)
  ·(try dsimp only) <;> (first | exact keepT hN | exact keepT h0)
  clear hK K hHeld
  have hHeld := hHeld2
  clear hHeld2
  (try simp only [Act.put, pA, pB, pC]); refine tk 17 (some 29) rfl hHeld ?_; (try simp only [Act.put, pA, pB, pC]); refine tp 18 (some 30) rfl hHeld ?_; (try simp only [Act.put, pA, pB, pC]); refine tp 19 (some 31) rfl hHeld ?_; (try simp only [Act.put, pA, pB, pC]); refine tp 20 (some 32) rfl hHeld ?_; (try simp only [Act.put, pA, pB, pC]); refine tk 21 (some 33) rfl hHeld ?_; (try simp only [Act.put, pA, pB, pC]); refine tk 22 (some 34) rfl hHeld ?_; (try simp only [Act.put, pA, pB, pC]); refine tp 23 (some 35) rfl hHeld ?_; (try simp only [Act.put, pA, pB, pC]); refine tp 24 (some 36) rfl hHeld ?_; (try simp only [Act.put, pA, pB, pC]); refine tp 25 (some 37) rfl hHeld ?_; (try simp only [Act.put, pA, pB, pC]); refine tk 26 (some 38) rfl hHeld ?_; (try simp only [Act.put, pA, pB, pC])
  refine wpAnyH_ready (rs := [27]) (by kernel_rfl) (by simp) ?_
  refine AllReadyH.cons rfl (fun K hK => ?_) AllReadyH.nil
  go_simp
  go_at_call 137
  have hp := hHeld.1
  refine (as_for _ _ _ _).mono ?_
  rintro e w' ⟨rfl, rfl⟩
  (first | rw [hr1.out] | rw [hr2.out] | rw [hr3.out] | rw [hr4.out])
  have hN := hp
  clear hp
  (try go_wp2_with fail)
  refine hK.out _ _ ?_ (fun hHeld2 => ?_)
  ·(try dsimp only) <;> (first | exact keepT hN | exact keepT h0)
  clear hK K hHeld
  have hHeld := hHeld2
  clear hHeld2
  (try simp only [Act.put, pA, pB, pC]); refine tk 28 (some 40) rfl hHeld ?_; (try simp only [Act.put, pA, pB, pC]); refine tk 29 (some 41) rfl hHeld ?_; (try simp only [Act.put, pA, pB, pC]); refine tp 30 (some 42) rfl hHeld ?_; (try simp only [Act.put, pA, pB, pC]); refine tp 31 (some 43) rfl hHeld ?_; (try simp only [Act.put, pA, pB, pC]); refine tp 32 (some 44) rfl hHeld ?_; (try simp only [Act.put, pA, pB, pC]); refine tp 33 (some 45) rfl hHeld ?_; (try simp only [Act.put, pA, pB, pC]); refine tp 34 (some 46) rfl hHeld ?_; (try simp only [Act.put, pA, pB, pC]); refine tp 35 (some 47) rfl hHeld ?_; (try simp only [Act.put, pA, pB, pC]); refine tp 36 (some 48) rfl hHeld ?_; (try simp only [Act.put, pA, pB, pC]); refine tp 37 (some 49) rfl hHeld ?_; (try simp only [Act.put, pA, pB, pC]); refine tp 38 (some 50) rfl hHeld ?_; (try simp only [Act.put, pA, pB, pC]); refine tk 39 (some 51) rfl hHeld ?_
  (try simp only [Act.put, pA, pB, pC]); refine tk 40 (some 52) rfl hHeld ?_; (try simp only [Act.put, pA, pB, pC]); refine tp 41 (some 53) rfl hHeld ?_; (try simp only [Act.put, pA, pB, pC]); refine tp 42 (some 54) rfl hHeld ?_; (try simp only [Act.put, pA, pB, pC]); refine tp 43 (some 55) rfl hHeld ?_; (try simp only [Act.put, pA, pB, pC]); refine tp 44 (some 56) rfl hHeld ?_; (try simp only [Act.put, pA, pB, pC]); refine tp 45 (some 57) rfl hHeld ?_; (try simp only [Act.put, pA, pB, pC]); refine tp 46 (some 58) rfl hHeld ?_; (try simp only [Act.put, pA, pB, pC]); refine tp 47 (some 59) rfl hHeld ?_; (try simp only [Act.put, pA, pB, pC]); refine tp 48 (some 60) rfl hHeld ?_; (try simp only [Act.put, pA, pB, pC]); refine tp 49 (some 61) rfl hHeld ?_; (try simp only [Act.put, pA, pB, pC]); refine tp 50 (some 62) rfl hHeld ?_; (try simp only [Act.put, pA, pB, pC]); refine tp 51 (some 63) rfl hHeld ?_
  (try simp only [Act.put, pA, pB, pC]); refine tp 52 (some 64) rfl hHeld ?_; (try simp only [Act.put, pA, pB, pC]); refine tp 53 (some 65) rfl hHeld ?_; (try simp only [Act.put, pA, pB, pC]); refine tp 54 (some 66) rfl hHeld ?_; (try simp only [Act.put, pA, pB, pC]); refine tk 55 (some 67) rfl hHeld ?_; (try simp only [Act.put, pA, pB, pC]); refine tk 56 (some 68) rfl hHeld ?_; (try simp only [Act.put, pA, pB, pC]); refine tp 57 (some 69) rfl hHeld ?_; (try simp only [Act.put, pA, pB, pC]); refine tp 58 (some 70) rfl hHeld ?_; (try simp only [Act.put, pA, pB, pC]); refine tp 59 (some 71) rfl hHeld ?_; (try simp only [Act.put, pA, pB, pC]); refine tp 60 (some 72) rfl hHeld ?_; (try simp only [Act.put, pA, pB, pC]); refine tp 61 (some 73) rfl hHeld ?_; (try simp only [Act.put, pA, pB, pC]); refine tp 62 (some 74) rfl hHeld ?_; (try simp only [Act.put, pA, pB, pC]); refine tp 63 (some 75) rfl hHeld ?_
  (try simp only [Act.put, pA, pB, pC]); refine tk 64 (some 76) rfl hHeld ?_; (try simp only [Act.put, pA, pB, pC]); refine tk 65 (some 2) rfl hHeld ?_; (try simp only [Act.put, pA, pB, pC])
  refine wpAnyH_done (by kernel_rfl) ?_ _
  have HZ := hid hHeld.1
  clear hHeld h0
  go_wp2_with fail
  go_ret
  exact ⟨rfl, HZ.out.2.2⟩
 cases r3
 case false =>
  go_enter Tryz.func117, Tryz.ntmps117
  go_wp2_with (first | (go_at_call 127; refine (between_any _ _ _ _).mono ?_; rintro e w' ⟨rfl, rfl⟩; rw [hin.out]))
  have hT := HW.out
  obtain ⟨W0, hW0⟩ : ∃ W0, Hid ((w.alloc (.cells #[.int .i64 j, .string s, .int .i64 ty, .int .i64 lo, .int .i64 hi, .string t, .slice a ps.length cap, .bool hd] 57)).alloc (.cells #[.bool o1, .bool o2, .bool o3, .bool o4, .int .i64 o5] 179) = W0) := ⟨_, rfl⟩
  rw [hW0.out] at hT ⊢
  have h0 : Two w W0.drew j s ty lo hi t a ps.length cap hd o1 o2 o3 o4 o5 := hT.on (Below.refl _ _).drew
  clear hT hW0 g0 g1 g2 g3 g4 HW
  refine wp_region_held_drew (S := (fun w' => Two w w' j s ty lo hi t a ps.length cap hd o1 o2 o3 o4 o5 ∧ (w'.cell? ⟨w.heap.size, 0, none⟩ = some (.int .i64 j) ∧ w'.cell? ⟨w.heap.size, 1, none⟩ = some (.string s) ∧ w'.cell? ⟨w.heap.size, 2, none⟩ = some (.int .i64 ty) ∧ w'.cell? ⟨w.heap.size, 3, none⟩ = some (.int .i64 lo) ∧ w'.cell? ⟨w.heap.size, 4, none⟩ = some (.int .i64 hi) ∧ w'.cell? ⟨w.heap.size, 5, none⟩ = some (.string t) ∧ w'.cell? ⟨w.heap.size, 6, none⟩ = some (.slice a ps.length cap) ∧ w'.cell? ⟨w.heap.size, 7, none⟩ = some (.bool hd)) ∧ (w'.cell? ⟨w.heap.size + 1, 0, none⟩ = some (.bool o1) ∧ w'.cell? ⟨w.heap.size + 1, 1, none⟩ = some (.bool o2) ∧ w'.cell? ⟨w.heap.size + 1, 2, none⟩ = some (.bool o3) ∧ w'.cell? ⟨w.heap.size + 1, 3, none⟩ = some (.bool o4) ∧ w'.cell? ⟨w.heap.size + 1, 4, none⟩ = some (.int .i64 o5)))) (by kernel_rfl) ?_ (fun hHeld => ?_)
  ·(try dsimp only) <;> (first | exact keepT hN | exact keepT h0)
  refine tk 0 (some 12) rfl hHeld ?_; (try simp only [Act.put, pA, pB, pC]); refine tk 1 (some 13) rfl hHeld ?_; (try simp only [Act.put, pA, pB, pC]); refine tk 2 (some 14) rfl hHeld ?_; (try simp only [Act.put, pA, pB, pC]); refine tk 3 (some 15) rfl hHeld ?_; (try simp only [Act.put, pA, pB, pC]); refine tk 5 (some 17) rfl hHeld ?_; (try simp only [Act.put, pA, pB, pC]); refine tk 6 (some 18) rfl hHeld ?_; (try simp only [Act.put, pA, pB, pC]); refine tk 7 (some 19) rfl hHeld ?_; (try simp only [Act.put, pA, pB, pC])
  refine wpAnyH_ready (rs := [4]) (by kernel_rfl) (by simp) ?_
  refine AllReadyH.cons rfl (fun K hK => ?_) AllReadyH.nil
  go_simp
  go_at_call 91
  have hp := hHeld.1
  refine (impl_name s _ HS.out).mono ?_
  rintro e w' ⟨rfl, rfl⟩
  rw [h1.out]
  have hN := hp
  clear hp
  (try go_wp2_with fail)
  refine hK.out _ _ ?_ (fun hHeld2 => ?_)
  ·(try dsimp only) <;> (first | exact keepT hN | exact keepT h0)
  clear hK K hHeld
  have hHeld := hHeld2
  clear hHeld2
  (try simp only [Act.put, pA, pB, pC])
  refine wpAnyH_ready (rs := [8]) (by kernel_rfl) (by simp) ?_
  refine AllReadyH.cons rfl (fun K hK => ?_) AllReadyH.nil
  go_simp
  go_at_call 137
  have hp := hHeld.1
  refine (as_for _ _ _ _).mono ?_
  rintro e w' ⟨rfl, rfl⟩
  (first | rw [hr1.out] | rw [hr2.out] | rw [hr3.out] | rw [hr4.out])
  have hN := hp
  clear hp
  (try go_wp2_with fail)
  refine hK.out _ _ ?_ (fun hHeld2 => ?_)
  ·(try dsimp only) <;> (first | exact keepT hN | exact keepT h0)
  clear hK K hHeld
  have hHeld := hHeld2
  clear hHeld2
  (try simp only [Act.put, pA, pB, pC]); refine tk 9 (some 21) rfl hHeld ?_; (try simp only [Act.put, pA, pB, pC]); refine tk 10 (some 22) rfl hHeld ?_; (try simp only [Act.put, pA, pB, pC]); refine tk 11 (some 23) rfl hHeld ?_; (try simp only [Act.put, pA, pB, pC]); refine tk 12 (some 24) rfl hHeld ?_; (try simp only [Act.put, pA, pB, pC]); refine tk 14 (some 26) rfl hHeld ?_; (try simp only [Act.put, pA, pB, pC]); refine tk 15 (some 27) rfl hHeld ?_; (try simp only [Act.put, pA, pB, pC]); refine tk 16 (some 28) rfl hHeld ?_; (try simp only [Act.put, pA, pB, pC])
  refine wpAnyH_ready (rs := [13]) (by kernel_rfl) (by simp) ?_
  refine AllReadyH.cons rfl (fun K hK => ?_) AllReadyH.nil
  go_simp
  go_at_call 138
  have hp := hHeld.1
  refine (impl_bounds j s ty lo hi t a ps.length cap hd _).mono ?_
  rintro e w' ⟨rfl, hB⟩
  rw [h2.out]
  have hN := hp.on hB
  clear hp hB
  (try go_wp2_with fail)
  refine hK.out _ _ ?_ (fun hHeld2 => ?_)
  ·(try dsimp only) <;> (first | exact keepT hN | exact keepT h0)
  clear hK K hHeld
  have hHeld := hHeld2
  clear hHeld2
  (try simp only [Act.put, pA, pB, pC]); refine tk 17 (some 29) rfl hHeld ?_; (try simp only [Act.put, pA, pB, pC]); refine tp 18 (some 30) rfl hHeld ?_; (try simp only [Act.put, pA, pB, pC]); refine tp 19 (some 31) rfl hHeld ?_; (try simp only [Act.put, pA, pB, pC]); refine tp 20 (some 32) rfl hHeld ?_; (try simp only [Act.put, pA, pB, pC]); refine tk 21 (some 33) rfl hHeld ?_; (try simp only [Act.put, pA, pB, pC]); refine tk 22 (some 34) rfl hHeld ?_; (try simp only [Act.put, pA, pB, pC]); refine tp 23 (some 35) rfl hHeld ?_; (try simp only [Act.put, pA, pB, pC]); refine tp 24 (some 36) rfl hHeld ?_; (try simp only [Act.put, pA, pB, pC]); refine tp 25 (some 37) rfl hHeld ?_; (try simp only [Act.put, pA, pB, pC]); refine tk 26 (some 38) rfl hHeld ?_; (try simp only [Act.put, pA, pB, pC])
  refine wpAnyH_ready (rs := [27]) (by kernel_rfl) (by simp) ?_
  refine AllReadyH.cons rfl (fun K hK => ?_) AllReadyH.nil
  go_simp
  go_at_call 137
  have hp := hHeld.1
  refine (as_for _ _ _ _).mono ?_
  rintro e w' ⟨rfl, rfl⟩
  (first | rw [hr1.out] | rw [hr2.out] | rw [hr3.out] | rw [hr4.out])
  have hN := hp
  clear hp
  (try go_wp2_with fail)
  refine hK.out _ _ ?_ (fun hHeld2 => ?_)
  ·(try dsimp only) <;> (first | exact keepT hN | exact keepT h0)
  clear hK K hHeld
  have hHeld := hHeld2
  clear hHeld2
  (try simp only [Act.put, pA, pB, pC]); refine tk 28 (some 40) rfl hHeld ?_; (try simp only [Act.put, pA, pB, pC]); refine tk 29 (some 41) rfl hHeld ?_; (try simp only [Act.put, pA, pB, pC]); refine tk 30 (some 42) rfl hHeld ?_; (try simp only [Act.put, pA, pB, pC]); refine tk 31 (some 43) rfl hHeld ?_; (try simp only [Act.put, pA, pB, pC]); refine tk 32 (some 44) rfl hHeld ?_; (try simp only [Act.put, pA, pB, pC]); refine tk 33 (some 45) rfl hHeld ?_; (try simp only [Act.put, pA, pB, pC]); refine tk 35 (some 47) rfl hHeld ?_; (try simp only [Act.put, pA, pB, pC]); refine tk 36 (some 48) rfl hHeld ?_; (try simp only [Act.put, pA, pB, pC]); refine tk 37 (some 49) rfl hHeld ?_; (try simp only [Act.put, pA, pB, pC])
  refine wpAnyH_ready (rs := [34]) (by kernel_rfl) (by simp) ?_
  refine AllReadyH.cons rfl (fun K hK => ?_) AllReadyH.nil
  go_simp
  go_at_call 139
  have hp := hHeld.1
  refine (impl_asked t _ HT.out).mono ?_
  rintro e w' ⟨rfl, hB⟩
  rw [h3.out]
  have hN := hp.on hB
  clear hp hB
  (try go_wp2_with fail)
  refine hK.out _ _ ?_ (fun hHeld2 => ?_)
  ·(try dsimp only) <;> (first | exact keepT hN | exact keepT h0)
  clear hK K hHeld
  have hHeld := hHeld2
  clear hHeld2
  (try simp only [Act.put, pA, pB, pC])
  refine wpAnyH_ready (rs := [38]) (by kernel_rfl) (by simp) ?_
  refine AllReadyH.cons rfl (fun K hK => ?_) AllReadyH.nil
  go_simp
  go_at_call 137
  have hp := hHeld.1
  refine (as_for _ _ _ _).mono ?_
  rintro e w' ⟨rfl, rfl⟩
  (first | rw [hr1.out] | rw [hr2.out] | rw [hr3.out] | rw [hr4.out])
  have hN := hp
  clear hp
  (try go_wp2_with fail)
  refine hK.out _ _ ?_ (fun hHeld2 => ?_)
  ·(try dsimp only) <;> (first | exact keepT hN | exact keepT h0)
  clear hK K hHeld
  have hHeld := hHeld2
  clear hHeld2
  (try simp only [Act.put, pA, pB, pC]); refine tk 39 (some 51) rfl hHeld ?_; (try simp only [Act.put, pA, pB, pC]); refine tk 40 (some 52) rfl hHeld ?_; (try simp only [Act.put, pA, pB, pC]); refine tp 41 (some 53) rfl hHeld ?_; (try simp only [Act.put, pA, pB, pC]); refine tp 42 (some 54) rfl hHeld ?_; (try simp only [Act.put, pA, pB, pC]); refine tp 43 (some 55) rfl hHeld ?_; (try simp only [Act.put, pA, pB, pC]); refine tp 44 (some 56) rfl hHeld ?_; (try simp only [Act.put, pA, pB, pC]); refine tp 45 (some 57) rfl hHeld ?_; (try simp only [Act.put, pA, pB, pC]); refine tp 46 (some 58) rfl hHeld ?_; (try simp only [Act.put, pA, pB, pC]); refine tp 47 (some 59) rfl hHeld ?_; (try simp only [Act.put, pA, pB, pC]); refine tp 48 (some 60) rfl hHeld ?_; (try simp only [Act.put, pA, pB, pC]); refine tp 49 (some 61) rfl hHeld ?_; (try simp only [Act.put, pA, pB, pC]); refine tp 50 (some 62) rfl hHeld ?_
  (try simp only [Act.put, pA, pB, pC]); refine tp 51 (some 63) rfl hHeld ?_; (try simp only [Act.put, pA, pB, pC]); refine tp 52 (some 64) rfl hHeld ?_; (try simp only [Act.put, pA, pB, pC]); refine tp 53 (some 65) rfl hHeld ?_; (try simp only [Act.put, pA, pB, pC]); refine tp 54 (some 66) rfl hHeld ?_; (try simp only [Act.put, pA, pB, pC]); refine tk 55 (some 67) rfl hHeld ?_; (try simp only [Act.put, pA, pB, pC]); refine tk 56 (some 68) rfl hHeld ?_; (try simp only [Act.put, pA, pB, pC]); refine tp 57 (some 69) rfl hHeld ?_; (try simp only [Act.put, pA, pB, pC]); refine tp 58 (some 70) rfl hHeld ?_; (try simp only [Act.put, pA, pB, pC]); refine tp 59 (some 71) rfl hHeld ?_; (try simp only [Act.put, pA, pB, pC]); refine tp 60 (some 72) rfl hHeld ?_; (try simp only [Act.put, pA, pB, pC]); refine tp 61 (some 73) rfl hHeld ?_; (try simp only [Act.put, pA, pB, pC]); refine tp 62 (some 74) rfl hHeld ?_
  (try simp only [Act.put, pA, pB, pC]); refine tp 63 (some 75) rfl hHeld ?_; (try simp only [Act.put, pA, pB, pC]); refine tk 64 (some 76) rfl hHeld ?_; (try simp only [Act.put, pA, pB, pC]); refine tk 65 (some 2) rfl hHeld ?_; (try simp only [Act.put, pA, pB, pC])
  refine wpAnyH_done (by kernel_rfl) ?_ _
  have HZ := hid hHeld.1
  clear hHeld h0
  go_wp2_with fail
  go_ret
  exact ⟨rfl, HZ.out.2.2⟩
 cases r4
 case false =>
  go_enter Tryz.func117, Tryz.ntmps117
  go_wp2_with (first | (go_at_call 127; refine (between_any _ _ _ _).mono ?_; rintro e w' ⟨rfl, rfl⟩; rw [hin.out]))
  have hT := HW.out
  obtain ⟨W0, hW0⟩ : ∃ W0, Hid ((w.alloc (.cells #[.int .i64 j, .string s, .int .i64 ty, .int .i64 lo, .int .i64 hi, .string t, .slice a ps.length cap, .bool hd] 57)).alloc (.cells #[.bool o1, .bool o2, .bool o3, .bool o4, .int .i64 o5] 179) = W0) := ⟨_, rfl⟩
  rw [hW0.out] at hT ⊢
  have h0 : Two w W0.drew j s ty lo hi t a ps.length cap hd o1 o2 o3 o4 o5 := hT.on (Below.refl _ _).drew
  clear hT hW0 g0 g1 g2 g3 g4 HW
  refine wp_region_held_drew (S := (fun w' => Two w w' j s ty lo hi t a ps.length cap hd o1 o2 o3 o4 o5 ∧ (w'.cell? ⟨w.heap.size, 0, none⟩ = some (.int .i64 j) ∧ w'.cell? ⟨w.heap.size, 1, none⟩ = some (.string s) ∧ w'.cell? ⟨w.heap.size, 2, none⟩ = some (.int .i64 ty) ∧ w'.cell? ⟨w.heap.size, 3, none⟩ = some (.int .i64 lo) ∧ w'.cell? ⟨w.heap.size, 4, none⟩ = some (.int .i64 hi) ∧ w'.cell? ⟨w.heap.size, 5, none⟩ = some (.string t) ∧ w'.cell? ⟨w.heap.size, 6, none⟩ = some (.slice a ps.length cap) ∧ w'.cell? ⟨w.heap.size, 7, none⟩ = some (.bool hd)) ∧ (w'.cell? ⟨w.heap.size + 1, 0, none⟩ = some (.bool o1) ∧ w'.cell? ⟨w.heap.size + 1, 1, none⟩ = some (.bool o2) ∧ w'.cell? ⟨w.heap.size + 1, 2, none⟩ = some (.bool o3) ∧ w'.cell? ⟨w.heap.size + 1, 3, none⟩ = some (.bool o4) ∧ w'.cell? ⟨w.heap.size + 1, 4, none⟩ = some (.int .i64 o5)))) (by kernel_rfl) ?_ (fun hHeld => ?_)
  ·(try dsimp only) <;> (first | exact keepT hN | exact keepT h0)
  refine tk 0 (some 12) rfl hHeld ?_; (try simp only [Act.put, pA, pB, pC]); refine tk 1 (some 13) rfl hHeld ?_; (try simp only [Act.put, pA, pB, pC]); refine tk 2 (some 14) rfl hHeld ?_; (try simp only [Act.put, pA, pB, pC]); refine tk 3 (some 15) rfl hHeld ?_; (try simp only [Act.put, pA, pB, pC]); refine tk 5 (some 17) rfl hHeld ?_; (try simp only [Act.put, pA, pB, pC]); refine tk 6 (some 18) rfl hHeld ?_; (try simp only [Act.put, pA, pB, pC]); refine tk 7 (some 19) rfl hHeld ?_; (try simp only [Act.put, pA, pB, pC])
  refine wpAnyH_ready (rs := [4]) (by kernel_rfl) (by simp) ?_
  refine AllReadyH.cons rfl (fun K hK => ?_) AllReadyH.nil
  go_simp
  go_at_call 91
  have hp := hHeld.1
  refine (impl_name s _ HS.out).mono ?_
  rintro e w' ⟨rfl, rfl⟩
  rw [h1.out]
  have hN := hp
  clear hp
  (try go_wp2_with fail)
  refine hK.out _ _ ?_ (fun hHeld2 => ?_)
  ·(try dsimp only) <;> (first | exact keepT hN | exact keepT h0)
  clear hK K hHeld
  have hHeld := hHeld2
  clear hHeld2
  (try simp only [Act.put, pA, pB, pC])
  refine wpAnyH_ready (rs := [8]) (by kernel_rfl) (by simp) ?_
  refine AllReadyH.cons rfl (fun K hK => ?_) AllReadyH.nil
  go_simp
  go_at_call 137
  have hp := hHeld.1
  refine (as_for _ _ _ _).mono ?_
  rintro e w' ⟨rfl, rfl⟩
  (first | rw [hr1.out] | rw [hr2.out] | rw [hr3.out] | rw [hr4.out])
  have hN := hp
  clear hp
  (try go_wp2_with fail)
  refine hK.out _ _ ?_ (fun hHeld2 => ?_)
  ·(try dsimp only) <;> (first | exact keepT hN | exact keepT h0)
  clear hK K hHeld
  have hHeld := hHeld2
  clear hHeld2
  (try simp only [Act.put, pA, pB, pC]); refine tk 9 (some 21) rfl hHeld ?_; (try simp only [Act.put, pA, pB, pC]); refine tk 10 (some 22) rfl hHeld ?_; (try simp only [Act.put, pA, pB, pC]); refine tk 11 (some 23) rfl hHeld ?_; (try simp only [Act.put, pA, pB, pC]); refine tk 12 (some 24) rfl hHeld ?_; (try simp only [Act.put, pA, pB, pC]); refine tk 14 (some 26) rfl hHeld ?_; (try simp only [Act.put, pA, pB, pC]); refine tk 15 (some 27) rfl hHeld ?_; (try simp only [Act.put, pA, pB, pC]); refine tk 16 (some 28) rfl hHeld ?_; (try simp only [Act.put, pA, pB, pC])
  refine wpAnyH_ready (rs := [13]) (by kernel_rfl) (by simp) ?_
  refine AllReadyH.cons rfl (fun K hK => ?_) AllReadyH.nil
  go_simp
  go_at_call 138
  have hp := hHeld.1
  refine (impl_bounds j s ty lo hi t a ps.length cap hd _).mono ?_
  rintro e w' ⟨rfl, hB⟩
  rw [h2.out]
  have hN := hp.on hB
  clear hp hB
  (try go_wp2_with fail)
  refine hK.out _ _ ?_ (fun hHeld2 => ?_)
  ·(try dsimp only) <;> (first | exact keepT hN | exact keepT h0)
  clear hK K hHeld
  have hHeld := hHeld2
  clear hHeld2
  (try simp only [Act.put, pA, pB, pC]); refine tk 17 (some 29) rfl hHeld ?_; (try simp only [Act.put, pA, pB, pC]); refine tp 18 (some 30) rfl hHeld ?_; (try simp only [Act.put, pA, pB, pC]); refine tp 19 (some 31) rfl hHeld ?_; (try simp only [Act.put, pA, pB, pC]); refine tp 20 (some 32) rfl hHeld ?_; (try simp only [Act.put, pA, pB, pC]); refine tk 21 (some 33) rfl hHeld ?_; (try simp only [Act.put, pA, pB, pC]); refine tk 22 (some 34) rfl hHeld ?_; (try simp only [Act.put, pA, pB, pC]); refine tp 23 (some 35) rfl hHeld ?_; (try simp only [Act.put, pA, pB, pC]); refine tp 24 (some 36) rfl hHeld ?_; (try simp only [Act.put, pA, pB, pC]); refine tp 25 (some 37) rfl hHeld ?_; (try simp only [Act.put, pA, pB, pC]); refine tk 26 (some 38) rfl hHeld ?_; (try simp only [Act.put, pA, pB, pC])
  refine wpAnyH_ready (rs := [27]) (by kernel_rfl) (by simp) ?_
  refine AllReadyH.cons rfl (fun K hK => ?_) AllReadyH.nil
  go_simp
  go_at_call 137
  have hp := hHeld.1
  refine (as_for _ _ _ _).mono ?_
  rintro e w' ⟨rfl, rfl⟩
  (first | rw [hr1.out] | rw [hr2.out] | rw [hr3.out] | rw [hr4.out])
  have hN := hp
  clear hp
  (try go_wp2_with fail)
  refine hK.out _ _ ?_ (fun hHeld2 => ?_)
  ·(try dsimp only) <;> (first | exact keepT hN | exact keepT h0)
  clear hK K hHeld
  have hHeld := hHeld2
  clear hHeld2
  (try simp only [Act.put, pA, pB, pC]); refine tk 28 (some 40) rfl hHeld ?_; (try simp only [Act.put, pA, pB, pC]); refine tk 29 (some 41) rfl hHeld ?_; (try simp only [Act.put, pA, pB, pC]); refine tk 30 (some 42) rfl hHeld ?_; (try simp only [Act.put, pA, pB, pC]); refine tk 31 (some 43) rfl hHeld ?_; (try simp only [Act.put, pA, pB, pC]); refine tk 32 (some 44) rfl hHeld ?_; (try simp only [Act.put, pA, pB, pC]); refine tk 33 (some 45) rfl hHeld ?_; (try simp only [Act.put, pA, pB, pC]); refine tk 35 (some 47) rfl hHeld ?_; (try simp only [Act.put, pA, pB, pC]); refine tk 36 (some 48) rfl hHeld ?_; (try simp only [Act.put, pA, pB, pC]); refine tk 37 (some 49) rfl hHeld ?_; (try simp only [Act.put, pA, pB, pC])
  refine wpAnyH_ready (rs := [34]) (by kernel_rfl) (by simp) ?_
  refine AllReadyH.cons rfl (fun K hK => ?_) AllReadyH.nil
  go_simp
  go_at_call 139
  have hp := hHeld.1
  refine (impl_asked t _ HT.out).mono ?_
  rintro e w' ⟨rfl, hB⟩
  rw [h3.out]
  have hN := hp.on hB
  clear hp hB
  (try go_wp2_with fail)
  refine hK.out _ _ ?_ (fun hHeld2 => ?_)
  ·(try dsimp only) <;> (first | exact keepT hN | exact keepT h0)
  clear hK K hHeld
  have hHeld := hHeld2
  clear hHeld2
  (try simp only [Act.put, pA, pB, pC])
  refine wpAnyH_ready (rs := [38]) (by kernel_rfl) (by simp) ?_
  refine AllReadyH.cons rfl (fun K hK => ?_) AllReadyH.nil
  go_simp
  go_at_call 137
  have hp := hHeld.1
  refine (as_for _ _ _ _).mono ?_
  rintro e w' ⟨rfl, rfl⟩
  (first | rw [hr1.out] | rw [hr2.out] | rw [hr3.out] | rw [hr4.out])
  have hN := hp
  clear hp
  (try go_wp2_with fail)
  refine hK.out _ _ ?_ (fun hHeld2 => ?_)
  ·(try dsimp only) <;> (first | exact keepT hN | exact keepT h0)
  clear hK K hHeld
  have hHeld := hHeld2
  clear hHeld2
  (try simp only [Act.put, pA, pB, pC]); refine tk 39 (some 51) rfl hHeld ?_; (try simp only [Act.put, pA, pB, pC]); refine tk 40 (some 52) rfl hHeld ?_; (try simp only [Act.put, pA, pB, pC]); refine tk 41 (some 53) rfl hHeld ?_; (try simp only [Act.put, pA, pB, pC]); refine tk 42 (some 54) rfl hHeld ?_; (try simp only [Act.put, pA, pB, pC]); refine tk 43 (some 55) rfl hHeld ?_; (try simp only [Act.put, pA, pB, pC]); refine tk 44 (some 56) rfl hHeld ?_; (try simp only [Act.put, pA, pB, pC]); refine tk 45 (some 57) rfl hHeld ?_; (try simp only [Act.put, pA, pB, pC]); refine tk 47 (some 59) rfl hHeld ?_; (try simp only [Act.put, pA, pB, pC]); refine tk 48 (some 60) rfl hHeld ?_; (try simp only [Act.put, pA, pB, pC]); refine tk 50 (some 62) rfl hHeld ?_; (try simp only [Act.put, pA, pB, pC]); refine tk 51 (some 63) rfl hHeld ?_; (try simp only [Act.put, pA, pB, pC]); refine tk 52 (some 64) rfl hHeld ?_
  (try simp only [Act.put, pA, pB, pC]); refine tk 53 (some 65) rfl hHeld ?_; (try simp only [Act.put, pA, pB, pC])
  refine wpAnyH_ready (rs := [46]) (by kernel_rfl) (by simp) ?_
  refine AllReadyH.cons rfl (fun K hK => ?_) AllReadyH.nil
  go_simp
  go_at_call 140
  have hp := hHeld.1
  refine (expr_tells a cap ps _ (HP.out.on hp.2.2) hcap (HE.out.1.on hp.2.2)).mono ?_
  rintro e w' ⟨rfl, hB⟩
  rw [h4.out]
  have hN := hp.on hB
  clear hp hB
  (try go_wp2_with fail)
  refine hK.out _ _ ?_ (fun hHeld2 => ?_)
  ·(try dsimp only) <;> (first | exact keepT hN | exact keepT h0)
  clear hK K hHeld
  have hHeld := hHeld2
  clear hHeld2
  (try simp only [Act.put, pA, pB, pC]); refine tk 49 (some 61) rfl hHeld ?_; (try simp only [Act.put, pA, pB, pC])
  refine wpAnyH_ready (rs := [54]) (by kernel_rfl) (by simp) ?_
  refine AllReadyH.cons rfl (fun K hK => ?_) AllReadyH.nil
  go_simp
  go_at_call 137
  have hp := hHeld.1
  refine (as_for _ _ _ _).mono ?_
  rintro e w' ⟨rfl, rfl⟩
  (first | rw [hr1.out] | rw [hr2.out] | rw [hr3.out] | rw [hr4.out])
  have hN := hp
  clear hp
  (try go_wp2_with fail)
  refine hK.out _ _ ?_ (fun hHeld2 => ?_)
  ·(try dsimp only) <;> (first | exact keepT hN | exact keepT h0)
  clear hK K hHeld
  have hHeld := hHeld2
  clear hHeld2
  (try simp only [Act.put, pA, pB, pC]); refine tk 55 (some 67) rfl hHeld ?_; (try simp only [Act.put, pA, pB, pC]); refine tk 56 (some 68) rfl hHeld ?_; (try simp only [Act.put, pA, pB, pC]); refine tp 57 (some 69) rfl hHeld ?_; (try simp only [Act.put, pA, pB, pC]); refine tp 58 (some 70) rfl hHeld ?_; (try simp only [Act.put, pA, pB, pC]); refine tp 59 (some 71) rfl hHeld ?_; (try simp only [Act.put, pA, pB, pC]); refine tp 60 (some 72) rfl hHeld ?_; (try simp only [Act.put, pA, pB, pC]); refine tp 61 (some 73) rfl hHeld ?_; (try simp only [Act.put, pA, pB, pC]); refine tp 62 (some 74) rfl hHeld ?_; (try simp only [Act.put, pA, pB, pC]); refine tp 63 (some 75) rfl hHeld ?_; (try simp only [Act.put, pA, pB, pC]); refine tk 64 (some 76) rfl hHeld ?_; (try simp only [Act.put, pA, pB, pC]); refine tk 65 (some 2) rfl hHeld ?_; (try simp only [Act.put, pA, pB, pC])
  refine wpAnyH_done (by kernel_rfl) ?_ _
  have HZ := hid hHeld.1
  clear hHeld h0
  go_wp2_with fail
  go_ret
  exact ⟨rfl, HZ.out.2.2⟩
 cases o4
 case true =>
  go_enter Tryz.func117, Tryz.ntmps117
  go_wp2_with (first | (go_at_call 127; refine (between_any _ _ _ _).mono ?_; rintro e w' ⟨rfl, rfl⟩; rw [hin.out]))
  have hT := HW.out
  obtain ⟨W0, hW0⟩ : ∃ W0, Hid ((w.alloc (.cells #[.int .i64 j, .string s, .int .i64 ty, .int .i64 lo, .int .i64 hi, .string t, .slice a ps.length cap, .bool hd] 57)).alloc (.cells #[.bool o1, .bool o2, .bool o3, .bool true, .int .i64 o5] 179) = W0) := ⟨_, rfl⟩
  rw [hW0.out] at hT ⊢
  have h0 : Two w W0.drew j s ty lo hi t a ps.length cap hd o1 o2 o3 true o5 := hT.on (Below.refl _ _).drew
  clear hT hW0 g0 g1 g2 g3 g4 HW
  refine wp_region_held_drew (S := (fun w' => Two w w' j s ty lo hi t a ps.length cap hd o1 o2 o3 true o5 ∧ (w'.cell? ⟨w.heap.size, 0, none⟩ = some (.int .i64 j) ∧ w'.cell? ⟨w.heap.size, 1, none⟩ = some (.string s) ∧ w'.cell? ⟨w.heap.size, 2, none⟩ = some (.int .i64 ty) ∧ w'.cell? ⟨w.heap.size, 3, none⟩ = some (.int .i64 lo) ∧ w'.cell? ⟨w.heap.size, 4, none⟩ = some (.int .i64 hi) ∧ w'.cell? ⟨w.heap.size, 5, none⟩ = some (.string t) ∧ w'.cell? ⟨w.heap.size, 6, none⟩ = some (.slice a ps.length cap) ∧ w'.cell? ⟨w.heap.size, 7, none⟩ = some (.bool hd)) ∧ (w'.cell? ⟨w.heap.size + 1, 0, none⟩ = some (.bool o1) ∧ w'.cell? ⟨w.heap.size + 1, 1, none⟩ = some (.bool o2) ∧ w'.cell? ⟨w.heap.size + 1, 2, none⟩ = some (.bool o3) ∧ w'.cell? ⟨w.heap.size + 1, 3, none⟩ = some (.bool true) ∧ w'.cell? ⟨w.heap.size + 1, 4, none⟩ = some (.int .i64 o5)))) (by kernel_rfl) ?_ (fun hHeld => ?_)
  ·(try dsimp only) <;> (first | exact keepT hN | exact keepT h0)
  refine tk 0 (some 12) rfl hHeld ?_; (try simp only [Act.put, pA, pB, pC]); refine tk 1 (some 13) rfl hHeld ?_; (try simp only [Act.put, pA, pB, pC]); refine tk 2 (some 14) rfl hHeld ?_; (try simp only [Act.put, pA, pB, pC]); refine tk 3 (some 15) rfl hHeld ?_; (try simp only [Act.put, pA, pB, pC]); refine tk 5 (some 17) rfl hHeld ?_; (try simp only [Act.put, pA, pB, pC]); refine tk 6 (some 18) rfl hHeld ?_; (try simp only [Act.put, pA, pB, pC]); refine tk 7 (some 19) rfl hHeld ?_; (try simp only [Act.put, pA, pB, pC])
  refine wpAnyH_ready (rs := [4]) (by kernel_rfl) (by simp) ?_
  refine AllReadyH.cons rfl (fun K hK => ?_) AllReadyH.nil
  go_simp
  go_at_call 91
  have hp := hHeld.1
  refine (impl_name s _ HS.out).mono ?_
  rintro e w' ⟨rfl, rfl⟩
  rw [h1.out]
  have hN := hp
  clear hp
  (try go_wp2_with fail)
  refine hK.out _ _ ?_ (fun hHeld2 => ?_)
  ·(try dsimp only) <;> (first | exact keepT hN | exact keepT h0)
  clear hK K hHeld
  have hHeld := hHeld2
  clear hHeld2
  (try simp only [Act.put, pA, pB, pC])
  refine wpAnyH_ready (rs := [8]) (by kernel_rfl) (by simp) ?_
  refine AllReadyH.cons rfl (fun K hK => ?_) AllReadyH.nil
  go_simp
  go_at_call 137
  have hp := hHeld.1
  refine (as_for _ _ _ _).mono ?_
  rintro e w' ⟨rfl, rfl⟩
  (first | rw [hr1.out] | rw [hr2.out] | rw [hr3.out] | rw [hr4.out])
  have hN := hp
  clear hp
  (try go_wp2_with fail)
  refine hK.out _ _ ?_ (fun hHeld2 => ?_)
  ·(try dsimp only) <;> (first | exact keepT hN | exact keepT h0)
  clear hK K hHeld
  have hHeld := hHeld2
  clear hHeld2
  (try simp only [Act.put, pA, pB, pC]); refine tk 9 (some 21) rfl hHeld ?_; (try simp only [Act.put, pA, pB, pC]); refine tk 10 (some 22) rfl hHeld ?_; (try simp only [Act.put, pA, pB, pC]); refine tk 11 (some 23) rfl hHeld ?_; (try simp only [Act.put, pA, pB, pC]); refine tk 12 (some 24) rfl hHeld ?_; (try simp only [Act.put, pA, pB, pC]); refine tk 14 (some 26) rfl hHeld ?_; (try simp only [Act.put, pA, pB, pC]); refine tk 15 (some 27) rfl hHeld ?_; (try simp only [Act.put, pA, pB, pC]); refine tk 16 (some 28) rfl hHeld ?_; (try simp only [Act.put, pA, pB, pC])
  refine wpAnyH_ready (rs := [13]) (by kernel_rfl) (by simp) ?_
  refine AllReadyH.cons rfl (fun K hK => ?_) AllReadyH.nil
  go_simp
  go_at_call 138
  have hp := hHeld.1
  refine (impl_bounds j s ty lo hi t a ps.length cap hd _).mono ?_
  rintro e w' ⟨rfl, hB⟩
  rw [h2.out]
  have hN := hp.on hB
  clear hp hB
  (try go_wp2_with fail)
  refine hK.out _ _ ?_ (fun hHeld2 => ?_)
  ·(try dsimp only) <;> (first | exact keepT hN | exact keepT h0)
  clear hK K hHeld
  have hHeld := hHeld2
  clear hHeld2
  (try simp only [Act.put, pA, pB, pC]); refine tk 17 (some 29) rfl hHeld ?_; (try simp only [Act.put, pA, pB, pC]); refine tp 18 (some 30) rfl hHeld ?_; (try simp only [Act.put, pA, pB, pC]); refine tp 19 (some 31) rfl hHeld ?_; (try simp only [Act.put, pA, pB, pC]); refine tp 20 (some 32) rfl hHeld ?_; (try simp only [Act.put, pA, pB, pC]); refine tk 21 (some 33) rfl hHeld ?_; (try simp only [Act.put, pA, pB, pC]); refine tk 22 (some 34) rfl hHeld ?_; (try simp only [Act.put, pA, pB, pC]); refine tp 23 (some 35) rfl hHeld ?_; (try simp only [Act.put, pA, pB, pC]); refine tp 24 (some 36) rfl hHeld ?_; (try simp only [Act.put, pA, pB, pC]); refine tp 25 (some 37) rfl hHeld ?_; (try simp only [Act.put, pA, pB, pC]); refine tk 26 (some 38) rfl hHeld ?_; (try simp only [Act.put, pA, pB, pC])
  refine wpAnyH_ready (rs := [27]) (by kernel_rfl) (by simp) ?_
  refine AllReadyH.cons rfl (fun K hK => ?_) AllReadyH.nil
  go_simp
  go_at_call 137
  have hp := hHeld.1
  refine (as_for _ _ _ _).mono ?_
  rintro e w' ⟨rfl, rfl⟩
  (first | rw [hr1.out] | rw [hr2.out] | rw [hr3.out] | rw [hr4.out])
  have hN := hp
  clear hp
  (try go_wp2_with fail)
  refine hK.out _ _ ?_ (fun hHeld2 => ?_)
  ·(try dsimp only) <;> (first | exact keepT hN | exact keepT h0)
  clear hK K hHeld
  have hHeld := hHeld2
  clear hHeld2
  (try simp only [Act.put, pA, pB, pC]); refine tk 28 (some 40) rfl hHeld ?_; (try simp only [Act.put, pA, pB, pC]); refine tk 29 (some 41) rfl hHeld ?_; (try simp only [Act.put, pA, pB, pC]); refine tk 30 (some 42) rfl hHeld ?_; (try simp only [Act.put, pA, pB, pC]); refine tk 31 (some 43) rfl hHeld ?_; (try simp only [Act.put, pA, pB, pC]); refine tk 32 (some 44) rfl hHeld ?_; (try simp only [Act.put, pA, pB, pC]); refine tk 33 (some 45) rfl hHeld ?_; (try simp only [Act.put, pA, pB, pC]); refine tk 35 (some 47) rfl hHeld ?_; (try simp only [Act.put, pA, pB, pC]); refine tk 36 (some 48) rfl hHeld ?_; (try simp only [Act.put, pA, pB, pC]); refine tk 37 (some 49) rfl hHeld ?_; (try simp only [Act.put, pA, pB, pC])
  refine wpAnyH_ready (rs := [34]) (by kernel_rfl) (by simp) ?_
  refine AllReadyH.cons rfl (fun K hK => ?_) AllReadyH.nil
  go_simp
  go_at_call 139
  have hp := hHeld.1
  refine (impl_asked t _ HT.out).mono ?_
  rintro e w' ⟨rfl, hB⟩
  rw [h3.out]
  have hN := hp.on hB
  clear hp hB
  (try go_wp2_with fail)
  refine hK.out _ _ ?_ (fun hHeld2 => ?_)
  ·(try dsimp only) <;> (first | exact keepT hN | exact keepT h0)
  clear hK K hHeld
  have hHeld := hHeld2
  clear hHeld2
  (try simp only [Act.put, pA, pB, pC])
  refine wpAnyH_ready (rs := [38]) (by kernel_rfl) (by simp) ?_
  refine AllReadyH.cons rfl (fun K hK => ?_) AllReadyH.nil
  go_simp
  go_at_call 137
  have hp := hHeld.1
  refine (as_for _ _ _ _).mono ?_
  rintro e w' ⟨rfl, rfl⟩
  (first | rw [hr1.out] | rw [hr2.out] | rw [hr3.out] | rw [hr4.out])
  have hN := hp
  clear hp
  (try go_wp2_with fail)
  refine hK.out _ _ ?_ (fun hHeld2 => ?_)
  ·(try dsimp only) <;> (first | exact keepT hN | exact keepT h0)
  clear hK K hHeld
  have hHeld := hHeld2
  clear hHeld2
  (try simp only [Act.put, pA, pB, pC]); refine tk 39 (some 51) rfl hHeld ?_; (try simp only [Act.put, pA, pB, pC]); refine tk 40 (some 52) rfl hHeld ?_; (try simp only [Act.put, pA, pB, pC]); refine tk 41 (some 53) rfl hHeld ?_; (try simp only [Act.put, pA, pB, pC]); refine tk 42 (some 54) rfl hHeld ?_; (try simp only [Act.put, pA, pB, pC]); refine tk 43 (some 55) rfl hHeld ?_; (try simp only [Act.put, pA, pB, pC]); refine tk 44 (some 56) rfl hHeld ?_; (try simp only [Act.put, pA, pB, pC]); refine tk 45 (some 57) rfl hHeld ?_; (try simp only [Act.put, pA, pB, pC]); refine tk 47 (some 59) rfl hHeld ?_; (try simp only [Act.put, pA, pB, pC]); refine tk 48 (some 60) rfl hHeld ?_; (try simp only [Act.put, pA, pB, pC]); refine tk 50 (some 62) rfl hHeld ?_; (try simp only [Act.put, pA, pB, pC]); refine tk 51 (some 63) rfl hHeld ?_; (try simp only [Act.put, pA, pB, pC]); refine tk 52 (some 64) rfl hHeld ?_
  (try simp only [Act.put, pA, pB, pC]); refine tk 53 (some 65) rfl hHeld ?_; (try simp only [Act.put, pA, pB, pC])
  refine wpAnyH_ready (rs := [46]) (by kernel_rfl) (by simp) ?_
  refine AllReadyH.cons rfl (fun K hK => ?_) AllReadyH.nil
  go_simp
  go_at_call 140
  have hp := hHeld.1
  refine (expr_tells a cap ps _ (HP.out.on hp.2.2) hcap (HE.out.1.on hp.2.2)).mono ?_
  rintro e w' ⟨rfl, hB⟩
  rw [h4.out]
  have hN := hp.on hB
  clear hp hB
  (try go_wp2_with fail)
  refine hK.out _ _ ?_ (fun hHeld2 => ?_)
  ·(try dsimp only) <;> (first | exact keepT hN | exact keepT h0)
  clear hK K hHeld
  have hHeld := hHeld2
  clear hHeld2
  (try simp only [Act.put, pA, pB, pC]); refine tk 49 (some 61) rfl hHeld ?_; (try simp only [Act.put, pA, pB, pC])
  refine wpAnyH_ready (rs := [54]) (by kernel_rfl) (by simp) ?_
  refine AllReadyH.cons rfl (fun K hK => ?_) AllReadyH.nil
  go_simp
  go_at_call 137
  have hp := hHeld.1
  refine (as_for _ _ _ _).mono ?_
  rintro e w' ⟨rfl, rfl⟩
  (first | rw [hr1.out] | rw [hr2.out] | rw [hr3.out] | rw [hr4.out])
  have hN := hp
  clear hp
  (try go_wp2_with fail)
  refine hK.out _ _ ?_ (fun hHeld2 => ?_)
  ·(try dsimp only) <;> (first | exact keepT hN | exact keepT h0)
  clear hK K hHeld
  have hHeld := hHeld2
  clear hHeld2
  (try simp only [Act.put, pA, pB, pC]); refine tk 55 (some 67) rfl hHeld ?_; (try simp only [Act.put, pA, pB, pC]); refine tk 56 (some 68) rfl hHeld ?_; (try simp only [Act.put, pA, pB, pC]); refine tk 57 (some 69) rfl hHeld ?_; (try simp only [Act.put, pA, pB, pC]); refine tk 58 (some 70) rfl hHeld ?_; (try simp only [Act.put, pA, pB, pC]); refine tk 59 (some 71) rfl hHeld ?_; (try simp only [Act.put, pA, pB, pC]); refine tp 60 (some 72) rfl hHeld ?_; (try simp only [Act.put, pA, pB, pC]); refine tp 61 (some 73) rfl hHeld ?_; (try simp only [Act.put, pA, pB, pC]); refine tp 62 (some 74) rfl hHeld ?_; (try simp only [Act.put, pA, pB, pC]); refine tk 63 (some 75) rfl hHeld ?_; (try simp only [Act.put, pA, pB, pC]); refine tk 64 (some 76) rfl hHeld ?_; (try simp only [Act.put, pA, pB, pC]); refine tk 65 (some 2) rfl hHeld ?_; (try simp only [Act.put, pA, pB, pC])
  refine wpAnyH_done (by kernel_rfl) ?_ _
  have HZ := hid hHeld.1
  clear hHeld h0
  go_wp2_with fail
  go_ret
  exact ⟨rfl, HZ.out.2.2⟩
 go_enter Tryz.func117, Tryz.ntmps117
 go_wp2_with (first | (go_at_call 127; refine (between_any _ _ _ _).mono ?_; rintro e w' ⟨rfl, rfl⟩; rw [hin.out]))
 have hT := HW.out
 obtain ⟨W0, hW0⟩ : ∃ W0, Hid ((w.alloc (.cells #[.int .i64 j, .string s, .int .i64 ty, .int .i64 lo, .int .i64 hi, .string t, .slice a ps.length cap, .bool hd] 57)).alloc (.cells #[.bool o1, .bool o2, .bool o3, .bool false, .int .i64 o5] 179) = W0) := ⟨_, rfl⟩
 rw [hW0.out] at hT ⊢
 have h0 : Two w W0.drew j s ty lo hi t a ps.length cap hd o1 o2 o3 false o5 := hT.on (Below.refl _ _).drew
 clear hT hW0 g0 g1 g2 g3 g4 HW
 refine wp_region_held_drew (S := (fun w' => Two w w' j s ty lo hi t a ps.length cap hd o1 o2 o3 false o5 ∧ (w'.cell? ⟨w.heap.size, 0, none⟩ = some (.int .i64 j) ∧ w'.cell? ⟨w.heap.size, 1, none⟩ = some (.string s) ∧ w'.cell? ⟨w.heap.size, 2, none⟩ = some (.int .i64 ty) ∧ w'.cell? ⟨w.heap.size, 3, none⟩ = some (.int .i64 lo) ∧ w'.cell? ⟨w.heap.size, 4, none⟩ = some (.int .i64 hi) ∧ w'.cell? ⟨w.heap.size, 5, none⟩ = some (.string t) ∧ w'.cell? ⟨w.heap.size, 6, none⟩ = some (.slice a ps.length cap) ∧ w'.cell? ⟨w.heap.size, 7, none⟩ = some (.bool hd)) ∧ (w'.cell? ⟨w.heap.size + 1, 0, none⟩ = some (.bool o1) ∧ w'.cell? ⟨w.heap.size + 1, 1, none⟩ = some (.bool o2) ∧ w'.cell? ⟨w.heap.size + 1, 2, none⟩ = some (.bool o3) ∧ w'.cell? ⟨w.heap.size + 1, 3, none⟩ = some (.bool false) ∧ w'.cell? ⟨w.heap.size + 1, 4, none⟩ = some (.int .i64 o5)))) (by kernel_rfl) ?_ (fun hHeld => ?_)
 ·(try dsimp only) <;> (first | exact keepT hN | exact keepT h0)
 refine tk 0 (some 12) rfl hHeld ?_; (try simp only [Act.put, pA, pB, pC]); refine tk 1 (some 13) rfl hHeld ?_; (try simp only [Act.put, pA, pB, pC]); refine tk 2 (some 14) rfl hHeld ?_; (try simp only [Act.put, pA, pB, pC]); refine tk 3 (some 15) rfl hHeld ?_; (try simp only [Act.put, pA, pB, pC]); refine tk 5 (some 17) rfl hHeld ?_; (try simp only [Act.put, pA, pB, pC]); refine tk 6 (some 18) rfl hHeld ?_; (try simp only [Act.put, pA, pB, pC]); refine tk 7 (some 19) rfl hHeld ?_; (try simp only [Act.put, pA, pB, pC])
 refine wpAnyH_ready (rs := [4]) (by kernel_rfl) (by simp) ?_
 refine AllReadyH.cons rfl (fun K hK => ?_) AllReadyH.nil
 go_simp
 go_at_call 91
 have hp := hHeld.1
 refine (impl_name s _ HS.out).mono ?_
 rintro e w' ⟨rfl, rfl⟩
 rw [h1.out]
 have hN := hp
 clear hp
 (try go_wp2_with fail)
 refine hK.out _ _ ?_ (fun hHeld2 => ?_)
 ·(try dsimp only) <;> (first | exact keepT hN | exact keepT h0)
 clear hK K hHeld
 have hHeld := hHeld2
 clear hHeld2
 (try simp only [Act.put, pA, pB, pC])
 refine wpAnyH_ready (rs := [8]) (by kernel_rfl) (by simp) ?_
 refine AllReadyH.cons rfl (fun K hK => ?_) AllReadyH.nil
 go_simp
 go_at_call 137
 have hp := hHeld.1
 refine (as_for _ _ _ _).mono ?_
 rintro e w' ⟨rfl, rfl⟩
 (first | rw [hr1.out] | rw [hr2.out] | rw [hr3.out] | rw [hr4.out])
 have hN := hp
 clear hp
 (try go_wp2_with fail)
 refine hK.out _ _ ?_ (fun hHeld2 => ?_)
 ·(try dsimp only) <;> (first | exact keepT hN | exact keepT h0)
 clear hK K hHeld
 have hHeld := hHeld2
 clear hHeld2
 (try simp only [Act.put, pA, pB, pC]); refine tk 9 (some 21) rfl hHeld ?_; (try simp only [Act.put, pA, pB, pC]); refine tk 10 (some 22) rfl hHeld ?_; (try simp only [Act.put, pA, pB, pC]); refine tk 11 (some 23) rfl hHeld ?_; (try simp only [Act.put, pA, pB, pC]); refine tk 12 (some 24) rfl hHeld ?_; (try simp only [Act.put, pA, pB, pC]); refine tk 14 (some 26) rfl hHeld ?_; (try simp only [Act.put, pA, pB, pC]); refine tk 15 (some 27) rfl hHeld ?_; (try simp only [Act.put, pA, pB, pC]); refine tk 16 (some 28) rfl hHeld ?_; (try simp only [Act.put, pA, pB, pC])
 refine wpAnyH_ready (rs := [13]) (by kernel_rfl) (by simp) ?_
 refine AllReadyH.cons rfl (fun K hK => ?_) AllReadyH.nil
 go_simp
 go_at_call 138
 have hp := hHeld.1
 refine (impl_bounds j s ty lo hi t a ps.length cap hd _).mono ?_
 rintro e w' ⟨rfl, hB⟩
 rw [h2.out]
 have hN := hp.on hB
 clear hp hB
 (try go_wp2_with fail)
 refine hK.out _ _ ?_ (fun hHeld2 => ?_)
 ·(try dsimp only) <;> (first | exact keepT hN | exact keepT h0)
 clear hK K hHeld
 have hHeld := hHeld2
 clear hHeld2
 (try simp only [Act.put, pA, pB, pC]); refine tk 17 (some 29) rfl hHeld ?_; (try simp only [Act.put, pA, pB, pC]); refine tp 18 (some 30) rfl hHeld ?_; (try simp only [Act.put, pA, pB, pC]); refine tp 19 (some 31) rfl hHeld ?_; (try simp only [Act.put, pA, pB, pC]); refine tp 20 (some 32) rfl hHeld ?_; (try simp only [Act.put, pA, pB, pC]); refine tk 21 (some 33) rfl hHeld ?_; (try simp only [Act.put, pA, pB, pC]); refine tk 22 (some 34) rfl hHeld ?_; (try simp only [Act.put, pA, pB, pC]); refine tp 23 (some 35) rfl hHeld ?_; (try simp only [Act.put, pA, pB, pC]); refine tp 24 (some 36) rfl hHeld ?_; (try simp only [Act.put, pA, pB, pC]); refine tp 25 (some 37) rfl hHeld ?_; (try simp only [Act.put, pA, pB, pC]); refine tk 26 (some 38) rfl hHeld ?_; (try simp only [Act.put, pA, pB, pC])
 refine wpAnyH_ready (rs := [27]) (by kernel_rfl) (by simp) ?_
 refine AllReadyH.cons rfl (fun K hK => ?_) AllReadyH.nil
 go_simp
 go_at_call 137
 have hp := hHeld.1
 refine (as_for _ _ _ _).mono ?_
 rintro e w' ⟨rfl, rfl⟩
 (first | rw [hr1.out] | rw [hr2.out] | rw [hr3.out] | rw [hr4.out])
 have hN := hp
 clear hp
 (try go_wp2_with fail)
 refine hK.out _ _ ?_ (fun hHeld2 => ?_)
 ·(try dsimp only) <;> (first | exact keepT hN | exact keepT h0)
 clear hK K hHeld
 have hHeld := hHeld2
 clear hHeld2
 (try simp only [Act.put, pA, pB, pC]); refine tk 28 (some 40) rfl hHeld ?_; (try simp only [Act.put, pA, pB, pC]); refine tk 29 (some 41) rfl hHeld ?_; (try simp only [Act.put, pA, pB, pC]); refine tk 30 (some 42) rfl hHeld ?_; (try simp only [Act.put, pA, pB, pC]); refine tk 31 (some 43) rfl hHeld ?_; (try simp only [Act.put, pA, pB, pC]); refine tk 32 (some 44) rfl hHeld ?_; (try simp only [Act.put, pA, pB, pC]); refine tk 33 (some 45) rfl hHeld ?_; (try simp only [Act.put, pA, pB, pC]); refine tk 35 (some 47) rfl hHeld ?_; (try simp only [Act.put, pA, pB, pC]); refine tk 36 (some 48) rfl hHeld ?_; (try simp only [Act.put, pA, pB, pC]); refine tk 37 (some 49) rfl hHeld ?_; (try simp only [Act.put, pA, pB, pC])
 refine wpAnyH_ready (rs := [34]) (by kernel_rfl) (by simp) ?_
 refine AllReadyH.cons rfl (fun K hK => ?_) AllReadyH.nil
 go_simp
 go_at_call 139
 have hp := hHeld.1
 refine (impl_asked t _ HT.out).mono ?_
 rintro e w' ⟨rfl, hB⟩
 rw [h3.out]
 have hN := hp.on hB
 clear hp hB
 (try go_wp2_with fail)
 refine hK.out _ _ ?_ (fun hHeld2 => ?_)
 ·(try dsimp only) <;> (first | exact keepT hN | exact keepT h0)
 clear hK K hHeld
 have hHeld := hHeld2
 clear hHeld2
 (try simp only [Act.put, pA, pB, pC])
 refine wpAnyH_ready (rs := [38]) (by kernel_rfl) (by simp) ?_
 refine AllReadyH.cons rfl (fun K hK => ?_) AllReadyH.nil
 go_simp
 go_at_call 137
 have hp := hHeld.1
 refine (as_for _ _ _ _).mono ?_
 rintro e w' ⟨rfl, rfl⟩
 (first | rw [hr1.out] | rw [hr2.out] | rw [hr3.out] | rw [hr4.out])
 have hN := hp
 clear hp
 (try go_wp2_with fail)
 refine hK.out _ _ ?_ (fun hHeld2 => ?_)
 ·(try dsimp only) <;> (first | exact keepT hN | exact keepT h0)
 clear hK K hHeld
 have hHeld := hHeld2
 clear hHeld2
 (try simp only [Act.put, pA, pB, pC]); refine tk 39 (some 51) rfl hHeld ?_; (try simp only [Act.put, pA, pB, pC]); refine tk 40 (some 52) rfl hHeld ?_; (try simp only [Act.put, pA, pB, pC]); refine tk 41 (some 53) rfl hHeld ?_; (try simp only [Act.put, pA, pB, pC]); refine tk 42 (some 54) rfl hHeld ?_; (try simp only [Act.put, pA, pB, pC]); refine tk 43 (some 55) rfl hHeld ?_; (try simp only [Act.put, pA, pB, pC]); refine tk 44 (some 56) rfl hHeld ?_; (try simp only [Act.put, pA, pB, pC]); refine tk 45 (some 57) rfl hHeld ?_; (try simp only [Act.put, pA, pB, pC]); refine tk 47 (some 59) rfl hHeld ?_; (try simp only [Act.put, pA, pB, pC]); refine tk 48 (some 60) rfl hHeld ?_; (try simp only [Act.put, pA, pB, pC]); refine tk 50 (some 62) rfl hHeld ?_; (try simp only [Act.put, pA, pB, pC]); refine tk 51 (some 63) rfl hHeld ?_; (try simp only [Act.put, pA, pB, pC]); refine tk 52 (some 64) rfl hHeld ?_
 (try simp only [Act.put, pA, pB, pC]); refine tk 53 (some 65) rfl hHeld ?_; (try simp only [Act.put, pA, pB, pC])
 refine wpAnyH_ready (rs := [46]) (by kernel_rfl) (by simp) ?_
 refine AllReadyH.cons rfl (fun K hK => ?_) AllReadyH.nil
 go_simp
 go_at_call 140
 have hp := hHeld.1
 refine (expr_tells a cap ps _ (HP.out.on hp.2.2) hcap (HE.out.1.on hp.2.2)).mono ?_
 rintro e w' ⟨rfl, hB⟩
 rw [h4.out]
 have hN := hp.on hB
 clear hp hB
 (try go_wp2_with fail)
 refine hK.out _ _ ?_ (fun hHeld2 => ?_)
 ·(try dsimp only) <;> (first | exact keepT hN | exact keepT h0)
 clear hK K hHeld
 have hHeld := hHeld2
 clear hHeld2
 (try simp only [Act.put, pA, pB, pC]); refine tk 49 (some 61) rfl hHeld ?_; (try simp only [Act.put, pA, pB, pC])
 refine wpAnyH_ready (rs := [54]) (by kernel_rfl) (by simp) ?_
 refine AllReadyH.cons rfl (fun K hK => ?_) AllReadyH.nil
 go_simp
 go_at_call 137
 have hp := hHeld.1
 refine (as_for _ _ _ _).mono ?_
 rintro e w' ⟨rfl, rfl⟩
 (first | rw [hr1.out] | rw [hr2.out] | rw [hr3.out] | rw [hr4.out])
 have hN := hp
 clear hp
 (try go_wp2_with fail)
 refine hK.out _ _ ?_ (fun hHeld2 => ?_)
 ·(try dsimp only) <;> (first | exact keepT hN | exact keepT h0)
 clear hK K hHeld
 have hHeld := hHeld2
 clear hHeld2
 (try simp only [Act.put, pA, pB, pC]); refine tk 55 (some 67) rfl hHeld ?_; (try simp only [Act.put, pA, pB, pC]); refine tk 56 (some 68) rfl hHeld ?_; (try simp only [Act.put, pA, pB, pC]); refine tk 57 (some 69) rfl hHeld ?_; (try simp only [Act.put, pA, pB, pC]); refine tk 58 (some 70) rfl hHeld ?_; (try simp only [Act.put, pA, pB, pC]); refine tk 59 (some 71) rfl hHeld ?_; (try simp only [Act.put, pA, pB, pC]); refine tk 60 (some 72) rfl hHeld ?_; (try simp only [Act.put, pA, pB, pC]); refine tk 61 (some 73) rfl hHeld ?_; (try simp only [Act.put, pA, pB, pC]); refine tk 62 (some 74) rfl hHeld ?_; (try simp only [Act.put, pA, pB, pC]); refine tk 63 (some 75) rfl hHeld ?_; (try simp only [Act.put, pA, pB, pC]); refine tk 64 (some 76) rfl hHeld ?_; (try simp only [Act.put, pA, pB, pC]); refine tk 65 (some 2) rfl hHeld ?_; (try simp only [Act.put, pA, pB, pC])
 refine wpAnyH_done (by kernel_rfl) ?_ _
 have HZ := hid hHeld.1
 clear hHeld h0
 go_wp2_with fail
 go_ret
 exact ⟨rfl, HZ.out.2.2⟩
open Go.RowKit
open PrtW PrtM NameW ItmW ValM ItmM
open PrtI (EnvS between_any impl_truth impl_right)
open ItmS (At8 At8.laid below_one)
set_option maxRecDepth 10000 in
set_option maxHeartbeats 12800000 in
theorem item_C (j : Nat) (hk : 1 ≤ j ∧ j ≤ 6) (s : ByteArray) (ty lo hi : Int) (t : ByteArray) (a : Option Addr) (cap : Nat) (ps : List Pt) (hd : Bool) (w : World) (hP : Parts w a ps) (hcap : ps.length ≤ cap) (hs : s.size ≤ maxLen) (ht : t.size ≤ maxLen) (hE : EnvI w) (e1 : (ty == 0) = true) (e2 : (lo == 0) = false) (hr : asF (namedO j) (nameB s) s.toList.isEmpty = true) :
  Calls Tryz.prog 117 #[.agg #[.int .i64 j, .string s, .int .i64 ty, .int .i64 lo, .int .i64 hi, .string t, .slice a ps.length cap, .bool hd]] w fun e w' => e = .returned (.bool (tabI j s ty lo hi t ps hd)) ∧ Below w.heap.size w w' := by
 have HP := hid hP
 have HS := hid hs
 have HT := hid ht
 have HE := hid hE
 have hpl := hP.1
 clear hP hs ht hE
 have hin : Hid (inB (j : Int) 1 6 = true) := decide_eq_true (by omega)
 have hg := HE.out.2.1
 have hj7 : j < 7 := by omega
 obtain ⟨g0, g1, g2, g3, g4⟩ := HE.out.2.2 j hj7
 unfold tabI
 simp only [hr, e1, e2, Bool.true_and, Bool.false_and]
 generalize namedO j = o1 at *
 generalize typedO j = o2 at *
 generalize saidO j = o3 at *
 generalize hardO j = o4 at *
 generalize tellsO j = o5 at *
 obtain ⟨v1, h1⟩ : ∃ v, Hid (nameB s = v) := ⟨_, rfl⟩
 obtain ⟨v2, h2⟩ : ∃ v, Hid (rangeB ty lo hi = v) := ⟨_, rfl⟩
 obtain ⟨v3, h3⟩ : ∃ v, Hid (labelB t = v) := ⟨_, rfl⟩
 obtain ⟨v4, h4⟩ : ∃ v, Hid (tellsI ps = v) := ⟨_, rfl⟩
 obtain ⟨es, hes⟩ : ∃ v, s.toList.isEmpty = v := ⟨_, rfl⟩
 obtain ⟨et, het⟩ : ∃ v, t.toList.isEmpty = v := ⟨_, rfl⟩
 obtain ⟨ez, hez⟩ : ∃ v, (((ps.length : Nat) : Int) == 0) = v := ⟨_, rfl⟩
 obtain ⟨et5, het5⟩ : ∃ v, (o5 != 0) = v := ⟨_, rfl⟩
 obtain ⟨e45, he45⟩ : ∃ v, (v4 == o5) = v := ⟨_, rfl⟩
 rw [h2.out, h3.out, h4.out, het, hez, het5, he45]
 have hr1 : Hid (asF o1 v1 es = true) := by show _ = _; rw [← hr, h1.out, hes]
 obtain ⟨r2, hr2⟩ : ∃ v, Hid (asF o2 v2 false = v) := ⟨_, rfl⟩
 obtain ⟨r3, hr3⟩ : ∃ v, Hid (asF o3 v3 et = v) := ⟨_, rfl⟩
 obtain ⟨r4, hr4⟩ : ∃ v, Hid (asF et5 e45 ez = v) := ⟨_, rfl⟩
 have HW := hid (Two.laid w 57 179 j s ty lo hi t a ps.length cap hd o1 o2 o3 o4 o5)
 rw [hr2.out, hr3.out, hr4.out]
 cases r2
 case false =>
  go_enter Tryz.func117, Tryz.ntmps117
  go_wp2_with (first | (go_at_call 127; refine (between_any _ _ _ _).mono ?_; rintro e w' ⟨rfl, rfl⟩; rw [hin.out]))
  have hT := HW.out
  obtain ⟨W0, hW0⟩ : ∃ W0, Hid ((w.alloc (.cells #[.int .i64 j, .string s, .int .i64 ty, .int .i64 lo, .int .i64 hi, .string t, .slice a ps.length cap, .bool hd] 57)).alloc (.cells #[.bool o1, .bool o2, .bool o3, .bool o4, .int .i64 o5] 179) = W0) := ⟨_, rfl⟩
  rw [hW0.out] at hT ⊢
  have h0 : Two w W0.drew j s ty lo hi t a ps.length cap hd o1 o2 o3 o4 o5 := hT.on (Below.refl _ _).drew
  clear hT hW0 g0 g1 g2 g3 g4 HW
  refine wp_region_held_drew (S := (fun w' => Two w w' j s ty lo hi t a ps.length cap hd o1 o2 o3 o4 o5 ∧ (w'.cell? ⟨w.heap.size, 0, none⟩ = some (.int .i64 j) ∧ w'.cell? ⟨w.heap.size, 1, none⟩ = some (.string s) ∧ w'.cell? ⟨w.heap.size, 2, none⟩ = some (.int .i64 ty) ∧ w'.cell? ⟨w.heap.size, 3, none⟩ = some (.int .i64 lo) ∧ w'.cell? ⟨w.heap.size, 4, none⟩ = some (.int .i64 hi) ∧ w'.cell? ⟨w.heap.size, 5, none⟩ = some (.string t) ∧ w'.cell? ⟨w.heap.size, 6, none⟩ = some (.slice a ps.length cap) ∧ w'.cell? ⟨w.heap.size, 7, none⟩ = some (.bool hd)) ∧ (w'.cell? ⟨w.heap.size + 1, 0, none⟩ = some (.bool o1) ∧ w'.cell? ⟨w.heap.size + 1, 1, none⟩ = some (.bool o2) ∧ w'.cell? ⟨w.heap.size + 1, 2, none⟩ = some (.bool o3) ∧ w'.cell? ⟨w.heap.size + 1, 3, none⟩ = some (.bool o4) ∧ w'.cell? ⟨w.heap.size + 1, 4, none⟩ = some (.int .i64 o5)))) (by kernel_rfl) ?_ (fun hHeld => ?_)
  ·(try dsimp only) <;> (first | exact keepT hN | exact keepT h0)
  refine tk 0 (some 12) rfl hHeld ?_; (try simp only [Act.put, pA, pB, pC]); refine tk 1 (some 13) rfl hHeld ?_; (try simp only [Act.put, pA, pB, pC]); refine tk 2 (some 14) rfl hHeld ?_; (try simp only [Act.put, pA, pB, pC]); refine tk 3 (some 15) rfl hHeld ?_; (try simp only [Act.put, pA, pB, pC]); refine tk 5 (some 17) rfl hHeld ?_; (try simp only [Act.put, pA, pB, pC]); refine tk 6 (some 18) rfl hHeld ?_; (try simp only [Act.put, pA, pB, pC]); refine tk 7 (some 19) rfl hHeld ?_; (try simp only [Act.put, pA, pB, pC])
  refine wpAnyH_ready (rs := [4]) (by kernel_rfl) (by simp) ?_
  refine AllReadyH.cons rfl (fun K hK => ?_) AllReadyH.nil
  go_simp
  go_at_call 91
  have hp := hHeld.1
  refine (impl_name s _ HS.out).mono ?_
  rintro e w' ⟨rfl, rfl⟩
  rw [h1.out]
  have hN := hp
  clear hp
  (try go_wp2_with fail)
  refine hK.out _ _ ?_ (fun hHeld2 => ?_)
  ·(try dsimp only) <;> (first | exact keepT hN | exact keepT h0)
  clear hK K hHeld
  have hHeld := hHeld2
  clear hHeld2
  (try simp only [Act.put, pA, pB, pC])
  refine wpAnyH_ready (rs := [8]) (by kernel_rfl) (by simp) ?_
  refine AllReadyH.cons rfl (fun K hK => ?_) AllReadyH.nil
  go_simp
  go_at_call 137
  have hp := hHeld.1
  refine (as_for _ _ _ _).mono ?_
  rintro e w' ⟨rfl, rfl⟩
  (first | rw [hr1.out] | rw [hr2.out] | rw [hr3.out] | rw [hr4.out])
  have hN := hp
  clear hp
  (try go_wp2_with fail)
  refine hK.out _ _ ?_ (fun hHeld2 => ?_)
  ·(try dsimp only) <;> (first | exact keepT hN | exact keepT h0)
  clear hK K hHeld
  have hHeld := hHeld2
  clear hHeld2
  (try simp only [Act.put, pA, pB, pC]); refine tk 9 (some 21) rfl hHeld ?_; (try simp only [Act.put, pA, pB, pC]); refine tk 10 (some 22) rfl hHeld ?_; (try simp only [Act.put, pA, pB, pC]); refine tk 11 (some 23) rfl hHeld ?_; (try simp only [Act.put, pA, pB, pC]); refine tk 12 (some 24) rfl hHeld ?_; (try simp only [Act.put, pA, pB, pC]); refine tk 14 (some 26) rfl hHeld ?_; (try simp only [Act.put, pA, pB, pC]); refine tk 15 (some 27) rfl hHeld ?_; (try simp only [Act.put, pA, pB, pC]); refine tk 16 (some 28) rfl hHeld ?_; (try simp only [Act.put, pA, pB, pC])
  refine wpAnyH_ready (rs := [13]) (by kernel_rfl) (by simp) ?_
  refine AllReadyH.cons rfl (fun K hK => ?_) AllReadyH.nil
  go_simp
  go_at_call 138
  have hp := hHeld.1
  refine (impl_bounds j s ty lo hi t a ps.length cap hd _).mono ?_
  rintro e w' ⟨rfl, hB⟩
  rw [h2.out]
  have hN := hp.on hB
  clear hp hB
  (try go_wp2_with fail)
  refine hK.out _ _ ?_ (fun hHeld2 => ?_)
  ·(try dsimp only) <;> (first | exact keepT hN | exact keepT h0)
  clear hK K hHeld
  have hHeld := hHeld2
  clear hHeld2
  (try simp only [Act.put, pA, pB, pC]); refine tk 17 (some 29) rfl hHeld ?_; (try simp only [Act.put, pA, pB, pC]); refine tk 18 (some 30) rfl hHeld ?_; (try simp only [Act.put, pA, pB, pC]); refine tk 19 (some 31) rfl hHeld ?_; (try simp only [Act.put, pA, pB, pC]); refine tk 20 (some 32) rfl hHeld ?_; (try simp only [Act.put, pA, pB, pC]); refine tk 21 (some 33) rfl hHeld ?_; (try simp only [Act.put, pA, pB, pC]); refine tk 22 (some 34) rfl hHeld ?_; (try simp only [Act.put, pA, pB, pC]); refine tp 23 (some 35) rfl hHeld ?_; (try simp only [Act.put, pA, pB, pC]); refine tp 24 (some 36) rfl hHeld ?_; (try simp only [Act.put, pA, pB, pC]); refine tp 25 (some 37) rfl hHeld ?_; (try simp only [Act.put, pA, pB, pC]); refine tk 26 (some 38) rfl hHeld ?_; (try simp only [Act.put, pA, pB, pC])
  refine wpAnyH_ready (rs := [27]) (by kernel_rfl) (by simp) ?_
  refine AllReadyH.cons rfl (fun K hK => ?_) AllReadyH.nil
  go_simp
  go_at_call 137
  have hp := hHeld.1
  refine (as_for _ _ _ _).mono ?_
  rintro e w' ⟨rfl, rfl⟩
  (first | rw [hr1.out] | rw [hr2.out] | rw [hr3.out] | rw [hr4.out])
  have hN := hp
  clear hp
  (try go_wp2_with fail)
  refine hK.out _ _ ?_ (fun hHeld2 => ?_)
  ·(try dsimp only) <;> (first | exact keepT hN | exact keepT h0)
  clear hK K hHeld
  have hHeld := hHeld2
  clear hHeld2
  (try simp only [Act.put, pA, pB, pC]); refine tk 28 (some 40) rfl hHeld ?_; (try simp only [Act.put, pA, pB, pC]); refine tk 29 (some 41) rfl hHeld ?_; (try simp only [Act.put, pA, pB, pC]); refine tp 30 (some 42) rfl hHeld ?_; (try simp only [Act.put, pA, pB, pC]); refine tp 31 (some 43) rfl hHeld ?_; (try simp only [Act.put, pA, pB, pC]); refine tp 32 (some 44) rfl hHeld ?_; (try simp only [Act.put, pA, pB, pC]); refine tp 33 (some 45) rfl hHeld ?_; (try simp only [Act.put, pA, pB, pC]); refine tp 34 (some 46) rfl hHeld ?_; (try simp only [Act.put, pA, pB, pC]); refine tp 35 (some 47) rfl hHeld ?_; (try simp only [Act.put, pA, pB, pC]); refine tp 36 (some 48) rfl hHeld ?_; (try simp only [Act.put, pA, pB, pC]); refine tp 37 (some 49) rfl hHeld ?_; (try simp only [Act.put, pA, pB, pC]); refine tp 38 (some 50) rfl hHeld ?_; (try simp only [Act.put, pA, pB, pC]); refine tk 39 (some 51) rfl hHeld ?_
  (try simp only [Act.put, pA, pB, pC]); refine tk 40 (some 52) rfl hHeld ?_; (try simp only [Act.put, pA, pB, pC]); refine tp 41 (some 53) rfl hHeld ?_; (try simp only [Act.put, pA, pB, pC]); refine tp 42 (some 54) rfl hHeld ?_; (try simp only [Act.put, pA, pB, pC]); refine tp 43 (some 55) rfl hHeld ?_; (try simp only [Act.put, pA, pB, pC]); refine tp 44 (some 56) rfl hHeld ?_; (try simp only [Act.put, pA, pB, pC]); refine tp 45 (some 57) rfl hHeld ?_; (try simp only [Act.put, pA, pB, pC]); refine tp 46 (some 58) rfl hHeld ?_; (try simp only [Act.put, pA, pB, pC]); refine tp 47 (some 59) rfl hHeld ?_; (try simp only [Act.put, pA, pB, pC]); refine tp 48 (some 60) rfl hHeld ?_; (try simp only [Act.put, pA, pB, pC]); refine tp 49 (some 61) rfl hHeld ?_; (try simp only [Act.put, pA, pB, pC]); refine tp 50 (some 62) rfl hHeld ?_; (try simp only [Act.put, pA, pB, pC]); refine tp 51 (some 63) rfl hHeld ?_
  (try simp only [Act.put, pA, pB, pC]); refine tp 52 (some 64) rfl hHeld ?_; (try simp only [Act.put, pA, pB, pC]); refine tp 53 (some 65) rfl hHeld ?_; (try simp only [Act.put, pA, pB, pC]); refine tp 54 (some 66) rfl hHeld ?_; (try simp only [Act.put, pA, pB, pC]); refine tk 55 (some 67) rfl hHeld ?_; (try simp only [Act.put, pA, pB, pC]); refine tk 56 (some 68) rfl hHeld ?_; (try simp only [Act.put, pA, pB, pC]); refine tp 57 (some 69) rfl hHeld ?_; (try simp only [Act.put, pA, pB, pC]); refine tp 58 (some 70) rfl hHeld ?_; (try simp only [Act.put, pA, pB, pC]); refine tp 59 (some 71) rfl hHeld ?_; (try simp only [Act.put, pA, pB, pC]); refine tp 60 (some 72) rfl hHeld ?_; (try simp only [Act.put, pA, pB, pC]); refine tp 61 (some 73) rfl hHeld ?_; (try simp only [Act.put, pA, pB, pC]); refine tp 62 (some 74) rfl hHeld ?_; (try simp only [Act.put, pA, pB, pC]); refine tp 63 (some 75) rfl hHeld ?_
  (try simp only [Act.put, pA, pB, pC]); refine tk 64 (some 76) rfl hHeld ?_; (try simp only [Act.put, pA, pB, pC]); refine tk 65 (some 2) rfl hHeld ?_; (try simp only [Act.put, pA, pB, pC])
  refine wpAnyH_done (by kernel_rfl) ?_ _
  have HZ := hid hHeld.1
  clear hHeld h0
  go_wp2_with fail
  go_ret
  exact ⟨rfl, HZ.out.2.2⟩
 cases r3
 case false =>
  go_enter Tryz.func117, Tryz.ntmps117
  go_wp2_with (first | (go_at_call 127; refine (between_any _ _ _ _).mono ?_; rintro e w' ⟨rfl, rfl⟩; rw [hin.out]))
  have hT := HW.out
  obtain ⟨W0, hW0⟩ : ∃ W0, Hid ((w.alloc (.cells #[.int .i64 j, .string s, .int .i64 ty, .int .i64 lo, .int .i64 hi, .string t, .slice a ps.length cap, .bool hd] 57)).alloc (.cells #[.bool o1, .bool o2, .bool o3, .bool o4, .int .i64 o5] 179) = W0) := ⟨_, rfl⟩
  rw [hW0.out] at hT ⊢
  have h0 : Two w W0.drew j s ty lo hi t a ps.length cap hd o1 o2 o3 o4 o5 := hT.on (Below.refl _ _).drew
  clear hT hW0 g0 g1 g2 g3 g4 HW
  refine wp_region_held_drew (S := (fun w' => Two w w' j s ty lo hi t a ps.length cap hd o1 o2 o3 o4 o5 ∧ (w'.cell? ⟨w.heap.size, 0, none⟩ = some (.int .i64 j) ∧ w'.cell? ⟨w.heap.size, 1, none⟩ = some (.string s) ∧ w'.cell? ⟨w.heap.size, 2, none⟩ = some (.int .i64 ty) ∧ w'.cell? ⟨w.heap.size, 3, none⟩ = some (.int .i64 lo) ∧ w'.cell? ⟨w.heap.size, 4, none⟩ = some (.int .i64 hi) ∧ w'.cell? ⟨w.heap.size, 5, none⟩ = some (.string t) ∧ w'.cell? ⟨w.heap.size, 6, none⟩ = some (.slice a ps.length cap) ∧ w'.cell? ⟨w.heap.size, 7, none⟩ = some (.bool hd)) ∧ (w'.cell? ⟨w.heap.size + 1, 0, none⟩ = some (.bool o1) ∧ w'.cell? ⟨w.heap.size + 1, 1, none⟩ = some (.bool o2) ∧ w'.cell? ⟨w.heap.size + 1, 2, none⟩ = some (.bool o3) ∧ w'.cell? ⟨w.heap.size + 1, 3, none⟩ = some (.bool o4) ∧ w'.cell? ⟨w.heap.size + 1, 4, none⟩ = some (.int .i64 o5)))) (by kernel_rfl) ?_ (fun hHeld => ?_)
  ·(try dsimp only) <;> (first | exact keepT hN | exact keepT h0)
  refine tk 0 (some 12) rfl hHeld ?_; (try simp only [Act.put, pA, pB, pC]); refine tk 1 (some 13) rfl hHeld ?_; (try simp only [Act.put, pA, pB, pC]); refine tk 2 (some 14) rfl hHeld ?_; (try simp only [Act.put, pA, pB, pC]); refine tk 3 (some 15) rfl hHeld ?_; (try simp only [Act.put, pA, pB, pC]); refine tk 5 (some 17) rfl hHeld ?_; (try simp only [Act.put, pA, pB, pC]); refine tk 6 (some 18) rfl hHeld ?_; (try simp only [Act.put, pA, pB, pC]); refine tk 7 (some 19) rfl hHeld ?_; (try simp only [Act.put, pA, pB, pC])
  refine wpAnyH_ready (rs := [4]) (by kernel_rfl) (by simp) ?_
  refine AllReadyH.cons rfl (fun K hK => ?_) AllReadyH.nil
  go_simp
  go_at_call 91
  have hp := hHeld.1
  refine (impl_name s _ HS.out).mono ?_
  rintro e w' ⟨rfl, rfl⟩
  rw [h1.out]
  have hN := hp
  clear hp
  (try go_wp2_with fail)
  refine hK.out _ _ ?_ (fun hHeld2 => ?_)
  ·(try dsimp only) <;> (first | exact keepT hN | exact keepT h0)
  clear hK K hHeld
  have hHeld := hHeld2
  clear hHeld2
  (try simp only [Act.put, pA, pB, pC])
  refine wpAnyH_ready (rs := [8]) (by kernel_rfl) (by simp) ?_
  refine AllReadyH.cons rfl (fun K hK => ?_) AllReadyH.nil
  go_simp
  go_at_call 137
  have hp := hHeld.1
  refine (as_for _ _ _ _).mono ?_
  rintro e w' ⟨rfl, rfl⟩
  (first | rw [hr1.out] | rw [hr2.out] | rw [hr3.out] | rw [hr4.out])
  have hN := hp
  clear hp
  (try go_wp2_with fail)
  refine hK.out _ _ ?_ (fun hHeld2 => ?_)
  ·(try dsimp only) <;> (first | exact keepT hN | exact keepT h0)
  clear hK K hHeld
  have hHeld := hHeld2
  clear hHeld2
  (try simp only [Act.put, pA, pB, pC]); refine tk 9 (some 21) rfl hHeld ?_; (try simp only [Act.put, pA, pB, pC]); refine tk 10 (some 22) rfl hHeld ?_; (try simp only [Act.put, pA, pB, pC]); refine tk 11 (some 23) rfl hHeld ?_; (try simp only [Act.put, pA, pB, pC]); refine tk 12 (some 24) rfl hHeld ?_; (try simp only [Act.put, pA, pB, pC]); refine tk 14 (some 26) rfl hHeld ?_; (try simp only [Act.put, pA, pB, pC]); refine tk 15 (some 27) rfl hHeld ?_; (try simp only [Act.put, pA, pB, pC]); refine tk 16 (some 28) rfl hHeld ?_; (try simp only [Act.put, pA, pB, pC])
  refine wpAnyH_ready (rs := [13]) (by kernel_rfl) (by simp) ?_
  refine AllReadyH.cons rfl (fun K hK => ?_) AllReadyH.nil
  go_simp
  go_at_call 138
  have hp := hHeld.1
  refine (impl_bounds j s ty lo hi t a ps.length cap hd _).mono ?_
  rintro e w' ⟨rfl, hB⟩
  rw [h2.out]
  have hN := hp.on hB
  clear hp hB
  (try go_wp2_with fail)
  refine hK.out _ _ ?_ (fun hHeld2 => ?_)
  ·(try dsimp only) <;> (first | exact keepT hN | exact keepT h0)
  clear hK K hHeld
  have hHeld := hHeld2
  clear hHeld2
  (try simp only [Act.put, pA, pB, pC]); refine tk 17 (some 29) rfl hHeld ?_; (try simp only [Act.put, pA, pB, pC]); refine tk 18 (some 30) rfl hHeld ?_; (try simp only [Act.put, pA, pB, pC]); refine tk 19 (some 31) rfl hHeld ?_; (try simp only [Act.put, pA, pB, pC]); refine tk 20 (some 32) rfl hHeld ?_; (try simp only [Act.put, pA, pB, pC]); refine tk 21 (some 33) rfl hHeld ?_; (try simp only [Act.put, pA, pB, pC]); refine tk 22 (some 34) rfl hHeld ?_; (try simp only [Act.put, pA, pB, pC]); refine tp 23 (some 35) rfl hHeld ?_; (try simp only [Act.put, pA, pB, pC]); refine tp 24 (some 36) rfl hHeld ?_; (try simp only [Act.put, pA, pB, pC]); refine tp 25 (some 37) rfl hHeld ?_; (try simp only [Act.put, pA, pB, pC]); refine tk 26 (some 38) rfl hHeld ?_; (try simp only [Act.put, pA, pB, pC])
  refine wpAnyH_ready (rs := [27]) (by kernel_rfl) (by simp) ?_
  refine AllReadyH.cons rfl (fun K hK => ?_) AllReadyH.nil
  go_simp
  go_at_call 137
  have hp := hHeld.1
  refine (as_for _ _ _ _).mono ?_
  rintro e w' ⟨rfl, rfl⟩
  (first | rw [hr1.out] | rw [hr2.out] | rw [hr3.out] | rw [hr4.out])
  have hN := hp
  clear hp
  (try go_wp2_with fail)
  refine hK.out _ _ ?_ (fun hHeld2 => ?_)
  ·(try dsimp only) <;> (first | exact keepT hN | exact keepT h0)
  clear hK K hHeld
  have hHeld := hHeld2
  clear hHeld2
  (try simp only [Act.put, pA, pB, pC]); refine tk 28 (some 40) rfl hHeld ?_; (try simp only [Act.put, pA, pB, pC]); refine tk 29 (some 41) rfl hHeld ?_; (try simp only [Act.put, pA, pB, pC]); refine tk 30 (some 42) rfl hHeld ?_; (try simp only [Act.put, pA, pB, pC]); refine tk 31 (some 43) rfl hHeld ?_; (try simp only [Act.put, pA, pB, pC]); refine tk 32 (some 44) rfl hHeld ?_; (try simp only [Act.put, pA, pB, pC]); refine tk 33 (some 45) rfl hHeld ?_; (try simp only [Act.put, pA, pB, pC]); refine tk 35 (some 47) rfl hHeld ?_; (try simp only [Act.put, pA, pB, pC]); refine tk 36 (some 48) rfl hHeld ?_; (try simp only [Act.put, pA, pB, pC]); refine tk 37 (some 49) rfl hHeld ?_; (try simp only [Act.put, pA, pB, pC])
  refine wpAnyH_ready (rs := [34]) (by kernel_rfl) (by simp) ?_
  refine AllReadyH.cons rfl (fun K hK => ?_) AllReadyH.nil
  go_simp
  go_at_call 139
  have hp := hHeld.1
  refine (impl_asked t _ HT.out).mono ?_
  rintro e w' ⟨rfl, hB⟩
  rw [h3.out]
  have hN := hp.on hB
  clear hp hB
  (try go_wp2_with fail)
  refine hK.out _ _ ?_ (fun hHeld2 => ?_)
  ·(try dsimp only) <;> (first | exact keepT hN | exact keepT h0)
  clear hK K hHeld
  have hHeld := hHeld2
  clear hHeld2
  (try simp only [Act.put, pA, pB, pC])
  refine wpAnyH_ready (rs := [38]) (by kernel_rfl) (by simp) ?_
  refine AllReadyH.cons rfl (fun K hK => ?_) AllReadyH.nil
  go_simp
  go_at_call 137
  have hp := hHeld.1
  refine (as_for _ _ _ _).mono ?_
  rintro e w' ⟨rfl, rfl⟩
  (first | rw [hr1.out] | rw [hr2.out] | rw [hr3.out] | rw [hr4.out])
  have hN := hp
  clear hp
  (try go_wp2_with fail)
  refine hK.out _ _ ?_ (fun hHeld2 => ?_)
  ·(try dsimp only) <;> (first | exact keepT hN | exact keepT h0)
  clear hK K hHeld
  have hHeld := hHeld2
  clear hHeld2
  (try simp only [Act.put, pA, pB, pC]); refine tk 39 (some 51) rfl hHeld ?_; (try simp only [Act.put, pA, pB, pC]); refine tk 40 (some 52) rfl hHeld ?_; (try simp only [Act.put, pA, pB, pC]); refine tp 41 (some 53) rfl hHeld ?_; (try simp only [Act.put, pA, pB, pC]); refine tp 42 (some 54) rfl hHeld ?_; (try simp only [Act.put, pA, pB, pC]); refine tp 43 (some 55) rfl hHeld ?_; (try simp only [Act.put, pA, pB, pC]); refine tp 44 (some 56) rfl hHeld ?_; (try simp only [Act.put, pA, pB, pC]); refine tp 45 (some 57) rfl hHeld ?_; (try simp only [Act.put, pA, pB, pC]); refine tp 46 (some 58) rfl hHeld ?_; (try simp only [Act.put, pA, pB, pC]); refine tp 47 (some 59) rfl hHeld ?_; (try simp only [Act.put, pA, pB, pC]); refine tp 48 (some 60) rfl hHeld ?_; (try simp only [Act.put, pA, pB, pC]); refine tp 49 (some 61) rfl hHeld ?_; (try simp only [Act.put, pA, pB, pC]); refine tp 50 (some 62) rfl hHeld ?_
  (try simp only [Act.put, pA, pB, pC]); refine tp 51 (some 63) rfl hHeld ?_; (try simp only [Act.put, pA, pB, pC]); refine tp 52 (some 64) rfl hHeld ?_; (try simp only [Act.put, pA, pB, pC]); refine tp 53 (some 65) rfl hHeld ?_; (try simp only [Act.put, pA, pB, pC]); refine tp 54 (some 66) rfl hHeld ?_; (try simp only [Act.put, pA, pB, pC]); refine tk 55 (some 67) rfl hHeld ?_; (try simp only [Act.put, pA, pB, pC]); refine tk 56 (some 68) rfl hHeld ?_; (try simp only [Act.put, pA, pB, pC]); refine tp 57 (some 69) rfl hHeld ?_; (try simp only [Act.put, pA, pB, pC]); refine tp 58 (some 70) rfl hHeld ?_; (try simp only [Act.put, pA, pB, pC]); refine tp 59 (some 71) rfl hHeld ?_; (try simp only [Act.put, pA, pB, pC]); refine tp 60 (some 72) rfl hHeld ?_; (try simp only [Act.put, pA, pB, pC]); refine tp 61 (some 73) rfl hHeld ?_; (try simp only [Act.put, pA, pB, pC]); refine tp 62 (some 74) rfl hHeld ?_
  (try simp only [Act.put, pA, pB, pC]); refine tp 63 (some 75) rfl hHeld ?_; (try simp only [Act.put, pA, pB, pC]); refine tk 64 (some 76) rfl hHeld ?_; (try simp only [Act.put, pA, pB, pC]); refine tk 65 (some 2) rfl hHeld ?_; (try simp only [Act.put, pA, pB, pC])
  refine wpAnyH_done (by kernel_rfl) ?_ _
  have HZ := hid hHeld.1
  clear hHeld h0
  go_wp2_with fail
  go_ret
  exact ⟨rfl, HZ.out.2.2⟩
 cases r4
 case false =>
  go_enter Tryz.func117, Tryz.ntmps117
  go_wp2_with (first | (go_at_call 127; refine (between_any _ _ _ _).mono ?_; rintro e w' ⟨rfl, rfl⟩; rw [hin.out]))
  have hT := HW.out
  obtain ⟨W0, hW0⟩ : ∃ W0, Hid ((w.alloc (.cells #[.int .i64 j, .string s, .int .i64 ty, .int .i64 lo, .int .i64 hi, .string t, .slice a ps.length cap, .bool hd] 57)).alloc (.cells #[.bool o1, .bool o2, .bool o3, .bool o4, .int .i64 o5] 179) = W0) := ⟨_, rfl⟩
  rw [hW0.out] at hT ⊢
  have h0 : Two w W0.drew j s ty lo hi t a ps.length cap hd o1 o2 o3 o4 o5 := hT.on (Below.refl _ _).drew
  clear hT hW0 g0 g1 g2 g3 g4 HW
  refine wp_region_held_drew (S := (fun w' => Two w w' j s ty lo hi t a ps.length cap hd o1 o2 o3 o4 o5 ∧ (w'.cell? ⟨w.heap.size, 0, none⟩ = some (.int .i64 j) ∧ w'.cell? ⟨w.heap.size, 1, none⟩ = some (.string s) ∧ w'.cell? ⟨w.heap.size, 2, none⟩ = some (.int .i64 ty) ∧ w'.cell? ⟨w.heap.size, 3, none⟩ = some (.int .i64 lo) ∧ w'.cell? ⟨w.heap.size, 4, none⟩ = some (.int .i64 hi) ∧ w'.cell? ⟨w.heap.size, 5, none⟩ = some (.string t) ∧ w'.cell? ⟨w.heap.size, 6, none⟩ = some (.slice a ps.length cap) ∧ w'.cell? ⟨w.heap.size, 7, none⟩ = some (.bool hd)) ∧ (w'.cell? ⟨w.heap.size + 1, 0, none⟩ = some (.bool o1) ∧ w'.cell? ⟨w.heap.size + 1, 1, none⟩ = some (.bool o2) ∧ w'.cell? ⟨w.heap.size + 1, 2, none⟩ = some (.bool o3) ∧ w'.cell? ⟨w.heap.size + 1, 3, none⟩ = some (.bool o4) ∧ w'.cell? ⟨w.heap.size + 1, 4, none⟩ = some (.int .i64 o5)))) (by kernel_rfl) ?_ (fun hHeld => ?_)
  ·(try dsimp only) <;> (first | exact keepT hN | exact keepT h0)
  refine tk 0 (some 12) rfl hHeld ?_; (try simp only [Act.put, pA, pB, pC]); refine tk 1 (some 13) rfl hHeld ?_; (try simp only [Act.put, pA, pB, pC]); refine tk 2 (some 14) rfl hHeld ?_; (try simp only [Act.put, pA, pB, pC]); refine tk 3 (some 15) rfl hHeld ?_; (try simp only [Act.put, pA, pB, pC]); refine tk 5 (some 17) rfl hHeld ?_; (try simp only [Act.put, pA, pB, pC]); refine tk 6 (some 18) rfl hHeld ?_; (try simp only [Act.put, pA, pB, pC]); refine tk 7 (some 19) rfl hHeld ?_; (try simp only [Act.put, pA, pB, pC])
  refine wpAnyH_ready (rs := [4]) (by kernel_rfl) (by simp) ?_
  refine AllReadyH.cons rfl (fun K hK => ?_) AllReadyH.nil
  go_simp
  go_at_call 91
  have hp := hHeld.1
  refine (impl_name s _ HS.out).mono ?_
  rintro e w' ⟨rfl, rfl⟩
  rw [h1.out]
  have hN := hp
  clear hp
  (try go_wp2_with fail)
  refine hK.out _ _ ?_ (fun hHeld2 => ?_)
  ·(try dsimp only) <;> (first | exact keepT hN | exact keepT h0)
  clear hK K hHeld
  have hHeld := hHeld2
  clear hHeld2
  (try simp only [Act.put, pA, pB, pC])
  refine wpAnyH_ready (rs := [8]) (by kernel_rfl) (by simp) ?_
  refine AllReadyH.cons rfl (fun K hK => ?_) AllReadyH.nil
  go_simp
  go_at_call 137
  have hp := hHeld.1
  refine (as_for _ _ _ _).mono ?_
  rintro e w' ⟨rfl, rfl⟩
  (first | rw [hr1.out] | rw [hr2.out] | rw [hr3.out] | rw [hr4.out])
  have hN := hp
  clear hp
  (try go_wp2_with fail)
  refine hK.out _ _ ?_ (fun hHeld2 => ?_)
  ·(try dsimp only) <;> (first | exact keepT hN | exact keepT h0)
  clear hK K hHeld
  have hHeld := hHeld2
  clear hHeld2
  (try simp only [Act.put, pA, pB, pC]); refine tk 9 (some 21) rfl hHeld ?_; (try simp only [Act.put, pA, pB, pC]); refine tk 10 (some 22) rfl hHeld ?_; (try simp only [Act.put, pA, pB, pC]); refine tk 11 (some 23) rfl hHeld ?_; (try simp only [Act.put, pA, pB, pC]); refine tk 12 (some 24) rfl hHeld ?_; (try simp only [Act.put, pA, pB, pC]); refine tk 14 (some 26) rfl hHeld ?_; (try simp only [Act.put, pA, pB, pC]); refine tk 15 (some 27) rfl hHeld ?_; (try simp only [Act.put, pA, pB, pC]); refine tk 16 (some 28) rfl hHeld ?_; (try simp only [Act.put, pA, pB, pC])
  refine wpAnyH_ready (rs := [13]) (by kernel_rfl) (by simp) ?_
  refine AllReadyH.cons rfl (fun K hK => ?_) AllReadyH.nil
  go_simp
  go_at_call 138
  have hp := hHeld.1
  refine (impl_bounds j s ty lo hi t a ps.length cap hd _).mono ?_
  rintro e w' ⟨rfl, hB⟩
  rw [h2.out]
  have hN := hp.on hB
  clear hp hB
  (try go_wp2_with fail)
  refine hK.out _ _ ?_ (fun hHeld2 => ?_)
  ·(try dsimp only) <;> (first | exact keepT hN | exact keepT h0)
  clear hK K hHeld
  have hHeld := hHeld2
  clear hHeld2
  (try simp only [Act.put, pA, pB, pC]); refine tk 17 (some 29) rfl hHeld ?_; (try simp only [Act.put, pA, pB, pC]); refine tk 18 (some 30) rfl hHeld ?_; (try simp only [Act.put, pA, pB, pC]); refine tk 19 (some 31) rfl hHeld ?_; (try simp only [Act.put, pA, pB, pC]); refine tk 20 (some 32) rfl hHeld ?_; (try simp only [Act.put, pA, pB, pC]); refine tk 21 (some 33) rfl hHeld ?_; (try simp only [Act.put, pA, pB, pC]); refine tk 22 (some 34) rfl hHeld ?_; (try simp only [Act.put, pA, pB, pC]); refine tp 23 (some 35) rfl hHeld ?_; (try simp only [Act.put, pA, pB, pC]); refine tp 24 (some 36) rfl hHeld ?_; (try simp only [Act.put, pA, pB, pC]); refine tp 25 (some 37) rfl hHeld ?_; (try simp only [Act.put, pA, pB, pC]); refine tk 26 (some 38) rfl hHeld ?_; (try simp only [Act.put, pA, pB, pC])
  refine wpAnyH_ready (rs := [27]) (by kernel_rfl) (by simp) ?_
  refine AllReadyH.cons rfl (fun K hK => ?_) AllReadyH.nil
  go_simp
  go_at_call 137
  have hp := hHeld.1
  refine (as_for _ _ _ _).mono ?_
  rintro e w' ⟨rfl, rfl⟩
  (first | rw [hr1.out] | rw [hr2.out] | rw [hr3.out] | rw [hr4.out])
  have hN := hp
  clear hp
  (try go_wp2_with fail)
  refine hK.out _ _ ?_ (fun hHeld2 => ?_)
  ·(try dsimp only) <;> (first | exact keepT hN | exact keepT h0)
  clear hK K hHeld
  have hHeld := hHeld2
  clear hHeld2
  (try simp only [Act.put, pA, pB, pC]); refine tk 28 (some 40) rfl hHeld ?_; (try simp only [Act.put, pA, pB, pC]); refine tk 29 (some 41) rfl hHeld ?_; (try simp only [Act.put, pA, pB, pC]); refine tk 30 (some 42) rfl hHeld ?_; (try simp only [Act.put, pA, pB, pC]); refine tk 31 (some 43) rfl hHeld ?_; (try simp only [Act.put, pA, pB, pC]); refine tk 32 (some 44) rfl hHeld ?_; (try simp only [Act.put, pA, pB, pC]); refine tk 33 (some 45) rfl hHeld ?_; (try simp only [Act.put, pA, pB, pC]); refine tk 35 (some 47) rfl hHeld ?_; (try simp only [Act.put, pA, pB, pC]); refine tk 36 (some 48) rfl hHeld ?_; (try simp only [Act.put, pA, pB, pC]); refine tk 37 (some 49) rfl hHeld ?_; (try simp only [Act.put, pA, pB, pC])
  refine wpAnyH_ready (rs := [34]) (by kernel_rfl) (by simp) ?_
  refine AllReadyH.cons rfl (fun K hK => ?_) AllReadyH.nil
  go_simp
  go_at_call 139
  have hp := hHeld.1
  refine (impl_asked t _ HT.out).mono ?_
  rintro e w' ⟨rfl, hB⟩
  rw [h3.out]
  have hN := hp.on hB
  clear hp hB
  (try go_wp2_with fail)
  refine hK.out _ _ ?_ (fun hHeld2 => ?_)
  ·(try dsimp only) <;> (first | exact keepT hN | exact keepT h0)
  clear hK K hHeld
  have hHeld := hHeld2
  clear hHeld2
  (try simp only [Act.put, pA, pB, pC])
  refine wpAnyH_ready (rs := [38]) (by kernel_rfl) (by simp) ?_
  refine AllReadyH.cons rfl (fun K hK => ?_) AllReadyH.nil
  go_simp
  go_at_call 137
  have hp := hHeld.1
  refine (as_for _ _ _ _).mono ?_
  rintro e w' ⟨rfl, rfl⟩
  (first | rw [hr1.out] | rw [hr2.out] | rw [hr3.out] | rw [hr4.out])
  have hN := hp
  clear hp
  (try go_wp2_with fail)
  refine hK.out _ _ ?_ (fun hHeld2 => ?_)
  ·(try dsimp only) <;> (first | exact keepT hN | exact keepT h0)
  clear hK K hHeld
  have hHeld := hHeld2
  clear hHeld2
  (try simp only [Act.put, pA, pB, pC]); refine tk 39 (some 51) rfl hHeld ?_; (try simp only [Act.put, pA, pB, pC]); refine tk 40 (some 52) rfl hHeld ?_; (try simp only [Act.put, pA, pB, pC]); refine tk 41 (some 53) rfl hHeld ?_; (try simp only [Act.put, pA, pB, pC]); refine tk 42 (some 54) rfl hHeld ?_; (try simp only [Act.put, pA, pB, pC]); refine tk 43 (some 55) rfl hHeld ?_; (try simp only [Act.put, pA, pB, pC]); refine tk 44 (some 56) rfl hHeld ?_; (try simp only [Act.put, pA, pB, pC]); refine tk 45 (some 57) rfl hHeld ?_; (try simp only [Act.put, pA, pB, pC]); refine tk 47 (some 59) rfl hHeld ?_; (try simp only [Act.put, pA, pB, pC]); refine tk 48 (some 60) rfl hHeld ?_; (try simp only [Act.put, pA, pB, pC]); refine tk 50 (some 62) rfl hHeld ?_; (try simp only [Act.put, pA, pB, pC]); refine tk 51 (some 63) rfl hHeld ?_; (try simp only [Act.put, pA, pB, pC]); refine tk 52 (some 64) rfl hHeld ?_
  (try simp only [Act.put, pA, pB, pC]); refine tk 53 (some 65) rfl hHeld ?_; (try simp only [Act.put, pA, pB, pC])
  refine wpAnyH_ready (rs := [46]) (by kernel_rfl) (by simp) ?_
  refine AllReadyH.cons rfl (fun K hK => ?_) AllReadyH.nil
  go_simp
  go_at_call 140
  have hp := hHeld.1
  refine (expr_tells a cap ps _ (HP.out.on hp.2.2) hcap (HE.out.1.on hp.2.2)).mono ?_
  rintro e w' ⟨rfl, hB⟩
  rw [h4.out]
  have hN := hp.on hB
  clear hp hB
  (try go_wp2_with fail)
  refine hK.out _ _ ?_ (fun hHeld2 => ?_)
  ·(try dsimp only) <;> (first | exact keepT hN | exact keepT h0)
  clear hK K hHeld
  have hHeld := hHeld2
  clear hHeld2
  (try simp only [Act.put, pA, pB, pC]); refine tk 49 (some 61) rfl hHeld ?_; (try simp only [Act.put, pA, pB, pC])
  refine wpAnyH_ready (rs := [54]) (by kernel_rfl) (by simp) ?_
  refine AllReadyH.cons rfl (fun K hK => ?_) AllReadyH.nil
  go_simp
  go_at_call 137
  have hp := hHeld.1
  refine (as_for _ _ _ _).mono ?_
  rintro e w' ⟨rfl, rfl⟩
  (first | rw [hr1.out] | rw [hr2.out] | rw [hr3.out] | rw [hr4.out])
  have hN := hp
  clear hp
  (try go_wp2_with fail)
  refine hK.out _ _ ?_ (fun hHeld2 => ?_)
  ·(try dsimp only) <;> (first | exact keepT hN | exact keepT h0)
  clear hK K hHeld
  have hHeld := hHeld2
  clear hHeld2
  (try simp only [Act.put, pA, pB, pC]); refine tk 55 (some 67) rfl hHeld ?_; (try simp only [Act.put, pA, pB, pC]); refine tk 56 (some 68) rfl hHeld ?_; (try simp only [Act.put, pA, pB, pC]); refine tp 57 (some 69) rfl hHeld ?_; (try simp only [Act.put, pA, pB, pC]); refine tp 58 (some 70) rfl hHeld ?_; (try simp only [Act.put, pA, pB, pC]); refine tp 59 (some 71) rfl hHeld ?_; (try simp only [Act.put, pA, pB, pC]); refine tp 60 (some 72) rfl hHeld ?_; (try simp only [Act.put, pA, pB, pC]); refine tp 61 (some 73) rfl hHeld ?_; (try simp only [Act.put, pA, pB, pC]); refine tp 62 (some 74) rfl hHeld ?_; (try simp only [Act.put, pA, pB, pC]); refine tp 63 (some 75) rfl hHeld ?_; (try simp only [Act.put, pA, pB, pC]); refine tk 64 (some 76) rfl hHeld ?_; (try simp only [Act.put, pA, pB, pC]); refine tk 65 (some 2) rfl hHeld ?_; (try simp only [Act.put, pA, pB, pC])
  refine wpAnyH_done (by kernel_rfl) ?_ _
  have HZ := hid hHeld.1
  clear hHeld h0
  go_wp2_with fail
  go_ret
  exact ⟨rfl, HZ.out.2.2⟩
 cases o4
 case true =>
  go_enter Tryz.func117, Tryz.ntmps117
  go_wp2_with (first | (go_at_call 127; refine (between_any _ _ _ _).mono ?_; rintro e w' ⟨rfl, rfl⟩; rw [hin.out]))
  have hT := HW.out
  obtain ⟨W0, hW0⟩ : ∃ W0, Hid ((w.alloc (.cells #[.int .i64 j, .string s, .int .i64 ty, .int .i64 lo, .int .i64 hi, .string t, .slice a ps.length cap, .bool hd] 57)).alloc (.cells #[.bool o1, .bool o2, .bool o3, .bool true, .int .i64 o5] 179) = W0) := ⟨_, rfl⟩
  rw [hW0.out] at hT ⊢
  have h0 : Two w W0.drew j s ty lo hi t a ps.length cap hd o1 o2 o3 true o5 := hT.on (Below.refl _ _).drew
  clear hT hW0 g0 g1 g2 g3 g4 HW
  refine wp_region_held_drew (S := (fun w' => Two w w' j s ty lo hi t a ps.length cap hd o1 o2 o3 true o5 ∧ (w'.cell? ⟨w.heap.size, 0, none⟩ = some (.int .i64 j) ∧ w'.cell? ⟨w.heap.size, 1, none⟩ = some (.string s) ∧ w'.cell? ⟨w.heap.size, 2, none⟩ = some (.int .i64 ty) ∧ w'.cell? ⟨w.heap.size, 3, none⟩ = some (.int .i64 lo) ∧ w'.cell? ⟨w.heap.size, 4, none⟩ = some (.int .i64 hi) ∧ w'.cell? ⟨w.heap.size, 5, none⟩ = some (.string t) ∧ w'.cell? ⟨w.heap.size, 6, none⟩ = some (.slice a ps.length cap) ∧ w'.cell? ⟨w.heap.size, 7, none⟩ = some (.bool hd)) ∧ (w'.cell? ⟨w.heap.size + 1, 0, none⟩ = some (.bool o1) ∧ w'.cell? ⟨w.heap.size + 1, 1, none⟩ = some (.bool o2) ∧ w'.cell? ⟨w.heap.size + 1, 2, none⟩ = some (.bool o3) ∧ w'.cell? ⟨w.heap.size + 1, 3, none⟩ = some (.bool true) ∧ w'.cell? ⟨w.heap.size + 1, 4, none⟩ = some (.int .i64 o5)))) (by kernel_rfl) ?_ (fun hHeld => ?_)
  ·(try dsimp only) <;> (first | exact keepT hN | exact keepT h0)
  refine tk 0 (some 12) rfl hHeld ?_; (try simp only [Act.put, pA, pB, pC]); refine tk 1 (some 13) rfl hHeld ?_; (try simp only [Act.put, pA, pB, pC]); refine tk 2 (some 14) rfl hHeld ?_; (try simp only [Act.put, pA, pB, pC]); refine tk 3 (some 15) rfl hHeld ?_; (try simp only [Act.put, pA, pB, pC]); refine tk 5 (some 17) rfl hHeld ?_; (try simp only [Act.put, pA, pB, pC]); refine tk 6 (some 18) rfl hHeld ?_; (try simp only [Act.put, pA, pB, pC]); refine tk 7 (some 19) rfl hHeld ?_; (try simp only [Act.put, pA, pB, pC])
  refine wpAnyH_ready (rs := [4]) (by kernel_rfl) (by simp) ?_
  refine AllReadyH.cons rfl (fun K hK => ?_) AllReadyH.nil
  go_simp
  go_at_call 91
  have hp := hHeld.1
  refine (impl_name s _ HS.out).mono ?_
  rintro e w' ⟨rfl, rfl⟩
  rw [h1.out]
  have hN := hp
  clear hp
  (try go_wp2_with fail)
  refine hK.out _ _ ?_ (fun hHeld2 => ?_)
  ·(try dsimp only) <;> (first | exact keepT hN | exact keepT h0)
  clear hK K hHeld
  have hHeld := hHeld2
  clear hHeld2
  (try simp only [Act.put, pA, pB, pC])
  refine wpAnyH_ready (rs := [8]) (by kernel_rfl) (by simp) ?_
  refine AllReadyH.cons rfl (fun K hK => ?_) AllReadyH.nil
  go_simp
  go_at_call 137
  have hp := hHeld.1
  refine (as_for _ _ _ _).mono ?_
  rintro e w' ⟨rfl, rfl⟩
  (first | rw [hr1.out] | rw [hr2.out] | rw [hr3.out] | rw [hr4.out])
  have hN := hp
  clear hp
  (try go_wp2_with fail)
  refine hK.out _ _ ?_ (fun hHeld2 => ?_)
  ·(try dsimp only) <;> (first | exact keepT hN | exact keepT h0)
  clear hK K hHeld
  have hHeld := hHeld2
  clear hHeld2
  (try simp only [Act.put, pA, pB, pC]); refine tk 9 (some 21) rfl hHeld ?_; (try simp only [Act.put, pA, pB, pC]); refine tk 10 (some 22) rfl hHeld ?_; (try simp only [Act.put, pA, pB, pC]); refine tk 11 (some 23) rfl hHeld ?_; (try simp only [Act.put, pA, pB, pC]); refine tk 12 (some 24) rfl hHeld ?_; (try simp only [Act.put, pA, pB, pC]); refine tk 14 (some 26) rfl hHeld ?_; (try simp only [Act.put, pA, pB, pC]); refine tk 15 (some 27) rfl hHeld ?_; (try simp only [Act.put, pA, pB, pC]); refine tk 16 (some 28) rfl hHeld ?_; (try simp only [Act.put, pA, pB, pC])
  refine wpAnyH_ready (rs := [13]) (by kernel_rfl) (by simp) ?_
  refine AllReadyH.cons rfl (fun K hK => ?_) AllReadyH.nil
  go_simp
  go_at_call 138
  have hp := hHeld.1
  refine (impl_bounds j s ty lo hi t a ps.length cap hd _).mono ?_
  rintro e w' ⟨rfl, hB⟩
  rw [h2.out]
  have hN := hp.on hB
  clear hp hB
  (try go_wp2_with fail)
  refine hK.out _ _ ?_ (fun hHeld2 => ?_)
  ·(try dsimp only) <;> (first | exact keepT hN | exact keepT h0)
  clear hK K hHeld
  have hHeld := hHeld2
  clear hHeld2
  (try simp only [Act.put, pA, pB, pC]); refine tk 17 (some 29) rfl hHeld ?_; (try simp only [Act.put, pA, pB, pC]); refine tk 18 (some 30) rfl hHeld ?_; (try simp only [Act.put, pA, pB, pC]); refine tk 19 (some 31) rfl hHeld ?_; (try simp only [Act.put, pA, pB, pC]); refine tk 20 (some 32) rfl hHeld ?_; (try simp only [Act.put, pA, pB, pC]); refine tk 21 (some 33) rfl hHeld ?_; (try simp only [Act.put, pA, pB, pC]); refine tk 22 (some 34) rfl hHeld ?_; (try simp only [Act.put, pA, pB, pC]); refine tp 23 (some 35) rfl hHeld ?_; (try simp only [Act.put, pA, pB, pC]); refine tp 24 (some 36) rfl hHeld ?_; (try simp only [Act.put, pA, pB, pC]); refine tp 25 (some 37) rfl hHeld ?_; (try simp only [Act.put, pA, pB, pC]); refine tk 26 (some 38) rfl hHeld ?_; (try simp only [Act.put, pA, pB, pC])
  refine wpAnyH_ready (rs := [27]) (by kernel_rfl) (by simp) ?_
  refine AllReadyH.cons rfl (fun K hK => ?_) AllReadyH.nil
  go_simp
  go_at_call 137
  have hp := hHeld.1
  refine (as_for _ _ _ _).mono ?_
  rintro e w' ⟨rfl, rfl⟩
  (first | rw [hr1.out] | rw [hr2.out] | rw [hr3.out] | rw [hr4.out])
  have hN := hp
  clear hp
  (try go_wp2_with fail)
  refine hK.out _ _ ?_ (fun hHeld2 => ?_)
  ·(try dsimp only) <;> (first | exact keepT hN | exact keepT h0)
  clear hK K hHeld
  have hHeld := hHeld2
  clear hHeld2
  (try simp only [Act.put, pA, pB, pC]); refine tk 28 (some 40) rfl hHeld ?_; (try simp only [Act.put, pA, pB, pC]); refine tk 29 (some 41) rfl hHeld ?_; (try simp only [Act.put, pA, pB, pC]); refine tk 30 (some 42) rfl hHeld ?_; (try simp only [Act.put, pA, pB, pC]); refine tk 31 (some 43) rfl hHeld ?_; (try simp only [Act.put, pA, pB, pC]); refine tk 32 (some 44) rfl hHeld ?_; (try simp only [Act.put, pA, pB, pC]); refine tk 33 (some 45) rfl hHeld ?_; (try simp only [Act.put, pA, pB, pC]); refine tk 35 (some 47) rfl hHeld ?_; (try simp only [Act.put, pA, pB, pC]); refine tk 36 (some 48) rfl hHeld ?_; (try simp only [Act.put, pA, pB, pC]); refine tk 37 (some 49) rfl hHeld ?_; (try simp only [Act.put, pA, pB, pC])
  refine wpAnyH_ready (rs := [34]) (by kernel_rfl) (by simp) ?_
  refine AllReadyH.cons rfl (fun K hK => ?_) AllReadyH.nil
  go_simp
  go_at_call 139
  have hp := hHeld.1
  refine (impl_asked t _ HT.out).mono ?_
  rintro e w' ⟨rfl, hB⟩
  rw [h3.out]
  have hN := hp.on hB
  clear hp hB
  (try go_wp2_with fail)
  refine hK.out _ _ ?_ (fun hHeld2 => ?_)
  ·(try dsimp only) <;> (first | exact keepT hN | exact keepT h0)
  clear hK K hHeld
  have hHeld := hHeld2
  clear hHeld2
  (try simp only [Act.put, pA, pB, pC])
  refine wpAnyH_ready (rs := [38]) (by kernel_rfl) (by simp) ?_
  refine AllReadyH.cons rfl (fun K hK => ?_) AllReadyH.nil
  go_simp
  go_at_call 137
  have hp := hHeld.1
  refine (as_for _ _ _ _).mono ?_
  rintro e w' ⟨rfl, rfl⟩
  (first | rw [hr1.out] | rw [hr2.out] | rw [hr3.out] | rw [hr4.out])
  have hN := hp
  clear hp
  (try go_wp2_with fail)
  refine hK.out _ _ ?_ (fun hHeld2 => ?_)
  ·(try dsimp only) <;> (first | exact keepT hN | exact keepT h0)
  clear hK K hHeld
  have hHeld := hHeld2
  clear hHeld2
  (try simp only [Act.put, pA, pB, pC]); refine tk 39 (some 51) rfl hHeld ?_; (try simp only [Act.put, pA, pB, pC]); refine tk 40 (some 52) rfl hHeld ?_; (try simp only [Act.put, pA, pB, pC]); refine tk 41 (some 53) rfl hHeld ?_; (try simp only [Act.put, pA, pB, pC]); refine tk 42 (some 54) rfl hHeld ?_; (try simp only [Act.put, pA, pB, pC]); refine tk 43 (some 55) rfl hHeld ?_; (try simp only [Act.put, pA, pB, pC]); refine tk 44 (some 56) rfl hHeld ?_; (try simp only [Act.put, pA, pB, pC]); refine tk 45 (some 57) rfl hHeld ?_; (try simp only [Act.put, pA, pB, pC]); refine tk 47 (some 59) rfl hHeld ?_; (try simp only [Act.put, pA, pB, pC]); refine tk 48 (some 60) rfl hHeld ?_; (try simp only [Act.put, pA, pB, pC]); refine tk 50 (some 62) rfl hHeld ?_; (try simp only [Act.put, pA, pB, pC]); refine tk 51 (some 63) rfl hHeld ?_; (try simp only [Act.put, pA, pB, pC]); refine tk 52 (some 64) rfl hHeld ?_
  (try simp only [Act.put, pA, pB, pC]); refine tk 53 (some 65) rfl hHeld ?_; (try simp only [Act.put, pA, pB, pC])
  refine wpAnyH_ready (rs := [46]) (by kernel_rfl) (by simp) ?_
  refine AllReadyH.cons rfl (fun K hK => ?_) AllReadyH.nil
  go_simp
  go_at_call 140
  have hp := hHeld.1
  refine (expr_tells a cap ps _ (HP.out.on hp.2.2) hcap (HE.out.1.on hp.2.2)).mono ?_
  rintro e w' ⟨rfl, hB⟩
  rw [h4.out]
  have hN := hp.on hB
  clear hp hB
  (try go_wp2_with fail)
  refine hK.out _ _ ?_ (fun hHeld2 => ?_)
  ·(try dsimp only) <;> (first | exact keepT hN | exact keepT h0)
  clear hK K hHeld
  have hHeld := hHeld2
  clear hHeld2
  (try simp only [Act.put, pA, pB, pC]); refine tk 49 (some 61) rfl hHeld ?_; (try simp only [Act.put, pA, pB, pC])
  refine wpAnyH_ready (rs := [54]) (by kernel_rfl) (by simp) ?_
  refine AllReadyH.cons rfl (fun K hK => ?_) AllReadyH.nil
  go_simp
  go_at_call 137
  have hp := hHeld.1
  refine (as_for _ _ _ _).mono ?_
  rintro e w' ⟨rfl, rfl⟩
  (first | rw [hr1.out] | rw [hr2.out] | rw [hr3.out] | rw [hr4.out])
  have hN := hp
  clear hp
  (try go_wp2_with fail)
  refine hK.out _ _ ?_ (fun hHeld2 => ?_)
  ·(try dsimp only) <;> (first | exact keepT hN | exact keepT h0)
  clear hK K hHeld
  have hHeld := hHeld2
  clear hHeld2
  (try simp only [Act.put, pA, pB, pC]); refine tk 55 (some 67) rfl hHeld ?_; (try simp only [Act.put, pA, pB, pC]); refine tk 56 (some 68) rfl hHeld ?_; (try simp only [Act.put, pA, pB, pC]); refine tk 57 (some 69) rfl hHeld ?_; (try simp only [Act.put, pA, pB, pC]); refine tk 58 (some 70) rfl hHeld ?_; (try simp only [Act.put, pA, pB, pC]); refine tk 59 (some 71) rfl hHeld ?_; (try simp only [Act.put, pA, pB, pC]); refine tp 60 (some 72) rfl hHeld ?_; (try simp only [Act.put, pA, pB, pC]); refine tp 61 (some 73) rfl hHeld ?_; (try simp only [Act.put, pA, pB, pC]); refine tp 62 (some 74) rfl hHeld ?_; (try simp only [Act.put, pA, pB, pC]); refine tk 63 (some 75) rfl hHeld ?_; (try simp only [Act.put, pA, pB, pC]); refine tk 64 (some 76) rfl hHeld ?_; (try simp only [Act.put, pA, pB, pC]); refine tk 65 (some 2) rfl hHeld ?_; (try simp only [Act.put, pA, pB, pC])
  refine wpAnyH_done (by kernel_rfl) ?_ _
  have HZ := hid hHeld.1
  clear hHeld h0
  go_wp2_with fail
  go_ret
  exact ⟨rfl, HZ.out.2.2⟩
 go_enter Tryz.func117, Tryz.ntmps117
 go_wp2_with (first | (go_at_call 127; refine (between_any _ _ _ _).mono ?_; rintro e w' ⟨rfl, rfl⟩; rw [hin.out]))
 have hT := HW.out
 obtain ⟨W0, hW0⟩ : ∃ W0, Hid ((w.alloc (.cells #[.int .i64 j, .string s, .int .i64 ty, .int .i64 lo, .int .i64 hi, .string t, .slice a ps.length cap, .bool hd] 57)).alloc (.cells #[.bool o1, .bool o2, .bool o3, .bool false, .int .i64 o5] 179) = W0) := ⟨_, rfl⟩
 rw [hW0.out] at hT ⊢
 have h0 : Two w W0.drew j s ty lo hi t a ps.length cap hd o1 o2 o3 false o5 := hT.on (Below.refl _ _).drew
 clear hT hW0 g0 g1 g2 g3 g4 HW
 refine wp_region_held_drew (S := (fun w' => Two w w' j s ty lo hi t a ps.length cap hd o1 o2 o3 false o5 ∧ (w'.cell? ⟨w.heap.size, 0, none⟩ = some (.int .i64 j) ∧ w'.cell? ⟨w.heap.size, 1, none⟩ = some (.string s) ∧ w'.cell? ⟨w.heap.size, 2, none⟩ = some (.int .i64 ty) ∧ w'.cell? ⟨w.heap.size, 3, none⟩ = some (.int .i64 lo) ∧ w'.cell? ⟨w.heap.size, 4, none⟩ = some (.int .i64 hi) ∧ w'.cell? ⟨w.heap.size, 5, none⟩ = some (.string t) ∧ w'.cell? ⟨w.heap.size, 6, none⟩ = some (.slice a ps.length cap) ∧ w'.cell? ⟨w.heap.size, 7, none⟩ = some (.bool hd)) ∧ (w'.cell? ⟨w.heap.size + 1, 0, none⟩ = some (.bool o1) ∧ w'.cell? ⟨w.heap.size + 1, 1, none⟩ = some (.bool o2) ∧ w'.cell? ⟨w.heap.size + 1, 2, none⟩ = some (.bool o3) ∧ w'.cell? ⟨w.heap.size + 1, 3, none⟩ = some (.bool false) ∧ w'.cell? ⟨w.heap.size + 1, 4, none⟩ = some (.int .i64 o5)))) (by kernel_rfl) ?_ (fun hHeld => ?_)
 ·(try dsimp only) <;> (first | exact keepT hN | exact keepT h0)
 refine tk 0 (some 12) rfl hHeld ?_; (try simp only [Act.put, pA, pB, pC]); refine tk 1 (some 13) rfl hHeld ?_; (try simp only [Act.put, pA, pB, pC]); refine tk 2 (some 14) rfl hHeld ?_; (try simp only [Act.put, pA, pB, pC]); refine tk 3 (some 15) rfl hHeld ?_; (try simp only [Act.put, pA, pB, pC]); refine tk 5 (some 17) rfl hHeld ?_; (try simp only [Act.put, pA, pB, pC]); refine tk 6 (some 18) rfl hHeld ?_; (try simp only [Act.put, pA, pB, pC]); refine tk 7 (some 19) rfl hHeld ?_; (try simp only [Act.put, pA, pB, pC])
 refine wpAnyH_ready (rs := [4]) (by kernel_rfl) (by simp) ?_
 refine AllReadyH.cons rfl (fun K hK => ?_) AllReadyH.nil
 go_simp
 go_at_call 91
 have hp := hHeld.1
 refine (impl_name s _ HS.out).mono ?_
 rintro e w' ⟨rfl, rfl⟩
 rw [h1.out]
 have hN := hp
 clear hp
 (try go_wp2_with fail)
 refine hK.out _ _ ?_ (fun hHeld2 => ?_)
 ·(try dsimp only) <;> (first | exact keepT hN | exact keepT h0)
 clear hK K hHeld
 have hHeld := hHeld2
 clear hHeld2
 (try simp only [Act.put, pA, pB, pC])
 refine wpAnyH_ready (rs := [8]) (by kernel_rfl) (by simp) ?_
 refine AllReadyH.cons rfl (fun K hK => ?_) AllReadyH.nil
 go_simp
 go_at_call 137
 have hp := hHeld.1
 refine (as_for _ _ _ _).mono ?_
 rintro e w' ⟨rfl, rfl⟩
 (first | rw [hr1.out] | rw [hr2.out] | rw [hr3.out] | rw [hr4.out])
 have hN := hp
 clear hp
 (try go_wp2_with fail)
 refine hK.out _ _ ?_ (fun hHeld2 => ?_)
 ·(try dsimp only) <;> (first | exact keepT hN | exact keepT h0)
 clear hK K hHeld
 have hHeld := hHeld2
 clear hHeld2
 (try simp only [Act.put, pA, pB, pC]); refine tk 9 (some 21) rfl hHeld ?_; (try simp only [Act.put, pA, pB, pC]); refine tk 10 (some 22) rfl hHeld ?_; (try simp only [Act.put, pA, pB, pC]); refine tk 11 (some 23) rfl hHeld ?_; (try simp only [Act.put, pA, pB, pC]); refine tk 12 (some 24) rfl hHeld ?_; (try simp only [Act.put, pA, pB, pC]); refine tk 14 (some 26) rfl hHeld ?_; (try simp only [Act.put, pA, pB, pC]); refine tk 15 (some 27) rfl hHeld ?_; (try simp only [Act.put, pA, pB, pC]); refine tk 16 (some 28) rfl hHeld ?_; (try simp only [Act.put, pA, pB, pC])
 refine wpAnyH_ready (rs := [13]) (by kernel_rfl) (by simp) ?_
 refine AllReadyH.cons rfl (fun K hK => ?_) AllReadyH.nil
 go_simp
 go_at_call 138
 have hp := hHeld.1
 refine (impl_bounds j s ty lo hi t a ps.length cap hd _).mono ?_
 rintro e w' ⟨rfl, hB⟩
 rw [h2.out]
 have hN := hp.on hB
 clear hp hB
 (try go_wp2_with fail)
 refine hK.out _ _ ?_ (fun hHeld2 => ?_)
 ·(try dsimp only) <;> (first | exact keepT hN | exact keepT h0)
 clear hK K hHeld
 have hHeld := hHeld2
 clear hHeld2
 (try simp only [Act.put, pA, pB, pC]); refine tk 17 (some 29) rfl hHeld ?_; (try simp only [Act.put, pA, pB, pC]); refine tk 18 (some 30) rfl hHeld ?_; (try simp only [Act.put, pA, pB, pC]); refine tk 19 (some 31) rfl hHeld ?_; (try simp only [Act.put, pA, pB, pC]); refine tk 20 (some 32) rfl hHeld ?_; (try simp only [Act.put, pA, pB, pC]); refine tk 21 (some 33) rfl hHeld ?_; (try simp only [Act.put, pA, pB, pC]); refine tk 22 (some 34) rfl hHeld ?_; (try simp only [Act.put, pA, pB, pC]); refine tp 23 (some 35) rfl hHeld ?_; (try simp only [Act.put, pA, pB, pC]); refine tp 24 (some 36) rfl hHeld ?_; (try simp only [Act.put, pA, pB, pC]); refine tp 25 (some 37) rfl hHeld ?_; (try simp only [Act.put, pA, pB, pC]); refine tk 26 (some 38) rfl hHeld ?_; (try simp only [Act.put, pA, pB, pC])
 refine wpAnyH_ready (rs := [27]) (by kernel_rfl) (by simp) ?_
 refine AllReadyH.cons rfl (fun K hK => ?_) AllReadyH.nil
 go_simp
 go_at_call 137
 have hp := hHeld.1
 refine (as_for _ _ _ _).mono ?_
 rintro e w' ⟨rfl, rfl⟩
 (first | rw [hr1.out] | rw [hr2.out] | rw [hr3.out] | rw [hr4.out])
 have hN := hp
 clear hp
 (try go_wp2_with fail)
 refine hK.out _ _ ?_ (fun hHeld2 => ?_)
 ·(try dsimp only) <;> (first | exact keepT hN | exact keepT h0)
 clear hK K hHeld
 have hHeld := hHeld2
 clear hHeld2
 (try simp only [Act.put, pA, pB, pC]); refine tk 28 (some 40) rfl hHeld ?_; (try simp only [Act.put, pA, pB, pC]); refine tk 29 (some 41) rfl hHeld ?_; (try simp only [Act.put, pA, pB, pC]); refine tk 30 (some 42) rfl hHeld ?_; (try simp only [Act.put, pA, pB, pC]); refine tk 31 (some 43) rfl hHeld ?_; (try simp only [Act.put, pA, pB, pC]); refine tk 32 (some 44) rfl hHeld ?_; (try simp only [Act.put, pA, pB, pC]); refine tk 33 (some 45) rfl hHeld ?_; (try simp only [Act.put, pA, pB, pC]); refine tk 35 (some 47) rfl hHeld ?_; (try simp only [Act.put, pA, pB, pC]); refine tk 36 (some 48) rfl hHeld ?_; (try simp only [Act.put, pA, pB, pC]); refine tk 37 (some 49) rfl hHeld ?_; (try simp only [Act.put, pA, pB, pC])
 refine wpAnyH_ready (rs := [34]) (by kernel_rfl) (by simp) ?_
 refine AllReadyH.cons rfl (fun K hK => ?_) AllReadyH.nil
 go_simp
 go_at_call 139
 have hp := hHeld.1
 refine (impl_asked t _ HT.out).mono ?_
 rintro e w' ⟨rfl, hB⟩
 rw [h3.out]
 have hN := hp.on hB
 clear hp hB
 (try go_wp2_with fail)
 refine hK.out _ _ ?_ (fun hHeld2 => ?_)
 ·(try dsimp only) <;> (first | exact keepT hN | exact keepT h0)
 clear hK K hHeld
 have hHeld := hHeld2
 clear hHeld2
 (try simp only [Act.put, pA, pB, pC])
 refine wpAnyH_ready (rs := [38]) (by kernel_rfl) (by simp) ?_
 refine AllReadyH.cons rfl (fun K hK => ?_) AllReadyH.nil
 go_simp
 go_at_call 137
 have hp := hHeld.1
 refine (as_for _ _ _ _).mono ?_
 rintro e w' ⟨rfl, rfl⟩
 (first | rw [hr1.out] | rw [hr2.out] | rw [hr3.out] | rw [hr4.out])
 have hN := hp
 clear hp
 (try go_wp2_with fail)
 refine hK.out _ _ ?_ (fun hHeld2 => ?_)
 ·(try dsimp only) <;> (first | exact keepT hN | exact keepT h0)
 clear hK K hHeld
 have hHeld := hHeld2
 clear hHeld2
 (try simp only [Act.put, pA, pB, pC]); refine tk 39 (some 51) rfl hHeld ?_; (try simp only [Act.put, pA, pB, pC]); refine tk 40 (some 52) rfl hHeld ?_; (try simp only [Act.put, pA, pB, pC]); refine tk 41 (some 53) rfl hHeld ?_; (try simp only [Act.put, pA, pB, pC]); refine tk 42 (some 54) rfl hHeld ?_; (try simp only [Act.put, pA, pB, pC]); refine tk 43 (some 55) rfl hHeld ?_; (try simp only [Act.put, pA, pB, pC]); refine tk 44 (some 56) rfl hHeld ?_; (try simp only [Act.put, pA, pB, pC]); refine tk 45 (some 57) rfl hHeld ?_; (try simp only [Act.put, pA, pB, pC]); refine tk 47 (some 59) rfl hHeld ?_; (try simp only [Act.put, pA, pB, pC]); refine tk 48 (some 60) rfl hHeld ?_; (try simp only [Act.put, pA, pB, pC]); refine tk 50 (some 62) rfl hHeld ?_; (try simp only [Act.put, pA, pB, pC]); refine tk 51 (some 63) rfl hHeld ?_; (try simp only [Act.put, pA, pB, pC]); refine tk 52 (some 64) rfl hHeld ?_
 (try simp only [Act.put, pA, pB, pC]); refine tk 53 (some 65) rfl hHeld ?_; (try simp only [Act.put, pA, pB, pC])
 refine wpAnyH_ready (rs := [46]) (by kernel_rfl) (by simp) ?_
 refine AllReadyH.cons rfl (fun K hK => ?_) AllReadyH.nil
 go_simp
 go_at_call 140
 have hp := hHeld.1
 refine (expr_tells a cap ps _ (HP.out.on hp.2.2) hcap (HE.out.1.on hp.2.2)).mono ?_
 rintro e w' ⟨rfl, hB⟩
 rw [h4.out]
 have hN := hp.on hB
 clear hp hB
 (try go_wp2_with fail)
 refine hK.out _ _ ?_ (fun hHeld2 => ?_)
 ·(try dsimp only) <;> (first | exact keepT hN | exact keepT h0)
 clear hK K hHeld
 have hHeld := hHeld2
 clear hHeld2
 (try simp only [Act.put, pA, pB, pC]); refine tk 49 (some 61) rfl hHeld ?_; (try simp only [Act.put, pA, pB, pC])
 refine wpAnyH_ready (rs := [54]) (by kernel_rfl) (by simp) ?_
 refine AllReadyH.cons rfl (fun K hK => ?_) AllReadyH.nil
 go_simp
 go_at_call 137
 have hp := hHeld.1
 refine (as_for _ _ _ _).mono ?_
 rintro e w' ⟨rfl, rfl⟩
 (first | rw [hr1.out] | rw [hr2.out] | rw [hr3.out] | rw [hr4.out])
 have hN := hp
 clear hp
 (try go_wp2_with fail)
 refine hK.out _ _ ?_ (fun hHeld2 => ?_)
 ·(try dsimp only) <;> (first | exact keepT hN | exact keepT h0)
 clear hK K hHeld
 have hHeld := hHeld2
 clear hHeld2
 (try simp only [Act.put, pA, pB, pC]); refine tk 55 (some 67) rfl hHeld ?_; (try simp only [Act.put, pA, pB, pC]); refine tk 56 (some 68) rfl hHeld ?_; (try simp only [Act.put, pA, pB, pC]); refine tk 57 (some 69) rfl hHeld ?_; (try simp only [Act.put, pA, pB, pC]); refine tk 58 (some 70) rfl hHeld ?_; (try simp only [Act.put, pA, pB, pC]); refine tk 59 (some 71) rfl hHeld ?_; (try simp only [Act.put, pA, pB, pC]); refine tk 60 (some 72) rfl hHeld ?_; (try simp only [Act.put, pA, pB, pC]); refine tk 61 (some 73) rfl hHeld ?_; (try simp only [Act.put, pA, pB, pC]); refine tk 62 (some 74) rfl hHeld ?_; (try simp only [Act.put, pA, pB, pC]); refine tk 63 (some 75) rfl hHeld ?_; (try simp only [Act.put, pA, pB, pC]); refine tk 64 (some 76) rfl hHeld ?_; (try simp only [Act.put, pA, pB, pC]); refine tk 65 (some 2) rfl hHeld ?_; (try simp only [Act.put, pA, pB, pC])
 refine wpAnyH_done (by kernel_rfl) ?_ _
 have HZ := hid hHeld.1
 clear hHeld h0
 go_wp2_with fail
 go_ret
 exact ⟨rfl, HZ.out.2.2⟩
end Go.Proofs.YtmbhmknfipdadaaGreatDoor.ItmI
