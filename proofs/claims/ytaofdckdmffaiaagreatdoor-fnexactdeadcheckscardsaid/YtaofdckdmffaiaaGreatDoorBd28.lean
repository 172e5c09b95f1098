/- Texts of ours, laid together: ItmImA, ItmIm, ItmIA. -/
import Derived.Test.YtaofdckdmffaiaaGreatDoorBd20
import Derived.Test.YtaofdckdmffaiaaGreatDoorBd15
import Derived.Test.YtaofdckdmffaiaaGreatDoorBd19
import Derived.Test.YtaofdckdmffaiaaGreatDoorBd16
import Derived.Test.YtaofdckdmffaiaaGreatDoorShelf
import Derived.Deep.RegionHeld3
/- What the program says of an item. -/
namespace Go.Proofs.YtaofdckdmffaiaaGreatDoor.ItmI
open Go.RowKit
open PrtW PrtM NameW ItmW ValM ItmM
open PrtI (EnvS between_any)
open ItmS (At8 At8.laid below_one)

theorem beq_dec (x y : Int) : (x == y) = decide (x = y) := by rw [Bool.eq_iff_iff]; simp
set_option maxRecDepth 10000 in
set_option maxHeartbeats 1600000 in
theorem impl_bounds (k : Int) (s : ByteArray) (ty lo hi : Int) (t : ByteArray) (a : Option Addr) (len cap : Nat) (hd : Bool) (w : World) :
    Calls Tryz.prog 93 #[.agg #[.int .i64 k, .string s, .int .i64 ty, .int .i64 lo, .int .i64 hi, .string t, .slice a len cap, .bool hd]] w fun e w' => e = .returned (.bool (rangeB ty lo hi)) ∧ Below w.heap.size w w' := by
  rcases (by omega : ty = 1 ∨ ty = 2 ∨ ty = 3 ∨ ty = 4 ∨ (ty ≠ 1 ∧ ty ≠ 2 ∧ ty ≠ 3 ∧ ty ≠ 4)) with rfl | rfl | rfl | rfl | ⟨h1, h2, h3, h4⟩
  · by_cases h0 : -1000000 ≤ lo
    · have e : rangeB 1 lo hi = inB hi lo 1000000 := by unfold rangeB inB; rw [if_pos rfl, Bool.eq_iff_iff, Bool.and_eq_true, decide_eq_true_iff, decide_eq_true_iff]; omega
      rw [e]
      clear e
      go_enter Tryz.func93, Tryz.ntmps93
      go_wp2_with (first | (go_at_call 90; refine (between_any _ _ _ _).mono ?_; rintro e w' ⟨rfl, rfl⟩))
      go_ret
      exact ⟨rfl, by go_grown⟩
    · have e : rangeB 1 lo hi = false := by unfold rangeB; rw [if_pos rfl, decide_eq_false (by omega), Bool.false_and]
      rw [e]
      clear e
      go_enter Tryz.func93, Tryz.ntmps93
      go_wp2
      go_ret
      exact ⟨rfl, by go_grown⟩
  · by_cases h0 : lo = 1
    · subst h0
      have e : rangeB 2 1 hi = inB hi 1 20 := by unfold rangeB inB; simp
      rw [e]
      clear e
      go_enter Tryz.func93, Tryz.ntmps93
      go_wp2_with (first | (go_at_call 90; refine (between_any _ _ _ _).mono ?_; rintro e w' ⟨rfl, rfl⟩))
      go_ret
      exact ⟨rfl, by go_grown⟩
    · have e : rangeB 2 lo hi = false := by unfold rangeB; simp [h0]
      rw [e]
      have e0 : (lo == 1) = false := by simp [h0]
      go_enter Tryz.func93, Tryz.ntmps93
      go_wp2
      go_ret
      exact ⟨rfl, by go_grown⟩
  · by_cases h0 : lo = 1
    · subst h0
      have e : rangeB 3 1 hi = inB hi 1 20 := by unfold rangeB inB; simp
      rw [e]
      clear e
      go_enter Tryz.func93, Tryz.ntmps93
      go_wp2_with (first | (go_at_call 90; refine (between_any _ _ _ _).mono ?_; rintro e w' ⟨rfl, rfl⟩))
      go_ret
      exact ⟨rfl, by go_grown⟩
    · have e : rangeB 3 lo hi = false := by unfold rangeB; simp [h0]
      rw [e]
      have e0 : (lo == 1) = false := by simp [h0]
      go_enter Tryz.func93, Tryz.ntmps93
      go_wp2
      go_ret
      exact ⟨rfl, by go_grown⟩
  · by_cases h0 : lo = 0
    · subst h0
      have e : rangeB 4 0 hi = inB hi 1 40 := by unfold rangeB inB; simp
      rw [e]
      clear e
      go_enter Tryz.func93, Tryz.ntmps93
      go_wp2_with (first | (go_at_call 90; refine (between_any _ _ _ _).mono ?_; rintro e w' ⟨rfl, rfl⟩))
      go_ret
      exact ⟨rfl, by go_grown⟩
    · have e : rangeB 4 lo hi = false := by unfold rangeB; simp [h0]
      rw [e]
      have e0 : (lo == 0) = false := by simp [h0]
      go_enter Tryz.func93, Tryz.ntmps93
      go_wp2
      go_ret
      exact ⟨rfl, by go_grown⟩
  · have e : rangeB ty lo hi = false := by unfold rangeB; simp [h1, h2, h3, h4]
    rw [e]
    have e1 : (ty == 1) = false := by simp [h1]
    have e2 : (ty == 2) = false := by simp [h2]
    have e3 : (ty == 3) = false := by simp [h3]
    have e4 : (ty == 4) = false := by simp [h4]
    go_enter Tryz.func93, Tryz.ntmps93
    go_wp2
    go_ret
    exact ⟨rfl, by go_grown⟩

set_option maxRecDepth 10000 in
set_option maxHeartbeats 800000 in
theorem impl_asked (t : ByteArray) (w : World) (ht : t.size ≤ maxLen) :
    Calls Tryz.prog 94 #[.string t] w fun e w' => e = .returned (.bool (labelB t)) ∧ Below w.heap.size w w' := by
  have HT := hid ht
  have HT2 : Hid (t.size ≤ 9223372036854775807) := Nat.le_trans ht (by decide)
  unfold maxLen at ht
  obtain ⟨b1, hb1⟩ : ∃ b, Hid (inB (t.size : Int) 1 60 = b) := ⟨_, rfl⟩
  obtain ⟨b2, hb2⟩ : ∃ b, Hid (plainB t = b) := ⟨_, rfl⟩
  cases b1
  · have e : labelB t = false := by
      have := hb1.out
      unfold inB at this
      rw [decide_eq_false_iff_not] at this
      unfold labelB
      by_cases h1 : 1 ≤ t.size
      · rw [decide_eq_false (p := (t.size : Int) ≤ 60) (by omega), Bool.and_false, Bool.false_and, Bool.and_false]
      · rw [decide_eq_false h1, Bool.false_and]
    rw [e]
    clear e
    go_enter Tryz.func94, Tryz.ntmps94
    go_wp2_with (first | (go_at_call 90; refine (between_any _ _ _ _).mono ?_; rintro e w' ⟨rfl, rfl⟩; rw [hb1.out]))
    go_ret
    exact ⟨rfl, Below.refl _ _⟩
  have h1 : 1 ≤ t.size ∧ t.size ≤ 60 := by
    have := hb1.out
    unfold inB at this
    rw [decide_eq_true_iff] at this
    omega
  have e : labelB t = (b2 && ((⟨(Lib.trimB t.data.toList 32).toArray⟩ : ByteArray).toList == t.toList)) := by
    rw [trim_same t h1.1, ← hb2.out]
    unfold labelB
    rw [decide_eq_true h1.1, decide_eq_true (p := (t.size : Int) ≤ 60) (by omega), Bool.true_and, Bool.and_true]
  rw [e]
  clear e
  obtain ⟨b3, hb3⟩ : ∃ b, ((⟨(Lib.trimB t.data.toList 32).toArray⟩ : ByteArray).toList == t.toList) = b := ⟨_, rfl⟩
  rw [hb3]
  cases b2
  · go_enter Tryz.func94, Tryz.ntmps94
    go_wp2_with (first | (go_at_call 90; refine (between_any _ _ _ _).mono ?_; rintro e w' ⟨rfl, rfl⟩; rw [hb1.out]) | (go_at_call 110; refine (ValI.plain_impl t _ HT.out).mono ?_; rintro e w' ⟨rfl, rfl⟩; rw [hb2.out]))
    go_ret
    exact ⟨rfl, Below.refl _ _⟩
  · rw [Bool.true_and]
    go_enter Tryz.func94, Tryz.ntmps94
    go_wp2_with (first | (go_at_call 90; refine (between_any _ _ _ _).mono ?_; rintro e w' ⟨rfl, rfl⟩; rw [hb1.out]) | (go_at_call 110; refine (ValI.plain_impl t _ HT.out).mono ?_; rintro e w' ⟨rfl, rfl⟩; rw [hb2.out]))
    refine (Tryz.strings_Trim_one t 32 (by decide) _ HT2.out).mono ?_
    rintro e w1 ⟨rfl, hw⟩
    have HW : Hid (Below w'.heap.size w' w1) := by
      rcases hw with h | h
      · rw [h]; exact Below.refl _ _
      · rw [h]; exact (Below.refl _ _).drew
    clear hw
    generalize (⟨(Lib.trimB t.data.toList 32).toArray⟩ : ByteArray) = tt at *
    go_wp2_with fail
    go_ret
    exact ⟨rfl, HW.out⟩
end Go.Proofs.YtaofdckdmffaiaaGreatDoor.ItmI
/- itemRight of the program. -/
namespace Go.Proofs.YtaofdckdmffaiaaGreatDoor.ItmI
open Go.RowKit
open PrtW PrtM NameW ItmW ValM ItmM
open PrtI (EnvS between_any impl_truth impl_right)
open ItmS (At8 At8.laid below_one)

/-- the table of what an item of a kind has, as the program's text lays it -/
def namedO (k : Nat) : Bool := [false, true, false, false, false, true, true].getD k false
def typedO (k : Nat) : Bool := [false, true, false, false, false, false, false].getD k false
def saidO (k : Nat) : Bool := [false, true, false, false, false, true, false].getD k false
def hardO (k : Nat) : Bool := [false, false, false, false, false, true, false].getD k false
def tellsO (k : Nat) : Int := [0, 0, 2, 0, 0, 2, 1].getD k 0
def EnvO (w : World) : Prop := 5 < w.heap.size ∧ ∀ k, k < 7 →
  w.cell? ⟨5, k * 5, none⟩ = some (.bool (namedO k)) ∧ w.cell? ⟨5, k * 5 + 1, none⟩ = some (.bool (typedO k)) ∧ w.cell? ⟨5, k * 5 + 2, none⟩ = some (.bool (saidO k)) ∧ w.cell? ⟨5, k * 5 + 3, none⟩ = some (.bool (hardO k)) ∧ w.cell? ⟨5, k * 5 + 4, none⟩ = some (.int .i64 (tellsO k))
theorem EnvO.on {w w' : World} (h : EnvO w) (hB : Below w.heap.size w w') : EnvO w' := by
  refine ⟨Nat.lt_of_lt_of_le h.1 hB.size, fun k hk => ?_⟩
  have hc := (bcell hB).1
  simp only [hc _ _ h.1]
  exact h.2 k hk
theorem z1 {α : Type _} (l : List α) (i : Nat) (a : α) : l.toArray.setIfInBounds i a = (l.set i a).toArray := List.setIfInBounds_toArray ..
theorem z2 {α : Type _} (a b : α) (l : List α) : (a :: l).set 0 b = b :: l := rfl
theorem z3 {α : Type _} (a b : α) (l : List α) (n : Nat) : (a :: l).set (n + 1) b = a :: l.set n b := rfl
/-- what the program's look at an item asks of the world -/
def EnvI (w : World) : Prop := EnvS w ∧ EnvO w
theorem EnvI.on {w w' : World} (h : EnvI w) (hB : Below w.heap.size w w') : EnvI w' := ⟨h.1.on hB, h.2.on hB⟩

def asF (a m e : Bool) : Bool := (a && m) || (!a && e)
set_option maxHeartbeats 800000 in
theorem as_for (a m e : Bool) (w : World) : Calls Tryz.prog 91 #[.bool a, .bool m, .bool e] w fun r w' => r = .returned (.bool (asF a m e)) ∧ w' = w := by
  cases a <;> cases m <;> cases e
  all_goals
    go_enter Tryz.func91, Tryz.ntmps91
    go_wp2
    go_ret
    exact ⟨rfl, rfl⟩
def tellsI (ps : List Pt) : Int := if truthB ps = true then 2 else if rightB ps = true then 1 else 0
set_option maxHeartbeats 800000 in
theorem expr_tells (a : Option Addr) (cap : Nat) (ps : List Pt) (w : World) (hP : Parts w a ps) (hcap : ps.length ≤ cap) (hE : EnvS w) :
    Calls Tryz.prog 54 #[.slice a ps.length cap] w fun e w' => e = .returned (.int .i64 (tellsI ps)) ∧ Below w.heap.size w w' := by
  have hl := hP.1
  have HP := hid hP
  have HE := hid hE
  clear hP hE
  obtain ⟨b1, hb1⟩ : ∃ b, Hid (truthB ps = b) := ⟨_, rfl⟩
  obtain ⟨b2, hb2⟩ : ∃ b, Hid (rightB ps = b) := ⟨_, rfl⟩
  unfold tellsI
  rw [hb1.out, hb2.out]
  cases b1
  · go_enter Tryz.func54, Tryz.ntmps54
    go_wp2_with fail
    refine (impl_truth a cap ps _ HP.out hcap HE.out).mono ?_
    rintro e w1 ⟨rfl, hB1⟩
    rw [hb1.out]
    have HB1 := hid hB1
    clear hB1
    go_wp2_with fail
    refine (impl_right a cap ps _ (HP.out.on HB1.out) hcap (HE.out.on HB1.out)).mono ?_
    rintro e w2 ⟨rfl, hB2⟩
    rw [hb2.out]
    have HB2 := hid (HB1.out.trans (hB2.mono HB1.out.size))
    clear hB2
    cases b2
    all_goals
      go_wp2_with fail
      go_ret
      exact ⟨rfl, HB2.out⟩
  · go_enter Tryz.func54, Tryz.ntmps54
    go_wp2_with fail
    refine (impl_truth a cap ps _ HP.out hcap HE.out).mono ?_
    rintro e w1 ⟨rfl, hB1⟩
    rw [hb1.out]
    have HB1 := hid hB1
    clear hB1
    go_wp2_with fail
    go_ret
    exact ⟨rfl, HB1.out⟩

/-- what the table asks of an item -/
def tabI (k : Nat) (s : ByteArray) (ty lo hi : Int) (t : ByteArray) (ps : List Pt) (hd : Bool) : Bool :=
  asF (namedO k) (nameB s) s.toList.isEmpty && (asF (typedO k) (rangeB ty lo hi) ((ty == 0) && ((lo == 0) && (hi == 0))) && (asF (saidO k) (labelB t) t.toList.isEmpty && (asF (tellsO k != 0) (tellsI ps == tellsO k) (((ps.length : Nat) : Int) == 0) && (hardO k || !hd))))
theorem truth_right {ps : List Pt} (h : truthB ps = true) : rightB ps = true := by unfold truthB at h; rw [Bool.and_eq_true] at h; exact h.1
theorem tells_two (ps : List Pt) : (tellsI ps == 2) = truthB ps := by
  unfold tellsI
  cases truthB ps
  · cases rightB ps <;> simp
  · simp
theorem tells_one (ps : List Pt) : (tellsI ps == 1) = (rightB ps && !truthB ps) := by
  unfold tellsI
  cases h : truthB ps
  · cases rightB ps <;> simp
  · rw [truth_right h]; simp
theorem bare_eq (ty lo hi : Int) : bareB ty lo hi = ((ty == 0) && ((lo == 0) && (hi == 0))) := by unfold bareB; rw [beq_dec, beq_dec, beq_dec]
theorem parts_eq (ps : List Pt) : noParts ps = (((ps.length : Nat) : Int) == 0) := by unfold noParts; rw [beq_dec]
theorem asf_t (m e : Bool) : asF true m e = m := by unfold asF; simp
theorem asf_f (m e : Bool) : asF false m e = e := by unfold asF; simp
theorem tab_item (k : Nat) (h1 : 1 ≤ k) (h6 : k ≤ 6) (s : ByteArray) (ty lo hi : Int) (t : ByteArray) (ps : List Pt) (hd : Bool) : itemB ((k : Int), s, ty, lo, hi, t, ps, hd) = tabI k s ty lo hi t ps hd := by
  rcases (by omega : k = 1 ∨ k = 2 ∨ k = 3 ∨ k = 4 ∨ k = 5 ∨ k = 6) with rfl | rfl | rfl | rfl | rfl | rfl
  · show (nameB s && (rangeB ty lo hi && (labelB t && (noParts ps && !hd)))) = _
    unfold tabI
    rw [show namedO 1 = true from rfl, show typedO 1 = true from rfl, show saidO 1 = true from rfl, show tellsO 1 = 0 from rfl, show hardO 1 = false from rfl, show ((0 : Int) != 0) = false from rfl, asf_t, asf_t, asf_t, asf_f, parts_eq, Bool.false_or]
  · show (noText s && (bareB ty lo hi && (noText t && (truthB ps && !hd)))) = _
    unfold tabI
    rw [show namedO 2 = false from rfl, show typedO 2 = false from rfl, show saidO 2 = false from rfl, show tellsO 2 = 2 from rfl, show hardO 2 = false from rfl, show ((2 : Int) != 0) = true from rfl, asf_f, asf_f, asf_f, asf_t, tells_two, bare_eq, Bool.false_or]
    rfl
  · show (noText s && (bareB ty lo hi && (noText t && (noParts ps && !hd)))) = _
    unfold tabI
    rw [show namedO 3 = false from rfl, show typedO 3 = false from rfl, show saidO 3 = false from rfl, show tellsO 3 = 0 from rfl, show hardO 3 = false from rfl, show ((0 : Int) != 0) = false from rfl, asf_f, asf_f, asf_f, asf_f, parts_eq, bare_eq, Bool.false_or]
    rfl
  · show (noText s && (bareB ty lo hi && (noText t && (noParts ps && !hd)))) = _
    unfold tabI
    rw [show namedO 4 = false from rfl, show typedO 4 = false from rfl, show saidO 4 = false from rfl, show tellsO 4 = 0 from rfl, show hardO 4 = false from rfl, show ((0 : Int) != 0) = false from rfl, asf_f, asf_f, asf_f, asf_f, parts_eq, bare_eq, Bool.false_or]
    rfl
  · show (nameB s && (bareB ty lo hi && (labelB t && truthB ps))) = _
    unfold tabI
    rw [show namedO 5 = true from rfl, show typedO 5 = false from rfl, show saidO 5 = true from rfl, show tellsO 5 = 2 from rfl, show hardO 5 = true from rfl, show ((2 : Int) != 0) = true from rfl, asf_t, asf_f, asf_t, asf_t, tells_two, bare_eq, Bool.true_or, Bool.and_true]
  · show (nameB s && (bareB ty lo hi && (noText t && (rightB ps && (!truthB ps && !hd))))) = _
    unfold tabI
    rw [show namedO 6 = true from rfl, show typedO 6 = false from rfl, show saidO 6 = false from rfl, show tellsO 6 = 1 from rfl, show hardO 6 = false from rfl, show ((1 : Int) != 0) = true from rfl, asf_t, asf_f, asf_f, asf_t, tells_one, bare_eq, Bool.false_or, Bool.and_assoc (rightB ps)]
    rfl
theorem item_out {k : Int} {s : ByteArray} {ty lo hi : Int} {t : ByteArray} {ps : List Pt} {hd : Bool} (h : ¬ (1 ≤ k ∧ k ≤ 6)) : itemB (k, s, ty, lo, hi, t, ps, hd) = false := by
  have h1 : ¬ k = 1 := by omega
  have h2 : ¬ k = 2 := by omega
  have h3 : ¬ k = 3 := by omega
  have h4 : ¬ k = 4 := by omega
  have h5 : ¬ k = 5 := by omega
  have h6 : ¬ k = 6 := by omega
  unfold itemB; simp only [h1, h2, h3, h4, h5, h6, if_false, or_self]

/-- five cells at a block's beginning -/
def At5 (w : World) (b : Nat) (v0 v1 v2 v3 v4 : Value) : Prop := (w.cell? ⟨b, 0, none⟩ = some v0 ∧ w.cell? ⟨b, 1, none⟩ = some v1 ∧ w.cell? ⟨b, 2, none⟩ = some v2 ∧ w.cell? ⟨b, 3, none⟩ = some v3 ∧ w.cell? ⟨b, 4, none⟩ = some v4) ∧ b < w.heap.size
theorem At5.on {w w' : World} {b : Nat} {v0 v1 v2 v3 v4 : Value} (h : At5 w b v0 v1 v2 v3 v4) (hB : Below w.heap.size w w') : At5 w' b v0 v1 v2 v3 v4 := by
  obtain ⟨⟨h0, h1, h2, h3, h4⟩, hl⟩ := h
  exact ⟨⟨by rw [hB.cell (p := ⟨b, _, none⟩) hl]; exact h0, by rw [hB.cell (p := ⟨b, _, none⟩) hl]; exact h1, by rw [hB.cell (p := ⟨b, _, none⟩) hl]; exact h2, by rw [hB.cell (p := ⟨b, _, none⟩) hl]; exact h3, by rw [hB.cell (p := ⟨b, _, none⟩) hl]; exact h4⟩, Nat.lt_of_lt_of_le hl hB.size⟩
theorem At5.laid (w : World) (T : TypeId) (v0 v1 v2 v3 v4 : Value) : At5 (w.alloc (.cells #[v0, v1, v2, v3, v4] T)) w.heap.size v0 v1 v2 v3 v4 := ⟨⟨by simp, by simp, by simp, by simp, by simp⟩, by simp⟩
/-- the item and its outline, as a call has them -/
def Two (w0 w : World) (k : Int) (s : ByteArray) (ty lo hi : Int) (t : ByteArray) (a : Option Addr) (len cap : Nat) (hd : Bool) (o1 o2 o3 o4 : Bool) (o5 : Int) : Prop :=
  At8 w w0.heap.size (.int .i64 k) (.string s) (.int .i64 ty) (.int .i64 lo) (.int .i64 hi) (.string t) (.slice a len cap) (.bool hd) ∧ At5 w (w0.heap.size + 1) (.bool o1) (.bool o2) (.bool o3) (.bool o4) (.int .i64 o5) ∧ Below w0.heap.size w0 w
theorem Two.on {w0 w w' : World} {k : Int} {s : ByteArray} {ty lo hi : Int} {t : ByteArray} {a : Option Addr} {len cap : Nat} {hd : Bool} {o1 o2 o3 o4 : Bool} {o5 : Int} (h : Two w0 w k s ty lo hi t a len cap hd o1 o2 o3 o4 o5) (hB : Below w.heap.size w w') : Two w0 w' k s ty lo hi t a len cap hd o1 o2 o3 o4 o5 :=
  ⟨h.1.on hB, h.2.1.on hB, h.2.2.trans (hB.mono h.2.2.size)⟩
theorem Two.laid (w : World) (T1 T2 : TypeId) (k : Int) (s : ByteArray) (ty lo hi : Int) (t : ByteArray) (a : Option Addr) (len cap : Nat) (hd : Bool) (o1 o2 o3 o4 : Bool) (o5 : Int) :
    Two w ((w.alloc (.cells #[.int .i64 k, .string s, .int .i64 ty, .int .i64 lo, .int .i64 hi, .string t, .slice a len cap, .bool hd] T1)).alloc (.cells #[.bool o1, .bool o2, .bool o3, .bool o4, .int .i64 o5] T2)) k s ty lo hi t a len cap hd o1 o2 o3 o4 o5 := by
  refine ⟨(At8.laid w T1 _ _ _ _ _ _ _ _).on (below_one _ _), ?_, (below_one _ _).trans ((below_one _ _).mono (by simp))⟩
  have := At5.laid (w.alloc (.cells #[.int .i64 k, .string s, .int .i64 ty, .int .i64 lo, .int .i64 hi, .string t, .slice a len cap, .bool hd] T1)) T2 (.bool o1) (.bool o2) (.bool o3) (.bool o4) (.int .i64 o5)
  rw [World.size_alloc] at this
  exact this
theorem Two.all {w0 w : World} {k : Int} {s : ByteArray} {ty lo hi : Int} {t : ByteArray} {a : Option Addr} {len cap : Nat} {hd : Bool} {o1 o2 o3 o4 : Bool} {o5 : Int} (h : Two w0 w k s ty lo hi t a len cap hd o1 o2 o3 o4 o5) :
    (w.cell? ⟨w0.heap.size, 0, none⟩ = some (.int .i64 k) ∧ w.cell? ⟨w0.heap.size, 1, none⟩ = some (.string s) ∧ w.cell? ⟨w0.heap.size, 2, none⟩ = some (.int .i64 ty) ∧ w.cell? ⟨w0.heap.size, 3, none⟩ = some (.int .i64 lo) ∧ w.cell? ⟨w0.heap.size, 4, none⟩ = some (.int .i64 hi) ∧ w.cell? ⟨w0.heap.size, 5, none⟩ = some (.string t) ∧ w.cell? ⟨w0.heap.size, 6, none⟩ = some (.slice a len cap) ∧ w.cell? ⟨w0.heap.size, 7, none⟩ = some (.bool hd)) ∧
    (w.cell? ⟨w0.heap.size + 1, 0, none⟩ = some (.bool o1) ∧ w.cell? ⟨w0.heap.size + 1, 1, none⟩ = some (.bool o2) ∧ w.cell? ⟨w0.heap.size + 1, 2, none⟩ = some (.bool o3) ∧ w.cell? ⟨w0.heap.size + 1, 3, none⟩ = some (.bool o4) ∧ w.cell? ⟨w0.heap.size + 1, 4, none⟩ = some (.int .i64 o5)) ∧ w0.heap.size + 1 < w.heap.size := ⟨h.1.1, h.2.1.1, h.2.1.2⟩

theorem keepT {w0 w : World} {k : Int} {s : ByteArray} {ty lo hi : Int} {t : ByteArray} {a : Option Addr} {len cap : Nat} {hd : Bool} {o1 o2 o3 o4 : Bool} {o5 : Int} (h : Two w0 w k s ty lo hi t a len cap hd o1 o2 o3 o4 o5) :
    Two w0 w k s ty lo hi t a len cap hd o1 o2 o3 o4 o5 ∧ (w.cell? ⟨w0.heap.size, 0, none⟩ = some (.int .i64 k) ∧ w.cell? ⟨w0.heap.size, 1, none⟩ = some (.string s) ∧ w.cell? ⟨w0.heap.size, 2, none⟩ = some (.int .i64 ty) ∧ w.cell? ⟨w0.heap.size, 3, none⟩ = some (.int .i64 lo) ∧ w.cell? ⟨w0.heap.size, 4, none⟩ = some (.int .i64 hi) ∧ w.cell? ⟨w0.heap.size, 5, none⟩ = some (.string t) ∧ w.cell? ⟨w0.heap.size, 6, none⟩ = some (.slice a len cap) ∧ w.cell? ⟨w0.heap.size, 7, none⟩ = some (.bool hd)) ∧
    (w.cell? ⟨w0.heap.size + 1, 0, none⟩ = some (.bool o1) ∧ w.cell? ⟨w0.heap.size + 1, 1, none⟩ = some (.bool o2) ∧ w.cell? ⟨w0.heap.size + 1, 2, none⟩ = some (.bool o3) ∧ w.cell? ⟨w0.heap.size + 1, 3, none⟩ = some (.bool o4) ∧ w.cell? ⟨w0.heap.size + 1, 4, none⟩ = some (.int .i64 o5)) := ⟨h, h.1.1, h.2.1.1⟩
end Go.Proofs.YtaofdckdmffaiaaGreatDoor.ItmI
/- itemRight of the program: the walk. -/
namespace Go.Proofs.YtaofdckdmffaiaaGreatDoor.ItmI
open Go.RowKit
open PrtW PrtM NameW ItmW ValM ItmM
open PrtI (EnvS between_any impl_truth impl_right)
open ItmS (At8 At8.laid below_one)

set_option maxRecDepth 10000 in
set_option maxHeartbeats 12800000 in
theorem item_A (j : Nat) (hk : 1 ≤ j ∧ j ≤ 6) (s : ByteArray) (ty lo hi : Int) (t : ByteArray) (a : Option Addr) (cap : Nat) (ps : List Pt) (hd : Bool) (w : World) (hP : Parts w a ps) (_hcap : ps.length ≤ cap) (hs : s.size ≤ maxLen) (ht : t.size ≤ maxLen) (hE : EnvI w) (hr : asF (namedO j) (nameB s) s.toList.isEmpty = false) :
    Calls Tryz.prog 76 #[.agg #[.int .i64 j, .string s, .int .i64 ty, .int .i64 lo, .int .i64 hi, .string t, .slice a ps.length cap, .bool hd]] w fun e w' => e = .returned (.bool (tabI j s ty lo hi t ps hd)) ∧ Below w.heap.size w w' := by
  have HP := hid hP
  have HS := hid hs
  have HT := hid ht
  have HE := hid hE
  have hpl := hP.1
  clear hP hs ht hE
  have hin : Hid (inB (j : Int) 1 6 = true) := decide_eq_true (by omega)
  have hg := HE.out.2.1
  have hj7 : j < 7 := by omega
  obtain ⟨g0, g1, g2, g3, g4⟩ := HE.out.2.2 j hj7
  unfold tabI
  rw [hr, Bool.false_and]
  generalize namedO j = o1 at *
  generalize typedO j = o2 at *
  generalize saidO j = o3 at *
  generalize hardO j = o4 at *
  generalize tellsO j = o5 at *
  obtain ⟨v1, h1⟩ : ∃ v, Hid (nameB s = v) := ⟨_, rfl⟩
  obtain ⟨v2, h2⟩ : ∃ v, Hid (rangeB ty lo hi = v) := ⟨_, rfl⟩
  obtain ⟨v3, h3⟩ : ∃ v, Hid (labelB t = v) := ⟨_, rfl⟩
  obtain ⟨v4, h4⟩ : ∃ v, Hid (tellsI ps = v) := ⟨_, rfl⟩
  obtain ⟨es, hes⟩ : ∃ v, s.toList.isEmpty = v := ⟨_, rfl⟩
  obtain ⟨et, het⟩ : ∃ v, t.toList.isEmpty = v := ⟨_, rfl⟩
  obtain ⟨ez, hez⟩ : ∃ v, (((ps.length : Nat) : Int) == 0) = v := ⟨_, rfl⟩
  obtain ⟨et5, het5⟩ : ∃ v, (o5 != 0) = v := ⟨_, rfl⟩
  obtain ⟨e45, he45⟩ : ∃ v, (v4 == o5) = v := ⟨_, rfl⟩
  have hr1 : Hid (asF o1 v1 es = false) := by show _ = _; rw [← hr, h1.out, hes]
  obtain ⟨r2, hr2⟩ : ∃ v, Hid (asF o2 v2 ((ty == 0) && ((lo == 0) && (hi == 0))) = v) := ⟨_, rfl⟩
  obtain ⟨r3, hr3⟩ : ∃ v, Hid (asF o3 v3 et = v) := ⟨_, rfl⟩
  obtain ⟨r4, hr4⟩ : ∃ v, Hid (asF et5 e45 ez = v) := ⟨_, rfl⟩
  have HW := hid (Two.laid w 54 121 j s ty lo hi t a ps.length cap hd o1 o2 o3 o4 o5)
  go_enter Tryz.func76, Tryz.ntmps76
  go_wp2_with (first | (go_at_call 90; refine (between_any _ _ _ _).mono ?_; rintro e w' ⟨rfl, rfl⟩; rw [hin.out]))
  have hT := HW.out
  obtain ⟨W0, hW0⟩ : ∃ W0, Hid ((w.alloc (.cells #[.int .i64 j, .string s, .int .i64 ty, .int .i64 lo, .int .i64 hi, .string t, .slice a ps.length cap, .bool hd] 54)).alloc (.cells #[.bool o1, .bool o2, .bool o3, .bool o4, .int .i64 o5] 121) = W0) := ⟨_, rfl⟩
  rw [hW0.out] at hT ⊢
  have h0 : Two w W0.drew j s ty lo hi t a ps.length cap hd o1 o2 o3 o4 o5 := hT.on (Below.refl _ _).drew
  clear hT hW0 g0 g1 g2 g3 g4 HW
  refine wp_region_held_drew (S := (fun w' => Two w w' j s ty lo hi t a ps.length cap hd o1 o2 o3 o4 o5 ∧ (w'.cell? ⟨w.heap.size, 0, none⟩ = some (.int .i64 j) ∧ w'.cell? ⟨w.heap.size, 1, none⟩ = some (.string s) ∧ w'.cell? ⟨w.heap.size, 2, none⟩ = some (.int .i64 ty) ∧ w'.cell? ⟨w.heap.size, 3, none⟩ = some (.int .i64 lo) ∧ w'.cell? ⟨w.heap.size, 4, none⟩ = some (.int .i64 hi) ∧ w'.cell? ⟨w.heap.size, 5, none⟩ = some (.string t) ∧ w'.cell? ⟨w.heap.size, 6, none⟩ = some (.slice a ps.length cap) ∧ w'.cell? ⟨w.heap.size, 7, none⟩ = some (.bool hd)) ∧ (w'.cell? ⟨w.heap.size + 1, 0, none⟩ = some (.bool o1) ∧ w'.cell? ⟨w.heap.size + 1, 1, none⟩ = some (.bool o2) ∧ w'.cell? ⟨w.heap.size + 1, 2, none⟩ = some (.bool o3) ∧ w'.cell? ⟨w.heap.size + 1, 3, none⟩ = some (.bool o4) ∧ w'.cell? ⟨w.heap.size + 1, 4, none⟩ = some (.int .i64 o5)))) (by kernel_rfl) ?_ (fun hHeld => ?_)
  · (try dsimp only) <;> (first | exact keepT hN | exact keepT h0)
  refine wpAnyH_take (i := 0) (oi := { dst := some 12, op := Go.Op.fieldAddr 121 (Go.Operand.tmp 3) 0, type := 0, pos := "l06_form.go:124", after := #[], guard := none }) (v := ?_) rfl (by kernel_rfl) (by kernel_rfl) (by kernel_rfl) (fun _ _ _ h => h) (Or.inl ⟨by rfl, ?yld1⟩) hHeld ?nxt1
  case yld1 => (intro w hSw; (try dsimp only at hSw); go_simp) <;> with_reducible rfl
  (try simp only [Act.put, List.setIfInBounds_toArray, List.set_cons_zero, List.set_cons_succ])
  refine wpAnyH_take (i := 1) (oi := { dst := some 13, op := Go.Op.load 4 (Go.Operand.tmp 12), type := 4, pos := "l06_form.go:124", after := #[{ on := 0, ground := Go.Ground.data }], guard := none }) (v := ?_) rfl (by kernel_rfl) (by kernel_rfl) (by kernel_rfl) (fun _ _ _ h => h) (Or.inl ⟨by rfl, ?yld2⟩) hHeld ?nxt2
  case yld2 => (intro w hSw; (try dsimp only at hSw); go_simp) <;> with_reducible rfl
  (try simp only [Act.put, List.setIfInBounds_toArray, List.set_cons_zero, List.set_cons_succ])
  refine wpAnyH_take (i := 2) (oi := { dst := some 14, op := Go.Op.fieldAddr 54 (Go.Operand.tmp 1) 1, type := 0, pos := "l06_form.go:124", after := #[], guard := none }) (v := ?_) rfl (by kernel_rfl) (by kernel_rfl) (by kernel_rfl) (fun _ _ _ h => h) (Or.inl ⟨by rfl, ?yld3⟩) hHeld ?nxt3
  case yld3 => (intro w hSw; (try dsimp only at hSw); go_simp) <;> with_reducible rfl
  (try simp only [Act.put, List.setIfInBounds_toArray, List.set_cons_zero, List.set_cons_succ])
  refine wpAnyH_take (i := 3) (oi := { dst := some 15, op := Go.Op.load 9 (Go.Operand.tmp 14), type := 9, pos := "l06_form.go:124", after := #[{ on := 2, ground := Go.Ground.data }], guard := none }) (v := ?_) rfl (by kernel_rfl) (by kernel_rfl) (by kernel_rfl) (fun _ _ _ h => h) (Or.inl ⟨by rfl, ?yld4⟩) hHeld ?nxt4
  case yld4 => (intro w hSw; (try dsimp only at hSw); go_simp) <;> with_reducible rfl
  (try simp only [Act.put, List.setIfInBounds_toArray, List.set_cons_zero, List.set_cons_succ])
  refine wpAnyH_take (i := 5) (oi := { dst := some 17, op := Go.Op.fieldAddr 54 (Go.Operand.tmp 1) 1, type := 0, pos := "l06_form.go:124", after := #[], guard := none }) (v := ?_) rfl (by kernel_rfl) (by kernel_rfl) (by kernel_rfl) (fun _ _ _ h => h) (Or.inl ⟨by rfl, ?yld5⟩) hHeld ?nxt5
  case yld5 => (intro w hSw; (try dsimp only at hSw); go_simp) <;> with_reducible rfl
  (try simp only [Act.put, List.setIfInBounds_toArray, List.set_cons_zero, List.set_cons_succ])
  refine wpAnyH_take (i := 6) (oi := { dst := some 18, op := Go.Op.load 9 (Go.Operand.tmp 17), type := 9, pos := "l06_form.go:124", after := #[{ on := 5, ground := Go.Ground.data }], guard := none }) (v := ?_) rfl (by kernel_rfl) (by kernel_rfl) (by kernel_rfl) (fun _ _ _ h => h) (Or.inl ⟨by rfl, ?yld6⟩) hHeld ?nxt6
  case yld6 => (intro w hSw; (try dsimp only at hSw); go_simp) <;> with_reducible rfl
  (try simp only [Act.put, List.setIfInBounds_toArray, List.set_cons_zero, List.set_cons_succ])
  refine wpAnyH_take (i := 7) (oi := { dst := some 19, op := Go.Op.binOp Go.BinOp.eql 9 (Go.Operand.tmp 18) (Go.Operand.const (Go.Value.string { data := #[] })) 9, type := 4, pos := "l06_form.go:124", after := #[{ on := 6, ground := Go.Ground.data }], guard := none }) (v := ?_) rfl (by kernel_rfl) (by kernel_rfl) (by kernel_rfl) (fun _ _ _ h => h) (Or.inl ⟨by rfl, ?yld7⟩) hHeld ?nxt7
  case yld7 => (intro w hSw; (try dsimp only at hSw); go_simp) <;> with_reducible rfl
  (try simp only [Act.put, List.setIfInBounds_toArray, List.set_cons_zero, List.set_cons_succ])
  refine wpAnyH_ready (rs := [4]) (by kernel_rfl) (by simp) ?_
  refine AllReadyH.cons (o := { dst := some 16, op := Go.Op.call { callee := Go.Callee.value (Go.Operand.func 92), args := #[Go.Operand.tmp 15], argTypes := #[9] }, type := 4, pos := "l06_form.go:124", after := #[{ on := 3, ground := Go.Ground.data }], guard := none }) rfl (fun K hK => ?_) AllReadyH.nil
  go_simp
  go_at_call 92
  have hp := hHeld.1
  refine (impl_name s _ HS.out).mono ?_
  rintro e w' ⟨rfl, rfl⟩
  rw [h1.out]
  have hN := hp
  clear hp
  (try go_wp2_with fail)
  refine hK.out _ _ ?_ (fun hHeld2 => ?_)
  · (try dsimp only) <;> (first | exact keepT hN | exact keepT h0)
  clear hK K hHeld
  have hHeld := hHeld2
  clear hHeld2
  (try simp only [Act.put, List.setIfInBounds_toArray, List.set_cons_zero, List.set_cons_succ])
  refine wpAnyH_ready (rs := [8]) (by kernel_rfl) (by simp) ?_
  refine AllReadyH.cons (o := { dst := some 20, op := Go.Op.call { callee := Go.Callee.value (Go.Operand.func 91), args := #[Go.Operand.tmp 13, Go.Operand.tmp 16, Go.Operand.tmp 19], argTypes := #[4, 4, 4] }, type := 4, pos := "l06_form.go:124", after := #[{ on := 1, ground := Go.Ground.data }, { on := 4, ground := Go.Ground.data }, { on := 7, ground := Go.Ground.data }, { on := 4, ground := Go.Ground.chain }], guard := none }) rfl (fun K hK => ?_) AllReadyH.nil
  go_simp
  go_at_call 91
  have hp := hHeld.1
  refine (as_for _ _ _ _).mono ?_
  rintro e w' ⟨rfl, rfl⟩
  (first | rw [hr1.out] | rw [hr2.out] | rw [hr3.out] | rw [hr4.out])
  have hN := hp
  clear hp
  (try go_wp2_with fail)
  refine hK.out _ _ ?_ (fun hHeld2 => ?_)
  · (try dsimp only) <;> (first | exact keepT hN | exact keepT h0)
  clear hK K hHeld
  have hHeld := hHeld2
  clear hHeld2
  (try simp only [Act.put, List.setIfInBounds_toArray, List.set_cons_zero, List.set_cons_succ])
  refine wpAnyH_take (i := 9) (oi := { dst := some 21, op := Go.Op.move (Go.Operand.tmp 20), type := 4, pos := "l06_form.go:124", after := #[{ on := 8, ground := Go.Ground.data }, { on := 8, ground := Go.Ground.chain }], guard := none }) (v := ?_) rfl (by kernel_rfl) (by kernel_rfl) (by kernel_rfl) (fun _ _ _ h => h) (Or.inl ⟨by rfl, ?yld8⟩) hHeld ?nxt8
  case yld8 => (intro w hSw; (try dsimp only at hSw); go_simp) <;> with_reducible rfl
  (try simp only [Act.put, List.setIfInBounds_toArray, List.set_cons_zero, List.set_cons_succ])
  refine wpAnyH_take (i := 10) (oi := { dst := some 22, op := Go.Op.fieldAddr 121 (Go.Operand.tmp 3) 1, type := 0, pos := "l06_form.go:124", after := #[{ on := 9, ground := Go.Ground.guard }], guard := some (9, true) }) (v := undef) rfl (by kernel_rfl) (by kernel_rfl) (by kernel_rfl) (fun _ _ _ h => h) (Or.inr ⟨by rfl, rfl⟩) hHeld ?_
  (try simp only [Act.put, List.setIfInBounds_toArray, List.set_cons_zero, List.set_cons_succ])
  refine wpAnyH_take (i := 11) (oi := { dst := some 23, op := Go.Op.load 4 (Go.Operand.tmp 22), type := 4, pos := "l06_form.go:124", after := #[{ on := 10, ground := Go.Ground.data }, { on := 9, ground := Go.Ground.guard }], guard := some (9, true) }) (v := undef) rfl (by kernel_rfl) (by kernel_rfl) (by kernel_rfl) (fun _ _ _ h => h) (Or.inr ⟨by rfl, rfl⟩) hHeld ?_
  (try simp only [Act.put, List.setIfInBounds_toArray, List.set_cons_zero, List.set_cons_succ])
  refine wpAnyH_take (i := 12) (oi := { dst := some 24, op := Go.Op.load 54 (Go.Operand.tmp 1), type := 54, pos := "l06_form.go:124", after := #[{ on := 9, ground := Go.Ground.guard }], guard := some (9, true) }) (v := undef) rfl (by kernel_rfl) (by kernel_rfl) (by kernel_rfl) (fun _ _ _ h => h) (Or.inr ⟨by rfl, rfl⟩) hHeld ?_
  (try simp only [Act.put, List.setIfInBounds_toArray, List.set_cons_zero, List.set_cons_succ])
  refine wpAnyH_take (i := 13) (oi := { dst := some 25, op := Go.Op.call { callee := Go.Callee.value (Go.Operand.func 93), args := #[Go.Operand.tmp 24], argTypes := #[54] }, type := 4, pos := "l06_form.go:125", after := #[{ on := 12, ground := Go.Ground.data }, { on := 9, ground := Go.Ground.chain }, { on := 9, ground := Go.Ground.guard }], guard := some (9, true) }) (v := undef) rfl (by kernel_rfl) (by kernel_rfl) (by kernel_rfl) (fun _ _ _ h => h) (Or.inr ⟨by rfl, rfl⟩) hHeld ?_
  (try simp only [Act.put, List.setIfInBounds_toArray, List.set_cons_zero, List.set_cons_succ])
  refine wpAnyH_take (i := 14) (oi := { dst := some 26, op := Go.Op.fieldAddr 54 (Go.Operand.tmp 1) 2, type := 0, pos := "l06_form.go:124", after := #[{ on := 9, ground := Go.Ground.guard }], guard := some (9, true) }) (v := undef) rfl (by kernel_rfl) (by kernel_rfl) (by kernel_rfl) (fun _ _ _ h => h) (Or.inr ⟨by rfl, rfl⟩) hHeld ?_
  (try simp only [Act.put, List.setIfInBounds_toArray, List.set_cons_zero, List.set_cons_succ])
  refine wpAnyH_take (i := 15) (oi := { dst := some 27, op := Go.Op.load 2 (Go.Operand.tmp 26), type := 2, pos := "l06_form.go:124", after := #[{ on := 14, ground := Go.Ground.data }, { on := 9, ground := Go.Ground.guard }], guard := some (9, true) }) (v := undef) rfl (by kernel_rfl) (by kernel_rfl) (by kernel_rfl) (fun _ _ _ h => h) (Or.inr ⟨by rfl, rfl⟩) hHeld ?_
  (try simp only [Act.put, List.setIfInBounds_toArray, List.set_cons_zero, List.set_cons_succ])
  refine wpAnyH_take (i := 16) (oi := { dst := some 28, op := Go.Op.binOp Go.BinOp.eql 2 (Go.Operand.tmp 27) (Go.Operand.const (Go.Value.int Go.IntKind.i64 0)) 2, type := 4, pos := "l06_form.go:124", after := #[{ on := 15, ground := Go.Ground.data }, { on := 9, ground := Go.Ground.guard }], guard := some (9, true) }) (v := undef) rfl (by kernel_rfl) (by kernel_rfl) (by kernel_rfl) (fun _ _ _ h => h) (Or.inr ⟨by rfl, rfl⟩) hHeld ?_
  (try simp only [Act.put, List.setIfInBounds_toArray, List.set_cons_zero, List.set_cons_succ])
  refine wpAnyH_take (i := 17) (oi := { dst := some 29, op := Go.Op.move (Go.Operand.tmp 28), type := 4, pos := "l06_form.go:124", after := #[{ on := 16, ground := Go.Ground.data }, { on := 13, ground := Go.Ground.chain }, { on := 9, ground := Go.Ground.guard }], guard := some (9, true) }) (v := undef) rfl (by kernel_rfl) (by kernel_rfl) (by kernel_rfl) (fun _ _ _ h => h) (Or.inr ⟨by rfl, rfl⟩) hHeld ?_
  (try simp only [Act.put, List.setIfInBounds_toArray, List.set_cons_zero, List.set_cons_succ])
  refine wpAnyH_take (i := 18) (oi := { dst := some 30, op := Go.Op.fieldAddr 54 (Go.Operand.tmp 1) 3, type := 0, pos := "l06_form.go:124", after := #[{ on := 17, ground := Go.Ground.guard }], guard := some (17, true) }) (v := undef) rfl (by kernel_rfl) (by kernel_rfl) (by kernel_rfl) (fun _ _ _ h => h) (Or.inr ⟨by rfl, rfl⟩) hHeld ?_
  (try simp only [Act.put, List.setIfInBounds_toArray, List.set_cons_zero, List.set_cons_succ])
  refine wpAnyH_take (i := 19) (oi := { dst := some 31, op := Go.Op.load 2 (Go.Operand.tmp 30), type := 2, pos := "l06_form.go:124", after := #[{ on := 18, ground := Go.Ground.data }, { on := 17, ground := Go.Ground.guard }], guard := some (17, true) }) (v := undef) rfl (by kernel_rfl) (by kernel_rfl) (by kernel_rfl) (fun _ _ _ h => h) (Or.inr ⟨by rfl, rfl⟩) hHeld ?_
  (try simp only [Act.put, List.setIfInBounds_toArray, List.set_cons_zero, List.set_cons_succ])
  refine wpAnyH_take (i := 20) (oi := { dst := some 32, op := Go.Op.binOp Go.BinOp.eql 2 (Go.Operand.tmp 31) (Go.Operand.const (Go.Value.int Go.IntKind.i64 0)) 2, type := 4, pos := "l06_form.go:124", after := #[{ on := 19, ground := Go.Ground.data }, { on := 17, ground := Go.Ground.guard }], guard := some (17, true) }) (v := undef) rfl (by kernel_rfl) (by kernel_rfl) (by kernel_rfl) (fun _ _ _ h => h) (Or.inr ⟨by rfl, rfl⟩) hHeld ?_
  (try simp only [Act.put, List.setIfInBounds_toArray, List.set_cons_zero, List.set_cons_succ])
  refine wpAnyH_take (i := 21) (oi := { dst := some 33, op := Go.Op.pick (Go.Operand.tmp 29) (Go.Operand.tmp 32) (Go.Operand.const (Go.Value.bool false)), type := 4, pos := "l06_form.go:124", after := #[{ on := 17, ground := Go.Ground.data }, { on := 20, ground := Go.Ground.data }, { on := 9, ground := Go.Ground.guard }], guard := some (9, true) }) (v := undef) rfl (by kernel_rfl) (by kernel_rfl) (by kernel_rfl) (fun _ _ _ h => h) (Or.inr ⟨by rfl, rfl⟩) hHeld ?_
  (try simp only [Act.put, List.setIfInBounds_toArray, List.set_cons_zero, List.set_cons_succ])
  refine wpAnyH_take (i := 22) (oi := { dst := some 34, op := Go.Op.move (Go.Operand.tmp 33), type := 4, pos := "l06_form.go:124", after := #[{ on := 21, ground := Go.Ground.data }, { on := 17, ground := Go.Ground.chain }, { on := 9, ground := Go.Ground.guard }], guard := some (9, true) }) (v := undef) rfl (by kernel_rfl) (by kernel_rfl) (by kernel_rfl) (fun _ _ _ h => h) (Or.inr ⟨by rfl, rfl⟩) hHeld ?_
  (try simp only [Act.put, List.setIfInBounds_toArray, List.set_cons_zero, List.set_cons_succ])
  refine wpAnyH_take (i := 23) (oi := { dst := some 35, op := Go.Op.fieldAddr 54 (Go.Operand.tmp 1) 4, type := 0, pos := "l06_form.go:124", after := #[{ on := 22, ground := Go.Ground.guard }], guard := some (22, true) }) (v := undef) rfl (by kernel_rfl) (by kernel_rfl) (by kernel_rfl) (fun _ _ _ h => h) (Or.inr ⟨by rfl, rfl⟩) hHeld ?_
  (try simp only [Act.put, List.setIfInBounds_toArray, List.set_cons_zero, List.set_cons_succ])
  refine wpAnyH_take (i := 24) (oi := { dst := some 36, op := Go.Op.load 2 (Go.Operand.tmp 35), type := 2, pos := "l06_form.go:124", after := #[{ on := 23, ground := Go.Ground.data }, { on := 22, ground := Go.Ground.guard }], guard := some (22, true) }) (v := undef) rfl (by kernel_rfl) (by kernel_rfl) (by kernel_rfl) (fun _ _ _ h => h) (Or.inr ⟨by rfl, rfl⟩) hHeld ?_
  (try simp only [Act.put, List.setIfInBounds_toArray, List.set_cons_zero, List.set_cons_succ])
  refine wpAnyH_take (i := 25) (oi := { dst := some 37, op := Go.Op.binOp Go.BinOp.eql 2 (Go.Operand.tmp 36) (Go.Operand.const (Go.Value.int Go.IntKind.i64 0)) 2, type := 4, pos := "l06_form.go:124", after := #[{ on := 24, ground := Go.Ground.data }, { on := 22, ground := Go.Ground.guard }], guard := some (22, true) }) (v := undef) rfl (by kernel_rfl) (by kernel_rfl) (by kernel_rfl) (fun _ _ _ h => h) (Or.inr ⟨by rfl, rfl⟩) hHeld ?_
  (try simp only [Act.put, List.setIfInBounds_toArray, List.set_cons_zero, List.set_cons_succ])
  refine wpAnyH_take (i := 26) (oi := { dst := some 38, op := Go.Op.pick (Go.Operand.tmp 34) (Go.Operand.tmp 37) (Go.Operand.const (Go.Value.bool false)), type := 4, pos := "l06_form.go:124", after := #[{ on := 22, ground := Go.Ground.data }, { on := 25, ground := Go.Ground.data }, { on := 9, ground := Go.Ground.guard }], guard := some (9, true) }) (v := undef) rfl (by kernel_rfl) (by kernel_rfl) (by kernel_rfl) (fun _ _ _ h => h) (Or.inr ⟨by rfl, rfl⟩) hHeld ?_
  (try simp only [Act.put, List.setIfInBounds_toArray, List.set_cons_zero, List.set_cons_succ])
  refine wpAnyH_take (i := 27) (oi := { dst := some 39, op := Go.Op.call { callee := Go.Callee.value (Go.Operand.func 91), args := #[Go.Operand.tmp 23, Go.Operand.tmp 25, Go.Operand.tmp 38], argTypes := #[4, 4, 4] }, type := 4, pos := "l06_form.go:125", after := #[{ on := 11, ground := Go.Ground.data }, { on := 13, ground := Go.Ground.data }, { on := 26, ground := Go.Ground.data }, { on := 22, ground := Go.Ground.chain }, { on := 9, ground := Go.Ground.guard }], guard := some (9, true) }) (v := undef) rfl (by kernel_rfl) (by kernel_rfl) (by kernel_rfl) (fun _ _ _ h => h) (Or.inr ⟨by rfl, rfl⟩) hHeld ?_
  (try simp only [Act.put, List.setIfInBounds_toArray, List.set_cons_zero, List.set_cons_succ])
  refine wpAnyH_take (i := 28) (oi := { dst := some 40, op := Go.Op.pick (Go.Operand.tmp 21) (Go.Operand.tmp 39) (Go.Operand.const (Go.Value.bool false)), type := 4, pos := "l06_form.go:124", after := #[{ on := 9, ground := Go.Ground.data }, { on := 27, ground := Go.Ground.data }], guard := none }) (v := ?_) rfl (by kernel_rfl) (by kernel_rfl) (by kernel_rfl) (fun _ _ _ h => h) (Or.inl ⟨by rfl, ?yld9⟩) hHeld ?nxt9
  case yld9 => (intro w hSw; (try dsimp only at hSw); go_simp) <;> with_reducible rfl
  (try simp only [Act.put, List.setIfInBounds_toArray, List.set_cons_zero, List.set_cons_succ])
  refine wpAnyH_take (i := 29) (oi := { dst := some 41, op := Go.Op.move (Go.Operand.tmp 40), type := 4, pos := "l06_form.go:124", after := #[{ on := 28, ground := Go.Ground.data }, { on := 27, ground := Go.Ground.chain }], guard := none }) (v := ?_) rfl (by kernel_rfl) (by kernel_rfl) (by kernel_rfl) (fun _ _ _ h => h) (Or.inl ⟨by rfl, ?yld10⟩) hHeld ?nxt10
  case yld10 => (intro w hSw; (try dsimp only at hSw); go_simp) <;> with_reducible rfl
  (try simp only [Act.put, List.setIfInBounds_toArray, List.set_cons_zero, List.set_cons_succ])
  refine wpAnyH_take (i := 30) (oi := { dst := some 42, op := Go.Op.fieldAddr 121 (Go.Operand.tmp 3) 2, type := 0, pos := "l06_form.go:124", after := #[{ on := 29, ground := Go.Ground.guard }], guard := some (29, true) }) (v := undef) rfl (by kernel_rfl) (by kernel_rfl) (by kernel_rfl) (fun _ _ _ h => h) (Or.inr ⟨by rfl, rfl⟩) hHeld ?_
  (try simp only [Act.put, List.setIfInBounds_toArray, List.set_cons_zero, List.set_cons_succ])
  refine wpAnyH_take (i := 31) (oi := { dst := some 43, op := Go.Op.load 4 (Go.Operand.tmp 42), type := 4, pos := "l06_form.go:124", after := #[{ on := 30, ground := Go.Ground.data }, { on := 29, ground := Go.Ground.guard }], guard := some (29, true) }) (v := undef) rfl (by kernel_rfl) (by kernel_rfl) (by kernel_rfl) (fun _ _ _ h => h) (Or.inr ⟨by rfl, rfl⟩) hHeld ?_
  (try simp only [Act.put, List.setIfInBounds_toArray, List.set_cons_zero, List.set_cons_succ])
  refine wpAnyH_take (i := 32) (oi := { dst := some 44, op := Go.Op.fieldAddr 54 (Go.Operand.tmp 1) 5, type := 0, pos := "l06_form.go:124", after := #[{ on := 29, ground := Go.Ground.guard }], guard := some (29, true) }) (v := undef) rfl (by kernel_rfl) (by kernel_rfl) (by kernel_rfl) (fun _ _ _ h => h) (Or.inr ⟨by rfl, rfl⟩) hHeld ?_
  (try simp only [Act.put, List.setIfInBounds_toArray, List.set_cons_zero, List.set_cons_succ])
  refine wpAnyH_take (i := 33) (oi := { dst := some 45, op := Go.Op.load 9 (Go.Operand.tmp 44), type := 9, pos := "l06_form.go:124", after := #[{ on := 32, ground := Go.Ground.data }, { on := 29, ground := Go.Ground.guard }], guard := some (29, true) }) (v := undef) rfl (by kernel_rfl) (by kernel_rfl) (by kernel_rfl) (fun _ _ _ h => h) (Or.inr ⟨by rfl, rfl⟩) hHeld ?_
  (try simp only [Act.put, List.setIfInBounds_toArray, List.set_cons_zero, List.set_cons_succ])
  refine wpAnyH_take (i := 34) (oi := { dst := some 46, op := Go.Op.call { callee := Go.Callee.value (Go.Operand.func 94), args := #[Go.Operand.tmp 45], argTypes := #[9] }, type := 4, pos := "l06_form.go:126", after := #[{ on := 33, ground := Go.Ground.data }, { on := 29, ground := Go.Ground.chain }, { on := 29, ground := Go.Ground.guard }], guard := some (29, true) }) (v := undef) rfl (by kernel_rfl) (by kernel_rfl) (by kernel_rfl) (fun _ _ _ h => h) (Or.inr ⟨by rfl, rfl⟩) hHeld ?_
  (try simp only [Act.put, List.setIfInBounds_toArray, List.set_cons_zero, List.set_cons_succ])
  refine wpAnyH_take (i := 35) (oi := { dst := some 47, op := Go.Op.fieldAddr 54 (Go.Operand.tmp 1) 5, type := 0, pos := "l06_form.go:124", after := #[{ on := 29, ground := Go.Ground.guard }], guard := some (29, true) }) (v := undef) rfl (by kernel_rfl) (by kernel_rfl) (by kernel_rfl) (fun _ _ _ h => h) (Or.inr ⟨by rfl, rfl⟩) hHeld ?_
  (try simp only [Act.put, List.setIfInBounds_toArray, List.set_cons_zero, List.set_cons_succ])
  refine wpAnyH_take (i := 36) (oi := { dst := some 48, op := Go.Op.load 9 (Go.Operand.tmp 47), type := 9, pos := "l06_form.go:124", after := #[{ on := 35, ground := Go.Ground.data }, { on := 29, ground := Go.Ground.guard }], guard := some (29, true) }) (v := undef) rfl (by kernel_rfl) (by kernel_rfl) (by kernel_rfl) (fun _ _ _ h => h) (Or.inr ⟨by rfl, rfl⟩) hHeld ?_
  (try simp only [Act.put, List.setIfInBounds_toArray, List.set_cons_zero, List.set_cons_succ])
  refine wpAnyH_take (i := 37) (oi := { dst := some 49, op := Go.Op.binOp Go.BinOp.eql 9 (Go.Operand.tmp 48) (Go.Operand.const (Go.Value.string { data := #[] })) 9, type := 4, pos := "l06_form.go:124", after := #[{ on := 36, ground := Go.Ground.data }, { on := 29, ground := Go.Ground.guard }], guard := some (29, true) }) (v := undef) rfl (by kernel_rfl) (by kernel_rfl) (by kernel_rfl) (fun _ _ _ h => h) (Or.inr ⟨by rfl, rfl⟩) hHeld ?_
  (try simp only [Act.put, List.setIfInBounds_toArray, List.set_cons_zero, List.set_cons_succ])
  refine wpAnyH_take (i := 38) (oi := { dst := some 50, op := Go.Op.call { callee := Go.Callee.value (Go.Operand.func 91), args := #[Go.Operand.tmp 43, Go.Operand.tmp 46, Go.Operand.tmp 49], argTypes := #[4, 4, 4] }, type := 4, pos := "l06_form.go:126", after := #[{ on := 31, ground := Go.Ground.data }, { on := 34, ground := Go.Ground.data }, { on := 37, ground := Go.Ground.data }, { on := 34, ground := Go.Ground.chain }, { on := 29, ground := Go.Ground.guard }], guard := some (29, true) }) (v := undef) rfl (by kernel_rfl) (by kernel_rfl) (by kernel_rfl) (fun _ _ _ h => h) (Or.inr ⟨by rfl, rfl⟩) hHeld ?_
  (try simp only [Act.put, List.setIfInBounds_toArray, List.set_cons_zero, List.set_cons_succ])
  refine wpAnyH_take (i := 39) (oi := { dst := some 51, op := Go.Op.pick (Go.Operand.tmp 41) (Go.Operand.tmp 50) (Go.Operand.const (Go.Value.bool false)), type := 4, pos := "l06_form.go:124", after := #[{ on := 29, ground := Go.Ground.data }, { on := 38, ground := Go.Ground.data }], guard := none }) (v := ?_) rfl (by kernel_rfl) (by kernel_rfl) (by kernel_rfl) (fun _ _ _ h => h) (Or.inl ⟨by rfl, ?yld11⟩) hHeld ?nxt11
  case yld11 => (intro w hSw; (try dsimp only at hSw); go_simp) <;> with_reducible rfl
  (try simp only [Act.put, List.setIfInBounds_toArray, List.set_cons_zero, List.set_cons_succ])
  refine wpAnyH_take (i := 40) (oi := { dst := some 52, op := Go.Op.move (Go.Operand.tmp 51), type := 4, pos := "l06_form.go:124", after := #[{ on := 39, ground := Go.Ground.data }, { on := 38, ground := Go.Ground.chain }], guard := none }) (v := ?_) rfl (by kernel_rfl) (by kernel_rfl) (by kernel_rfl) (fun _ _ _ h => h) (Or.inl ⟨by rfl, ?yld12⟩) hHeld ?nxt12
  case yld12 => (intro w hSw; (try dsimp only at hSw); go_simp) <;> with_reducible rfl
  (try simp only [Act.put, List.setIfInBounds_toArray, List.set_cons_zero, List.set_cons_succ])
  refine wpAnyH_take (i := 41) (oi := { dst := some 53, op := Go.Op.fieldAddr 121 (Go.Operand.tmp 3) 4, type := 0, pos := "l06_form.go:124", after := #[{ on := 40, ground := Go.Ground.guard }], guard := some (40, true) }) (v := undef) rfl (by kernel_rfl) (by kernel_rfl) (by kernel_rfl) (fun _ _ _ h => h) (Or.inr ⟨by rfl, rfl⟩) hHeld ?_
  (try simp only [Act.put, List.setIfInBounds_toArray, List.set_cons_zero, List.set_cons_succ])
  refine wpAnyH_take (i := 42) (oi := { dst := some 54, op := Go.Op.load 2 (Go.Operand.tmp 53), type := 2, pos := "l06_form.go:124", after := #[{ on := 41, ground := Go.Ground.data }, { on := 40, ground := Go.Ground.guard }], guard := some (40, true) }) (v := undef) rfl (by kernel_rfl) (by kernel_rfl) (by kernel_rfl) (fun _ _ _ h => h) (Or.inr ⟨by rfl, rfl⟩) hHeld ?_
  (try simp only [Act.put, List.setIfInBounds_toArray, List.set_cons_zero, List.set_cons_succ])
  refine wpAnyH_take (i := 43) (oi := { dst := some 55, op := Go.Op.binOp Go.BinOp.neq 2 (Go.Operand.tmp 54) (Go.Operand.const (Go.Value.int Go.IntKind.i64 0)) 2, type := 4, pos := "l06_form.go:124", after := #[{ on := 42, ground := Go.Ground.data }, { on := 40, ground := Go.Ground.guard }], guard := some (40, true) }) (v := undef) rfl (by kernel_rfl) (by kernel_rfl) (by kernel_rfl) (fun _ _ _ h => h) (Or.inr ⟨by rfl, rfl⟩) hHeld ?_
  (try simp only [Act.put, List.setIfInBounds_toArray, List.set_cons_zero, List.set_cons_succ])
  refine wpAnyH_take (i := 44) (oi := { dst := some 56, op := Go.Op.fieldAddr 54 (Go.Operand.tmp 1) 6, type := 0, pos := "l06_form.go:124", after := #[{ on := 40, ground := Go.Ground.guard }], guard := some (40, true) }) (v := undef) rfl (by kernel_rfl) (by kernel_rfl) (by kernel_rfl) (fun _ _ _ h => h) (Or.inr ⟨by rfl, rfl⟩) hHeld ?_
  (try simp only [Act.put, List.setIfInBounds_toArray, List.set_cons_zero, List.set_cons_succ])
  refine wpAnyH_take (i := 45) (oi := { dst := some 57, op := Go.Op.load 31 (Go.Operand.tmp 56), type := 31, pos := "l06_form.go:124", after := #[{ on := 44, ground := Go.Ground.data }, { on := 40, ground := Go.Ground.guard }], guard := some (40, true) }) (v := undef) rfl (by kernel_rfl) (by kernel_rfl) (by kernel_rfl) (fun _ _ _ h => h) (Or.inr ⟨by rfl, rfl⟩) hHeld ?_
  (try simp only [Act.put, List.setIfInBounds_toArray, List.set_cons_zero, List.set_cons_succ])
  refine wpAnyH_take (i := 46) (oi := { dst := some 58, op := Go.Op.call { callee := Go.Callee.value (Go.Operand.func 54), args := #[Go.Operand.tmp 57], argTypes := #[31] }, type := 2, pos := "l06_form.go:127", after := #[{ on := 45, ground := Go.Ground.data }, { on := 40, ground := Go.Ground.chain }, { on := 40, ground := Go.Ground.guard }], guard := some (40, true) }) (v := undef) rfl (by kernel_rfl) (by kernel_rfl) (by kernel_rfl) (fun _ _ _ h => h) (Or.inr ⟨by rfl, rfl⟩) hHeld ?_
  (try simp only [Act.put, List.setIfInBounds_toArray, List.set_cons_zero, List.set_cons_succ])
  refine wpAnyH_take (i := 47) (oi := { dst := some 59, op := Go.Op.fieldAddr 121 (Go.Operand.tmp 3) 4, type := 0, pos := "l06_form.go:124", after := #[{ on := 40, ground := Go.Ground.guard }], guard := some (40, true) }) (v := undef) rfl (by kernel_rfl) (by kernel_rfl) (by kernel_rfl) (fun _ _ _ h => h) (Or.inr ⟨by rfl, rfl⟩) hHeld ?_
  (try simp only [Act.put, List.setIfInBounds_toArray, List.set_cons_zero, List.set_cons_succ])
  refine wpAnyH_take (i := 48) (oi := { dst := some 60, op := Go.Op.load 2 (Go.Operand.tmp 59), type := 2, pos := "l06_form.go:124", after := #[{ on := 47, ground := Go.Ground.data }, { on := 40, ground := Go.Ground.guard }], guard := some (40, true) }) (v := undef) rfl (by kernel_rfl) (by kernel_rfl) (by kernel_rfl) (fun _ _ _ h => h) (Or.inr ⟨by rfl, rfl⟩) hHeld ?_
  (try simp only [Act.put, List.setIfInBounds_toArray, List.set_cons_zero, List.set_cons_succ])
  refine wpAnyH_take (i := 49) (oi := { dst := some 61, op := Go.Op.binOp Go.BinOp.eql 2 (Go.Operand.tmp 58) (Go.Operand.tmp 60) 2, type := 4, pos := "l06_form.go:124", after := #[{ on := 46, ground := Go.Ground.data }, { on := 48, ground := Go.Ground.data }, { on := 40, ground := Go.Ground.guard }], guard := some (40, true) }) (v := undef) rfl (by kernel_rfl) (by kernel_rfl) (by kernel_rfl) (fun _ _ _ h => h) (Or.inr ⟨by rfl, rfl⟩) hHeld ?_
  (try simp only [Act.put, List.setIfInBounds_toArray, List.set_cons_zero, List.set_cons_succ])
  refine wpAnyH_take (i := 50) (oi := { dst := some 62, op := Go.Op.fieldAddr 54 (Go.Operand.tmp 1) 6, type := 0, pos := "l06_form.go:124", after := #[{ on := 40, ground := Go.Ground.guard }], guard := some (40, true) }) (v := undef) rfl (by kernel_rfl) (by kernel_rfl) (by kernel_rfl) (fun _ _ _ h => h) (Or.inr ⟨by rfl, rfl⟩) hHeld ?_
  (try simp only [Act.put, List.setIfInBounds_toArray, List.set_cons_zero, List.set_cons_succ])
  refine wpAnyH_take (i := 51) (oi := { dst := some 63, op := Go.Op.load 31 (Go.Operand.tmp 62), type := 31, pos := "l06_form.go:124", after := #[{ on := 50, ground := Go.Ground.data }, { on := 40, ground := Go.Ground.guard }], guard := some (40, true) }) (v := undef) rfl (by kernel_rfl) (by kernel_rfl) (by kernel_rfl) (fun _ _ _ h => h) (Or.inr ⟨by rfl, rfl⟩) hHeld ?_
  (try simp only [Act.put, List.setIfInBounds_toArray, List.set_cons_zero, List.set_cons_succ])
  refine wpAnyH_take (i := 52) (oi := { dst := some 64, op := Go.Op.call { callee := Go.Callee.builtin Go.Builtin.len, args := #[Go.Operand.tmp 63], argTypes := #[31] }, type := 3, pos := "l06_form.go:124", after := #[{ on := 51, ground := Go.Ground.data }, { on := 40, ground := Go.Ground.guard }], guard := some (40, true) }) (v := undef) rfl (by kernel_rfl) (by kernel_rfl) (by kernel_rfl) (fun _ _ _ h => h) (Or.inr ⟨by rfl, rfl⟩) hHeld ?_
  (try simp only [Act.put, List.setIfInBounds_toArray, List.set_cons_zero, List.set_cons_succ])
  refine wpAnyH_take (i := 53) (oi := { dst := some 65, op := Go.Op.binOp Go.BinOp.eql 3 (Go.Operand.tmp 64) (Go.Operand.const (Go.Value.int Go.IntKind.i64 0)) 3, type := 4, pos := "l06_form.go:124", after := #[{ on := 52, ground := Go.Ground.data }, { on := 40, ground := Go.Ground.guard }], guard := some (40, true) }) (v := undef) rfl (by kernel_rfl) (by kernel_rfl) (by kernel_rfl) (fun _ _ _ h => h) (Or.inr ⟨by rfl, rfl⟩) hHeld ?_
  (try simp only [Act.put, List.setIfInBounds_toArray, List.set_cons_zero, List.set_cons_succ])
  refine wpAnyH_take (i := 54) (oi := { dst := some 66, op := Go.Op.call { callee := Go.Callee.value (Go.Operand.func 91), args := #[Go.Operand.tmp 55, Go.Operand.tmp 61, Go.Operand.tmp 65], argTypes := #[4, 4, 4] }, type := 4, pos := "l06_form.go:127", after := #[{ on := 43, ground := Go.Ground.data }, { on := 49, ground := Go.Ground.data }, { on := 53, ground := Go.Ground.data }, { on := 46, ground := Go.Ground.chain }, { on := 40, ground := Go.Ground.guard }], guard := some (40, true) }) (v := undef) rfl (by kernel_rfl) (by kernel_rfl) (by kernel_rfl) (fun _ _ _ h => h) (Or.inr ⟨by rfl, rfl⟩) hHeld ?_
  (try simp only [Act.put, List.setIfInBounds_toArray, List.set_cons_zero, List.set_cons_succ])
  refine wpAnyH_take (i := 55) (oi := { dst := some 67, op := Go.Op.pick (Go.Operand.tmp 52) (Go.Operand.tmp 66) (Go.Operand.const (Go.Value.bool false)), type := 4, pos := "l06_form.go:124", after := #[{ on := 40, ground := Go.Ground.data }, { on := 54, ground := Go.Ground.data }], guard := none }) (v := ?_) rfl (by kernel_rfl) (by kernel_rfl) (by kernel_rfl) (fun _ _ _ h => h) (Or.inl ⟨by rfl, ?yld13⟩) hHeld ?nxt13
  case yld13 => (intro w hSw; (try dsimp only at hSw); go_simp) <;> with_reducible rfl
  (try simp only [Act.put, List.setIfInBounds_toArray, List.set_cons_zero, List.set_cons_succ])
  refine wpAnyH_take (i := 56) (oi := { dst := some 68, op := Go.Op.move (Go.Operand.tmp 67), type := 4, pos := "l06_form.go:124", after := #[{ on := 55, ground := Go.Ground.data }, { on := 54, ground := Go.Ground.chain }], guard := none }) (v := ?_) rfl (by kernel_rfl) (by kernel_rfl) (by kernel_rfl) (fun _ _ _ h => h) (Or.inl ⟨by rfl, ?yld14⟩) hHeld ?nxt14
  case yld14 => (intro w hSw; (try dsimp only at hSw); go_simp) <;> with_reducible rfl
  (try simp only [Act.put, List.setIfInBounds_toArray, List.set_cons_zero, List.set_cons_succ])
  refine wpAnyH_take (i := 57) (oi := { dst := some 69, op := Go.Op.fieldAddr 121 (Go.Operand.tmp 3) 3, type := 0, pos := "l06_form.go:124", after := #[{ on := 56, ground := Go.Ground.guard }], guard := some (56, true) }) (v := undef) rfl (by kernel_rfl) (by kernel_rfl) (by kernel_rfl) (fun _ _ _ h => h) (Or.inr ⟨by rfl, rfl⟩) hHeld ?_
  (try simp only [Act.put, List.setIfInBounds_toArray, List.set_cons_zero, List.set_cons_succ])
  refine wpAnyH_take (i := 58) (oi := { dst := some 70, op := Go.Op.load 4 (Go.Operand.tmp 69), type := 4, pos := "l06_form.go:124", after := #[{ on := 57, ground := Go.Ground.data }, { on := 56, ground := Go.Ground.guard }], guard := some (56, true) }) (v := undef) rfl (by kernel_rfl) (by kernel_rfl) (by kernel_rfl) (fun _ _ _ h => h) (Or.inr ⟨by rfl, rfl⟩) hHeld ?_
  (try simp only [Act.put, List.setIfInBounds_toArray, List.set_cons_zero, List.set_cons_succ])
  refine wpAnyH_take (i := 59) (oi := { dst := some 71, op := Go.Op.move (Go.Operand.tmp 70), type := 4, pos := "l06_form.go:124", after := #[{ on := 58, ground := Go.Ground.data }, { on := 56, ground := Go.Ground.chain }, { on := 56, ground := Go.Ground.guard }], guard := some (56, true) }) (v := undef) rfl (by kernel_rfl) (by kernel_rfl) (by kernel_rfl) (fun _ _ _ h => h) (Or.inr ⟨by rfl, rfl⟩) hHeld ?_
  (try simp only [Act.put, List.setIfInBounds_toArray, List.set_cons_zero, List.set_cons_succ])
  refine wpAnyH_take (i := 60) (oi := { dst := some 72, op := Go.Op.fieldAddr 54 (Go.Operand.tmp 1) 7, type := 0, pos := "l06_form.go:124", after := #[{ on := 59, ground := Go.Ground.guard }], guard := some (59, false) }) (v := undef) rfl (by kernel_rfl) (by kernel_rfl) (by kernel_rfl) (fun _ _ _ h => h) (Or.inr ⟨by rfl, rfl⟩) hHeld ?_
  (try simp only [Act.put, List.setIfInBounds_toArray, List.set_cons_zero, List.set_cons_succ])
  refine wpAnyH_take (i := 61) (oi := { dst := some 73, op := Go.Op.load 4 (Go.Operand.tmp 72), type := 4, pos := "l06_form.go:124", after := #[{ on := 60, ground := Go.Ground.data }, { on := 59, ground := Go.Ground.guard }], guard := some (59, false) }) (v := undef) rfl (by kernel_rfl) (by kernel_rfl) (by kernel_rfl) (fun _ _ _ h => h) (Or.inr ⟨by rfl, rfl⟩) hHeld ?_
  (try simp only [Act.put, List.setIfInBounds_toArray, List.set_cons_zero, List.set_cons_succ])
  refine wpAnyH_take (i := 62) (oi := { dst := some 74, op := Go.Op.unOp Go.UnOp.not 4 (Go.Operand.tmp 73), type := 4, pos := "l06_form.go:124", after := #[{ on := 61, ground := Go.Ground.data }, { on := 59, ground := Go.Ground.guard }], guard := some (59, false) }) (v := undef) rfl (by kernel_rfl) (by kernel_rfl) (by kernel_rfl) (fun _ _ _ h => h) (Or.inr ⟨by rfl, rfl⟩) hHeld ?_
  (try simp only [Act.put, List.setIfInBounds_toArray, List.set_cons_zero, List.set_cons_succ])
  refine wpAnyH_take (i := 63) (oi := { dst := some 75, op := Go.Op.pick (Go.Operand.tmp 71) (Go.Operand.const (Go.Value.bool true)) (Go.Operand.tmp 74), type := 4, pos := "l06_form.go:124", after := #[{ on := 59, ground := Go.Ground.data }, { on := 62, ground := Go.Ground.data }, { on := 56, ground := Go.Ground.guard }], guard := some (56, true) }) (v := undef) rfl (by kernel_rfl) (by kernel_rfl) (by kernel_rfl) (fun _ _ _ h => h) (Or.inr ⟨by rfl, rfl⟩) hHeld ?_
  (try simp only [Act.put, List.setIfInBounds_toArray, List.set_cons_zero, List.set_cons_succ])
  refine wpAnyH_take (i := 64) (oi := { dst := some 76, op := Go.Op.pick (Go.Operand.tmp 68) (Go.Operand.tmp 75) (Go.Operand.const (Go.Value.bool false)), type := 4, pos := "l06_form.go:124", after := #[{ on := 56, ground := Go.Ground.data }, { on := 63, ground := Go.Ground.data }], guard := none }) (v := ?_) rfl (by kernel_rfl) (by kernel_rfl) (by kernel_rfl) (fun _ _ _ h => h) (Or.inl ⟨by rfl, ?yld15⟩) hHeld ?nxt15
  case yld15 => (intro w hSw; (try dsimp only at hSw); go_simp) <;> with_reducible rfl
  (try simp only [Act.put, List.setIfInBounds_toArray, List.set_cons_zero, List.set_cons_succ])
  refine wpAnyH_take (i := 65) (oi := { dst := some 2, op := Go.Op.assign (Go.Operand.tmp 76), type := 4, pos := "l06_form.go:124", after := ([{ on := 64, ground := Go.Ground.data }, { on := 59, ground := Go.Ground.chain }, { on := 0, ground := Go.Ground.phase }, { on := 1, ground := Go.Ground.phase }, { on := 2, ground := Go.Ground.phase }, { on := 3, ground := Go.Ground.phase }, { on := 4, ground := Go.Ground.phase }, { on := 5, ground := Go.Ground.phase }, { on := 6, ground := Go.Ground.phase }, { on := 7, ground := Go.Ground.phase }, { on := 8, ground := Go.Ground.phase }, { on := 9, ground := Go.Ground.phase }, { on := 10, ground := Go.Ground.phase }, { on := 11, ground := Go.Ground.phase }, { on := 12, ground := Go.Ground.phase }, { on := 13, ground := Go.Ground.phase }, { on := 14, ground := Go.Ground.phase }, { on := 15, ground := Go.Ground.phase }, { on := 16, ground := Go.Ground.phase }, { on := 17, ground := Go.Ground.phase }, { on := 18, ground := Go.Ground.phase }, { on := 19, ground := Go.Ground.phase }, { on := 20, ground := Go.Ground.phase }, { on := 21, ground := Go.Ground.phase }, { on := 22, ground := Go.Ground.phase }, { on := 23, ground := Go.Ground.phase }, { on := 24, ground := Go.Ground.phase }, { on := 25, ground := Go.Ground.phase }, { on := 26, ground := Go.Ground.phase }, { on := 27, ground := Go.Ground.phase }, { on := 28, ground := Go.Ground.phase }, { on := 29, ground := Go.Ground.phase }, { on := 30, ground := Go.Ground.phase }].append [{ on := 31, ground := Go.Ground.phase }, { on := 32, ground := Go.Ground.phase }, { on := 33, ground := Go.Ground.phase }, { on := 34, ground := Go.Ground.phase }, { on := 35, ground := Go.Ground.phase }, { on := 36, ground := Go.Ground.phase }, { on := 37, ground := Go.Ground.phase }, { on := 38, ground := Go.Ground.phase }, { on := 39, ground := Go.Ground.phase }, { on := 40, ground := Go.Ground.phase }, { on := 41, ground := Go.Ground.phase }, { on := 42, ground := Go.Ground.phase }, { on := 43, ground := Go.Ground.phase }, { on := 44, ground := Go.Ground.phase }, { on := 45, ground := Go.Ground.phase }, { on := 46, ground := Go.Ground.phase }, { on := 47, ground := Go.Ground.phase }, { on := 48, ground := Go.Ground.phase }, { on := 49, ground := Go.Ground.phase }, { on := 50, ground := Go.Ground.phase }, { on := 51, ground := Go.Ground.phase }, { on := 52, ground := Go.Ground.phase }, { on := 53, ground := Go.Ground.phase }, { on := 54, ground := Go.Ground.phase }, { on := 55, ground := Go.Ground.phase }, { on := 56, ground := Go.Ground.phase }, { on := 57, ground := Go.Ground.phase }, { on := 58, ground := Go.Ground.phase }, { on := 59, ground := Go.Ground.phase }, { on := 60, ground := Go.Ground.phase }, { on := 61, ground := Go.Ground.phase }, { on := 62, ground := Go.Ground.phase }, { on := 63, ground := Go.Ground.phase }, { on := 64, ground := Go.Ground.phase }]).toArray, guard := none }) (v := ?_) rfl (by kernel_rfl) (by kernel_rfl) (by kernel_rfl) (fun _ _ _ h => h) (Or.inl ⟨by rfl, ?yld16⟩) hHeld ?nxt16
  case yld16 => (intro w hSw; (try dsimp only at hSw); go_simp) <;> with_reducible rfl
  (try simp only [Act.put, List.setIfInBounds_toArray, List.set_cons_zero, List.set_cons_succ])
  refine wpAnyH_done (by kernel_rfl) ?_ _
  have HZ := hid hHeld.1
  clear hHeld h0
  go_wp2_with fail
  go_ret
  exact ⟨rfl, HZ.out.2.2⟩
end Go.Proofs.YtaofdckdmffaiaaGreatDoor.ItmI
