/- itemRight of the program. -/
import Derived.Test.YtbhblnpehhaiiaaDoorItmImA
namespace Go.Proofs.YtbhblnpehhaiiaaDoor.ItmI
open Go.RowKit
open PrtW PrtM NameW ItmW ValM ItmM
open PrtI (EnvS between_any impl_truth impl_right)
open ItmS (At8 At8.laid below_one)

/-- the table of what an item of a kind has, as the program's text lays it -/
def namedO (k : Nat) : Bool := [false, true, false, false, false, true, true].getD k false
def typedO (k : Nat) : Bool := [false, true, false, false, false, false, false].getD k false
def saidO (k : Nat) : Bool := [false, true, false, false, false, true, false].getD k false
def hardO (k : Nat) : Bool := [false, false, false, false, false, true, false].getD k false
def tellsO (k : Nat) : Int := [0, 0, 2, 0, 0, 2, 1].getD k 0
def EnvO (w : World) : Prop := 2 < w.heap.size ∧ ∀ k, k < 7 →
  w.cell? ⟨2, k * 5, none⟩ = some (.bool (namedO k)) ∧ w.cell? ⟨2, k * 5 + 1, none⟩ = some (.bool (typedO k)) ∧ w.cell? ⟨2, k * 5 + 2, none⟩ = some (.bool (saidO k)) ∧ w.cell? ⟨2, k * 5 + 3, none⟩ = some (.bool (hardO k)) ∧ w.cell? ⟨2, k * 5 + 4, none⟩ = some (.int .i64 (tellsO k))
theorem EnvO.on {w w' : World} (h : EnvO w) (hB : Below w.heap.size w w') : EnvO w' := by
  refine ⟨Nat.lt_of_lt_of_le h.1 hB.size, fun k hk => ?_⟩
  have hc := (bcell hB).1
  simp only [hc _ _ h.1]
  exact h.2 k hk
/-- what the program's look at an item asks of the world -/
def EnvI (w : World) : Prop := EnvS w ∧ EnvO w
theorem EnvI.on {w w' : World} (h : EnvI w) (hB : Below w.heap.size w w') : EnvI w' := ⟨h.1.on hB, h.2.on hB⟩

def asF (a m e : Bool) : Bool := (a && m) || (!a && e)
set_option maxHeartbeats 800000 in
theorem as_for (a m e : Bool) (w : World) : Calls Tryd.prog 69 #[.bool a, .bool m, .bool e] w fun r w' => r = .returned (.bool (asF a m e)) ∧ w' = w := by
  cases a <;> cases m <;> cases e
  all_goals
    go_enter Tryd.func69, Tryd.ntmps69
    go_wp2
    go_ret
    exact ⟨rfl, rfl⟩
def tellsI (ps : List Pt) : Int := if truthB ps = true then 2 else if rightB ps = true then 1 else 0
set_option maxHeartbeats 800000 in
theorem expr_tells (a : Option Addr) (cap : Nat) (ps : List Pt) (w : World) (hP : Parts w a ps) (hcap : ps.length ≤ cap) (hE : EnvS w) :
    Calls Tryd.prog 73 #[.slice a ps.length cap] w fun e w' => e = .returned (.int .i64 (tellsI ps)) ∧ Below w.heap.size w w' := by
  have hl := hP.1
  have HP := hid hP
  have HE := hid hE
  clear hP hE
  obtain ⟨b1, hb1⟩ : ∃ b, Hid (truthB ps = b) := ⟨_, rfl⟩
  obtain ⟨b2, hb2⟩ : ∃ b, Hid (rightB ps = b) := ⟨_, rfl⟩
  unfold tellsI
  rw [hb1.out, hb2.out]
  cases b1
  · go_enter Tryd.func73, Tryd.ntmps73
    go_wp2_with fail
    refine (impl_truth a cap ps _ HP.out hcap HE.out).mono ?_
    rintro e w1 ⟨rfl, hB1⟩
    rw [hb1.out]
    have HB1 := hid hB1
    clear hB1
    go_wp2_with fail
    refine (impl_right a cap ps _ (HP.out.on HB1.out) hcap (HE.out.on HB1.out)).mono ?_
    rintro e w2 ⟨rfl, hB2⟩
    rw [hb2.out]
    have HB2 := hid (HB1.out.trans (hB2.mono HB1.out.size))
    clear hB2
    cases b2
    all_goals
      go_wp2_with fail
      go_ret
      exact ⟨rfl, HB2.out⟩
  · go_enter Tryd.func73, Tryd.ntmps73
    go_wp2_with fail
    refine (impl_truth a cap ps _ HP.out hcap HE.out).mono ?_
    rintro e w1 ⟨rfl, hB1⟩
    rw [hb1.out]
    have HB1 := hid hB1
    clear hB1
    go_wp2_with fail
    go_ret
    exact ⟨rfl, HB1.out⟩

/-- what the table asks of an item -/
def tabI (k : Nat) (s : ByteArray) (ty lo hi : Int) (t : ByteArray) (ps : List Pt) (hd : Bool) : Bool :=
  asF (namedO k) (nameB s) s.toList.isEmpty && (asF (typedO k) (rangeB ty lo hi) ((ty == 0) && ((lo == 0) && (hi == 0))) && (asF (saidO k) (labelB t) t.toList.isEmpty && (asF (tellsO k != 0) (tellsI ps == tellsO k) (((ps.length : Nat) : Int) == 0) && (hardO k || !hd))))
theorem truth_right {ps : List Pt} (h : truthB ps = true) : rightB ps = true := by unfold truthB at h; rw [Bool.and_eq_true] at h; exact h.1
theorem tells_two (ps : List Pt) : (tellsI ps == 2) = truthB ps := by
  unfold tellsI
  cases truthB ps
  · cases rightB ps <;> simp
  · simp
theorem tells_one (ps : List Pt) : (tellsI ps == 1) = (rightB ps && !truthB ps) := by
  unfold tellsI
  cases h : truthB ps
  · cases rightB ps <;> simp
  · rw [truth_right h]; simp
theorem bare_eq (ty lo hi : Int) : bareB ty lo hi = ((ty == 0) && ((lo == 0) && (hi == 0))) := by unfold bareB; rw [beq_dec, beq_dec, beq_dec]
theorem parts_eq (ps : List Pt) : noParts ps = (((ps.length : Nat) : Int) == 0) := by unfold noParts; rw [beq_dec]
theorem asf_t (m e : Bool) : asF true m e = m := by unfold asF; simp
theorem asf_f (m e : Bool) : asF false m e = e := by unfold asF; simp
theorem tab_item (k : Nat) (h1 : 1 ≤ k) (h6 : k ≤ 6) (s : ByteArray) (ty lo hi : Int) (t : ByteArray) (ps : List Pt) (hd : Bool) : itemB ((k : Int), s, ty, lo, hi, t, ps, hd) = tabI k s ty lo hi t ps hd := by
  rcases (by omega : k = 1 ∨ k = 2 ∨ k = 3 ∨ k = 4 ∨ k = 5 ∨ k = 6) with rfl | rfl | rfl | rfl | rfl | rfl
  · show (nameB s && (rangeB ty lo hi && (labelB t && (noParts ps && !hd)))) = _
    unfold tabI
    rw [show namedO 1 = true from rfl, show typedO 1 = true from rfl, show saidO 1 = true from rfl, show tellsO 1 = 0 from rfl, show hardO 1 = false from rfl, show ((0 : Int) != 0) = false from rfl, asf_t, asf_t, asf_t, asf_f, parts_eq, Bool.false_or]
  · show (noText s && (bareB ty lo hi && (noText t && (truthB ps && !hd)))) = _
    unfold tabI
    rw [show namedO 2 = false from rfl, show typedO 2 = false from rfl, show saidO 2 = false from rfl, show tellsO 2 = 2 from rfl, show hardO 2 = false from rfl, show ((2 : Int) != 0) = true from rfl, asf_f, asf_f, asf_f, asf_t, tells_two, bare_eq, Bool.false_or]
    rfl
  · show (noText s && (bareB ty lo hi && (noText t && (noParts ps && !hd)))) = _
    unfold tabI
    rw [show namedO 3 = false from rfl, show typedO 3 = false from rfl, show saidO 3 = false from rfl, show tellsO 3 = 0 from rfl, show hardO 3 = false from rfl, show ((0 : Int) != 0) = false from rfl, asf_f, asf_f, asf_f, asf_f, parts_eq, bare_eq, Bool.false_or]
    rfl
  · show (noText s && (bareB ty lo hi && (noText t && (noParts ps && !hd)))) = _
    unfold tabI
    rw [show namedO 4 = false from rfl, show typedO 4 = false from rfl, show saidO 4 = false from rfl, show tellsO 4 = 0 from rfl, show hardO 4 = false from rfl, show ((0 : Int) != 0) = false from rfl, asf_f, asf_f, asf_f, asf_f, parts_eq, bare_eq, Bool.false_or]
    rfl
  · show (nameB s && (bareB ty lo hi && (labelB t && truthB ps))) = _
    unfold tabI
    rw [show namedO 5 = true from rfl, show typedO 5 = false from rfl, show saidO 5 = true from rfl, show tellsO 5 = 2 from rfl, show hardO 5 = true from rfl, show ((2 : Int) != 0) = true from rfl, asf_t, asf_f, asf_t, asf_t, tells_two, bare_eq, Bool.true_or, Bool.and_true]
  · show (nameB s && (bareB ty lo hi && (noText t && (rightB ps && (!truthB ps && !hd))))) = _
    unfold tabI
    rw [show namedO 6 = true from rfl, show typedO 6 = false from rfl, show saidO 6 = false from rfl, show tellsO 6 = 1 from rfl, show hardO 6 = false from rfl, show ((1 : Int) != 0) = true from rfl, asf_t, asf_f, asf_f, asf_t, tells_one, bare_eq, Bool.false_or, Bool.and_assoc (rightB ps)]
    rfl
theorem item_out {k : Int} {s : ByteArray} {ty lo hi : Int} {t : ByteArray} {ps : List Pt} {hd : Bool} (h : ¬ (1 ≤ k ∧ k ≤ 6)) : itemB (k, s, ty, lo, hi, t, ps, hd) = false := by
  have h1 : ¬ k = 1 := by omega
  have h2 : ¬ k = 2 := by omega
  have h3 : ¬ k = 3 := by omega
  have h4 : ¬ k = 4 := by omega
  have h5 : ¬ k = 5 := by omega
  have h6 : ¬ k = 6 := by omega
  unfold itemB; simp only [h1, h2, h3, h4, h5, h6, if_false, or_self]

/-- five cells at a block's beginning -/
def At5 (w : World) (b : Nat) (v0 v1 v2 v3 v4 : Value) : Prop := (w.cell? ⟨b, 0, none⟩ = some v0 ∧ w.cell? ⟨b, 1, none⟩ = some v1 ∧ w.cell? ⟨b, 2, none⟩ = some v2 ∧ w.cell? ⟨b, 3, none⟩ = some v3 ∧ w.cell? ⟨b, 4, none⟩ = some v4) ∧ b < w.heap.size
theorem At5.on {w w' : World} {b : Nat} {v0 v1 v2 v3 v4 : Value} (h : At5 w b v0 v1 v2 v3 v4) (hB : Below w.heap.size w w') : At5 w' b v0 v1 v2 v3 v4 := by
  obtain ⟨⟨h0, h1, h2, h3, h4⟩, hl⟩ := h
  exact ⟨⟨by rw [hB.cell (p := ⟨b, _, none⟩) hl]; exact h0, by rw [hB.cell (p := ⟨b, _, none⟩) hl]; exact h1, by rw [hB.cell (p := ⟨b, _, none⟩) hl]; exact h2, by rw [hB.cell (p := ⟨b, _, none⟩) hl]; exact h3, by rw [hB.cell (p := ⟨b, _, none⟩) hl]; exact h4⟩, Nat.lt_of_lt_of_le hl hB.size⟩
theorem At5.laid (w : World) (T : TypeId) (v0 v1 v2 v3 v4 : Value) : At5 (w.alloc (.cells #[v0, v1, v2, v3, v4] T)) w.heap.size v0 v1 v2 v3 v4 := ⟨⟨by simp, by simp, by simp, by simp, by simp⟩, by simp⟩
/-- the item and its outline, as a call has them -/
def Two (w0 w : World) (k : Int) (s : ByteArray) (ty lo hi : Int) (t : ByteArray) (a : Option Addr) (len cap : Nat) (hd : Bool) (o1 o2 o3 o4 : Bool) (o5 : Int) : Prop :=
  At8 w w0.heap.size (.int .i64 k) (.string s) (.int .i64 ty) (.int .i64 lo) (.int .i64 hi) (.string t) (.slice a len cap) (.bool hd) ∧ At5 w (w0.heap.size + 1) (.bool o1) (.bool o2) (.bool o3) (.bool o4) (.int .i64 o5) ∧ Below w0.heap.size w0 w
theorem Two.on {w0 w w' : World} {k : Int} {s : ByteArray} {ty lo hi : Int} {t : ByteArray} {a : Option Addr} {len cap : Nat} {hd : Bool} {o1 o2 o3 o4 : Bool} {o5 : Int} (h : Two w0 w k s ty lo hi t a len cap hd o1 o2 o3 o4 o5) (hB : Below w.heap.size w w') : Two w0 w' k s ty lo hi t a len cap hd o1 o2 o3 o4 o5 :=
  ⟨h.1.on hB, h.2.1.on hB, h.2.2.trans (hB.mono h.2.2.size)⟩
theorem Two.laid (w : World) (T1 T2 : TypeId) (k : Int) (s : ByteArray) (ty lo hi : Int) (t : ByteArray) (a : Option Addr) (len cap : Nat) (hd : Bool) (o1 o2 o3 o4 : Bool) (o5 : Int) :
    Two w ((w.alloc (.cells #[.int .i64 k, .string s, .int .i64 ty, .int .i64 lo, .int .i64 hi, .string t, .slice a len cap, .bool hd] T1)).alloc (.cells #[.bool o1, .bool o2, .bool o3, .bool o4, .int .i64 o5] T2)) k s ty lo hi t a len cap hd o1 o2 o3 o4 o5 := by
  refine ⟨(At8.laid w T1 _ _ _ _ _ _ _ _).on (below_one _ _), ?_, (below_one _ _).trans ((below_one _ _).mono (by simp))⟩
  have := At5.laid (w.alloc (.cells #[.int .i64 k, .string s, .int .i64 ty, .int .i64 lo, .int .i64 hi, .string t, .slice a len cap, .bool hd] T1)) T2 (.bool o1) (.bool o2) (.bool o3) (.bool o4) (.int .i64 o5)
  rw [World.size_alloc] at this
  exact this
theorem Two.all {w0 w : World} {k : Int} {s : ByteArray} {ty lo hi : Int} {t : ByteArray} {a : Option Addr} {len cap : Nat} {hd : Bool} {o1 o2 o3 o4 : Bool} {o5 : Int} (h : Two w0 w k s ty lo hi t a len cap hd o1 o2 o3 o4 o5) :
    (w.cell? ⟨w0.heap.size, 0, none⟩ = some (.int .i64 k) ∧ w.cell? ⟨w0.heap.size, 1, none⟩ = some (.string s) ∧ w.cell? ⟨w0.heap.size, 2, none⟩ = some (.int .i64 ty) ∧ w.cell? ⟨w0.heap.size, 3, none⟩ = some (.int .i64 lo) ∧ w.cell? ⟨w0.heap.size, 4, none⟩ = some (.int .i64 hi) ∧ w.cell? ⟨w0.heap.size, 5, none⟩ = some (.string t) ∧ w.cell? ⟨w0.heap.size, 6, none⟩ = some (.slice a len cap) ∧ w.cell? ⟨w0.heap.size, 7, none⟩ = some (.bool hd)) ∧
    (w.cell? ⟨w0.heap.size + 1, 0, none⟩ = some (.bool o1) ∧ w.cell? ⟨w0.heap.size + 1, 1, none⟩ = some (.bool o2) ∧ w.cell? ⟨w0.heap.size + 1, 2, none⟩ = some (.bool o3) ∧ w.cell? ⟨w0.heap.size + 1, 3, none⟩ = some (.bool o4) ∧ w.cell? ⟨w0.heap.size + 1, 4, none⟩ = some (.int .i64 o5)) ∧ w0.heap.size + 1 < w.heap.size := ⟨h.1.1, h.2.1.1, h.2.1.2⟩

theorem keepT {w0 w : World} {k : Int} {s : ByteArray} {ty lo hi : Int} {t : ByteArray} {a : Option Addr} {len cap : Nat} {hd : Bool} {o1 o2 o3 o4 : Bool} {o5 : Int} (h : Two w0 w k s ty lo hi t a len cap hd o1 o2 o3 o4 o5) :
    Two w0 w k s ty lo hi t a len cap hd o1 o2 o3 o4 o5 ∧ (w.cell? ⟨w0.heap.size, 0, none⟩ = some (.int .i64 k) ∧ w.cell? ⟨w0.heap.size, 1, none⟩ = some (.string s) ∧ w.cell? ⟨w0.heap.size, 2, none⟩ = some (.int .i64 ty) ∧ w.cell? ⟨w0.heap.size, 3, none⟩ = some (.int .i64 lo) ∧ w.cell? ⟨w0.heap.size, 4, none⟩ = some (.int .i64 hi) ∧ w.cell? ⟨w0.heap.size, 5, none⟩ = some (.string t) ∧ w.cell? ⟨w0.heap.size, 6, none⟩ = some (.slice a len cap) ∧ w.cell? ⟨w0.heap.size, 7, none⟩ = some (.bool hd)) ∧
    (w.cell? ⟨w0.heap.size + 1, 0, none⟩ = some (.bool o1) ∧ w.cell? ⟨w0.heap.size + 1, 1, none⟩ = some (.bool o2) ∧ w.cell? ⟨w0.heap.size + 1, 2, none⟩ = some (.bool o3) ∧ w.cell? ⟨w0.heap.size + 1, 3, none⟩ = some (.bool o4) ∧ w.cell? ⟨w0.heap.size + 1, 4, none⟩ = some (.int .i64 o5)) := ⟨h, h.1.1, h.2.1.1⟩
end Go.Proofs.YtbhblnpehhaiiaaDoor.ItmI
