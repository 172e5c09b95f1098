/- Texts of ours, laid together. -/
import Derived.Test.YtmbhmknfipdadaaGreatDoorBd7
import Derived.Test.YtmbhmknfipdadaaGreatDoorBd23
import Derived.Laws.Cover1
namespace Go.Proofs.YtmbhmknfipdadaaGreatDoor.AnsW
open Go.RowKit
open ValW ValK NameW
def lessB (x y : ByteArray) : Bool := Op.bytesLess x.toList y.toList
theorem less_or : ∀ (x y : List UInt8), (Op.bytesLess x y || x == y) = !Op.bytesLess y x
 | [], [] => by simp [Op.bytesLess]
 | [], b :: y => by simp [Op.bytesLess]
 | a :: x, [] => by simp [Op.bytesLess]
 | a :: x, b :: y => by
  have ih := less_or x y
  simp only [Op.bytesLess]
  by_cases hab : a = b
  ·subst hab
   have : ¬ a < a := UInt8.lt_irrefl a
   simp only [decide_eq_false this, Bool.false_or, BEq.rfl, Bool.true_and]
   rw [← ih]
   simp
  ·have hba : ¬ b = a := fun h => hab h.symm
   by_cases hl : a < b
   ·have : ¬ b < a := fun h => UInt8.lt_irrefl a (UInt8.lt_trans hl h)
    simp [hl, this, hba]
   ·have : b < a := by
     rcases UInt8.lt_or_lt_of_ne hab with h | h
     ·exact absurd h hl
     ·exact h
    simp [hl, this, hab]
theorem less_nil (x : List UInt8) : Op.bytesLess x [] = false := by cases x <;> simp [Op.bytesLess]
def okA (ls : List An) (i : Nat) : Bool :=
 nameB (nm (ls.getD i an0)) && (decide (i = 0) || lessB (nm (ls.getD (i - 1) an0)) (nm (ls.getD i an0))) && answeredB (kd (ls.getD i an0)) (nu (ls.getD i an0)) (cd (ls.getD i an0)) (tx (ls.getD i an0))
def rightA (ls : List An) : Bool := decide (ls.length ≤ 30 ∧ ∀ i, i < ls.length → okA ls i = true)
theorem rightA_yes {ls : List An} (h : ls.length ≤ 30) (ha : ∀ i, i < ls.length → okA ls i = true) : rightA ls = true := decide_eq_true ⟨h, ha⟩
theorem rightA_long {ls : List An} (h : ¬ ls.length ≤ 30) : rightA ls = false := decide_eq_false fun a => h a.1
theorem rightA_no {ls : List An} {i : Nat} (hi : i < ls.length) (h : okA ls i = false) : rightA ls = false := decide_eq_false fun a => by rw [a.2 i hi] at h; cases h
theorem rightA_all {ls : List An} (h : ∀ i, i < ls.length → okA ls i = true) : rightA ls = decide (ls.length ≤ 30) := by
 by_cases hl : ls.length ≤ 30
 ·rw [rightA_yes hl h, decide_eq_true hl]
 ·rw [rightA_long hl, decide_eq_false hl]
theorem rightA_at {ls : List An} (h : rightA ls = true) : ls.length ≤ 30 ∧ ∀ i, i < ls.length → okA ls i = true := of_decide_eq_true h
theorem okA_parts {ls : List An} {i : Nat} (h : okA ls i = true) : nameB (nm (ls.getD i an0)) = true ∧ (0 < i → lessB (nm (ls.getD (i - 1) an0)) (nm (ls.getD i an0)) = true) ∧ answeredB (kd (ls.getD i an0)) (nu (ls.getD i an0)) (cd (ls.getD i an0)) (tx (ls.getD i an0)) = true := by
 unfold okA at h
 simp only [Bool.and_eq_true, Bool.or_eq_true, decide_eq_true_eq] at h
 refine ⟨h.1.1, fun hi => ?_, h.2⟩
 rcases h.1.2 with h0 | h0
 ·omega
 ·exact h0
theorem okA_zero (ls : List An) : okA ls 0 = (nameB (nm (ls.getD 0 an0)) && answeredB (kd (ls.getD 0 an0)) (nu (ls.getD 0 an0)) (cd (ls.getD 0 an0)) (tx (ls.getD 0 an0))) := by simp [okA]
theorem okA_succ (ls : List An) (j : Nat) : okA ls (j + 1) = (nameB (nm (ls.getD (j + 1) an0)) && lessB (nm (ls.getD j an0)) (nm (ls.getD (j + 1) an0)) && answeredB (kd (ls.getD (j + 1) an0)) (nu (ls.getD (j + 1) an0)) (cd (ls.getD (j + 1) an0)) (tx (ls.getD (j + 1) an0))) := by simp [okA]
theorem keep5 {wr w' : World} {b o : Nat} {p : An} {a : Option Addr} {c : Nat} (hb : b < wr.heap.size) (h : Five wr b o p a c) (hB : Below wr.heap.size wr w') :
  Below wr.heap.size wr w' ∧ w'.cell? ⟨b, o, none⟩ = some (.string (nm p)) ∧ w'.cell? ⟨b, o + 1, none⟩ = some (.int .i64 (kd p)) ∧ w'.cell? ⟨b, o + 2, none⟩ = some (.int .i64 (nu p)) ∧ w'.cell? ⟨b, o + 3, none⟩ = some (.slice a (cd p).length c) ∧ w'.cell? ⟨b, o + 4, none⟩ = some (.string (tx p)) := ⟨hB, h.on hb hB⟩
theorem keep6 {wr w' : World} {b o o1 : Nat} {p : An} {a : Option Addr} {c : Nat} {v : Value} (hb : b < wr.heap.size) (h : Five wr b o p a c) (d0 : wr.cell? ⟨b, o1, none⟩ = some v) (hB : Below wr.heap.size wr w') :
  Below wr.heap.size wr w' ∧ w'.cell? ⟨b, o, none⟩ = some (.string (nm p)) ∧ w'.cell? ⟨b, o + 1, none⟩ = some (.int .i64 (kd p)) ∧ w'.cell? ⟨b, o + 2, none⟩ = some (.int .i64 (nu p)) ∧ w'.cell? ⟨b, o + 3, none⟩ = some (.slice a (cd p).length c) ∧ w'.cell? ⟨b, o + 4, none⟩ = some (.string (tx p)) ∧ w'.cell? ⟨b, o1, none⟩ = some v := by
 obtain ⟨h0, h1, h2, h3, h4⟩ := h.on hb hB
 exact ⟨hB, h0, h1, h2, h3, h4, by rw [hB.cell (p := ⟨b, _, none⟩) hb]; exact d0⟩
open Go.RowKit
open ValW ValK NameW
def aheadOf (ls : List An) (k : Nat) : ByteArray := if k = 0 then ByteArray.empty else nm (ls.getD (k - 1) an0)
theorem aheadOf_succ (ls : List An) (k : Nat) : aheadOf ls (k + 1) = nm (ls.getD k an0) := by simp [aheadOf]
theorem ahead_no {ls : List An} {k : Nat} (h : (Op.bytesLess (nm (ls.getD k an0)).toList (aheadOf ls k).toList || (nm (ls.getD k an0)).toList == (aheadOf ls k).toList) = true) : okA ls k = false := by
 by_cases hk : k = 0
 ·subst hk
  rw [okA_zero]
  have h0 : (aheadOf ls 0).toList = [] := by unfold aheadOf; rw [if_pos rfl]; simp
  rw [h0, less_nil] at h
  have hz : (nm (ls.getD 0 an0)).size = 0 := by
   rw [Bool.false_or] at h
   have h1 := congrArg List.length (eq_of_beq h)
   rw [ByteArray.toList_eq] at h1
   simpa using h1
  rw [name_no _ (.inl (by omega)), Bool.false_and]
 ·have e : aheadOf ls k = nm (ls.getD (k - 1) an0) := by unfold aheadOf; rw [if_neg hk]
  rw [e, less_or] at h
  have : lessB (nm (ls.getD (k - 1) an0)) (nm (ls.getD k an0)) = false := by unfold lessB; simpa using h
  unfold okA
  rw [this, decide_eq_false hk]
  simp
theorem ahead_yes {ls : List An} {k : Nat} (h : (Op.bytesLess (nm (ls.getD k an0)).toList (aheadOf ls k).toList || (nm (ls.getD k an0)).toList == (aheadOf ls k).toList) = false) :
  okA ls k = (nameB (nm (ls.getD k an0)) && answeredB (kd (ls.getD k an0)) (nu (ls.getD k an0)) (cd (ls.getD k an0)) (tx (ls.getD k an0))) := by
 by_cases hk : k = 0
 ·subst hk
  exact okA_zero ls
 ·have e : aheadOf ls k = nm (ls.getD (k - 1) an0) := by unfold aheadOf; rw [if_neg hk]
  rw [e, less_or] at h
  have : lessB (nm (ls.getD (k - 1) an0)) (nm (ls.getD k an0)) = true := by unfold lessB; simpa using h
  unfold okA
  rw [this]
  simp
set_option maxRecDepth 10000 in
set_option maxHeartbeats 3200000 in
theorem impl_answers (a : Option Addr) (cap : Nat) (ls : List An) (w : World) (hc : Ans w a ls) :
  Calls Tryz.prog 64 #[.slice a ls.length cap] w fun e w' => e = .returned (.bool (rightA ls)) ∧ Below w.heap.size w w' := by
 have HC : Hid (Ans w a ls) := hc
 have hl := hc.1
 obtain ⟨r, hr⟩ : ∃ r, Hid (rightA ls = r) := ⟨_, rfl⟩
 rw [hr.out]
 clear hc
 by_cases hlong : ls.length ≤ 30
 case neg =>
  have hr0 : r = false := by rw [← hr.out]; exact rightA_long hlong
  go_enter Tryz.func64, Tryz.ntmps64
  go_wp2
  go_ret
  exact ⟨ret_bool hr0.symm, by go_grown⟩
 go_enter Tryz.func64, Tryz.ntmps64
 go_wp2
 go_loopw [3, 11] (fun h i wr => ∃ k : Nat, k ≤ ls.length ∧ i = .int .i64 k ∧ Hid (h = .string (aheadOf ls k)) ∧ Hid (∀ j, j < k → okA ls j = true) ∧ Below w.heap.size w wr) (fun _ i _ => ls.length - (intOf i).toNat)
 case atStart => exact ⟨0, Nat.zero_le _, rfl, rfl, fun _ h => absurd h (Nat.not_lt_zero _), Below.refl _ _⟩
 case round =>
  obtain ⟨k, hk, rfl, hah, hok, hbel⟩ := hrel
  obtain rfl := hah.out
  by_cases hlt : k < ls.length
  ·have hno : okA ls k = false → r = false := fun h => by rw [← hr.out]; exact rightA_no hlt h
   have hyes : okA ls k = true → ∀ j, j < k + 1 → okA ls j = true := fun h j hj => by
    by_cases e : j = k
    ·rw [e]; exact h
    ·exact hok.out j (by omega)
   have hav := aheadOf_succ ls k
   have hvn := ahead_no (ls := ls) (k := k)
   have hvy := ahead_yes (ls := ls) (k := k)
   obtain ⟨hfit, b, o, ai, ci, rfl, hb, hF, hcd⟩ := HC.out.at hbel hlt
   have hB : Below w.heap.size w wr := hbel
   generalize hoo : okA ls k = ok at hno hyes hvn hvy
   generalize ls.getD k an0 = p at hF hcd hfit hav hvn hvy
   obtain ⟨s, x, n, zs, t⟩ := p
   dsimp only [nm, kd, nu, cd, tx] at hcd hav hvn hvy
   generalize aheadOf ls k = ah at hvn hvy
   have HS : Hid (s.size ≤ maxLen) := Nat.le_trans hfit.1 (by decide)
   have HT : Hid (t.size ≤ maxLen) := Nat.le_trans hfit.2 (by decide)
   have HB : Hid (Below w.heap.size w wr) := hbel
   have HCd := hid hcd
   have HA := hid hav
   obtain ⟨c0, c1, c2, c3, c4⟩ := hF
   dsimp only [nm, kd, nu, cd, tx] at c0 c1 c2 c3 c4
   obtain ⟨v, hv⟩ : ∃ v, (Op.bytesLess s.toList ah.toList || s.toList == ah.toList) = v := ⟨_, rfl⟩
   rw [hv] at hvn hvy
   have HN := hid hno
   have HY := hid hyes
   have HVN := hid hvn
   have HVY := hid hvy
   clear hbel hcd hfit hno hyes hok HC hvn hvy hav hah hoo hB
   cases v
   ·obtain ⟨m, hnm⟩ : ∃ m, Hid (nameB s = m) := ⟨_, rfl⟩
    obtain ⟨q, hq⟩ : ∃ q, Hid (answeredB x n zs t = q) := ⟨_, rfl⟩
    have hoq : ok = (m && q) := by rw [HVY.out rfl, hnm.out, hq.out]
    have HOQ := hid hoq
    clear HVN HVY hoq
    go_wp2_with fail
    refine (impl_name s _ HS.out).mono ?_
    rintro e w1 ⟨rfl, rfl⟩
    rw [hnm.out]
    cases m
    ·go_wp2_with fail
     go_ret
     refine ⟨ret_bool (HN.out (by rw [HOQ.out]; rfl)).symm, ?_⟩
     exact Below.trans HB.out ((show Below wr.heap.size wr _ by go_grown).mono HB.out.size)
    ·go_wp2_with fail
     refine (impl_answered x n ai ci zs t _ (HCd.out.on ?hb) HT.out).mono ?_
     case hb => go_grown
     rintro e w1 ⟨rfl, hB1⟩
     rw [hq.out]
     have HB1 : Hid (Below w.heap.size w w1) := Below.trans (Below.trans HB.out ((show Below wr.heap.size wr _ by go_grown).mono HB.out.size)) (hB1.mono (by simp; exact Nat.le_trans HB.out.size (Nat.le_succ _)))
     have hsz := HB.out.size
     obtain ⟨hcl, _⟩ := bcell hB1
     simp only [World.size_alloc] at hcl
     clear hB1
     cases q
     ·go_wp2_with fail
      go_ret
      exact ⟨ret_bool (HN.out (by rw [HOQ.out]; rfl)).symm, HB1.out⟩
     ·go_wp2_with fail
      refine ⟨⟨k + 1, by omega, by go_num, by show _ = _; rw [HA.out], HY.out (by rw [HOQ.out]; rfl), HB1.out⟩, by simp [intOf]; omega⟩
   ·clear HVY
    go_wp2_with fail
    go_ret
    refine ⟨ret_bool (HN.out (HVN.out (by trivial))).symm, ?_⟩
    exact Below.trans HB.out ((show Below wr.heap.size wr _ by go_grown).mono HB.out.size)
  ·obtain rfl : k = ls.length := by omega
   have hd : Hid (r = true) := by show r = true; rw [← hr.out]; exact rightA_yes hlong hok.out
   go_wp2
   go_ret
   exact ⟨ret_bool hd.out.symm, hbel⟩
end Go.Proofs.YtmbhmknfipdadaaGreatDoor.AnsW
