/- Texts of ours, laid together: FldName, FldSpec. -/
import Derived.Test.YtecopedjjfimoaaGreatDoorBd12
import Derived.Test.YtecopedjjfimoaaGreatDoorBd50
import Derived.Sort.Walk0
import Derived.Test.YtecopedjjfimoaaGreatDoorBd13
/- The model puts a name among others. -/
namespace Go.Proofs.YtecopedjjfimoaaGreatDoor.FldS
open Go.RowKit
open StrW FldM

/-- the names ahead of place k are below t -/
def Ahead (l : List (List UInt8)) (t : List UInt8) (k : Nat) : Prop := ∀ i, i < k → l.getD i [] < t
theorem ins_at : ∀ (l : List (List UInt8)) (t : List UInt8) (k : Nat), k ≤ l.length → Ahead l t k → (k < l.length → ¬ l.getD k [] < t) →
    ins l t = if k < l.length ∧ l.getD k [] = t then l else l.take k ++ [t] ++ l.drop k := by
  intro l
  induction l with
  | nil => intro t k hk _ _; simp at hk; subst hk; simp [ins]
  | cons x r ih =>
    intro t k hk ha hn
    cases k with
    | zero =>
      have hx : ¬ x < t := hn (by simp)
      unfold ins
      rw [if_neg hx]
      by_cases he : x = t
      · rw [if_pos he, if_pos ⟨by simp, by simpa using he⟩]
      · rw [if_neg he, if_neg (fun h => he (by simpa using h.2))]; simp
    | succ k =>
      have hx : x < t := by simpa using ha 0 (by omega)
      unfold ins
      rw [if_pos hx, ih t k (by simpa using hk) (fun i hi => by simpa using ha (i + 1) (by omega)) (fun h => by simpa using hn (by simpa using h))]
      by_cases hc : k < r.length ∧ r.getD k [] = t
      · rw [if_pos hc, if_pos ⟨by simpa using hc.1, by simpa using hc.2⟩]
      · rw [if_neg hc, if_neg (fun h => hc ⟨by simpa using h.1, by simpa using h.2⟩)]; simp

theorem take_cell {w w' : World} {b o k : Nat} {l : List (List UInt8)} (hS : Strs w (some ⟨b, o, none⟩) l) (hB : Below w.heap.size w w') {j : Nat} {u : Value} (hj : (strs (l.take k))[j]? = some u) : w'.cell? ((⟨b, o, none⟩ : Addr).add j) = some u := by
  have hlt : j < (l.take k).length := by have := (List.getElem?_eq_some_iff.1 hj).1; rwa [strs_len] at this
  have hjl : j < l.length := by rw [List.length_take] at hlt; omega
  obtain ⟨b1, o1, hbo, hb, c0⟩ := Strs.at hS hjl
  cases hbo
  have hplain : (⟨b, o, none⟩ : Addr).add j = ⟨b, o + j, none⟩ := by unfold Addr.add; split <;> simp_all
  rw [hplain, hB.cell (p := ⟨b, o + j, none⟩) hb, c0]
  unfold strs at hj
  rw [List.getElem?_map, List.getElem?_take, if_pos (by rw [List.length_take] at hlt; omega), List.getElem?_eq_getElem hjl] at hj
  simp only [Option.map_some, Option.some.injEq] at hj
  rw [← hj]; simp [List.getD, List.getElem?_eq_getElem hjl]
theorem take_plain {w w' : World} {b o k : Nat} {l : List (List UInt8)} (hS : Strs w (some ⟨b, o, none⟩) l) (hB : Below w.heap.size w w') {j : Nat} {u : Value} (hj : (strs (l.take k))[j]? = some u) : w'.cell? ⟨b, o + j, none⟩ = some u := by
  have h := take_cell hS hB hj
  have hplain : (⟨b, o, none⟩ : Addr).add j = ⟨b, o + j, none⟩ := by unfold Addr.add; split <;> simp_all
  rwa [hplain] at h
theorem drop_cell {w w' : World} {b o k : Nat} {l : List (List UInt8)} (hS : Strs w (some ⟨b, o, none⟩) l) (hB : Below w.heap.size w w') {j : Nat} {u : Value} (hj : (strs (l.drop k))[j]? = some u) : w'.cell? ((⟨b, o + k, none⟩ : Addr).add j) = some u := by
  have hlt : j < (l.drop k).length := by have := (List.getElem?_eq_some_iff.1 hj).1; rwa [strs_len] at this
  have hjl : k + j < l.length := by rw [List.length_drop] at hlt; omega
  obtain ⟨b1, o1, hbo, hb, c0⟩ := Strs.at hS hjl
  cases hbo
  have hplain : (⟨b, o + k, none⟩ : Addr).add j = ⟨b, o + (k + j), none⟩ := by unfold Addr.add; split <;> simp_all; omega
  rw [hplain, hB.cell (p := ⟨b, o + (k + j), none⟩) hb, c0]
  unfold strs at hj
  rw [List.getElem?_map, List.getElem?_drop, List.getElem?_eq_getElem hjl] at hj
  simp only [Option.map_some, Option.some.injEq] at hj
  rw [← hj]; simp [List.getD, List.getElem?_eq_getElem hjl]

theorem drop_plain {w w' : World} {b o k : Nat} {l : List (List UInt8)} (hS : Strs w (some ⟨b, o, none⟩) l) (hB : Below w.heap.size w w') {j : Nat} {u : Value} (hj : (strs (l.drop k))[j]? = some u) : w'.cell? ⟨b, o + k + j, none⟩ = some u := by
  have h := drop_cell hS hB hj
  have hplain : (⟨b, o + k, none⟩ : Addr).add j = ⟨b, o + k + j, none⟩ := by unfold Addr.add; split <;> simp_all
  rwa [hplain] at h
set_option maxRecDepth 10000 in
set_option maxHeartbeats 1600000 in
theorem spec_name (b o cap : Nat) (l : List (List UInt8)) (t : List UInt8) (w : World) (hS : Strs w (some ⟨b, o, none⟩) l) (hl : l.length ≤ 400) (hc : l.length ≤ cap) :
    Calls Tryz.prog 110 #[.slice (some ⟨b, o, none⟩) l.length cap, encS t] w fun e w' => (∃ b' o' cap', e = .returned (.slice (some ⟨b', o', none⟩) (ins l t).length cap') ∧ Strs w' (some ⟨b', o', none⟩) (ins l t) ∧ (ins l t).length ≤ cap') ∧ Below w.heap.size w w' := by
  have HS := hid hS
  clear hS
  obtain ⟨i0, hi0, hz0, hz1, hz2⟩ := info_parts Tryz.infoS
  obtain ⟨T, hT⟩ : ∃ T : ByteArray, Hid ((⟨t.toArray⟩ : ByteArray) = T) := ⟨_, rfl⟩
  have hTl : T.toList = t := by rw [← hT.out, BytM.toList_eq]
  rw [show encS t = .string T by unfold encS; rw [hT.out]]
  have HTL := hid hTl
  clear hTl
  go_enter Tryz.func110, Tryz.ntmps110
  go_wp2
  go_loopw [5] (fun i wr => ∃ k : Nat, k ≤ l.length ∧ i = .int .i64 k ∧ Hid (Ahead l t k) ∧ wr = w) (fun i _ => l.length - (intOf i).toNat)
  case atStart => exact ⟨0, Nat.zero_le _, rfl, fun i hi => absurd hi (Nat.not_lt_zero _), rfl⟩
  case round =>
    obtain ⟨k, hk, rfl, hA, hww⟩ := hrel
    obtain rfl : w = wr := hww.symm
    by_cases hlt : k < l.length
    · obtain ⟨b1, o1, hbo, hb, c0⟩ := Strs.at HS.out hlt
      cases hbo
      obtain ⟨X, hX⟩ : ∃ X : ByteArray, Hid ((⟨(l.getD k []).toArray⟩ : ByteArray) = X) := ⟨_, rfl⟩
      have hXl : Hid (X.toList = l.getD k []) := by show _ = _; rw [← hX.out, BytM.toList_eq]
      rw [show encS (l.getD k []) = .string X by unfold encS; rw [hX.out]] at c0
      obtain ⟨r, hr⟩ : ∃ r, Op.bytesLess X.toList T.toList = r := ⟨_, rfl⟩
      have hrl : r = decide (l.getD k [] < t) := by rw [← hr, hXl.out, HTL.out, bytesLess_eq]
      have HRL := hid hrl
      clear hrl
      cases r
      · have hnl : Hid (¬ l.getD k [] < t) := fun h => by have := HRL.out; rw [decide_eq_true h] at this; cases this
        obtain ⟨q, hq⟩ : ∃ q, (X.toList == T.toList) = q := ⟨_, rfl⟩
        have hql : q = decide (l.getD k [] = t) := by rw [← hq, hXl.out, HTL.out, Bool.eq_iff_iff, beq_iff_eq, decide_eq_true_iff]
        have HQL := hid hql
        clear hql
        have hins := ins_at l t k hk hA.out (fun _ => hnl.out)
        cases q
        · have hne : ¬ (k < l.length ∧ l.getD k [] = t) := fun h => by have := HQL.out; rw [decide_eq_true h.2] at this; cases this
          rw [if_neg hne] at hins
          clear hne
          have HIN := hid hins
          clear hins
          have hkc : k ≤ cap := by omega
          have hkc' : (k : Int) ≤ (cap : Int) := by omega
          have hkl' : (k : Int) ≤ (l.length : Int) := by omega
          have hnl : ¬ cap < k := by omega
          by_cases hck0 : cap = k
          · have HCK := hid hck0
            clear hck0
            go_wp2_with (first | (at_builtin; refine wpList_append_own _ rfl _ _ 48 rfl w.heap.size 9 i0 (.string ByteArray.empty) 1 16 Tryz.underlying48 hi0 hz0 hz1 hz2 rfl (by decide) _ 0 [] rfl ?xp00 ⟨b, o, none⟩ k _ (strs (l.take k)) rfl ?xp01 ?xp02 ?xp03 ?xp04 ?xp05 ?xp06 ?_))
            case xp00 => exact World.ownsRow_made _ #[] 0 (Nat.le_refl _) (by unfold maxLen; omega) rfl
            case xp01 => rw [strs_len, List.length_take]; omega
            case xp02 => exact fun j u hj => (by first | exact take_cell HS.out (below_one w _) hj | exact take_plain HS.out (below_one w _) hj | exact take_plain HS.out (Below.refl _ _) hj)
            case xp03 => exact strs_one _
            (try case xp04 => unfold maxLen; omega)
            case xp05 => omega
            (try case xp06 => simp)
            intro v1 w1 hown1 hgrow1 _
            have hB1 : Below w.heap.size w w1 := (below_one w _).grown hgrow1 (by simp) (fun g hg => by cases hg; exact Nat.le_refl _)
            have hown1' : w1.ownsRow w.heap.size 9 1 v1 k (strs (l.take k)) := by simpa using hown1
            clear hown1 hgrow1
            go_wp2_with (first | (at_builtin; refine wpList_append_own _ rfl _ _ 48 rfl w.heap.size 9 i0 (.string ByteArray.empty) 1 16 Tryz.underlying48 hi0 hz0 hz1 hz2 rfl (by decide) _ k (strs (l.take k)) rfl (hown1'.alloc _) ⟨w1.heap.size, 0, none⟩ 1 1 [.string T] rfl rfl ?yp02 ?yp03 ?yp04 ?yp05 ?yp06 ?_))
            case yp02 =>
              intro j u hj
              match j, hj with
              | 0, hj => simp at hj; subst hj; simp [Addr.add]
            case yp03 => intro u hu; simp at hu; subst hu; rfl
            (try case yp04 => unfold maxLen; omega)
            case yp05 => omega
            (try case yp06 => have := hB1.size; simp; omega)
            intro v2 w2 hown2 hgrow2 _
            have hB2 : Below w.heap.size w w2 := (hB1.alloc hB1.size (Obj.cells #[Value.string T] 9)).grown hgrow2 (by have := hB1.size; simp; omega) (fun g hg => (hown1'.lt g hg).1)
            have hown2' : w2.ownsRow w.heap.size 9 1 v2 (k + 1) (strs (l.take k ++ [t])) := by rw [strs_append]; rw [show strs [t] = [.string T] by unfold strs encS; rw [List.map_singleton, hT.out]]; exact hown2
            clear hown1' hown2 hgrow2 hB1
            have hck := HCK.out
            go_wp2_with (first | (at_builtin; refine wpList_append_own _ rfl _ _ 48 rfl w.heap.size 9 i0 (.string ByteArray.empty) 1 16 Tryz.underlying48 hi0 hz0 hz1 hz2 rfl (by decide) _ (k + 1) (strs (l.take k ++ [t])) rfl hown2' ⟨b, o, none⟩ _ _ (strs (l.drop k)) rfl ?zp01 ?zp02 ?zp03 ?zp04 ?zp05 ?zp06 ?_))
            case zp01 => rw [strs_len, List.length_drop]; omega
            case zp02 => intro j u hj; rw [List.drop_of_length_le (by omega)] at hj; simp [strs] at hj
            case zp03 => exact strs_one _
            (try case zp04 => unfold maxLen; omega)
            case zp05 => omega
            (try case zp06 => exact hB2.size)
            intro v3 w3 hown3 hgrow3 hnn
            have hB3 : Below w.heap.size w w3 := hB2.grown hgrow3 hB2.size (fun g hg => (hown2'.lt g hg).1)
            have hown3' : w3.ownsRow w.heap.size 9 1 v3 (ins l t).length (strs (ins l t)) := by rw [HIN.out, strs_append]; rw [show (l.take k ++ [t] ++ l.drop k).length = k + 1 + (l.length - k) by simp; omega]; exact hown3
            have hpos : 0 < (ins l t).length := by rw [HIN.out]; simp only [List.length_append, List.length_singleton]; omega
            have hbig : (ins l t).length ≤ 1048576 := by rw [HIN.out]; simp; omega
            obtain ⟨a3, cap3, rfl, hS3, hc3, hor⟩ := strs_own hown3' hbig
            obtain ⟨g3, rfl, _⟩ : ∃ g, a3 = some ⟨g, 0, none⟩ ∧ w.heap.size ≤ g := by
              rcases hor with h | h
              · obtain ⟨b9, o9, h9, _⟩ := hS3.2 hpos; rw [h] at h9; cases h9
              · exact h
            have HS3 := hid hS3
            have HB3 := hid hB3
            clear hown2' hown3 hown3' hgrow3 hB2 hnn hS3 hB3
            go_wp2_with fail
            go_ret
            exact ⟨⟨_, _, _, rfl, HS3.out, hc3⟩, HB3.out⟩
          · have hck2 : ¬ (cap : Int) = (k : Int) := by omega
            go_wp2_with (first | (at_builtin; refine wpList_append_own _ rfl _ _ 48 rfl w.heap.size 9 i0 (.string ByteArray.empty) 1 16 Tryz.underlying48 hi0 hz0 hz1 hz2 rfl (by decide) _ 0 [] rfl ?xp10 ⟨b, o, none⟩ k _ (strs (l.take k)) rfl ?xp11 ?xp12 ?xp13 ?xp14 ?xp15 ?xp16 ?_))
            case xp10 => exact World.ownsRow_made _ #[] 0 (Nat.le_refl _) (by unfold maxLen; omega) rfl
            case xp11 => rw [strs_len, List.length_take]; omega
            case xp12 => exact fun j u hj => (by first | exact take_cell HS.out (below_one w _) hj | exact take_plain HS.out (below_one w _) hj | exact take_plain HS.out (Below.refl _ _) hj)
            case xp13 => exact strs_one _
            (try case xp14 => unfold maxLen; omega)
            case xp15 => omega
            (try case xp16 => simp)
            intro v1 w1 hown1 hgrow1 _
            have hB1 : Below w.heap.size w w1 := (below_one w _).grown hgrow1 (by simp) (fun g hg => by cases hg; exact Nat.le_refl _)
            have hown1' : w1.ownsRow w.heap.size 9 1 v1 k (strs (l.take k)) := by simpa using hown1
            clear hown1 hgrow1
            go_wp2_with (first | (at_builtin; refine wpList_append_own _ rfl _ _ 48 rfl w.heap.size 9 i0 (.string ByteArray.empty) 1 16 Tryz.underlying48 hi0 hz0 hz1 hz2 rfl (by decide) _ k (strs (l.take k)) rfl (hown1'.alloc _) ⟨w1.heap.size, 0, none⟩ 1 1 [.string T] rfl rfl ?yp12 ?yp13 ?yp14 ?yp15 ?yp16 ?_))
            case yp12 =>
              intro j u hj
              match j, hj with
              | 0, hj => simp at hj; subst hj; simp [Addr.add]
            case yp13 => intro u hu; simp at hu; subst hu; rfl
            (try case yp14 => unfold maxLen; omega)
            case yp15 => omega
            (try case yp16 => have := hB1.size; simp; omega)
            intro v2 w2 hown2 hgrow2 _
            have hB2 : Below w.heap.size w w2 := (hB1.alloc hB1.size (Obj.cells #[Value.string T] 9)).grown hgrow2 (by have := hB1.size; simp; omega) (fun g hg => (hown1'.lt g hg).1)
            have hown2' : w2.ownsRow w.heap.size 9 1 v2 (k + 1) (strs (l.take k ++ [t])) := by rw [strs_append]; rw [show strs [t] = [.string T] by unfold strs encS; rw [List.map_singleton, hT.out]]; exact hown2
            clear hown1' hown2 hgrow2 hB1
            go_wp2_with (first | (at_builtin; refine wpList_append_own _ rfl _ _ 48 rfl w.heap.size 9 i0 (.string ByteArray.empty) 1 16 Tryz.underlying48 hi0 hz0 hz1 hz2 rfl (by decide) _ (k + 1) (strs (l.take k ++ [t])) rfl hown2' ⟨b, o + k, none⟩ (l.length - k) (cap - k) (strs (l.drop k)) rfl ?zp11 ?zp12 ?zp13 ?zp14 ?zp15 ?zp16 ?_))
            case zp11 => rw [strs_len, List.length_drop]; omega
            case zp12 => exact fun j u hj => (by first | exact drop_cell HS.out hB2 hj | exact drop_plain HS.out hB2 hj)
            case zp13 => exact strs_one _
            (try case zp14 => unfold maxLen; omega)
            case zp15 => omega
            (try case zp16 => exact hB2.size)
            intro v3 w3 hown3 hgrow3 hnn
            have hB3 : Below w.heap.size w w3 := hB2.grown hgrow3 hB2.size (fun g hg => (hown2'.lt g hg).1)
            have hown3' : w3.ownsRow w.heap.size 9 1 v3 (ins l t).length (strs (ins l t)) := by rw [HIN.out, strs_append]; rw [show (l.take k ++ [t] ++ l.drop k).length = k + 1 + (l.length - k) by simp; omega]; exact hown3
            have hpos : 0 < (ins l t).length := by rw [HIN.out]; simp only [List.length_append, List.length_singleton]; omega
            have hbig : (ins l t).length ≤ 1048576 := by rw [HIN.out]; simp; omega
            obtain ⟨a3, cap3, rfl, hS3, hc3, hor⟩ := strs_own hown3' hbig
            obtain ⟨g3, rfl, _⟩ : ∃ g, a3 = some ⟨g, 0, none⟩ ∧ w.heap.size ≤ g := by
              rcases hor with h | h
              · obtain ⟨b9, o9, h9, _⟩ := hS3.2 hpos; rw [h] at h9; cases h9
              · exact h
            have HS3 := hid hS3
            have HB3 := hid hB3
            clear hown2' hown3 hown3' hgrow3 hB2 hnn hS3 hB3
            go_wp2_with fail
            go_ret
            exact ⟨⟨_, _, _, rfl, HS3.out, hc3⟩, HB3.out⟩
        · have he : l.getD k [] = t := by have := HQL.out; simpa using this.symm
          rw [if_pos ⟨hlt, he⟩] at hins
          have HIN := hid hins
          clear hins
          go_wp2_with fail
          go_ret
          rw [HIN.out]
          exact ⟨⟨_, _, _, rfl, HS.out, hc⟩, Below.refl _ _⟩
      · have hl' : Hid (l.getD k [] < t) := hid (by have := HRL.out; simpa using this.symm)
        go_wp2_with fail
        refine ⟨⟨k + 1, by omega, by go_num, fun i hi => ?_, trivial⟩, by simp [intOf]; omega⟩
        rcases Nat.lt_succ_iff_lt_or_eq.1 hi with h | rfl
        · exact hA.out i h
        · exact hl'.out
    · have hins := ins_at l t k hk hA.out (fun h => absurd h hlt)
      rw [if_neg (fun h => hlt h.1)] at hins
      have HIN := hid hins
      clear hins
      have hkc : k ≤ cap := by omega
      have hkc' : (k : Int) ≤ (cap : Int) := by omega
      have hkl' : (k : Int) ≤ (l.length : Int) := by omega
      have hnl : ¬ cap < k := by omega
      by_cases hck0 : cap = k
      · have HCK := hid hck0
        clear hck0
        go_wp2_with (first | (at_builtin; refine wpList_append_own _ rfl _ _ 48 rfl w.heap.size 9 i0 (.string ByteArray.empty) 1 16 Tryz.underlying48 hi0 hz0 hz1 hz2 rfl (by decide) _ 0 [] rfl ?xq00 ⟨b, o, none⟩ k _ (strs (l.take k)) rfl ?xq01 ?xq02 ?xq03 ?xq04 ?xq05 ?xq06 ?_))
        case xq00 => exact World.ownsRow_made _ #[] 0 (Nat.le_refl _) (by unfold maxLen; omega) rfl
        case xq01 => rw [strs_len, List.length_take]; omega
        case xq02 => exact fun j u hj => (by first | exact take_cell HS.out (below_one w _) hj | exact take_plain HS.out (below_one w _) hj | exact take_plain HS.out (Below.refl _ _) hj)
        case xq03 => exact strs_one _
        (try case xq04 => unfold maxLen; omega)
        case xq05 => omega
        (try case xq06 => simp)
        intro v1 w1 hown1 hgrow1 _
        have hB1 : Below w.heap.size w w1 := (below_one w _).grown hgrow1 (by simp) (fun g hg => by cases hg; exact Nat.le_refl _)
        have hown1' : w1.ownsRow w.heap.size 9 1 v1 k (strs (l.take k)) := by simpa using hown1
        clear hown1 hgrow1
        go_wp2_with (first | (at_builtin; refine wpList_append_own _ rfl _ _ 48 rfl w.heap.size 9 i0 (.string ByteArray.empty) 1 16 Tryz.underlying48 hi0 hz0 hz1 hz2 rfl (by decide) _ k (strs (l.take k)) rfl (hown1'.alloc _) ⟨w1.heap.size, 0, none⟩ 1 1 [.string T] rfl rfl ?yq02 ?yq03 ?yq04 ?yq05 ?yq06 ?_))
        case yq02 =>
          intro j u hj
          match j, hj with
          | 0, hj => simp at hj; subst hj; simp [Addr.add]
        case yq03 => intro u hu; simp at hu; subst hu; rfl
        (try case yq04 => unfold maxLen; omega)
        case yq05 => omega
        (try case yq06 => have := hB1.size; simp; omega)
        intro v2 w2 hown2 hgrow2 _
        have hB2 : Below w.heap.size w w2 := (hB1.alloc hB1.size (Obj.cells #[Value.string T] 9)).grown hgrow2 (by have := hB1.size; simp; omega) (fun g hg => (hown1'.lt g hg).1)
        have hown2' : w2.ownsRow w.heap.size 9 1 v2 (k + 1) (strs (l.take k ++ [t])) := by rw [strs_append]; rw [show strs [t] = [.string T] by unfold strs encS; rw [List.map_singleton, hT.out]]; exact hown2
        clear hown1' hown2 hgrow2 hB1
        have hck := HCK.out
        go_wp2_with (first | (at_builtin; refine wpList_append_own _ rfl _ _ 48 rfl w.heap.size 9 i0 (.string ByteArray.empty) 1 16 Tryz.underlying48 hi0 hz0 hz1 hz2 rfl (by decide) _ (k + 1) (strs (l.take k ++ [t])) rfl hown2' ⟨b, o, none⟩ _ _ (strs (l.drop k)) rfl ?zq01 ?zq02 ?zq03 ?zq04 ?zq05 ?zq06 ?_))
        case zq01 => rw [strs_len, List.length_drop]; omega
        case zq02 => intro j u hj; rw [List.drop_of_length_le (by omega)] at hj; simp [strs] at hj
        case zq03 => exact strs_one _
        (try case zq04 => unfold maxLen; omega)
        case zq05 => omega
        (try case zq06 => exact hB2.size)
        intro v3 w3 hown3 hgrow3 hnn
        have hB3 : Below w.heap.size w w3 := hB2.grown hgrow3 hB2.size (fun g hg => (hown2'.lt g hg).1)
        have hown3' : w3.ownsRow w.heap.size 9 1 v3 (ins l t).length (strs (ins l t)) := by rw [HIN.out, strs_append]; rw [show (l.take k ++ [t] ++ l.drop k).length = k + 1 + (l.length - k) by simp; omega]; exact hown3
        have hpos : 0 < (ins l t).length := by rw [HIN.out]; simp only [List.length_append, List.length_singleton]; omega
        have hbig : (ins l t).length ≤ 1048576 := by rw [HIN.out]; simp; omega
        obtain ⟨a3, cap3, rfl, hS3, hc3, hor⟩ := strs_own hown3' hbig
        obtain ⟨g3, rfl, _⟩ : ∃ g, a3 = some ⟨g, 0, none⟩ ∧ w.heap.size ≤ g := by
          rcases hor with h | h
          · obtain ⟨b9, o9, h9, _⟩ := hS3.2 hpos; rw [h] at h9; cases h9
          · exact h
        have HS3 := hid hS3
        have HB3 := hid hB3
        clear hown2' hown3 hown3' hgrow3 hB2 hnn hS3 hB3
        go_wp2_with fail
        go_ret
        exact ⟨⟨_, _, _, rfl, HS3.out, hc3⟩, HB3.out⟩
      · have hck2 : ¬ (cap : Int) = (k : Int) := by omega
        go_wp2_with (first | (at_builtin; refine wpList_append_own _ rfl _ _ 48 rfl w.heap.size 9 i0 (.string ByteArray.empty) 1 16 Tryz.underlying48 hi0 hz0 hz1 hz2 rfl (by decide) _ 0 [] rfl ?xq10 ⟨b, o, none⟩ k _ (strs (l.take k)) rfl ?xq11 ?xq12 ?xq13 ?xq14 ?xq15 ?xq16 ?_))
        case xq10 => exact World.ownsRow_made _ #[] 0 (Nat.le_refl _) (by unfold maxLen; omega) rfl
        case xq11 => rw [strs_len, List.length_take]; omega
        case xq12 => exact fun j u hj => (by first | exact take_cell HS.out (below_one w _) hj | exact take_plain HS.out (below_one w _) hj | exact take_plain HS.out (Below.refl _ _) hj)
        case xq13 => exact strs_one _
        (try case xq14 => unfold maxLen; omega)
        case xq15 => omega
        (try case xq16 => simp)
        intro v1 w1 hown1 hgrow1 _
        have hB1 : Below w.heap.size w w1 := (below_one w _).grown hgrow1 (by simp) (fun g hg => by cases hg; exact Nat.le_refl _)
        have hown1' : w1.ownsRow w.heap.size 9 1 v1 k (strs (l.take k)) := by simpa using hown1
        clear hown1 hgrow1
        go_wp2_with (first | (at_builtin; refine wpList_append_own _ rfl _ _ 48 rfl w.heap.size 9 i0 (.string ByteArray.empty) 1 16 Tryz.underlying48 hi0 hz0 hz1 hz2 rfl (by decide) _ k (strs (l.take k)) rfl (hown1'.alloc _) ⟨w1.heap.size, 0, none⟩ 1 1 [.string T] rfl rfl ?yq12 ?yq13 ?yq14 ?yq15 ?yq16 ?_))
        case yq12 =>
          intro j u hj
          match j, hj with
          | 0, hj => simp at hj; subst hj; simp [Addr.add]
        case yq13 => intro u hu; simp at hu; subst hu; rfl
        (try case yq14 => unfold maxLen; omega)
        case yq15 => omega
        (try case yq16 => have := hB1.size; simp; omega)
        intro v2 w2 hown2 hgrow2 _
        have hB2 : Below w.heap.size w w2 := (hB1.alloc hB1.size (Obj.cells #[Value.string T] 9)).grown hgrow2 (by have := hB1.size; simp; omega) (fun g hg => (hown1'.lt g hg).1)
        have hown2' : w2.ownsRow w.heap.size 9 1 v2 (k + 1) (strs (l.take k ++ [t])) := by rw [strs_append]; rw [show strs [t] = [.string T] by unfold strs encS; rw [List.map_singleton, hT.out]]; exact hown2
        clear hown1' hown2 hgrow2 hB1
        go_wp2_with (first | (at_builtin; refine wpList_append_own _ rfl _ _ 48 rfl w.heap.size 9 i0 (.string ByteArray.empty) 1 16 Tryz.underlying48 hi0 hz0 hz1 hz2 rfl (by decide) _ (k + 1) (strs (l.take k ++ [t])) rfl hown2' ⟨b, o + k, none⟩ (l.length - k) (cap - k) (strs (l.drop k)) rfl ?zq11 ?zq12 ?zq13 ?zq14 ?zq15 ?zq16 ?_))
        case zq11 => rw [strs_len, List.length_drop]; omega
        case zq12 => exact fun j u hj => (by first | exact drop_cell HS.out hB2 hj | exact drop_plain HS.out hB2 hj)
        case zq13 => exact strs_one _
        (try case zq14 => unfold maxLen; omega)
        case zq15 => omega
        (try case zq16 => exact hB2.size)
        intro v3 w3 hown3 hgrow3 hnn
        have hB3 : Below w.heap.size w w3 := hB2.grown hgrow3 hB2.size (fun g hg => (hown2'.lt g hg).1)
        have hown3' : w3.ownsRow w.heap.size 9 1 v3 (ins l t).length (strs (ins l t)) := by rw [HIN.out, strs_append]; rw [show (l.take k ++ [t] ++ l.drop k).length = k + 1 + (l.length - k) by simp; omega]; exact hown3
        have hpos : 0 < (ins l t).length := by rw [HIN.out]; simp only [List.length_append, List.length_singleton]; omega
        have hbig : (ins l t).length ≤ 1048576 := by rw [HIN.out]; simp; omega
        obtain ⟨a3, cap3, rfl, hS3, hc3, hor⟩ := strs_own hown3' hbig
        obtain ⟨g3, rfl, _⟩ : ∃ g, a3 = some ⟨g, 0, none⟩ ∧ w.heap.size ≤ g := by
          rcases hor with h | h
          · obtain ⟨b9, o9, h9, _⟩ := hS3.2 hpos; rw [h] at h9; cases h9
          · exact h
        have HS3 := hid hS3
        have HB3 := hid hB3
        clear hown2' hown3 hown3' hgrow3 hB2 hnn hS3 hB3
        go_wp2_with fail
        go_ret
        exact ⟨⟨_, _, _, rfl, HS3.out, hc3⟩, HB3.out⟩
end Go.Proofs.YtecopedjjfimoaaGreatDoor.FldS
/- ExprFields of the model. -/
namespace Go.Proofs.YtecopedjjfimoaaGreatDoor.FldS
open Go.RowKit
open StrW FldM
open PrtW (Parts Pt pt0)
open PrtM (rightB)

theorem ins_len (t : List UInt8) : ∀ l : List (List UInt8), (ins l t).length ≤ l.length + 1 := by
  intro l
  induction l with
  | nil => simp [ins]
  | cons x r ih =>
    unfold ins
    split
    · simp; omega
    · split
      · simp
      · simp
theorem fold_len (ps : List Pt) : (fold ps).length ≤ ps.length := by
  refine snoc_rec (P := fun ps => (fold ps).length ≤ ps.length) (by simp [fold]) ?_ ps
  intro l p ih
  rw [fold_snoc]
  have := ins_len (nameL p) (fold l)
  split <;> simp <;> omega
theorem take_snoc (ps : List Pt) (k : Nat) (h : k < ps.length) : ps.take (k + 1) = ps.take k ++ [ps.getD k pt0] := by
  rw [List.take_succ_eq_append_getElem h]; simp [List.getD, List.getElem?_eq_getElem h]

set_option maxRecDepth 10000 in
set_option maxHeartbeats 1600000 in
theorem spec_fields_in (a : Option Addr) (cap : Nat) (ps : List Pt) (w : World) (hP : Parts w a ps) (hl : ps.length ≤ 20) :
    Calls Tryz.prog 79 #[.slice a ps.length cap] w fun e w' => (∃ b' o' cap', e = .returned (.slice (some ⟨b', o', none⟩) (fold ps).length cap') ∧ Strs w' (some ⟨b', o', none⟩) (fold ps) ∧ (fold ps).length ≤ cap') ∧ Below w.heap.size w w' := by
  have HP := hid hP
  clear hP
  go_enter Tryz.func79, Tryz.ntmps79
  go_wp2
  go_loopw [3, 4] (fun u i wr => ∃ (k b' o' cap' : Nat), k ≤ ps.length ∧ i = .int .i64 k ∧ u = .slice (some ⟨b', o', none⟩) (fold (ps.take k)).length cap' ∧ Hid (Strs wr (some ⟨b', o', none⟩) (fold (ps.take k))) ∧ (fold (ps.take k)).length ≤ cap' ∧ Below w.heap.size w wr) (fun _ i _ => ps.length - (intOf i).toNat)
  case atStart => exact ⟨0, _, _, _, Nat.zero_le _, rfl, rfl, Strs.nil _ _, Nat.zero_le _, by go_grown⟩
  case round =>
    obtain ⟨k, b', o', cap', hk, rfl, rfl, hS, hc, hbel⟩ := hrel
    by_cases hlt : k < ps.length
    · obtain ⟨b, o, x, n, t, rfl, hb, hg, hf, c0, c1, c2⟩ := PrtS.parts_at HP.out hlt
      have hfl := fold_len (ps.take k)
      have hfl2 : (fold (ps.take k)).length ≤ 400 := by rw [List.length_take] at hfl; omega
      have hsn := take_snoc ps k hlt
      rw [hg] at hsn
      have hfo := fold_snoc (ps.take k) (x, n, t)
      rw [← hsn] at hfo
      rw [← hbel.cell (p := ⟨b, _, none⟩) hb] at c2
      have HFO := hid hfo
      have HB := hid hbel
      clear hfo hsn hg hf c0 c1 hbel hfl
      obtain ⟨r, hr⟩ : ∃ r, t.toList.isEmpty = r := ⟨_, rfl⟩
      have hnm : Hid ((nameL (x, n, t)).isEmpty = r) := by show _ = _; rw [← hr, BytM.toList_eq]; rfl
      generalize hF : fold (List.take k ps) = F at *
      generalize hF2 : fold (List.take (k + 1) ps) = F2 at *
      have HF2 := hid hF2
      have HF := hid hF
      clear hF hF2
      cases r
      · rw [hnm.out, if_neg (by decide)] at HFO
        go_wp2_with fail
        have hcall := spec_name b' o' cap' F t.data.toList wr hS.out hfl2 hc
        rw [enc_data] at hcall
        refine hcall.mono ?_
        clear hcall
        rintro e w2 ⟨⟨b2, o2, cap2, rfl, hS2, hc2⟩, hB2⟩
        have HS2 : Hid (Strs w2 (some ⟨b2, o2, none⟩) (ins F t.data.toList)) := hS2
        have HB2 : Hid (Below w.heap.size w w2) := HB.out.trans (hB2.mono HB.out.size)
        have hE : F2 = ins F t.data.toList := HFO.out
        rw [← hE] at HS2 hc2 ⊢
        clear hB2 hS2 hE
        go_wp2_with fail
        refine ⟨⟨k + 1, b2, o2, cap2, by omega, by go_num, by rw [HF2.out], by rw [HF2.out]; exact HS2, by rw [HF2.out]; exact hc2, HB2.out⟩, by simp [intOf]; omega⟩
      · rw [hnm.out, if_pos rfl] at HFO
        obtain rfl := HFO.out
        go_wp2_with fail
        refine ⟨⟨k + 1, b', o', cap', by omega, by go_num, by rw [HF2.out], by rw [HF2.out]; exact hS, by rw [HF2.out]; exact hc, HB.out⟩, by simp [intOf]; omega⟩
    · obtain rfl : k = ps.length := by omega
      rw [List.take_length] at *
      go_wp2_with fail
      go_ret
      exact ⟨⟨_, _, _, rfl, hS.out, hc⟩, hbel⟩

/-- the names in a right expression, rising; else none -/
def fieldsL (ps : List Pt) : List (List UInt8) := if rightB ps = true then fold ps else []
theorem spec_fields (a : Option Addr) (cap : Nat) (ps : List Pt) (w : World) (hP : Parts w a ps) :
    Calls Tryz.prog 37 #[.slice a ps.length cap] w fun e w' => (∃ a' cap', e = .returned (.slice a' (fieldsL ps).length cap') ∧ Strs w' a' (fieldsL ps)) ∧ Below w.heap.size w w' := by
  have hl := hP.1
  have HP := hid hP
  clear hP
  unfold fieldsL
  obtain ⟨r, hr⟩ : ∃ r, Hid (rightB ps = r) := ⟨_, rfl⟩
  rw [hr.out]
  cases r
  · rw [if_neg (by decide)]
    by_cases h4 : 400 < ps.length
    · go_enter Tryz.func37, Tryz.ntmps37
      go_wp2_with fail
      go_ret
      refine ⟨?_, by go_grown⟩
      first
        | exact ⟨_, _, rfl, Strs.nil _ _⟩
        | exact ⟨_, ⟨_, rfl⟩, Strs.nil _ _⟩
    · go_enter Tryz.func37, Tryz.ntmps37
      go_wp2_with fail
      refine (PrtS.spec_right a cap ps w HP.out).mono ?_
      rintro e w1 ⟨rfl, hB⟩
      rw [hr.out]
      have HB := hid hB
      clear hB
      go_wp2_with fail
      go_ret
      exact ⟨⟨_, _, rfl, Strs.nil _ _⟩, HB.out.alloc HB.out.size _⟩
  · rw [if_pos rfl]
    have h20 := (TexM.right_behind hr.out).1
    obtain ⟨F, hF⟩ : ∃ F, Hid (fold ps = F) := ⟨_, rfl⟩
    rw [hF.out]
    go_enter Tryz.func37, Tryz.ntmps37
    go_wp2_with fail
    refine (PrtS.spec_right a cap ps w HP.out).mono ?_
    rintro e w1 ⟨rfl, hB⟩
    rw [hr.out]
    have HB := hid hB
    have HP1 := hid (HP.out.on hB)
    clear hB
    go_wp2_with fail
    refine (spec_fields_in a cap ps w1 HP1.out h20).mono ?_
    rw [hF.out]
    rintro e w2 ⟨⟨b2, o2, cap2, rfl, hS2, -⟩, hB2⟩
    have HB2 : Hid (Below w.heap.size w w2) := HB.out.trans (hB2.mono HB.out.size)
    have HS2 := hid hS2
    clear hB2 hS2
    go_wp2_with fail
    go_ret
    exact ⟨⟨_, _, rfl, HS2.out⟩, HB2.out⟩
end Go.Proofs.YtecopedjjfimoaaGreatDoor.FldS
