/- Texts of ours, laid together: ErdOne, ErdBack, ErdRead. -/
import Derived.Test.YtecopedjjfimoaaGreatDoorBd37
import Derived.Test.YtecopedjjfimoaaGreatDoorBd32
import Derived.Test.YtecopedjjfimoaaGreatDoorBd9
import Derived.Test.YtecopedjjfimoaaGreatDoorBd28
/- The model's reader: an expression. -/
namespace Go.Proofs.YtecopedjjfimoaaGreatDoor.ErdS
open Go.RowKit
open PrtW
open FldK (Only only_trans)
open ErdM
open RdM (numM)

theorem one_len (T : List UInt8) : ∀ d n s, (one T d n s).1.length + 1 ≤ 2 ^ (d + 1) := by
  intro d
  induction d with
  | zero => intro n s; simp [one]
  | succ d ih =>
    intro n s
    have h2 : 2 ^ (d + 1 + 1) = 2 * 2 ^ (d + 1) := by rw [Nat.pow_succ]; omega
    have hp : 2 ≤ 2 ^ (d + 1) := by rw [Nat.pow_succ]; have := Nat.one_le_two_pow (n := d); omega
    unfold one
    split
    · simp; omega
    split
    · have := ih (n + 1) (overS s [33]); simp; omega
    split
    · simp; omega
    split
    · simp; omega
    split
    · have h3 := ih n (overS s [40])
      have h4 := ih (n + (one T d n (overS s [40])).1.length) (signFrom T (one T d n (overS s [40])).2 10).2
      simp; omega
    · simp; omega
theorem num_fit (l : List UInt8) : -9223372036854775808 ≤ numM l ∧ numM l ≤ 9223372036854775807 := by
  unfold numM
  have h1 := RdM.digs_lt 11 l.tail
  have h2 := RdM.digs_lt 11 l
  split <;> omega
theorem word_len (T : List UInt8) (s : St) : (wordL T s).length ≤ T.length := by
  unfold wordL
  have h1 : ((T.drop s.pos).takeWhile wordC).length ≤ (T.drop s.pos).length := List.Sublist.length_le (List.takeWhile_sublist _)
  rw [List.length_drop] at h1
  omega
theorem fit_mk {x m : Int} {u : ByteArray} (h1 : -9223372036854775808 ≤ x ∧ x ≤ 9223372036854775807) (h2 : -9223372036854775808 ≤ m ∧ m ≤ 9223372036854775807) (h3 : u.size ≤ 1048576) : Fit (x, m, u) := ⟨h1, h2, h3⟩
theorem nm_size (l : List UInt8) : (nm l).size = l.length := by unfold nm; rw [DecM.size_len]
theorem put_end (xs : List Pt) (p : Pt) : putL xs xs.length p = xs ++ [p] := by unfold putL; simp
theorem put_in (xs ys : List Pt) (p : Pt) : putL (xs ++ ys) xs.length p = xs ++ (p :: ys) := by unfold putL; simp

section
variable {T : List UInt8} {d n : Nat} {s : St}
theorem one_not (h0 : ¬ (20 < n ∨ s.bad = true)) (h1 : isB T s [33] = true) : one T (d + 1) n s = ((11, 0, ByteArray.empty) :: (one T d (n + 1) (overS s [33])).1, (one T d (n + 1) (overS s [33])).2) := by
  rw [one, if_neg h0, if_pos h1]
theorem one_has (h0 : ¬ (20 < n ∨ s.bad = true)) (h1 : isB T s [33] = false) (h2 : isB T s hasW = true) : one T (d + 1) n s = ([(12, numM (wordL T (mustS T (wordS T (overS s hasW)) [44])), nm (wordL T (overS s hasW)))], mustS T (wordS T (mustS T (wordS T (overS s hasW)) [44])) [41]) := by
  rw [one, if_neg h0, h1, if_neg (by decide), if_pos h2]
theorem one_known (h0 : ¬ (20 < n ∨ s.bad = true)) (h1 : isB T s [33] = false) (h2 : isB T s hasW = false) (h3 : isB T s knownW = true) : one T (d + 1) n s = ([(13, 0, nm (wordL T (overS s knownW)))], mustS T (wordS T (overS s knownW)) [41]) := by
  rw [one, if_neg h0, h1, if_neg (by decide), h2, if_neg (by decide), if_pos h3]
theorem one_two (h0 : ¬ (20 < n ∨ s.bad = true)) (h1 : isB T s [33] = false) (h2 : isB T s hasW = false) (h3 : isB T s knownW = false) (h4 : isB T s [40] = true) :
    one T (d + 1) n s = ((((signFrom T (one T d n (overS s [40])).2 10).1 : Int), 0, ByteArray.empty) :: ((one T d n (overS s [40])).1 ++ (one T d (n + (one T d n (overS s [40])).1.length) (signFrom T (one T d n (overS s [40])).2 10).2).1),
      mustS T (one T d (n + (one T d n (overS s [40])).1.length) (signFrom T (one T d n (overS s [40])).2 10).2).2 [41]) := by
  rw [one, if_neg h0, h1, if_neg (by decide), h2, if_neg (by decide), h3, if_neg (by decide), if_pos h4]
theorem one_word (h0 : ¬ (20 < n ∨ s.bad = true)) (h1 : isB T s [33] = false) (h2 : isB T s hasW = false) (h3 : isB T s knownW = false) (h4 : isB T s [40] = false) :
    one T (d + 1) n s = ([if NameW.nameB (nm (wordL T s)) = true then (2, 0, nm (wordL T s)) else (1, numM (wordL T s), ByteArray.empty)], wordS T s) := by
  rw [one, if_neg h0, h1, if_neg (by decide), h2, if_neg (by decide), h3, if_neg (by decide), h4, if_neg (by decide)]
end
theorem sign_le (T : List UInt8) (s : St) : ∀ k, (signFrom T s k).1 ≤ k := by
  intro k
  induction k with
  | zero => exact Nat.le_refl _
  | succ k ih =>
    unfold signFrom
    split
    · exact Nat.zero_le _
    · split
      · exact Nat.le_refl _
      · omega

set_option maxRecDepth 10000 in
set_option maxHeartbeats 6400000 in
theorem spec_one (R : Nat) (t : ByteArray) (ht : t.size ≤ 8000) : ∀ (d : Nat) (deep : Int), deep = 7 - (d : Int) → 1 ≤ deep → ∀ (xs : List Pt) (s : St) (w : World), RX w R t s xs → xs.length ≤ 500 →
    Calls Tryz.prog 80 #[.pointer (some ⟨R, 0, none⟩), .int .i64 deep] w fun e w' => e = .returned (.tuple #[]) ∧ RX w' R t (one t.data.toList d xs.length s).2 (xs ++ (one t.data.toList d xs.length s).1) ∧ Only w w' R := by
  intro d
  induction d with
  | zero =>
    intro deep hd h1 xs s w hX hl
    obtain rfl : deep = 7 := by omega
    have e : one t.data.toList 0 xs.length s = ([], ⟨s.pos, true⟩) := rfl
    rw [e]
    simp only [List.append_nil]
    obtain ⟨a, cap, hR⟩ := hX.rd
    obtain ⟨-, -, c2, c3, hf⟩ := hR.c
    have hf3 := hf 3
    have HO : Hid (Only w (w.setCell ⟨R, 3, none⟩ (.bool true)) R) := (Only.refl w R).set 3 (.bool true)
    have HX2 : Hid (RX (w.setCell ⟨R, 3, none⟩ (.bool true)) R t ⟨s.pos, true⟩ xs) := hX.step HO.out (fun a n cap h => h.setBad)
    clear hX hR hd h1 e hf
    go_enter Tryz.func80, Tryz.ntmps80
    go_wp2_with fail
    refine bodyPost_ret (results_none rfl _ _ _) rfl ?_
    exact ⟨rfl, HX2.out, HO.out⟩
  | succ d ih =>
    intro deep hd h1 xs s w hX hl
    have HI := hid ih
    have HD := hid hd
    have hd6 : decide (6 < deep) = false := by simp; omega
    have hdh : deep ≤ 6 := by omega
    obtain ⟨a, cap, hR⟩ := hX.rd
    obtain ⟨-, -, c2, c3, hf⟩ := hR.c
    have hf3 := hf 3
    have HX := hid hX
    clear ih hd hX hR hf
    by_cases hfail : 20 < xs.length ∨ s.bad = true
    · have e : one t.data.toList (d + 1) xs.length s = ([], ⟨s.pos, true⟩) := by unfold one; rw [if_pos hfail]
      rw [e]
      simp only [List.append_nil]
      have HO : Hid (Only w (w.setCell ⟨R, 3, none⟩ (.bool true)) R) := (Only.refl w R).set 3 (.bool true)
      have HX2 : Hid (RX (w.setCell ⟨R, 3, none⟩ (.bool true)) R t ⟨s.pos, true⟩ xs) := HX.out.step HO.out (fun a n cap h => h.setBad)
      clear HI HD HX e
      by_cases h20 : 20 < xs.length
      · go_enter Tryz.func80, Tryz.ntmps80
        go_wp2_with fail
        refine bodyPost_ret (results_none rfl _ _ _) rfl ?_
        exact ⟨rfl, HX2.out, HO.out⟩
      · have hb : s.bad = true := hfail.resolve_left h20
        rw [hb] at c3
        clear hfail hb
        go_enter Tryz.func80, Tryz.ntmps80
        go_wp2_with fail
        refine bodyPost_ret (results_none rfl _ _ _) rfl ?_
        exact ⟨rfl, HX2.out, HO.out⟩
    · have h20 : ¬ 20 < xs.length := fun h => hfail (.inl h)
      have hb : s.bad = false := by cases h : s.bad; rfl; exact absurd (.inr h) hfail
      rw [hb] at c3
      have hTl : t.data.toList.length ≤ 8000 := by rw [Array.length_toList]; exact ht
      obtain ⟨T, hT⟩ : ∃ T, t.data.toList = T := ⟨_, rfl⟩
      have HCI : Hid (∀ (W : ByteArray) (s : St) (xs : List Pt) (w : World), RX w R t s xs → W.size ≤ 20 → Calls Tryz.prog 111 #[.pointer (some ⟨R, 0, none⟩), .string W] w fun e w' => e = .returned (.bool (isB T s W.data.toList)) ∧ RX w' R t (isS T s W.data.toList) xs ∧ Only w w' R) := by
        rw [← hT]; exact fun W s xs w h hW => rx_is R t W s xs w h ht hW
      have HCM : Hid (∀ (W : ByteArray) (s : St) (xs : List Pt) (w : World), RX w R t s xs → W.size ≤ 20 → Calls Tryz.prog 114 #[.pointer (some ⟨R, 0, none⟩), .string W] w fun e w' => e = .returned (.tuple #[]) ∧ RX w' R t (mustS T s W.data.toList) xs ∧ Only w w' R) := by
        rw [← hT]; exact fun W s xs w h hW => rx_must R t W s xs w h ht hW
      have HCW : Hid (∀ (s : St) (xs : List Pt) (w : World), RX w R t s xs → Calls Tryz.prog 113 #[.pointer (some ⟨R, 0, none⟩)] w fun e w' => e = .returned (.string (nm (wordL T s))) ∧ RX w' R t (wordS T s) xs ∧ Only w w' R) := by
        rw [← hT]; exact fun s xs w h => rx_word R t s xs w h ht
      have HNM : Hid (∀ (W : ByteArray) (s : St) (xs : List Pt) (P : Nat) (w : World), RXn w R t s xs P → W.size ≤ 20 → Calls Tryz.prog 114 #[.pointer (some ⟨R, 0, none⟩), .string W] w fun e w' => e = .returned (.tuple #[]) ∧ RXn w' R t (mustS T s W.data.toList) xs P ∧ Only w w' R) := by
        rw [← hT]; exact fun W s xs P w h hW => rxn_must R t W s xs P w h ht hW
      have HNW : Hid (∀ (s : St) (xs : List Pt) (P : Nat) (w : World), RXn w R t s xs P → Calls Tryz.prog 113 #[.pointer (some ⟨R, 0, none⟩)] w fun e w' => e = .returned (.string (nm (wordL T s))) ∧ RXn w' R t (wordS T s) xs P ∧ Only w w' R) := by
        rw [← hT]; exact fun s xs P w h => rxn_word R t s xs P w h ht
      have HCS : Hid (∀ (s : St) (xs : List Pt) (w : World), RX w R t s xs → Calls Tryz.prog 115 #[.pointer (some ⟨R, 0, none⟩)] w fun e w' => e = .returned (.int .i64 (signFrom T s 10).1) ∧ RX w' R t (signFrom T s 10).2 xs ∧ Only w w' R) := by
        rw [← hT]; exact fun s xs w h => rx_sign R t s xs w h ht
      rw [hT] at hTl HI ⊢
      clear hT
      have HF := hid hfail
      clear hfail
      obtain ⟨q1, hq1⟩ : ∃ q, Hid (isB T s [33] = q) := ⟨_, rfl⟩
      cases q1
      · obtain ⟨q2, hq2⟩ : ∃ q, Hid (isB T s hasW = q) := ⟨_, rfl⟩
        cases q2
        · obtain ⟨q3, hq3⟩ : ∃ q, Hid (isB T s knownW = q) := ⟨_, rfl⟩
          cases q3
          · obtain ⟨q4, hq4⟩ : ∃ q, Hid (isB T s [40] = q) := ⟨_, rfl⟩
            cases q4
            · rw [one_word HF.out hq1.out hq2.out hq3.out hq4.out]
              simp only
              obtain ⟨M0, hM0⟩ : ∃ M, numM (wordL T s) = M := ⟨_, rfl⟩
              obtain ⟨N0, hN0⟩ : ∃ N, nm (wordL T s) = N := ⟨_, rfl⟩
              obtain ⟨b0, hb0⟩ : ∃ b, NameW.nameB (nm (wordL T s)) = b := ⟨_, rfl⟩
              have HM0 : Hid (numM N0.data.toList = M0) := by
                show _ = _
                rw [← hM0, ← hN0]; unfold nm; rw [DecM.data_mk]
              rw [hb0, hM0, hN0]
              rw [hN0] at hb0
              have HN0 := hid hN0
              have HB0 := hid hb0
              clear hN0 hM0 hb0
              have HX0 := HX
              have HO0 : Hid (Only w w R) := Only.refl _ _
              have w0e : w = w := rfl
              go_enter Tryz.func80, Tryz.ntmps80
              go_wp2_with fail
              clear w0e c2 c3 hf3
              refine (HCI.out ⟨#[33]⟩ s xs w HX0.out (by decide)).mono ?_
              rw [show (⟨#[33]⟩ : ByteArray).data.toList = [33] from rfl]
              unfold isS
              rw [hq1.out, if_neg (by decide)]
              rintro e w1 ⟨rfl, hX, hO⟩
              have HX1 := hid hX
              have HO1 : Hid (Only w w1 R) := hid (only_trans HO0.out hO HX0.out.lt)
              clear hX hO HX0 HO0
              go_wp2_with fail
              refine (HCI.out ⟨#[104, 97, 115, 40]⟩ s xs w1 HX1.out (by decide)).mono ?_
              rw [show (⟨#[104, 97, 115, 40]⟩ : ByteArray).data.toList = hasW from rfl]
              unfold isS
              rw [hq2.out, if_neg (by decide)]
              rintro e w2 ⟨rfl, hX, hO⟩
              have HX2 := hid hX
              have HO2 : Hid (Only w w2 R) := hid (only_trans HO1.out hO HX1.out.lt)
              clear hX hO HX1 HO1
              go_wp2_with fail
              refine (HCI.out ⟨#[107, 110, 111, 119, 110, 40]⟩ s xs w2 HX2.out (by decide)).mono ?_
              rw [show (⟨#[107, 110, 111, 119, 110, 40]⟩ : ByteArray).data.toList = knownW from rfl]
              unfold isS
              rw [hq3.out, if_neg (by decide)]
              rintro e w3 ⟨rfl, hX, hO⟩
              have HX3 := hid hX
              have HO3 : Hid (Only w w3 R) := hid (only_trans HO2.out hO HX2.out.lt)
              clear hX hO HX2 HO2
              go_wp2_with fail
              refine (HCI.out ⟨#[40]⟩ s xs w3 HX3.out (by decide)).mono ?_
              rw [show (⟨#[40]⟩ : ByteArray).data.toList = [40] from rfl]
              unfold isS
              rw [hq4.out, if_neg (by decide)]
              rintro e w4 ⟨rfl, hX, hO⟩
              have HX4 := hid hX
              have HO4 : Hid (Only w w4 R) := hid (only_trans HO3.out hO HX3.out.lt)
              clear hX hO HX3 HO3
              go_wp2_with fail
              have hwl := word_len T s
              have hN := HN0
              have hNs : N0.size ≤ 8000 := by rw [← hN.out, nm_size]; omega
              refine (HCW.out s xs w4 HX4.out).mono ?_
              rintro e w5 ⟨rfl, hX, hO⟩
              have HX5 := hid hX
              have HO5 : Hid (Only w w5 R) := hid (only_trans HO4.out hO HX4.out.lt)
              clear hX hO HX4 HO4
              rw [hN.out]
              go_wp2_with fail
              refine (NameW.spec_name N0 w5 (by unfold maxLen; omega)).mono ?_
              rintro e w6 ⟨rfl, rfl⟩
              cases b0
              · rw [HB0.out]
                go_wp2_with fail
                refine (RdS.num_in N0 w6 (by omega)).mono ?_
                rintro e w7 ⟨rfl, rfl⟩
                rw [HM0.out]
                go_wp2_with fail
                refine (rx_put R t (wordS T s) xs.length xs 1 M0 ByteArray.empty w7 HX5.out (by omega) (Nat.le_refl _) (fit_mk (by omega) (by rw [← HM0.out]; exact num_fit _) (by decide))).mono ?_
                rw [put_end]
                rintro e w8 ⟨rfl, hX, hO⟩
                have HX8 := hid hX
                have HO8 : Hid (Only w w8 R) := hid (only_trans HO5.out hO HX5.out.lt)
                clear hX hO HX5 HO5
                go_wp2_with fail
                refine bodyPost_end (results_none rfl _ _ _) rfl ?_
                exact ⟨rfl, HX8.out, HO8.out⟩
              · rw [HB0.out]
                go_wp2_with fail
                refine (rx_put R t (wordS T s) xs.length xs 2 0 N0 w6 HX5.out (by omega) (Nat.le_refl _) (fit_mk (by omega) (by omega) (by omega))).mono ?_
                rw [put_end]
                rintro e w8 ⟨rfl, hX, hO⟩
                have HX8 := hid hX
                have HO8 : Hid (Only w w8 R) := hid (only_trans HO5.out hO HX5.out.lt)
                clear hX hO HX5 HO5
                go_wp2_with fail
                refine bodyPost_end (results_none rfl _ _ _) rfl ?_
                exact ⟨rfl, HX8.out, HO8.out⟩
            · rw [one_two HF.out hq1.out hq2.out hq3.out hq4.out]
              simp only
              have hd5 : d + 1 ≤ 6 := by have := HD.out; omega
              have hpw : 2 ^ (d + 1) ≤ 64 := Nat.le_trans (Nat.pow_le_pow_right (by decide) hd5) (by decide)
              have hl1 := one_len T d xs.length (overS s [40])
              have hl2 := one_len T d (xs.length + (one T d xs.length (overS s [40])).1.length) (signFrom T (one T d xs.length (overS s [40])).2 10).2
              have hg10 := sign_le T (one T d xs.length (overS s [40])).2 10
              obtain ⟨r1, hr1⟩ : ∃ r, Hid (one T d xs.length (overS s [40]) = r) := ⟨_, rfl⟩
              rw [hr1.out] at hl1 hl2 hg10 ⊢
              obtain ⟨g, hg⟩ : ∃ g, Hid (signFrom T r1.2 10 = g) := ⟨_, rfl⟩
              rw [hg.out] at hl2 hg10 ⊢
              obtain ⟨r2, hr2⟩ : ∃ r, Hid (one T d (xs.length + r1.1.length) g.2 = r) := ⟨_, rfl⟩
              rw [hr2.out] at hl2 ⊢
              have hl1' : r1.1.length ≤ 63 := by omega
              have hl2' : r2.1.length ≤ 63 := by omega
              clear hpw hl1 hl2
              have HX0 := HX
              have HO0 : Hid (Only w w R) := Only.refl _ _
              have w0e : w = w := rfl
              go_enter Tryz.func80, Tryz.ntmps80
              go_wp2_with fail
              clear w0e c2 c3 hf3
              refine (HCI.out ⟨#[33]⟩ s xs w HX0.out (by decide)).mono ?_
              rw [show (⟨#[33]⟩ : ByteArray).data.toList = [33] from rfl]
              unfold isS
              rw [hq1.out, if_neg (by decide)]
              rintro e w1 ⟨rfl, hX, hO⟩
              have HX1 := hid hX
              have HO1 : Hid (Only w w1 R) := hid (only_trans HO0.out hO HX0.out.lt)
              clear hX hO HX0 HO0
              go_wp2_with fail
              refine (HCI.out ⟨#[104, 97, 115, 40]⟩ s xs w1 HX1.out (by decide)).mono ?_
              rw [show (⟨#[104, 97, 115, 40]⟩ : ByteArray).data.toList = hasW from rfl]
              unfold isS
              rw [hq2.out, if_neg (by decide)]
              rintro e w2 ⟨rfl, hX, hO⟩
              have HX2 := hid hX
              have HO2 : Hid (Only w w2 R) := hid (only_trans HO1.out hO HX1.out.lt)
              clear hX hO HX1 HO1
              go_wp2_with fail
              refine (HCI.out ⟨#[107, 110, 111, 119, 110, 40]⟩ s xs w2 HX2.out (by decide)).mono ?_
              rw [show (⟨#[107, 110, 111, 119, 110, 40]⟩ : ByteArray).data.toList = knownW from rfl]
              unfold isS
              rw [hq3.out, if_neg (by decide)]
              rintro e w3 ⟨rfl, hX, hO⟩
              have HX3 := hid hX
              have HO3 : Hid (Only w w3 R) := hid (only_trans HO2.out hO HX2.out.lt)
              clear hX hO HX2 HO2
              go_wp2_with fail
              refine (HCI.out ⟨#[40]⟩ s xs w3 HX3.out (by decide)).mono ?_
              rw [show (⟨#[40]⟩ : ByteArray).data.toList = [40] from rfl]
              unfold isS
              rw [hq4.out, if_pos rfl]
              rintro e w4 ⟨rfl, hX, hO⟩
              have HX4 := hid hX
              have HO4 : Hid (Only w w4 R) := hid (only_trans HO3.out hO HX3.out.lt)
              clear hX hO HX3 HO3
              go_wp2_with fail
              refine (HI.out (deep + 1) (by rw [HD.out]; push_cast; omega) (by omega) xs (overS s [40]) w4 HX4.out (by omega)).mono ?_
              rw [hr1.out]
              rintro e w5 ⟨rfl, hX, hO⟩
              have HX5 := hid hX
              have HO5 : Hid (Only w w5 R) := hid (only_trans HO4.out hO HX4.out.lt)
              clear hX hO HX4 HO4
              go_wp2_with fail
              refine (HCS.out r1.2 (xs ++ r1.1) w5 HX5.out).mono ?_
              rw [hg.out]
              rintro e w6 ⟨rfl, hX, hO⟩
              have HX6 := hid hX
              have HO6 : Hid (Only w w6 R) := hid (only_trans HO5.out hO HX5.out.lt)
              clear hX hO HX5 HO5
              go_wp2_with fail
              refine (HI.out (deep + 1) (by rw [HD.out]; push_cast; omega) (by omega) (xs ++ r1.1) g.2 w6 HX6.out (by rw [List.length_append]; omega)).mono ?_
              rw [List.length_append, hr2.out]
              rintro e w7 ⟨rfl, hX, hO⟩
              have HX7 := hid hX
              have HO7 : Hid (Only w w7 R) := hid (only_trans HO6.out hO HX6.out.lt)
              clear hX hO HX6 HO6
              go_wp2_with fail
              refine (HCM.out ⟨#[41]⟩ r2.2 (xs ++ r1.1 ++ r2.1) w7 HX7.out (by decide)).mono ?_
              rw [show (⟨#[41]⟩ : ByteArray).data.toList = [41] from rfl]
              rintro e w8 ⟨rfl, hX, hO⟩
              have HX8 := hid hX
              have HO8 : Hid (Only w w8 R) := hid (only_trans HO7.out hO HX7.out.lt)
              clear hX hO HX7 HO7
              go_wp2_with fail
              refine (rx_put R t (mustS T r2.2 [41]) xs.length (xs ++ r1.1 ++ r2.1) (g.1 : Int) 0 ByteArray.empty w8 HX8.out (by rw [List.length_append, List.length_append]; omega) (by rw [List.length_append, List.length_append]; omega) (fit_mk (by omega) (by omega) (by decide))).mono ?_
              rw [List.append_assoc, put_in]
              rintro e w9 ⟨rfl, hX, hO⟩
              have HX9 := hid hX
              have HO9 : Hid (Only w w9 R) := hid (only_trans HO8.out hO HX8.out.lt)
              clear hX hO HX8 HO8
              go_wp2_with fail
              refine bodyPost_end (results_none rfl _ _ _) rfl ?_
              exact ⟨rfl, HX9.out, HO9.out⟩
          · rw [one_known HF.out hq1.out hq2.out hq3.out]
            simp only
            obtain ⟨N0, hN0⟩ : ∃ N, nm (wordL T (overS s knownW)) = N := ⟨_, rfl⟩
            rw [hN0]
            have HN0 := hid hN0
            clear hN0
            have HX0 := HX
            have HO0 : Hid (Only w w R) := Only.refl _ _
            have w0e : w = w := rfl
            go_enter Tryz.func80, Tryz.ntmps80
            go_wp2_with fail
            clear w0e c2 c3 hf3
            refine (HCI.out ⟨#[33]⟩ s xs w HX0.out (by decide)).mono ?_
            rw [show (⟨#[33]⟩ : ByteArray).data.toList = [33] from rfl]
            unfold isS
            rw [hq1.out, if_neg (by decide)]
            rintro e w1 ⟨rfl, hX, hO⟩
            have HX1 := hid hX
            have HO1 : Hid (Only w w1 R) := hid (only_trans HO0.out hO HX0.out.lt)
            clear hX hO HX0 HO0
            go_wp2_with fail
            refine (HCI.out ⟨#[104, 97, 115, 40]⟩ s xs w1 HX1.out (by decide)).mono ?_
            rw [show (⟨#[104, 97, 115, 40]⟩ : ByteArray).data.toList = hasW from rfl]
            unfold isS
            rw [hq2.out, if_neg (by decide)]
            rintro e w2 ⟨rfl, hX, hO⟩
            have HX2 := hid hX
            have HO2 : Hid (Only w w2 R) := hid (only_trans HO1.out hO HX1.out.lt)
            clear hX hO HX1 HO1
            go_wp2_with fail
            refine (HCI.out ⟨#[107, 110, 111, 119, 110, 40]⟩ s xs w2 HX2.out (by decide)).mono ?_
            rw [show (⟨#[107, 110, 111, 119, 110, 40]⟩ : ByteArray).data.toList = knownW from rfl]
            unfold isS
            rw [hq3.out, if_pos rfl]
            rintro e w3 ⟨rfl, hX, hO⟩
            have HX3 := hid hX
            have HO3 : Hid (Only w w3 R) := hid (only_trans HO2.out hO HX2.out.lt)
            clear hX hO HX2 HO2
            go_wp2_with fail
            have hwl := word_len T (overS s knownW)
            have hN := HN0
            have hNs : N0.size ≤ 8000 := by rw [← hN.out, nm_size]; omega
            refine (HCW.out (overS s knownW) xs w3 HX3.out).mono ?_
            rintro e w4 ⟨rfl, hX, hO⟩
            have HX4 := hid hX
            have HO4 : Hid (Only w w4 R) := hid (only_trans HO3.out hO HX3.out.lt)
            clear hX hO HX3 HO3
            rw [hN.out]
            go_wp2_with fail
            refine (rx_put R t (wordS T (overS s knownW)) xs.length xs 13 0 N0 w4 HX4.out (by omega) (Nat.le_refl _) (fit_mk (by omega) (by omega) (by omega))).mono ?_
            rw [put_end]
            rintro e w5 ⟨rfl, hX, hO⟩
            have HX5 := hid hX
            have HO5 : Hid (Only w w5 R) := hid (only_trans HO4.out hO HX4.out.lt)
            clear hX hO HX4 HO4
            go_wp2_with fail
            refine (HCM.out ⟨#[41]⟩ (wordS T (overS s knownW)) (xs ++ [(13, 0, N0)]) w5 HX5.out (by decide)).mono ?_
            rw [show (⟨#[41]⟩ : ByteArray).data.toList = [41] from rfl]
            rintro e w6 ⟨rfl, hX, hO⟩
            have HX6 := hid hX
            have HO6 : Hid (Only w w6 R) := hid (only_trans HO5.out hO HX5.out.lt)
            clear hX hO HX5 HO5
            go_wp2_with fail
            refine bodyPost_end (results_none rfl _ _ _) rfl ?_
            exact ⟨rfl, HX6.out, HO6.out⟩
        · rw [one_has HF.out hq1.out hq2.out]
          simp only
          obtain ⟨s1, hs1⟩ : ∃ s1, Hid (overS s hasW = s1) := ⟨_, rfl⟩
          rw [hs1.out]
          have hwl1 := word_len T s1
          obtain ⟨N, hN⟩ : ∃ N, Hid (nm (wordL T s1) = N) := ⟨_, rfl⟩
          have hNs : N.size ≤ 8000 := by rw [← hN.out, nm_size]; omega
          rw [hN.out]
          obtain ⟨s2, hs2⟩ : ∃ s2, Hid (mustS T (wordS T s1) [44] = s2) := ⟨_, rfl⟩
          rw [hs2.out]
          have hwl2 := word_len T s2
          obtain ⟨M, hM⟩ : ∃ M, Hid (numM (wordL T s2) = M) := ⟨_, rfl⟩
          have hMf : -9223372036854775808 ≤ M ∧ M ≤ 9223372036854775807 := by rw [← hM.out]; exact num_fit _
          rw [hM.out]
          have HX0 := HX
          have HO0 : Hid (Only w w R) := Only.refl _ _
          go_enter Tryz.func80, Tryz.ntmps80
          go_wp2_with fail
          clear c2 c3 hf3
          refine (HCI.out ⟨#[33]⟩ s xs w HX0.out (by decide)).mono ?_
          rw [show (⟨#[33]⟩ : ByteArray).data.toList = [33] from rfl]
          unfold isS
          rw [hq1.out, if_neg (by decide)]
          rintro e w1 ⟨rfl, hX, hO⟩
          have HX1 := hid hX
          have HO1 : Hid (Only w w1 R) := hid (only_trans HO0.out hO HX0.out.lt)
          clear hX hO HX0 HO0
          go_wp2_with fail
          refine (HCI.out ⟨#[104, 97, 115, 40]⟩ s xs w1 HX1.out (by decide)).mono ?_
          rw [show (⟨#[104, 97, 115, 40]⟩ : ByteArray).data.toList = hasW from rfl]
          unfold isS
          rw [hq2.out, if_pos rfl]
          rintro e w2 ⟨rfl, hX, hO⟩
          have HX2 := hid hX
          have HO2 : Hid (Only w w2 R) := hid (only_trans HO1.out hO HX1.out.lt)
          clear hX hO HX1 HO1
          go_wp2_with fail
          rw [hs1.out] at HX2
          refine (HCW.out s1 xs w2 HX2.out).mono ?_
          rw [hN.out]
          rintro e w3 ⟨rfl, hX, hO⟩
          have HX3 := hid (hX.new (.cells #[.int .i64 12, .int .i64 0, .string N] 99))
          have HO3 : Hid (Only w (w3.alloc (.cells #[.int .i64 12, .int .i64 0, .string N] 99)) R) := hid ((only_trans HO2.out hO HX2.out.lt).on (below_one' w3 _))
          have hPR : w3.heap.size ≠ R := by have := hX.lt; omega
          have hPw : w.heap.size ≤ w3.heap.size := (only_trans HO2.out hO HX2.out.lt).size
          have hPl : w3.heap.size < (w3.alloc (.cells #[.int .i64 12, .int .i64 0, .string N] 99)).heap.size := by simp
          have p0 : (w3.alloc (.cells #[.int .i64 12, .int .i64 0, .string N] 99)).cell? ⟨w3.heap.size, 0, none⟩ = some (.int .i64 12) := by go_simp
          have p1 : (w3.alloc (.cells #[.int .i64 12, .int .i64 0, .string N] 99)).cell? ⟨w3.heap.size, 1, none⟩ = some (.int .i64 0) := by go_simp
          have p2 : (w3.alloc (.cells #[.int .i64 12, .int .i64 0, .string N] 99)).cell? ⟨w3.heap.size, 2, none⟩ = some (.string N) := by go_simp
          have pf : (w3.alloc (.cells #[.int .i64 12, .int .i64 0, .string N] 99)).frozen? ⟨w3.heap.size, 1, none⟩ = false := by go_simp
          clear hX hO HX2 HO2
          go_wp2_with fail
          generalize w3.alloc (.cells #[.int .i64 12, .int .i64 0, .string N] 99) = W3 at *
          generalize w3.heap.size = P at *
          refine (HNM.out ⟨#[44]⟩ (wordS T s1) xs P W3 HX3.out (by decide)).mono ?_
          rw [show (⟨#[44]⟩ : ByteArray).data.toList = [44] from rfl, hs2.out]
          rintro e w4 ⟨rfl, hX, hO⟩
          obtain ⟨ec, ef⟩ := only_cell hO hPl hPR
          rw [← ec] at p0 p1 p2
          rw [← ef] at pf
          have hPl4 : P < w4.heap.size := Nat.lt_of_lt_of_le hPl hO.size
          have HX4 := hid hX
          have HO4 : Hid (Only w w4 R) := hid (only_trans HO3.out hO HX3.out.rx.lt)
          clear hX hO HX3 HO3 ec ef
          go_wp2_with fail
          refine (HNW.out s2 xs P w4 HX4.out).mono ?_
          rintro e w5 ⟨rfl, hX, hO⟩
          obtain ⟨ec, ef⟩ := only_cell hO hPl4 hPR
          rw [← ec] at p0 p1 p2
          rw [← ef] at pf
          have hPl5 : P < w5.heap.size := Nat.lt_of_lt_of_le hPl4 hO.size
          have HX5 := hid hX
          have HO5 : Hid (Only w w5 R) := hid (only_trans HO4.out hO HX4.out.rx.lt)
          clear hX hO HX4 HO4 ec ef
          go_wp2_with fail
          refine (RdS.num_in (nm (wordL T s2)) w5 (by rw [nm_size]; omega)).mono ?_
          rw [show (nm (wordL T s2)).data.toList = wordL T s2 from DecM.data_mk _, hM.out]
          rintro e w6 ⟨rfl, rfl⟩
          have HX6 := hid (HX5.out.put hPR 1 (.int .i64 M))
          have HO6 := hid (Only.new HO5.out hPw 1 (.int .i64 M))
          have r0 : (w6.setCell ⟨P, 1, none⟩ (.int .i64 M)).cell? ⟨P, 0, none⟩ = some (.int .i64 12) := by go_simp
          have r1 : (w6.setCell ⟨P, 1, none⟩ (.int .i64 M)).cell? ⟨P, 1, none⟩ = some (.int .i64 M) := by go_simp
          have r2 : (w6.setCell ⟨P, 1, none⟩ (.int .i64 M)).cell? ⟨P, 2, none⟩ = some (.string N) := by go_simp
          have hPl6 : P < (w6.setCell ⟨P, 1, none⟩ (.int .i64 M)).heap.size := by simpa using hPl5
          clear HX5 HO5
          go_wp2_with fail
          clear p0 p1 p2 pf
          generalize w6.setCell ⟨P, 1, none⟩ (.int .i64 M) = W6 at *
          refine (HNM.out ⟨#[41]⟩ (wordS T s2) xs P W6 HX6.out (by decide)).mono ?_
          rw [show (⟨#[41]⟩ : ByteArray).data.toList = [41] from rfl]
          rintro e w7 ⟨rfl, hX, hO⟩
          obtain ⟨ec, ef⟩ := only_cell hO hPl6 hPR
          rw [← ec] at r0 r1 r2
          have HX7 := hid hX.rx
          have HO7 : Hid (Only w w7 R) := hid (only_trans HO6.out hO HX6.out.rx.lt)
          clear hX hO HX6 HO6 ec ef
          go_wp2_with fail
          refine (rx_put R t (mustS T (wordS T s2) [41]) xs.length xs 12 M N w7 HX7.out (by omega) (Nat.le_refl _) (fit_mk (by omega) hMf (by omega))).mono ?_
          rw [put_end]
          rintro e w8 ⟨rfl, hX, hO⟩
          have HX8 := hid hX
          have HO8 : Hid (Only w w8 R) := hid (only_trans HO7.out hO HX7.out.lt)
          clear hX hO HX7 HO7
          go_wp2_with fail
          refine bodyPost_end (results_none rfl _ _ _) rfl ?_
          exact ⟨rfl, HX8.out, HO8.out⟩
      · rw [one_not HF.out hq1.out]
        simp only
        have HX0 := HX
        have HO0 : Hid (Only w w R) := Only.refl _ _
        have w0e : w = w := rfl
        go_enter Tryz.func80, Tryz.ntmps80
        go_wp2_with fail
        clear w0e c2 c3 hf3
        refine (HCI.out ⟨#[33]⟩ s xs w HX0.out (by decide)).mono ?_
        rw [show (⟨#[33]⟩ : ByteArray).data.toList = [33] from rfl]
        unfold isS
        rw [hq1.out, if_pos rfl]
        rintro e w1 ⟨rfl, hX, hO⟩
        have HX1 := hid hX
        have HO1 : Hid (Only w w1 R) := hid (only_trans HO0.out hO HX0.out.lt)
        clear hX hO HX0 HO0
        go_wp2_with fail
        refine (rx_put R t (overS s [33]) xs.length xs 11 0 ByteArray.empty w1 HX1.out (by omega) (Nat.le_refl _) (fit_mk (by omega) (by omega) (by decide))).mono ?_
        rw [put_end]
        rintro e w2 ⟨rfl, hX, hO⟩
        have HX2 := hid hX
        have HO2 : Hid (Only w w2 R) := hid (only_trans HO1.out hO HX1.out.lt)
        clear hX hO HX1 HO1
        go_wp2_with fail
        refine (HI.out (deep + 1) (by rw [HD.out]; push_cast; omega) (by omega) (xs ++ [(11, 0, ByteArray.empty)]) (overS s [33]) w2 HX2.out (by simp; omega)).mono ?_
        rw [show (xs ++ [((11 : Int), (0 : Int), ByteArray.empty)]).length = xs.length + 1 by simp, List.append_assoc]
        rintro e w3 ⟨rfl, hX, hO⟩
        have HX3 := hid hX
        have HO3 : Hid (Only w w3 R) := hid (only_trans HO2.out hO HX2.out.lt)
        clear hX hO HX2 HO2
        go_wp2_with fail
        refine bodyPost_end (results_none rfl _ _ _) rfl ?_
        exact ⟨rfl, HX3.out, HO3.out⟩
end Go.Proofs.YtecopedjjfimoaaGreatDoor.ErdS
/- The model's reader gives a right expression back from its text; so no two right ones have one text. No walk is here. -/
namespace Go.Proofs.YtecopedjjfimoaaGreatDoor.ErdM
open Go.RowKit
open PrtW PrtM PrtI TexM DecM NameW
open RdM (numM)
open ErdS (one_not one_has one_known one_two one_word)

theorem behind_le {d : Nat} {l r : List Pt} (h : behind d l = some r) : r.length ≤ l.length := by
  have := txt_len d l r h; omega
/-- what may stand behind an expression -/
def stop (U : List UInt8) : Prop := U = [] ∨ ∃ c X, U = c :: X ∧ (c = 32 ∨ c = 41)
theorem is_yes {T W X : List UInt8} {p : Nat} (h : T.drop p = W ++ X) (hW : W ≠ []) : isB T ⟨p, false⟩ W = true := by
  have hl := congrArg List.length h
  simp only [List.length_drop, List.length_append] at hl
  have : 0 < W.length := List.length_pos_iff.2 hW
  unfold isB
  simp only [Bool.not_false, Bool.true_and, Bool.and_eq_true, decide_eq_true_eq]
  exact ⟨by omega, by rw [h, List.take_left]⟩
theorem is_no {T W Y : List UInt8} {p : Nat} (h : T.drop p = Y) (hn : ¬ W <+: Y) : isB T ⟨p, false⟩ W = false := by
  unfold isB
  simp only [Bool.not_false, Bool.true_and]
  rw [h, Bool.and_eq_false_iff]
  refine .inr (decide_eq_false fun e => hn ?_)
  rw [← e]; exact List.take_prefix _ _
theorem drop_over {T W X : List UInt8} {p : Nat} (h : T.drop p = W ++ X) : T.drop (p + W.length) = X := by
  rw [← List.drop_drop, h, List.drop_left]
theorem must_yes {T W X : List UInt8} {p : Nat} (h : T.drop p = W ++ X) (hW : W ≠ []) : mustS T ⟨p, false⟩ W = ⟨p + W.length, false⟩ := by
  unfold mustS; rw [if_pos (is_yes h hW)]; rfl
theorem take_word {w U : List UInt8} (hw : ∀ c ∈ w, wordC c = true) (hU : U = [] ∨ ∃ c X, U = c :: X ∧ wordC c = false) : (w ++ U).takeWhile wordC = w := by
  rw [List.takeWhile_append_of_pos hw]
  rcases hU with rfl | ⟨c, X, rfl, hc⟩
  · simp
  · rw [List.takeWhile_cons, hc]; simp
theorem stop_word {U : List UInt8} (h : stop U) : U = [] ∨ ∃ c X, U = c :: X ∧ wordC c = false := by
  rcases h with h | ⟨c, X, h, rfl | rfl⟩
  · exact .inl h
  · exact .inr ⟨_, X, h, by decide⟩
  · exact .inr ⟨_, X, h, by decide⟩
theorem word_is {T w U : List UInt8} {p : Nat} {b : Bool} (h : T.drop p = w ++ U) (hw : ∀ c ∈ w, wordC c = true) (hU : U = [] ∨ ∃ c X, U = c :: X ∧ wordC c = false) : wordL T ⟨p, b⟩ = w := by
  unfold wordL; simp only; rw [h]; exact take_word hw hU
theorem wordS_is {T w U : List UInt8} {p : Nat} {b : Bool} (h : T.drop p = w ++ U) (hw : ∀ c ∈ w, wordC c = true) (hU : U = [] ∨ ∃ c X, U = c :: X ∧ wordC c = false) : wordS T ⟨p, b⟩ = ⟨p + w.length, b⟩ := by
  unfold wordS; rw [word_is h hw hU]
/-- a word, and an opening bracket: not where a word ends at a blank, a closing bracket, or the end -/
theorem no_call {V w U : List UInt8} (hV : ∀ c ∈ V, wordC c = true) (hw : ∀ c ∈ w, wordC c = true) (hU : stop U) : ¬ (V ++ [40]) <+: w ++ U := by
  rintro ⟨X, h⟩
  have h1 : (V ++ [40] ++ X).takeWhile wordC = V := by
    rw [List.append_assoc]; exact take_word hV (.inr ⟨40, X, rfl, by decide⟩)
  have h2 := take_word hw (stop_word hU)
  rw [← h, h1] at h2
  subst h2
  rw [List.append_assoc] at h
  have h3 := List.append_cancel_left h
  rcases hU with rfl | ⟨c, Y, rfl, hc⟩
  · cases h3
  · have : (40 : UInt8) = c := by injection h3
    subst this
    rcases hc with hc | hc <;> exact absurd hc (by decide)
theorem name_bytes {t : ByteArray} (h : nameB t = true) : (∀ c ∈ t.data.toList, wordC c = true) ∧ ∃ c r, t.data.toList = c :: r ∧ 97 ≤ c.toNat ∧ c.toNat ≤ 122 := by
  unfold nameB at h
  rw [decide_eq_true_iff] at h
  obtain ⟨h1, h2, h3⟩ := h
  have hget : ∀ k (hk : k < t.size), t[k] = t.data.toList[k]'(by rw [size_len] at hk; exact hk) := fun k hk => by rw [Array.getElem_toList]; rfl
  constructor
  · intro c hc
    obtain ⟨k, hk, rfl⟩ := List.getElem_of_mem hc
    have hk' : k < t.size := by rw [size_len]; exact hk
    have := h3 k hk'
    unfold okAt at this
    rw [dif_pos hk', hget k hk'] at this
    unfold wordC
    rw [decide_eq_true_iff]
    split at this
    · unfold isL at this; rw [decide_eq_true_iff] at this; exact .inl this
    · unfold isO at this; rw [decide_eq_true_iff] at this; omega
  · have := h3 0 (by omega)
    unfold okAt at this
    rw [dif_pos (by omega), if_pos rfl, hget 0 (by omega)] at this
    unfold isL at this; rw [decide_eq_true_iff] at this
    cases e : t.data.toList with
    | nil => rw [size_len, e] at h1; exact absurd h1 (by decide)
    | cons c r => simp only [e, List.getElem_cons_zero] at this; exact ⟨c, r, rfl, this⟩
theorem dec_word (m : Nat) : ∀ c ∈ Lib.decDigits m, wordC c = true := fun c hc => by
  have := RdM.dec_all m c hc
  unfold wordC; rw [decide_eq_true_iff]; omega
theorem itoa_word (n : Int) : ∀ c ∈ Lib.itoa n, wordC c = true := fun c hc => by
  by_cases h : n < 0
  · rw [itoa_neg h] at hc
    rcases List.mem_cons.1 hc with rfl | hc
    · decide
    · exact dec_word _ c hc
  · rw [itoa_pos (by omega)] at hc; exact dec_word _ c hc
theorem itoa_noname (n : Int) : nameB (nm (Lib.itoa n)) = false := by
  cases h : nameB (nm (Lib.itoa n)) with
  | false => rfl
  | true =>
    obtain ⟨_, c, r, e, h1, h2⟩ := name_bytes h
    obtain ⟨c', r', e', h'⟩ := RdM.itoa_cons n
    unfold nm at e
    rw [data_mk, e'] at e
    have : c' = c := by injection e
    subst this
    rcases h' with rfl | h'
    · exact absurd h1 (by decide)
    · omega
theorem nm_back (t : ByteArray) : nm t.data.toList = t := mk_data t
theorem no_first {c : UInt8} {W Y : List UInt8} {b : UInt8} (h : b ≠ c) : ¬ (b :: W) <+: (c :: Y) := by
  rw [List.cons_prefix_cons]; exact fun h' => h h'.1
theorem sign_is {T X : List UInt8} {p k : Nat} (h1 : 3 ≤ k) (h2 : k ≤ 10) (h : T.drop p = blankL k ++ X) : signFrom T ⟨p, false⟩ 10 = (k, ⟨p + (blankL k).length, false⟩) := by
  have hy := is_yes h (by unfold blankL; simp)
  have hn : ∀ j, 3 ≤ j → j ≤ 10 → k < j → isB T ⟨p, false⟩ (blankL j) = false := fun j h3 h4 h5 => is_no h (by
    rcases (by omega : k = 3 ∨ k = 4 ∨ k = 5 ∨ k = 6 ∨ k = 7 ∨ k = 8 ∨ k = 9) with rfl | rfl | rfl | rfl | rfl | rfl | rfl <;>
    rcases (by omega : j = 4 ∨ j = 5 ∨ j = 6 ∨ j = 7 ∨ j = 8 ∨ j = 9 ∨ j = 10) with rfl | rfl | rfl | rfl | rfl | rfl | rfl <;>
    first
      | omega
      | (simp [blankL, signL]))
  have hs : ∀ m, k ≤ m → m ≤ 10 → signFrom T ⟨p, false⟩ m = (k, ⟨p + (blankL k).length, false⟩) := by
    intro m
    induction m with
    | zero => intro h; omega
    | succ m ih =>
      intro h3 h4
      rw [signFrom, if_neg (by omega)]
      by_cases e : k = m + 1
      · subst e; rw [if_pos hy]; rfl
      · rw [hn (m + 1) (by omega) (by omega) (by omega), if_neg (by decide)]; exact ih (by omega) (by omega)
  exact hs 10 h2 (Nat.le_refl _)

theorem part_cut {x n : Int} {t : ByteArray} (h : partB (x, n, t) = true) :
    (x = 1 ∧ t = ByteArray.empty) ∨ ((x = 2 ∨ x = 13) ∧ n = 0 ∧ nameB t = true) ∨ (x = 12 ∧ 1 ≤ n ∧ n ≤ 20 ∧ nameB t = true) ∨ (3 ≤ x ∧ x ≤ 11 ∧ n = 0 ∧ t = ByteArray.empty) := by
  unfold partB at h
  simp only at h
  split at h
  · exact .inl ⟨by assumption, (BytM.isEmpty_iff t).1 (Bool.and_eq_true_iff.1 h).2⟩
  · split at h
    · have h' := Bool.and_eq_true_iff.1 h
      have := inB_iff.1 h'.1
      exact .inr (.inl ⟨by assumption, by omega, h'.2⟩)
    · split at h
      · have h' := Bool.and_eq_true_iff.1 h
        have := inB_iff.1 h'.1
        exact .inr (.inr (.inl ⟨by assumption, this.1, this.2, h'.2⟩))
      · have h' := Bool.and_eq_true_iff.1 h
        have h'' := Bool.and_eq_true_iff.1 h'.2
        have := inB_iff.1 h'.1
        have := inB_iff.1 h''.1
        exact .inr (.inr (.inr ⟨by omega, by omega, by omega, (BytM.isEmpty_iff t).1 h''.2⟩))

set_option maxHeartbeats 1000000 in
/-- what is read of a text that begins with an expression's is that expression -/
theorem one_back (T : List UInt8) : ∀ (d : Nat) (l r : List Pt), behind d l = some r → ∀ (p n : Nat) (U : List UInt8), T.drop p = txt d l ++ U → stop U → n + l.length ≤ 20 + r.length →
    ∃ ps, l = ps ++ r ∧ one T d n ⟨p, false⟩ = (ps, ⟨p + (txt d l).length, false⟩) := by
  intro d
  induction d with
  | zero => intro l r h; cases h
  | succ d ih =>
    intro l r h p n U hT hU hn
    cases l with
    | nil => cases h
    | cons q l =>
      obtain ⟨x, m, t⟩ := q
      obtain ⟨hp, hc⟩ := behind_cases h
      have hlen : r.length ≤ l.length := by
        rcases hc with ⟨_, rfl⟩ | ⟨_, h1⟩ | ⟨_, r1, h1, h2⟩
        · exact Nat.le_refl _
        · exact behind_le h1
        · exact Nat.le_trans (behind_le h2) (behind_le h1)
      have h0 : ¬ (20 < n ∨ (⟨p, false⟩ : St).bad = true) := by simp at hn ⊢; omega
      have hcut := part_cut hp
      rw [txt_succ] at hT ⊢
      simp only at hT ⊢
      rcases hc with ⟨hm, rfl⟩ | ⟨hm, h1⟩ | ⟨hm, r1, h1, h2⟩
      · have hop := leaf_op hp hm
        simp only at hop hm
        rw [if_pos hm] at hT ⊢
        rcases hop with rfl | rfl | rfl | rfl
        · have ht : t = ByteArray.empty := by rcases hcut with h | h | h | h <;> simp_all
          subst ht
          have hb := part_num hp
          have e : leafL (1, m, ByteArray.empty) = Lib.itoa m := rfl
          rw [e] at hT ⊢
          obtain ⟨c, rr, ec, hcc⟩ := RdM.itoa_cons m
          have hT' := hT
          rw [ec, List.cons_append] at hT'
          have hne : ∀ b : UInt8, b.toNat ≠ 45 → (b.toNat < 48 ∨ 57 < b.toNat) → b ≠ c := fun b h1 h2 hb => by
            subst hb; rcases hcc with rfl | hcc
            · exact h1 rfl
            · omega
          refine ⟨[(1, m, ByteArray.empty)], rfl, ?_⟩
          rw [one_word h0 (is_no hT' (no_first (hne _ (by decide) (by decide)))) (is_no hT' (no_first (hne _ (by decide) (by decide)))) (is_no hT' (no_first (hne _ (by decide) (by decide)))) (is_no hT' (no_first (hne _ (by decide) (by decide))))]
          rw [word_is hT (itoa_word m) (stop_word hU), wordS_is hT (itoa_word m) (stop_word hU), itoa_noname, if_neg (by decide), RdM.numM_itoa (by omega) (by omega)]
        · have ht : m = 0 ∧ nameB t = true := by rcases hcut with h | h | h | h <;> simp_all
          obtain ⟨rfl, ht⟩ := ht
          have e : leafL (2, 0, t) = t.data.toList := rfl
          rw [e] at hT ⊢
          obtain ⟨hw, c, rr, ec, hc1, hc2⟩ := name_bytes ht
          have hT' := hT
          rw [ec, List.cons_append] at hT'
          have hne : ∀ b : UInt8, b.toNat < 97 → b ≠ c := fun b h1 hb => by subst hb; omega
          refine ⟨[(2, 0, t)], rfl, ?_⟩
          rw [one_word h0 (is_no hT' (no_first (hne _ (by decide)))) (is_no hT (no_call (V := [104, 97, 115]) (by decide) hw hU)) (is_no hT (no_call (V := [107, 110, 111, 119, 110]) (by decide) hw hU)) (is_no hT' (no_first (hne _ (by decide))))]
          rw [word_is hT hw (stop_word hU), wordS_is hT hw (stop_word hU), nm_back, if_pos ht]
        · have ht : 1 ≤ m ∧ m ≤ 20 ∧ nameB t = true := by rcases hcut with h | h | h | h <;> simp_all
          obtain ⟨hm1, hm2, ht⟩ := ht
          have e : leafL (12, m, t) = hasW ++ (t.data.toList ++ 44 :: (Lib.decDigits m.toNat ++ [41])) := rfl
          rw [e] at hT ⊢
          obtain ⟨hw, -⟩ := name_bytes ht
          have hT0 : T.drop p = hasW ++ (t.data.toList ++ ([44] ++ (Lib.decDigits m.toNat ++ ([41] ++ U)))) := by rw [hT]; simp
          have hT1 := drop_over hT0
          have hT2 := drop_over hT1
          have hT3 := drop_over hT2
          have hT4 := drop_over hT3
          have e44 : ([44] ++ (Lib.decDigits m.toNat ++ ([41] ++ U)) : List UInt8) = [] ∨ ∃ c X, ([44] ++ (Lib.decDigits m.toNat ++ ([41] ++ U)) : List UInt8) = c :: X ∧ wordC c = false := .inr ⟨44, _, rfl, by decide⟩
          have e41 : ([41] ++ U : List UInt8) = [] ∨ ∃ c X, ([41] ++ U : List UInt8) = c :: X ∧ wordC c = false := .inr ⟨41, _, rfl, by decide⟩
          refine ⟨[(12, m, t)], rfl, ?_⟩
          rw [one_has h0 (is_no hT0 (no_first (by decide))) (is_yes hT0 (by decide))]
          rw [show overS ⟨p, false⟩ hasW = ⟨p + hasW.length, false⟩ from rfl]
          rw [word_is hT1 hw e44, wordS_is hT1 hw e44, must_yes hT2 (by decide), word_is hT3 (dec_word _) e41, wordS_is hT3 (dec_word _) e41, must_yes hT4 (by decide), nm_back, RdM.numM_dec _ (by omega)]
          rw [show ((m.toNat : Nat) : Int) = m by omega]
          simp [Nat.add_assoc, Nat.add_comm, Nat.add_left_comm]
        · have ht : m = 0 ∧ nameB t = true := by rcases hcut with h | h | h | h <;> simp_all
          obtain ⟨rfl, ht⟩ := ht
          have e : leafL (13, 0, t) = knownW ++ (t.data.toList ++ [41]) := rfl
          rw [e] at hT ⊢
          obtain ⟨hw, -⟩ := name_bytes ht
          have hT0 : T.drop p = knownW ++ (t.data.toList ++ ([41] ++ U)) := by rw [hT]; simp
          have hT1 := drop_over hT0
          have hT2 := drop_over hT1
          have e41 : ([41] ++ U : List UInt8) = [] ∨ ∃ c X, ([41] ++ U : List UInt8) = c :: X ∧ wordC c = false := .inr ⟨41, _, rfl, by decide⟩
          refine ⟨[(13, 0, t)], rfl, ?_⟩
          rw [one_known h0 (is_no hT0 (no_first (by decide))) (is_no hT0 (no_first (by decide))) (is_yes hT0 (by decide))]
          rw [show overS ⟨p, false⟩ knownW = ⟨p + knownW.length, false⟩ from rfl]
          rw [word_is hT1 hw e41, wordS_is hT1 hw e41, must_yes hT2 (by decide), nm_back]
          simp [Nat.add_assoc, Nat.add_comm, Nat.add_left_comm]
      · simp only at hm
        obtain rfl := many_one hm
        have ht : m = 0 ∧ t = ByteArray.empty := by rcases hcut with h | h | h | h <;> simp_all
        obtain ⟨rfl, rfl⟩ := ht
        rw [if_neg (by rw [hm]; decide), if_pos hm] at hT ⊢
        have hT0 : T.drop p = [33] ++ (txt d l ++ U) := by rw [hT]; simp
        obtain ⟨ps, e, ho⟩ := ih l r h1 (p + 1) (n + 1) U (drop_over hT0) hU (by simp at hn; omega)
        refine ⟨(11, 0, ByteArray.empty) :: ps, by rw [e]; rfl, ?_⟩
        rw [one_not h0 (is_yes hT0 (by decide))]
        rw [show overS ⟨p, false⟩ [33] = ⟨p + 1, false⟩ from rfl, ho]
        simp [Nat.add_assoc, Nat.add_comm]
      · simp only at hm
        have hx := many_two hm
        have ht : m = 0 ∧ t = ByteArray.empty := by
          rcases hcut with h | h | h | h
          · omega
          · omega
          · omega
          · exact h.2.2
        obtain ⟨rfl, rfl⟩ := ht
        rw [if_neg (by rw [hm]; decide), if_neg (by rw [hm]; decide)] at hT ⊢
        have er : rest d l = r1 := by unfold rest; rw [h1]; rfl
        rw [er] at hT ⊢
        have hT0 : T.drop p = [40] ++ (txt d l ++ (blankL x.toNat ++ (txt d r1 ++ ([41] ++ U)))) := by rw [hT]; unfold blankL; simp
        have hT1 : T.drop (p + 1) = _ := drop_over hT0
        have hl1 := behind_le h1
        have hl2 := behind_le h2
        simp only [List.length_cons] at hn
        obtain ⟨ps1, e1, ho1⟩ := ih l r1 h1 (p + 1) n _ hT1 (.inr ⟨32, _, rfl, .inl rfl⟩) (by omega)
        have hT2 := drop_over hT1
        have hT3 := drop_over hT2
        have el1 : l.length = ps1.length + r1.length := by rw [e1]; simp
        obtain ⟨ps2, e2, ho2⟩ := ih r1 r h2 _ (n + ps1.length) _ hT3 (.inr ⟨41, _, rfl, .inr rfl⟩) (by omega)
        have hT4 := drop_over hT3
        refine ⟨(x, 0, ByteArray.empty) :: (ps1 ++ ps2), by rw [e1, e2]; simp, ?_⟩
        rw [one_two h0 (is_no hT0 (no_first (by decide))) (is_no hT0 (no_first (by decide))) (is_no hT0 (no_first (by decide))) (is_yes hT0 (by decide))]
        rw [show overS ⟨p, false⟩ [40] = ⟨p + 1, false⟩ from rfl, ho1]
        simp only
        rw [sign_is (k := x.toNat) (by omega) (by omega) hT2]
        simp only
        rw [ho2]
        simp only
        rw [must_yes hT4 (by decide), show ((x.toNat : Nat) : Int) = x by omega]
        simp [blankL, Nat.add_assoc, Nat.add_comm, Nat.add_left_comm]

theorem right_back {ps : List Pt} (h : rightB ps = true) : one (txt 6 ps) 6 0 ⟨0, false⟩ = (ps, ⟨(txt 6 ps).length, false⟩) := by
  obtain ⟨h1, h2⟩ := right_behind h
  obtain ⟨qs, e, ho⟩ := one_back (txt 6 ps) 6 ps [] h2 0 0 [] (by simp) (.inl rfl) (by simp; omega)
  rw [List.append_nil] at e
  rw [ho, ← e, Nat.zero_add]
theorem text_inj {ps qs : List Pt} (h : rightB ps = true) (h' : rightB qs = true) (e : textB ps = textB qs) : ps = qs := by
  unfold textB at e
  rw [if_pos h, if_pos h'] at e
  have e' : txt 6 ps = txt 6 qs := by
    have := congrArg (fun b : ByteArray => b.data.toList) e
    simpa using this
  have a := right_back h
  rw [e', right_back h'] at a
  injection a with a _
  exact a.symm
end Go.Proofs.YtecopedjjfimoaaGreatDoor.ErdM
/- ExprRead of the model; and what both readings answer, as one relation of the text. -/
namespace Go.Proofs.YtecopedjjfimoaaGreatDoor.ErdS
open Go.RowKit
open PrtW PrtM TexM DecM
open FldK (Only only_trans)
open ErdM

/-- an expression with a code, as a value -/
abbrev oe (a : Option Addr) (len cap : Nat) (c : Int) : Value := .agg #[.slice a len cap, .int .i64 c]
def Reads (u : ByteArray) (ps : List Pt) (c : Int) : Prop :=
  (8000 < u.size ∧ ps = [] ∧ c = 2) ∨ (u.size ≤ 8000 ∧ rightB ps = true ∧ u = textB ps ∧ c = 0) ∨ (u.size ≤ 8000 ∧ ps = [] ∧ c = 3 ∧ ∀ qs, rightB qs = true → u ≠ textB qs)
theorem reads_same {u : ByteArray} {ps qs : List Pt} {c c' : Int} (h : Reads u ps c) (h' : Reads u qs c') : ps = qs ∧ c = c' := by
  rcases h with ⟨a, rfl, rfl⟩ | ⟨a, b1, b2, rfl⟩ | ⟨a, rfl, rfl, b3⟩ <;> rcases h' with ⟨a', rfl, rfl⟩ | ⟨a', b1', b2', rfl⟩ | ⟨a', rfl, rfl, b3'⟩
  · exact ⟨rfl, rfl⟩
  · omega
  · omega
  · omega
  · exact ⟨text_inj b1 b1' (b2.symm.trans b2'), rfl⟩
  · exact absurd b2 (b3' _ b1)
  · omega
  · exact absurd b2' (b3 _ b1')
  · exact ⟨rfl, rfl⟩
theorem reads_len {u : ByteArray} {ps : List Pt} {c : Int} (h : Reads u ps c) : ps.length ≤ 20 := by
  rcases h with ⟨_, rfl, _⟩ | ⟨_, h, _⟩ | ⟨_, rfl, _⟩
  · exact Nat.zero_le _
  · exact (right_behind h).1
  · exact Nat.zero_le _
theorem text_data {qs : List Pt} (h : rightB qs = true) : (textB qs).data.toList = txt 6 qs := by
  unfold textB; rw [if_pos h, data_mk]
theorem one_text {u : ByteArray} {qs : List Pt} (h : rightB qs = true) (e : u = textB qs) : one u.data.toList 6 0 ⟨0, false⟩ = (qs, ⟨(txt 6 qs).length, false⟩) := by
  rw [e, text_data h]; exact right_back h
theorem nought : rightB [(1, 0, ByteArray.empty)] = true := by
  have e : partB (1, 0, ByteArray.empty) = true := by
    show (inB 0 (-1000000) 1000000 && emptyB ByteArray.empty) = true
    rw [show emptyB ByteArray.empty = true from (BytM.isEmpty_iff _).2 rfl]; decide
  have e2 : behind 6 [(1, 0, ByteArray.empty)] = some [] := by rw [behind_succ, if_pos e]; rfl
  unfold rightB
  rw [e2]; decide
theorem one_none : (one [] 6 0 ⟨0, false⟩).1 = [(1, 0, ByteArray.empty)] := by decide
/-- what the reader has found, held against the text -/
theorem reads_bad {u : ByteArray} (hs : u.size ≤ 8000) (h : (one u.data.toList 6 0 ⟨0, false⟩).2.bad = true) : Reads u [] 3 :=
  .inr (.inr ⟨hs, rfl, rfl, fun qs hq e => by rw [one_text hq e] at h; cases h⟩)
theorem reads_other {u : ByteArray} {ps : List Pt} (hs : u.size ≤ 8000) (h : (one u.data.toList 6 0 ⟨0, false⟩).1 = ps) (hn : textB ps ≠ u) : Reads u [] 3 :=
  .inr (.inr ⟨hs, rfl, rfl, fun qs hq e => by rw [one_text hq e] at h; simp only at h; subst h; exact hn e.symm⟩)
theorem reads_that {u : ByteArray} {ps : List Pt} (hs : u.size ≤ 8000) (h : (one u.data.toList 6 0 ⟨0, false⟩).1 = ps) (hn : textB ps = u) : Reads u ps 0 := by
  refine .inr (.inl ⟨hs, ?_, hn.symm, rfl⟩)
  cases hr : rightB ps with
  | true => rfl
  | false =>
    have e : u = ByteArray.empty := by rw [← hn]; unfold textB; rw [if_neg (by rw [hr]; decide)]
    rw [e, show ByteArray.empty.data.toList = [] from rfl, one_none] at h
    rw [← h, nought] at hr; cases hr

theorem zero2 {w : World} {b : Nat} {T : TypeId} (h : w.heap[b]? = some (.cells #[.slice none 0 0, .int .i64 0] T (0, 0))) :
    w.cell? ⟨b, 0, none⟩ = some (.slice none 0 0) ∧ w.cell? ⟨b, 1, none⟩ = some (.int .i64 0) ∧ ∀ j, w.frozen? ⟨b, j, none⟩ = false :=
  ⟨by simp [World.cell?, h], by simp [World.cell?, h], fun j => by simp [World.frozen?, h]⟩
theorem parts_off {w : World} {a : Option Addr} {ps : List Pt} (h : Parts w a ps) {b j : Nat} (hne : ∀ g o, a = some ⟨g, o, none⟩ → 0 < ps.length → g ≠ b) (v : Value) : Parts (w.setCell ⟨b, j, none⟩ v) a ps := by
  refine ⟨h.1, h.2.1, fun hp => ?_⟩
  obtain ⟨g, o, ha, hb, hc⟩ := h.2.2 hp
  have hg := hne g o ha hp
  have e : ∀ i, (w.setCell ⟨b, j, none⟩ v).cell? ⟨g, i, none⟩ = w.cell? ⟨g, i, none⟩ := fun i => World.cell?_of_block (w := w) (Below.heap_setCell _ _ _ _ hg)
  exact ⟨g, o, ha, by simpa using hb, fun i hi => by rw [e, e, e]; exact hc i hi⟩

theorem spec_read_big (s : ByteArray) (w : World) (hs : 8000 < s.size) (hm : s.size ≤ maxLen) :
    Calls Tryz.prog 39 #[.string s] w fun e w' => e = .returned (oe none 0 0 2) ∧ Below w.heap.size w w' := by
  unfold maxLen at hm
  go_enter Tryz.func39, Tryz.ntmps39
  go_wp2
  refine bodyPost_ret (v := oe none 0 0 2) (by simp [results, Tryz.results39, go_sem]) rfl ⟨rfl, ?_⟩
  go_grown

set_option maxHeartbeats 1000000 in
theorem spec_read (s : ByteArray) (w : World) (hm : s.size ≤ maxLen) :
    Calls Tryz.prog 39 #[.string s] w fun e w' => ∃ ps a cap c, e = .returned (oe a ps.length cap c) ∧ Below w.heap.size w w' ∧ Parts w' a ps ∧ Reads s ps c := by
  by_cases hs : s.size ≤ 8000
  case neg => exact (spec_read_big s w (by omega) hm).mono fun e w' h => ⟨[], none, 0, 2, h.1, h.2, Parts.nil _ _, .inl ⟨by omega, rfl, rfl⟩⟩
  have HS := hid hs
  clear hm
  go_enter Tryz.func39, Tryz.ntmps39
  go_wp2_with fail
  have hX0 : RX ((w.alloc (.cells #[.slice none 0 0, .int .i64 0] 44)).alloc (.cells #[.string s, .int .i64 0, .slice none 0 0, .bool false] 105)) (w.heap.size + 1) s ⟨0, false⟩ [] :=
    .inl ⟨rfl, ⟨by have := heap_alloc_new (w.alloc (.cells #[.slice none 0 0, .int .i64 0] 44)) (.cells #[.string s, .int .i64 0, .slice none 0 0, .bool false] 105); rw [World.size_alloc] at this; exact this, Nat.zero_le _⟩⟩
  refine (spec_one (w.heap.size + 1) s hs 6 1 (by decide) (by decide) [] ⟨0, false⟩ _ hX0 (by simp)).mono ?_
  rintro e w1 ⟨rfl, hX1, hO1⟩
  rw [List.nil_append] at hX1
  obtain ⟨ps, hps⟩ : ∃ ps, Hid ((one s.data.toList 6 0 ⟨0, false⟩).1 = ps) := ⟨_, rfl⟩
  obtain ⟨st, hst⟩ : ∃ st, Hid ((one s.data.toList 6 0 ⟨0, false⟩).2 = st) := ⟨_, rfl⟩
  rw [show (([] : List Pt).length) = 0 from rfl, hps.out, hst.out] at hX1
  have hZ : w1.heap[w.heap.size]? = some (.cells #[.slice none 0 0, .int .i64 0] 44 (0, 0)) := by
    rw [hO1.block _ (by simp; omega) (fun e => by have := Option.some.inj e; omega), Below.heap_alloc _ _ _ (by simp)]; exact heap_alloc_new w _
  have HB1 : Hid (Below w.heap.size w w1) := ((TexS.below_one w _).trans ((TexS.below_one _ _).mono (by simp))).trans (hO1.below (by omega) (by simp; omega))
  have key : ∃ a cap, Rd w1 (w.heap.size + 1) s st a ps.length cap ∧ Parts w1 a ps ∧ (∀ g o, a = some ⟨g, o, none⟩ → 0 < ps.length → g ≠ w.heap.size) := by
    rcases hX1 with ⟨rfl, h⟩ | ⟨g, o, cap, h, hp, _⟩
    · exact ⟨none, 0, h, Parts.nil _ _, fun g o e => by cases e⟩
    · refine ⟨_, cap, h, hp, fun g' o' e hl e2 => ?_⟩
      cases e
      obtain ⟨b, o1, ha, hb, hc⟩ := hp.2.2 hl
      cases ha
      have := (hc 0 hl).2.2
      subst e2
      simp [World.cell?, hZ] at this
  obtain ⟨a, cap, hR, hP, hne⟩ := key
  have HNE := hid hne
  have HP := hid hP
  have HZ := hid hZ
  have HR := hid hR
  have hsz := hR.lt
  obtain ⟨-, -, c2, c3, -⟩ := hR.c
  obtain ⟨p, bad⟩ := st
  simp only at c3
  clear hX1 hX0 hO1 hne hP hZ hR
  cases bad
  · obtain ⟨x, hx⟩ : ∃ x, Hid (textB ps = x) := ⟨_, rfl⟩
    have HBX : Hid (∀ w', Below w1.heap.size w1 w' → w'.heap[w.heap.size]? = some (.cells #[.slice none 0 0, .int .i64 0] 44 (0, 0))) := fun w' hB => by
      rw [hB.block _ (by omega)]; exact HZ.out
    go_wp2_with fail
    refine (TexS.spec_text a cap ps _ HP.out).mono ?_
    rintro e w2 ⟨rfl, hB2⟩
    rw [hx.out]
    have HB2 : Hid (Below w.heap.size w w2) := HB1.out.trans (hB2.mono HB1.out.size)
    have HP2 : Hid (Parts w2 a ps) := HP.out.on hB2
    have HR2 : Hid (Rd w2 (w.heap.size + 1) s ⟨p, false⟩ a ps.length cap) := HR.out.on hB2
    obtain ⟨z0, z1, zf⟩ := zero2 (HBX.out _ hB2)
    have zf0 := zf 0
    have zf1 := zf 1
    have hsz2 := HR2.out.lt
    obtain ⟨-, -, c2', -, -⟩ := HR2.out.c
    clear hB2 HB1 HP HR HZ HBX c2 c3 zf hsz
    by_cases he : x.toList = s.toList
    · have q : (x.toList == s.toList) = true := by simp [he]
      have HXS : Hid (x = s) := BytM.toList_inj he
      have HRD := hid (reads_that HS.out hps.out (hx.out.trans HXS.out))
      clear he
      go_wp2
      refine bodyPost_ret (v := oe a ps.length cap 0) (by simp [results, Tryz.results39, go_sem, z0, z1]) rfl ⟨ps, a, cap, 0, rfl, ?_, ?_, HRD.out⟩
      · repeat (refine Below.setCell ?_ (show w.heap.size ≤ _ by simp only; omega) _)
        exact HB2.out
      · repeat (refine parts_off ?_ HNE.out _)
        exact HP2.out
    · have q : (x.toList == s.toList) = false := by simp [he]
      have HRD := hid (reads_other HS.out hps.out (by rw [hx.out]; intro e; exact he (by rw [e])))
      clear he
      go_wp2
      refine bodyPost_ret (v := oe none 0 0 3) (by simp [results, Tryz.results39, go_sem, z0, z1]) rfl ⟨[], none, 0, 3, rfl, ?_, Parts.nil _ _, HRD.out⟩
      repeat (refine Below.setCell ?_ (show w.heap.size ≤ _ by simp only; omega) _)
      exact HB2.out
  · have HRD := hid (reads_bad HS.out (by rw [hst.out]))
    obtain ⟨z0, z1, zf⟩ := zero2 HZ.out
    have zf0 := zf 0
    have zf1 := zf 1
    clear zf
    go_wp2
    refine bodyPost_ret (v := oe none 0 0 3) (by simp [results, Tryz.results39, go_sem, z0, z1]) rfl ⟨[], none, 0, 3, rfl, ?_, Parts.nil _ _, HRD.out⟩
    repeat (refine Below.setCell ?_ (show w.heap.size ≤ _ by simp only; omega) _)
    exact HB1.out
end Go.Proofs.YtecopedjjfimoaaGreatDoor.ErdS
