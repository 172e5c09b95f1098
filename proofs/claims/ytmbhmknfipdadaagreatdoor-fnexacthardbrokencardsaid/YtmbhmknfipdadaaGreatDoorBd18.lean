/- Texts of ours, laid together. -/
import Derived.Test.YtmbhmknfipdadaaGreatDoorBd15
import Derived.Test.YtmbhmknfipdadaaGreatDoorBd3
import Derived.Laws.Concat
import Derived.Laws.BytesString
namespace Go.Proofs.YtmbhmknfipdadaaGreatDoor.TexM
open Go.RowKit
open PrtW PrtM NameW PrtS PrtI DecM
def leafL (p : Pt) : List UInt8 :=
 if p.1 = 1 then Lib.itoa p.2.1
 else if p.1 = 12 then [104, 97, 115, 40] ++ (p.2.2.data.toList ++ 44 :: (Lib.decDigits p.2.1.toNat ++ [41]))
 else if p.1 = 13 then [107, 110, 111, 119, 110, 40] ++ (p.2.2.data.toList ++ [41])
 else p.2.2.data.toList
def rest (d : Nat) (l : List Pt) : List Pt := (behind d l).getD []
def txt : Nat → List Pt → List UInt8
 | 0, _ => []
 | _ + 1, [] => []
 | d + 1, p :: r => if many p.1 = 0 then leafL p else if many p.1 = 1 then 33 :: txt d r else 40 :: (txt d r ++ 32 :: (signL p.1.toNat ++ 32 :: (txt d (rest d r) ++ [41])))
theorem child_some {d : Nat} {x : Int} {l r : List Pt} (h : child d x l = some r) : behind d l = some r := by
 unfold child at h
 split at h
 ·exact h
 ·cases h
theorem behind_cases {d : Nat} {p : Pt} {r out : List Pt} (h : behind (d + 1) (p :: r) = some out) :
  partB p = true ∧ ((many p.1 = 0 ∧ out = r) ∨ (many p.1 = 1 ∧ behind d r = some out) ∨ (many p.1 = 2 ∧ ∃ r1, behind d r = some r1 ∧ behind d r1 = some out)) := by
 rw [behind_succ] at h
 by_cases hp : partB p = true
 ·rw [if_pos hp] at h
  refine ⟨hp, ?_⟩
  have hm := many_le p.1
  rcases (by omega : many p.1 = 0 ∨ many p.1 = 1 ∨ many p.1 = 2) with h0 | h0 | h0
  ·rw [h0] at h
   simp only [iter, Option.some.injEq] at h
   exact .inl ⟨h0, h.symm⟩
  ·rw [h0] at h
   simp only [iter] at h
   exact .inr (.inl ⟨h0, child_some h⟩)
  ·rw [h0] at h
   simp only [iter] at h
   refine .inr (.inr ⟨h0, ?_⟩)
   cases hc : child d p.1 r with
   | none => rw [hc] at h; cases h
   | some r1 => rw [hc] at h; exact ⟨r1, child_some hc, child_some h⟩
 ·rw [if_neg hp] at h; cases h
theorem many_zero {x : Int} (h : many x = 0) : x ≠ 11 ∧ ¬ (3 ≤ x ∧ x ≤ 10) := by
 unfold many at h
 by_cases h1 : x = 11
 ·rw [if_pos h1] at h; cases h
 ·rw [if_neg h1] at h
  by_cases h2 : 3 ≤ x ∧ x ≤ 10
  ·rw [if_pos h2] at h; cases h
  ·exact ⟨h1, h2⟩
theorem many_one {x : Int} (h : many x = 1) : x = 11 := by
 unfold many at h
 by_cases h1 : x = 11
 ·exact h1
 ·rw [if_neg h1] at h
  split at h <;> cases h
theorem many_two {x : Int} (h : many x = 2) : 3 ≤ x ∧ x ≤ 10 := by
 unfold many at h
 by_cases h1 : x = 11
 ·rw [if_pos h1] at h; cases h
 ·rw [if_neg h1] at h
  by_cases h2 : 3 ≤ x ∧ x ≤ 10
  ·exact h2
  ·rw [if_neg h2] at h; cases h
theorem leaf_op {p : Pt} (h : partB p = true) (h0 : many p.1 = 0) : p.1 = 1 ∨ p.1 = 2 ∨ p.1 = 12 ∨ p.1 = 13 := by
 obtain ⟨h1, h2⟩ := many_zero h0
 have h3 := part_in (x := p.1) (n := p.2.1) (t := p.2.2) h
 omega
theorem name_size {t : ByteArray} (h : nameB t = true) : t.size ≤ 20 := by
 unfold nameB at h
 rw [decide_eq_true_iff] at h
 exact h.2.1
theorem part_size {x n : Int} {t : ByteArray} (h : partB (x, n, t) = true) : t.size ≤ 20 := by
 unfold partB at h
 simp only at h
 have he : emptyB t = true → t.size ≤ 20 := fun h => by
  rw [(BytM.isEmpty_iff t).1 h]; decide
 split at h
 ·exact he (Bool.and_eq_true_iff.1 h).2
 ·split at h
  ·exact name_size (Bool.and_eq_true_iff.1 h).2
  ·split at h
   ·exact name_size (Bool.and_eq_true_iff.1 h).2
   ·exact he (Bool.and_eq_true_iff.1 (Bool.and_eq_true_iff.1 h).2).2
theorem inB_iff {n lo hi : Int} : inB n lo hi = true ↔ lo ≤ n ∧ n ≤ hi := by unfold inB; rw [decide_eq_true_iff]
theorem part_num {n : Int} {t : ByteArray} (h : partB (1, n, t) = true) : -1000000 ≤ n ∧ n ≤ 1000000 := by
 have e : partB (1, n, t) = (inB n (-1000000) 1000000 && emptyB t) := rfl
 rw [e] at h
 exact inB_iff.1 (Bool.and_eq_true_iff.1 h).1
theorem part_has {n : Int} {t : ByteArray} (h : partB (12, n, t) = true) : 1 ≤ n ∧ n ≤ 20 := by
 have e : partB (12, n, t) = (inB n 1 20 && nameB t) := rfl
 rw [e] at h
 exact inB_iff.1 (Bool.and_eq_true_iff.1 h).1
theorem itoa_len {n : Int} (h : -1000000 ≤ n ∧ n ≤ 1000000) : (Lib.itoa n).length ≤ 8 := by
 by_cases h0 : n < 0
 ·rw [itoa_neg h0]
  have := dec_len 6 (-n).toNat (by omega)
  simp; omega
 ·rw [itoa_pos (by omega)]
  have := dec_len 6 n.toNat (by omega)
  omega
theorem leaf_len {p : Pt} (h : partB p = true) (h0 : many p.1 = 0) : (leafL p).length ≤ 40 := by
 obtain ⟨x, n, t⟩ := p
 have hs := part_size h
 rw [size_len] at hs
 rcases leaf_op h h0 with e | e | e | e <;> simp only at e <;> subst e
 ·have := itoa_len (part_num h)
  simp [leafL]; omega
 ·simp [leafL] at hs ⊢; omega
 ·have hn := part_has h
  have := dec_len 1 n.toNat (by omega)
  simp [leafL] at hs ⊢; omega
 ·simp [leafL] at hs ⊢; omega
theorem sign_len (k : Nat) : (signL k).length ≤ 2 := by
 rcases (by omega : k < 14 ∨ 14 ≤ k) with h | h
 ·rcases (by omega : k = 0 ∨ k = 1 ∨ k = 2 ∨ k = 3 ∨ k = 4 ∨ k = 5 ∨ k = 6 ∨ k = 7 ∨ k = 8 ∨ k = 9 ∨ k = 10 ∨ k = 11 ∨ k = 12 ∨ k = 13) with rfl | rfl | rfl | rfl | rfl | rfl | rfl | rfl | rfl | rfl | rfl | rfl | rfl | rfl <;> decide
 ·unfold signL
  rw [List.getD_eq_getElem?_getD, List.getElem?_eq_none (by simpa using h)]; simp
theorem txt_len : ∀ d l r, behind d l = some r → (txt d l).length + 40 * r.length ≤ 40 * l.length := by
 intro d
 induction d with
 | zero => intro l r h; cases h
 | succ d ih =>
  intro l r h
  cases l with
  | nil => cases h
  | cons p q =>
   obtain ⟨hp, hc⟩ := behind_cases h
   unfold txt
   rcases hc with ⟨h0, rfl⟩ | ⟨h0, hb⟩ | ⟨h0, r1, hb1, hb2⟩
   ·rw [if_pos h0]
    have := leaf_len hp h0
    simp; omega
   ·rw [if_neg (by omega), if_pos h0]
    have := ih _ _ hb
    simp; omega
   ·rw [if_neg (by omega), if_neg (by omega)]
    have h1 := ih _ _ hb1
    have h2 := ih _ _ hb2
    have h3 := sign_len p.1.toNat
    have h4 : rest d q = r1 := by unfold rest; rw [hb1]; rfl
    rw [h4]
    simp; omega
theorem right_behind {ps : List Pt} (h : rightB ps = true) : ps.length ≤ 20 ∧ behind 6 ps = some [] := by
 unfold rightB at h
 rw [Bool.and_eq_true, decide_eq_true_iff, decide_eq_true_iff] at h
 exact h
end Go.Proofs.YtmbhmknfipdadaaGreatDoor.TexM
namespace Go.Proofs.YtmbhmknfipdadaaGreatDoor.DecS
open Go.RowKit
open DecM
theorem ret_str {a b : ByteArray} (h : a = b) : Ending.returned (.string a) = .returned (.string b) := by rw [h]
theorem Tryz.infoB : (Tryz.prog.info? 5).map (fun i => (i.zero, i.size, i.bytes)) = some (some (.int .u8 0), 1, 1) := by kernel_rfl
def cellsB (l : List UInt8) : List Value := l.map (fun b => Value.int .u8 (b.toNat : Int))
def dig (d : Nat) : ByteArray := ⟨#[UInt8.ofNat (48 + d)]⟩
theorem dig_data (d : Nat) : (dig d).data.toList = [UInt8.ofNat (48 + d)] := rfl
theorem dig_size (d : Nat) : (dig d).size = 1 := rfl
theorem conv_dig (w : World) (d : Nat) (h : d < 10) :
  (convert 106 9 (.slice (some ⟨w.heap.size, 0, none⟩) 1 1)).run Tryz.prog (w.alloc (.cells #[.int .u8 (48 + (d : Int))] 5)) = .ok (.string (dig d)) (w.alloc (.cells #[.int .u8 (48 + (d : Int))] 5)) := by
 refine run_convert_bytes_back _ 106 9 5 _ 1 [UInt8.ofNat (48 + d)] Tryz.underlying106 Tryz.underlying5 Tryz.underlying9 ?_
 intro j hj
 have : j = 0 := by simpa using hj
 subst this
 simp [Addr.add]; omega
open Go.RowKit
open DecM
end Go.Proofs.YtmbhmknfipdadaaGreatDoor.DecS
namespace Go.Proofs.YtmbhmknfipdadaaGreatDoor.MarkT
open Go.RowKit
open DecM
def markL (k : Nat) : List UInt8 := 109 :: Lib.decDigits k
set_option maxRecDepth 10000 in
set_option maxHeartbeats 1000000 in
theorem mark_text (n : Nat) (w : World) (h0 : 1 ≤ n) (h1 : n ≤ 9223372036854775807) :
  Calls Tryz.prog 36 #[.int .i64 n] w fun e w' => e = .returned (.string ⟨(markL n).toArray⟩) ∧ Below w.heap.size w w' := by
 obtain ⟨r, hr⟩ : ∃ r : ByteArray, Hid ((⟨(markL n).toArray⟩ : ByteArray) = r) := ⟨_, rfl⟩
 rw [hr.out]
 have HD : Hid ((Lib.decDigits n).length ≤ 19) := dec_len19 (by omega)
 have hneg : ¬ (n : Int) ≤ 0 := by omega
 go_enter Tryz.func36, Tryz.ntmps36
 go_wp2
 go_loopw [0, 3] (fun u v wr => ∃ (m : Nat) (out : ByteArray), u = .int .i64 m ∧ m ≤ 9223372036854775807 ∧ v = .string out ∧ Below w.heap.size w wr ∧ Hid (Lib.decDigits n = tail0 m ++ out.data.toList)) (fun u _ _ => (intOf u).toNat)
 case atStart => exact ⟨n, ByteArray.empty, rfl, by omega, rfl, Below.refl _ _, show Lib.decDigits n = _ by unfold tail0; rw [if_neg (by omega)]; simp⟩
 case round =>
  obtain ⟨m, out, rfl, hm, rfl, hbel, hA⟩ := hrel
  have hlen : out.size ≤ 19 := by
   have := HD.out; rw [hA.out, List.length_append, ← size_len] at this; omega
  by_cases hm0 : m = 0
  ·subst hm0
   have HF : Hid ((⟨#[109]⟩ : ByteArray) ++ out = r) := show _ = r by
    have e : tail0 0 ++ out.data.toList = out.data.toList := rfl
    rw [← hr.out]
    apply eq_mk
    rw [data_add]
    unfold markL
    rw [hA.out, e]; rfl
   go_wp2
   go_ret
   exact ⟨DecS.ret_str HF.out, hbel⟩
  ·obtain ⟨d, hd⟩ : ∃ d : Nat, m % 10 = d := ⟨_, rfl⟩
   obtain ⟨q, hq⟩ : ∃ q : Nat, m / 10 = q := ⟨_, rfl⟩
   have hdi : (m : Int) % 10 = d := by omega
   have hqi : (m : Int) / 10 = q := by omega
   have hdl : d < 10 := by omega
   have hql : q < m := by omega
   have HN : Hid (Lib.decDigits n = tail0 q ++ (DecS.dig d ++ out).data.toList) := by
    show _ = _; rw [hA.out, dec_step m hm0, data_add, DecS.dig_data, hq, hd]; simp
   have hcv := DecS.conv_dig wr d hdl
   have hds := DecS.dig_size d
   have hB2 := hbel.alloc hbel.size (Obj.cells #[Value.int IntKind.u8 (48 + (d : Int))] 5)
   clear hd hq
   go_wp2
   go_roundw
   case rel => exact ⟨q, _, by go_num, by omega, rfl, hB2, HN⟩
   case measure => simp [intOf]; omega
end Go.Proofs.YtmbhmknfipdadaaGreatDoor.MarkT
