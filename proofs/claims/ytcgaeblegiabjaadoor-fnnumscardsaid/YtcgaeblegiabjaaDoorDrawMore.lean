/- More draws: any number, bytes: bounds alone. -/
import Derived.Test.YtcgaeblegiabjaaDoorDrawCore
import Derived.Test.YtcgaeblegiabjaaDoorLaidWalks
import Derived.Laws.IdiomStrings
namespace Go.Proofs.YtcgaeblegiabjaaDoor.DrawW
open Go.RowKit

set_option maxHeartbeats 400000 in
theorem any_any (B : Nat) (w : World) (a : Option Addr) (len cap : Nat) (hd : Dr w B a len cap) :
    Calls Tryd.prog 31 #[.pointer (some ⟨B, 0, none⟩)] w fun e w' =>
      ∃ v : Int, e = .returned (.int .i64 v) ∧ -9223372036854775808 ≤ v ∧ v ≤ 9223372036854775807 ∧ Dr w' B a len cap ∧ w.grownBy w' (some B) := by
  have HD : Hid (Dr w B a len cap) := hd
  clear hd
  go_enter Tryd.func31, Tryd.ntmps31
  go_wp2_with fail
  refine (one_any B 4 _ a len cap HD.out (by omega)).mono ?_
  rintro e w1 ⟨b, rfl, hd1, hg1⟩
  have HD1 : Hid (Dr w1 B a len cap) := hd1
  have HG1 : Hid (w.grownBy w1 (some B)) := hg1
  clear hd1 hg1
  cases b
  · go_wp2_with fail
    refine (n_any B 1099511627776 _ a len cap HD1.out (by omega)).mono ?_
    rintro e w2 ⟨r, rfl, hr, hd2, hg2⟩
    have hr2 : r < 1099511627776 := by omega
    have HD2 : Hid (Dr w2 B a len cap) := hd2
    have HG2 : Hid (w.grownBy w2 (some B)) := grown_trans HG1.out hg2
    clear hd2 hg2 hr
    go_wp2
    go_ret
    exact ⟨_, rfl, by omega, by omega, HD2.out, HG2.out⟩
  · go_wp2_with fail
    refine (edge_any B _ a len cap HD1.out).mono ?_
    rintro e w2 ⟨v, rfl, hv1, hv2, hd2, hg2⟩
    have HD2 : Hid (Dr w2 B a len cap) := hd2
    have HG2 : Hid (w.grownBy w2 (some B)) := grown_trans HG1.out hg2
    clear hd2 hg2
    go_wp2
    go_ret
    exact ⟨v, rfl, hv1, hv2, HD2.out, HG2.out⟩

/-- bytes that are drawn: so many as were asked for -/
theorem own_ne {w : World} {B base n : Nat} {e : TypeId} {v : Value} {xs : List Value} (h : w.ownsRow base e 1 v n xs) (hB : B < base) : v.ownBlock = none ∨ v.ownBlock ≠ some B := by
  right; intro hk; have := (h.lt B hk).1; omega
theorem grown_own {a b c : World} {B : Nat} {row : Option Nat} (h : a.grownBy b (some B)) (g : b.grownBy c row) (hr : ∀ k, row = some k → a.heap.size ≤ k) : a.grownBy c (some B) :=
  ⟨g.os.trans h.os, g.tape.trans h.tape, g.output.trans h.output, Nat.le_trans h.size g.size,
   fun k hk hne => (g.block k (Nat.lt_of_lt_of_le hk h.size) (by intro e; exact absurd (hr k e.symm) (by omega))).trans (h.block k hk hne)⟩
theorem cells_one (r : Nat) (h : r < 256) : CopyS.cellsB [UInt8.ofNat r] = [.int .u8 r] := by
  have : (UInt8.ofNat r).toNat = r := by simp; omega
  simp [CopyS.cellsB, this]
theorem conv_own {w : World} {base n : Nat} {v : Value} {l : List UInt8} (h : w.ownsRow base 5 1 v n (CopyS.cellsB l)) :
    (convert 22 9 v).run Tryd.prog w = .ok (.string ⟨l.toArray⟩) w := by
  obtain ⟨hl, hv⟩ := h
  have hn : n = l.length := by rw [CopyS.cellsB_length] at hl; omega
  subst hn
  rcases hv with ⟨rfl, h0⟩ | ⟨g, cap, cur, rfl, _, hg, hc, _, hs, ht⟩
  · have : l = [] := List.length_eq_zero_iff.1 h0
    subst this
    rw [run_convert_bytes_string w 22 9 5 none 0 0 Tryd.underlying22 Tryd.underlying5 Tryd.underlying9]
    simp [Conv.bytesToString, Sem.run_pure]; rfl
  · refine run_convert_bytes_back w 22 9 5 _ cap l Tryd.underlying22 Tryd.underlying5 Tryd.underlying9 ?_
    intro j hj
    have e : (CopyS.cellsB l)[j]? = some (.int .u8 (l[j].toNat : Int)) := by unfold CopyS.cellsB; simp [hj]
    rw [← ht] at e
    have e2 : cur[j]? = some (.int .u8 (l[j].toNat : Int)) := by
      rw [List.getElem?_take] at e
      split at e
      · simpa using e
      · cases e
    have hplain : (⟨g, 0, none⟩ : Addr).add j = ⟨g, j, none⟩ := by unfold Addr.add; split <;> simp_all
    rw [hplain]; simp [World.cell?, hg, e2]

theorem Tryd.infoB : (Tryd.prog.info? 5).map (fun i => (i.zero, i.size, i.bytes)) = some (some (.int .u8 0), 1, 1) := by kernel_rfl
set_option maxRecDepth 10000 in
set_option maxHeartbeats 1000000 in
theorem bytes_any (B n : Nat) (w : World) (a : Option Addr) (len cap : Nat) (hd : Dr w B a len cap) (hn : n ≤ 1000) :
    Calls Tryd.prog 38 #[.pointer (some ⟨B, 0, none⟩), .int .i64 n] w fun e w' =>
      ∃ l : List UInt8, e = .returned (.string ⟨l.toArray⟩) ∧ l.length = n ∧ Dr w' B a len cap ∧ w.grownBy w' (some B) := by
  have HD : Hid (Dr w B a len cap) := hd
  have hBw := hd.lt
  clear hd
  obtain ⟨i0, hi, hz0, hz1, hz2⟩ := info_parts Tryd.infoB
  go_enter Tryd.func38, Tryd.ntmps38
  go_wp2
  go_loopw [5, 6] (fun v i wr => ∃ l : List UInt8, i = .int .i64 (l.length : Int) ∧ l.length ≤ n ∧ wr.ownsRow w.heap.size 5 1 v l.length (CopyS.cellsB l) ∧ Hid (Dr wr B a len cap) ∧ Hid (w.grownBy wr (some B)) ∧ w.heap.size ≤ wr.heap.size) (fun _ i _ => n - (intOf i).toNat)
  case atStart => exact ⟨[], rfl, Nat.zero_le _, World.ownsRow_made _ _ 0 (Nat.le_refl _) (by unfold maxLen; omega) rfl, HD.out.alloc _, World.grownBy_alloc _ _ _, by simp⟩
  case round =>
    obtain ⟨l, rfl, hl, hown, HDr, HG, hws⟩ := hrel
    by_cases hlt : l.length < n
    · go_wp2_with fail
      refine (n_any B 256 _ a len cap HDr.out (by omega)).mono ?_
      rintro e w1 ⟨r, rfl, hr, hd1, hg1⟩
      have hr2 : r < 256 := by omega
      have hown1 := hown.kept hg1 (own_ne hown hBw)
      have HD1 : Hid (Dr w1 B a len cap) := hd1
      have HG1 : Hid (w.grownBy w1 (some B)) := grown_trans HG.out hg1
      have hs1 : w.heap.size ≤ w1.heap.size := HG1.out.size
      clear hd1 hg1 hr hown
      go_wp2_with (first
        | (at_builtin; refine wpList_append_own _ rfl _ _ 22 rfl w.heap.size 5 i0 (.int .u8 0) 1 1 Tryd.underlying22 hi hz0 hz1 hz2 rfl (by decide) _ _ _ rfl (hown1.alloc _) ⟨w1.heap.size, 0, none⟩ 1 1 [.int .u8 r] rfl rfl ?c1 ?c2 ?c3 ?c4 ?c5 ?_))
      case c1 =>
        intro j u hj
        match j, hj with
        | 0, hj => simp at hj; subst hj; simp [Addr.add]
      case c2 => intro u hu; simp at hu; subst hu; rfl
      case c3 => unfold maxLen; omega
      case c4 => omega
      case c5 => simp; omega
      intro v' w2 hown' hgrow _
      have hown2 : w2.ownsRow w.heap.size 5 1 v' (l ++ [UInt8.ofNat r]).length (CopyS.cellsB (l ++ [UInt8.ofNat r])) := by
        rw [CopyS.cellsB_append, cells_one r hr2]; simpa using hown'
      have hrow : ∀ k, (u5.ownBlock = some k) → w.heap.size ≤ k := fun k hk => (hown1.lt k hk).1
      have HD2 : Hid (Dr w2 B a len cap) := (HD1.out.alloc _).kept (fun k hk => hgrow.block k (by simp; omega) (by intro e; exact absurd (hrow k e.symm) (by omega)))
      have HG2 : Hid (w.grownBy w2 (some B)) := grown_own (grown_trans HG1.out (World.grownBy_alloc _ _ _)) hgrow hrow
      have hs2 : w.heap.size ≤ w2.heap.size := HG2.out.size
      clear hown' hgrow hown1 hrow
      go_wp2
      go_roundw
      case rel => exact ⟨l ++ [UInt8.ofNat r], by simp, by simp; omega, hown2, HD2, HG2, hs2⟩
      case measure => simp [intOf]; omega
    · have hcv := conv_own hown
      clear hown
      go_wp2
      go_ret
      exact ⟨l, rfl, by omega, HDr.out, HG.out⟩
end Go.Proofs.YtcgaeblegiabjaaDoor.DrawW
