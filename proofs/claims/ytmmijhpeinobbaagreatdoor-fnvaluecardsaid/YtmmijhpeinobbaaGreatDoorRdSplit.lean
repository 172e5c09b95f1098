/- The model cuts a text at its commas. -/
import Derived.Test.YtmmijhpeinobbaaGreatDoorRdSpec
namespace Go.Proofs.YtmmijhpeinobbaaGreatDoor.RdS
open Go.RowKit
open ValM ValW ValS ValI TxtM RdM TxtS

def strs (ps : List ByteArray) : List Value := ps.map Value.string
def glue (p : List UInt8) : List (List UInt8) → List (List UInt8)
  | [] => [p]
  | x :: r => (p ++ x) :: r
theorem glue_nil (l : List UInt8) : glue [] (splitC l) = splitC l := by
  obtain ⟨x, r, e⟩ := splitC_some l
  rw [e]; rfl
theorem glue_comma (p l : List UInt8) : glue p (splitC (44 :: l)) = p :: splitC l := by
  rw [splitC_comma]; simp [glue]
theorem glue_more (p : List UInt8) (c : UInt8) (l : List UInt8) (h : c ≠ 44) : glue p (splitC (c :: l)) = glue (p ++ [c]) (splitC l) := by
  obtain ⟨x, r, e⟩ := splitC_some l
  rw [splitC_cons c l h x r e, e]; simp [glue]
/-- the bytes from one place to another -/
def cutL (s : ByteArray) (a b : Nat) : List UInt8 := (s.data.toList.take b).drop a
theorem cut_data (s : ByteArray) (a b : Nat) : (s.extract a b).data.toList = cutL s a b := by
  rw [Lib.extract_data, cutL, List.drop_take]
theorem cut_self (s : ByteArray) (a : Nat) : cutL s a a = [] := by
  unfold cutL; rw [List.drop_eq_nil_of_le (by simp; omega)]
theorem cut_snoc (s : ByteArray) (a b : Nat) (h : a ≤ b) (hb : b < s.size) : cutL s a (b + 1) = cutL s a b ++ [s[b]'hb] := by
  unfold cutL
  have hl : b < s.data.toList.length := by rw [← size_len]; exact hb
  rw [List.take_add_one, List.getElem?_eq_getElem hl]
  simp only [Option.toList_some]
  rw [List.drop_append_of_le_length (by simp; omega)]
  congr 1
theorem drop_at (s : ByteArray) (i : Nat) (h : i < s.size) : s.data.toList.drop i = s[i]'h :: s.data.toList.drop (i + 1) := by
  have hl : i < s.data.toList.length := by rw [← size_len]; exact h
  rw [List.drop_eq_getElem_cons hl]; congr 1
theorem Tryz.infoT : (Tryz.prog.info? 9).map (fun i => (i.zero, i.size, i.bytes)) = some (some (.string ByteArray.empty), 1, 16) := by kernel_rfl

def SInv (s : ByteArray) (ps : List ByteArray) (a i : Nat) : Prop := splitC s.data.toList = ps.map (·.data.toList) ++ glue (cutL s a i) (splitC (s.data.toList.drop i)) ∧ ∀ p ∈ ps, p.size ≤ s.size
theorem s_start (s : ByteArray) : SInv s [] 0 0 := ⟨by rw [cut_self]; simp [glue_nil], fun p hp => by cases hp⟩
theorem s_comma {s : ByteArray} {ps : List ByteArray} {a i : Nat} (h : SInv s ps a i) (hi : i < s.size) (hc : s[i]'hi = 44) : SInv s (ps ++ [s.extract a i]) (i + 1) (i + 1) := by
  refine ⟨?_, fun p hp => ?_⟩
  · rw [h.1, drop_at s i hi, hc, glue_comma, cut_self, glue_nil, List.map_append]
    simp only [List.map_cons, List.map_nil, cut_data, List.append_assoc, List.cons_append, List.nil_append]
  · rcases List.mem_append.1 hp with hp | hp
    · exact h.2 p hp
    · rw [List.mem_singleton.1 hp]; simp; omega
theorem s_more {s : ByteArray} {ps : List ByteArray} {a i : Nat} (h : SInv s ps a i) (ha : a ≤ i) (hi : i < s.size) (hc : s[i]'hi ≠ 44) : SInv s ps a (i + 1) := by
  refine ⟨?_, h.2⟩
  rw [h.1, drop_at s i hi, glue_more _ _ _ hc, cut_snoc s a i ha hi]
theorem s_end {s : ByteArray} {ps : List ByteArray} {a i : Nat} (h : SInv s ps a i) (hi : s.size ≤ i) : (ps ++ [s.extract a s.size]).map (·.data.toList) = splitC s.data.toList ∧ ∀ p ∈ ps ++ [s.extract a s.size], p.size ≤ s.size := by
  refine ⟨?_, fun p hp => ?_⟩
  · rw [h.1, List.drop_eq_nil_of_le (by rw [← size_len]; exact hi), List.map_append]
    simp only [List.map_cons, List.map_nil, cut_data]
    congr 1
    unfold cutL
    rw [List.take_of_length_le (by rw [← size_len]; omega), List.take_of_length_le (by rw [← size_len]; omega)]
    simp [splitC, glue]
  · rcases List.mem_append.1 hp with hp | hp
    · exact h.2 p hp
    · rw [List.mem_singleton.1 hp]; simp

set_option maxRecDepth 10000 in
set_option maxHeartbeats 2000000 in
theorem split_in (s : ByteArray) (w : World) (hs : s.size ≤ 8000) :
    Calls Tryz.prog 63 #[.string s, .int .u8 44] w fun e w' => ∃ v ps, e = .returned v ∧ w'.ownsRow w.heap.size 9 1 v ps.length (strs ps) ∧ Below w.heap.size w w' ∧ ps.length ≤ 8001 ∧ ps.map (·.data.toList) = splitC s.data.toList ∧ ∀ p ∈ ps, p.size ≤ s.size := by
  obtain ⟨i0, hi0, hz0, hz1, hz2⟩ := info_parts Tryz.infoT
  go_enter Tryz.func63, Tryz.ntmps63
  go_wp2
  go_loopw [5, 6, 7] (fun u f v wr => ∃ (ps : List ByteArray) (a i : Nat), a ≤ i ∧ i ≤ s.size ∧ ps.length ≤ i ∧ f = .int .i64 a ∧ v = .int .i64 i ∧ wr.ownsRow w.heap.size 9 1 u ps.length (strs ps) ∧ Below w.heap.size w wr ∧ Hid (SInv s ps a i)) (fun _ _ v _ => s.size - (intOf v).toNat)
  case atStart =>
    refine ⟨[], 0, 0, by omega, by omega, by simp, rfl, rfl, ?_, by go_grown, s_start s⟩
    exact World.ownsRow_made _ _ 0 (Nat.le_refl _) (by unfold maxLen; omega) rfl
  case round =>
    obtain ⟨ps, a, i, hai, his, hpl, rfl, rfl, hown, hbel, HS⟩ := hrel
    have hszw := hbel.size
    by_cases hlt : i < s.size
    · by_cases hc : (s[i]'hlt).toNat = 44
      · have HN : Hid (SInv s (ps ++ [s.extract a i]) (i + 1) (i + 1)) := s_comma HS.out hlt (UInt8.toNat_inj.1 hc)
        obtain ⟨x, hx⟩ : ∃ x : ByteArray, s.extract a i = x := ⟨_, rfl⟩
        rw [hx] at HN
        clear HS
        go_wp2_with (first
          | (at_builtin; refine wpList_append_own _ rfl _ _ 53 rfl w.heap.size 9 i0 (.string ByteArray.empty) 1 16 Tryz.underlying53 hi0 hz0 hz1 hz2 rfl (by decide) _ _ _ rfl (hown.alloc _) ⟨wr.heap.size, 0, none⟩ 1 1 [.string x] rfl rfl ?c1 ?c2 ?c3 ?c4 ?c5 ?_))
        case c1 =>
          intro j u hj
          match j, hj with
          | 0, hj => simp at hj; subst hj; simp [Addr.add]
        case c2 => intro u hu; simp at hu; subst hu; rfl
        case c3 => unfold maxLen; simp; omega
        case c4 => omega
        case c5 => simp; omega
        intro v' w1 hown' hgrow _
        have hb2 := (hbel.alloc hbel.size (Obj.cells #[Value.string x] 9)).grown hgrow (by simp; omega) (fun k hk => (hown.lt k hk).1)
        have hown2 : w1.ownsRow w.heap.size 9 1 v' (ps ++ [x]).length (strs (ps ++ [x])) := by
          unfold strs; rw [List.map_append]; simpa [strs] using hown'
        clear hown hown' hgrow hbel
        go_wp2
        go_roundw
        case rel => exact ⟨ps ++ [x], i + 1, i + 1, by omega, by omega, by simp; omega, by go_num, by go_num, hown2, hb2, HN⟩
        case measure => simp [intOf]; omega
      · have HN : Hid (SInv s ps a (i + 1)) := s_more HS.out hai hlt (fun e => hc (by rw [e]; rfl))
        clear HS
        go_wp2
        go_roundw
        case rel => exact ⟨ps, a, i + 1, by omega, by omega, by omega, rfl, by go_num, hown, hbel, HN⟩
        case measure => simp [intOf]; omega
    · have HN := s_end HS.out (by omega)
      obtain ⟨x, hx⟩ : ∃ x : ByteArray, s.extract a s.size = x := ⟨_, rfl⟩
      rw [hx] at HN
      have HN2 : Hid ((ps ++ [x]).map (·.data.toList) = splitC s.data.toList ∧ ∀ p ∈ ps ++ [x], p.size ≤ s.size) := HN
      clear HS HN
      go_wp2_with (first
        | (at_builtin; refine wpList_append_own _ rfl _ _ 53 rfl w.heap.size 9 i0 (.string ByteArray.empty) 1 16 Tryz.underlying53 hi0 hz0 hz1 hz2 rfl (by decide) _ _ _ rfl (hown.alloc _) ⟨wr.heap.size, 0, none⟩ 1 1 [.string x] rfl rfl ?d1 ?d2 ?d3 ?d4 ?d5 ?_))
      case d1 =>
        intro j u hj
        match j, hj with
        | 0, hj => simp at hj; subst hj; simp [Addr.add]
      case d2 => intro u hu; simp at hu; subst hu; rfl
      case d3 => unfold maxLen; simp; omega
      case d4 => omega
      case d5 => simp; omega
      intro v' w1 hown' hgrow _
      have hb2 := (hbel.alloc hbel.size (Obj.cells #[Value.string x] 9)).grown hgrow (by simp; omega) (fun k hk => (hown.lt k hk).1)
      have hown2 : w1.ownsRow w.heap.size 9 1 v' (ps ++ [x]).length (strs (ps ++ [x])) := by
        unfold strs; rw [List.map_append]; simpa [strs] using hown'
      clear hown hown' hgrow hbel
      go_wp2
      go_ret
      exact ⟨v', ps ++ [x], rfl, hown2, hb2, by simp; omega, HN2.out.1, HN2.out.2⟩
end Go.Proofs.YtmmijhpeinobbaaGreatDoor.RdS
