/- Texts of ours, laid together: ErpJ, ErpOpnd, ErpFoll, ErpSign, ErpLike. -/
import Derived.Test.YtecopedjjfimoaaGreatDoorBd43
import Derived.Test.YtecopedjjfimoaaGreatDoorBd2
import Derived.Test.YtecopedjjfimoaaGreatDoorBd7
/- The program's reader: what holds at each of its labels. (Cut into texts by a program of ours: 71 slots, four labels.) -/
namespace Go.Proofs.YtecopedjjfimoaaGreatDoor.ErpI
open Go.RowKit
open StrW (Nm)
open PrtI PrtW
open RdI (EnvR numV)
open FldK (Only only_trans)

abbrev J0 (s : ByteArray) (w : World) (G : List Pt) : Nat → Act → World → Prop := fun n a W => ∃ (P : Nat) (L : List Nm) (vo : Value) (out : List Pt) (vp : Value) (op : List Nat) (x5 x7 x8 x9 x10 x11 x12 x13 x14 x15 x16 x17 x18 x19 x20 x21 x22 x23 x24 x25 x26 x27 x28 x29 x30 x31 x32 x33 x34 x35 x36 x37 x38 x39 x40 x41 x42 x43 x44 x45 x46 x47 x48 x49 x50 x51 x52 x53 x54 x55 x56 x57 x58 x59 x60 x61 x62 x63 x64 x65 x66 x67 x68 x69 x70 : Value), a = { tmps := #[.string s, undef, .slice none 0 0, vo, vp, x5, .pointer (some ⟨P, 0, none⟩), x7, x8, x9, x10, x11, x12, x13, x14, x15, x16, x17, x18, x19, x20, x21, x22, x23, x24, x25, x26, x27, x28, x29, x30, x31, x32, x33, x34, x35, x36, x37, x38, x39, x40, x41, x42, x43, x44, x45, x46, x47, x48, x49, x50, x51, x52, x53, x54, x55, x56, x57, x58, x59, x60, x61, x62, x63, x64, x65, x66, x67, x68, x69, x70], defers := [] } ∧ Lk w W P L vo out vp op ∧ Okk 20000 L out op ∧ Hid (run true L out op = G) ∧ n = 3 * L.length + 3
abbrev J1 (s : ByteArray) (w : World) (G : List Pt) : Nat → Act → World → Prop := fun n a W => ∃ (P : Nat) (L : List Nm) (vo : Value) (out : List Pt) (vp : Value) (op : List Nat) (x5 x7 x8 x9 x10 x11 x12 x13 x14 x15 x16 x17 x18 x19 x20 x21 x22 x23 x24 x25 x26 x27 x28 x29 x30 x31 x32 x33 x34 x35 x36 x37 x38 x39 x40 x41 x42 x43 x44 x45 x46 x47 x48 x49 x50 x51 x52 x53 x54 x55 x56 x57 x58 x59 x60 x61 x62 x63 x64 x65 x66 x67 x68 x69 x70 : Value), a = { tmps := #[.string s, undef, .slice none 0 0, vo, vp, x5, .pointer (some ⟨P, 0, none⟩), x7, x8, x9, x10, x11, x12, x13, x14, x15, x16, x17, x18, x19, x20, x21, x22, x23, x24, x25, x26, x27, x28, x29, x30, x31, x32, x33, x34, x35, x36, x37, x38, x39, x40, x41, x42, x43, x44, x45, x46, x47, x48, x49, x50, x51, x52, x53, x54, x55, x56, x57, x58, x59, x60, x61, x62, x63, x64, x65, x66, x67, x68, x69, x70], defers := [] } ∧ Lk w W P L vo out vp op ∧ Okk 20001 L out op ∧ Hid (run false L out op = G) ∧ n = 3 * L.length + 2
abbrev J2 (s : ByteArray) (w : World) (G : List Pt) : Nat → Act → World → Prop := fun n a W => ∃ (P : Nat) (L : List Nm) (vo : Value) (out : List Pt) (vp : Value) (op : List Nat) (x5 x7 x8 x9 x10 x11 x12 x13 x14 x15 x16 x17 x18 x19 x20 x21 x22 x23 x24 x25 x26 x27 x28 x29 x30 x31 x32 x33 x34 x35 x36 x37 x38 x39 x40 x41 x42 x43 x44 x45 x46 x47 x48 x49 x50 x51 x52 x53 x54 x55 x56 x57 x58 x59 x60 x61 x62 x63 x64 x65 x66 x67 x68 x69 x70 : Value), a = { tmps := #[.string s, undef, .slice none 0 0, vo, vp, x5, .pointer (some ⟨P, 0, none⟩), x7, x8, x9, x10, x11, x12, x13, x14, x15, x16, x17, x18, x19, x20, x21, x22, x23, x24, x25, x26, x27, x28, x29, x30, x31, x32, x33, x34, x35, x36, x37, x38, x39, x40, x41, x42, x43, x44, x45, x46, x47, x48, x49, x50, x51, x52, x53, x54, x55, x56, x57, x58, x59, x60, x61, x62, x63, x64, x65, x66, x67, x68, x69, x70], defers := [] } ∧ Lk w W P L vo out vp op ∧ Okk 20001 L out op ∧ Hid (out = G) ∧ n = 0
abbrev J3 (s : ByteArray) (w : World) (G : List Pt) : Nat → Act → World → Prop := fun n a W => ∃ (P : Nat) (L : List Nm) (vo : Value) (out : List Pt) (vp : Value) (op : List Nat) (x5 x7 x8 x9 x10 x11 x12 x13 x14 x15 x16 x17 x18 x19 x20 x21 x22 x23 x24 x25 x26 x27 x28 x29 x30 x31 x32 x33 x34 x35 x36 x37 x38 x39 x40 x41 x42 x43 x44 x45 x46 x47 x48 x49 x50 x51 x52 x53 x54 x55 x56 x57 x58 x59 x60 x61 x62 x63 x64 x65 x66 x67 x68 x69 x70 : Value), a = { tmps := #[.string s, undef, .slice none 0 0, vo, vp, x5, .pointer (some ⟨P, 0, none⟩), x7, x8, x9, x10, x11, x12, x13, x14, x15, x16, x17, x18, x19, x20, x21, x22, x23, x24, x25, x26, x27, x28, x29, x30, x31, x32, x33, x34, x35, x36, x37, x38, x39, x40, x41, x42, x43, x44, x45, x46, x47, x48, x49, x50, x51, x52, x53, x54, x55, x56, x57, x58, x59, x60, x61, x62, x63, x64, x65, x66, x67, x68, x69, x70], defers := [] } ∧ Lk w W P L vo out vp op ∧ Okk 20000 L out op ∧ (∃ k op1, op = k :: op1 ∧ Hid (run true L.tail.tail (out.modify k fun p => ((opM (L.headD []) : Int), p.2)) op = G)) ∧ n = 3 * L.length + 4
abbrev JJ (s : ByteArray) (w : World) (G : List Pt) (n : Nat) : Nat → Act → World → Prop := ScopeM.four (fun a' w' => ∃ n', n' < n ∧ J0 s w G n' a' w') (fun a' w' => ∃ n', n' < n ∧ J1 s w G n' a' w') (fun a' w' => ∃ n', n' < n ∧ J2 s w G n' a' w') (fun a' w' => ∃ n', n' < n ∧ J3 s w G n' a' w')
def scopeOf : Option Code → Code
  | some (.seq _ (.scope c)) => c
  | some (.scope c) => c
  | _ => .skip
/-- the program's text behind a label -/
def labOf (b : Option Code) (l : Nat) : Code := match findLabel (scopeOf b) l with
  | some (.seq .skip r) => r
  | _ => .skip
theorem eq_piece {x l : Nm} : ((bs x).toList == l) = decide (x = l) := by
  rw [BytM.toList_eq, bs_data]; exact Bool.eq_iff_iff.2 (by simp)
end Go.Proofs.YtecopedjjfimoaaGreatDoor.ErpI
/- The program's reader: an operand is looked for. (Cut into texts by a program of ours: 71 slots, four labels.) -/
namespace Go.Proofs.YtecopedjjfimoaaGreatDoor.ErpI
open Go.RowKit
open StrW (Nm)
open PrtI PrtW
open RdI (EnvR numV)
open FldK (Only only_trans)

set_option maxRecDepth 100000 in
set_option maxHeartbeats 8000000 in
theorem pass0 (s : ByteArray) (w : World) (G : List Pt) (hE : EnvR w) (hES : EnvS w) (Q : Exit → Act → World → Prop) :
    ∀ n a W, J0 s w G n a W → (labOf Tryz.f102.body 0).wp Tryz.prog (ScopeM.jumps (JJ s w G n) Q) a W := by
  obtain ⟨ip, hip, hp0, hp1, hp2⟩ := info_parts Tryz.infoP
  obtain ⟨ii, hii, hi0, hi1, hi2⟩ := info_parts Tryz.infoI
  have HE := hid hE
  have HES := hid hES
  clear hE hES
  rintro n a W ⟨P, L, vo, out, vp, op, x5, x7, x8, x9, x10, x11, x12, x13, x14, x15, x16, x17, x18, x19, x20, x21, x22, x23, x24, x25, x26, x27, x28, x29, x30, x31, x32, x33, x34, x35, x36, x37, x38, x39, x40, x41, x42, x43, x44, x45, x46, x47, x48, x49, x50, x51, x52, x53, x54, x55, x56, x57, x58, x59, x60, x61, x62, x63, x64, x65, x66, x67, x68, x69, x70, rfl, hL, ⟨hx, hk, hf, hol, hlen⟩, HG, rfl⟩
  show (Code.seq _ _).wp _ _ _ _
  have HL := hid hL
  have HX := hid hx
  have HK := hid hk
  have HF := hid hf
  have hgo := HG.out
  rw [run_t] at hgo
  obtain ⟨ao, co, rfl⟩ := hL.sliceO
  obtain ⟨apn, cpn, rfl, hcp⟩ := hL.sliceP
  have hsz := head_size hx
  obtain ⟨y, hy⟩ : ∃ y, L.headD [] = y := ⟨_, rfl⟩
  rw [hy] at hgo hsz
  have q1 : ((bs y).toList == [33]) = decide (y = [33]) := eq_piece
  have q2 : ((bs y).toList == [40]) = decide (y = [40]) := eq_piece
  have HY := hid hy
  obtain ⟨u, hu⟩ : ∃ u, Hid (bs y = u) := ⟨_, rfl⟩
  rw [hu.out] at q1 q2 hsz hgo
  have htl : L.tail.length = L.length - 1 := by simp
  clear hL hx hk hf hy HG
  by_cases h1 : y = [33]
  · rw [decide_eq_true h1] at q1
    rw [if_pos h1] at hgo
    have HGO := hid hgo
    have hpos : 0 < L.length := by cases L with
      | nil => rw [← HY.out] at h1; cases h1
      | cons => simp
    clear h1 hgo q2
    go_wp2_with (fail)
    refine (take_in P P L W HL.out.2.1).mono ?_
    rintro e w1 ⟨rfl, hP1, hO1⟩
    rw [HY.out, bs_enc, hu.out]
    have HL1 := hid (HL.out.only hP1 hO1)
    clear hP1 hO1 HL
    go_wp2_with (first | (at_builtin; refine wpList_append_own _ rfl _ _ 40 rfl (P + 1) 99 ip (.agg #[.int .i64 0, .int .i64 0, .string ByteArray.empty]) 3 32 Tryz.underlying40 hip hp0 hp1 hp2 rfl (by decide) _ out.length (cellsP out) rfl (HL1.out.2.2.1.alloc _) ⟨w1.heap.size, 0, none⟩ 1 1 (cellsP [((11, 0, ByteArray.empty) : Pt)]) rfl rfl ?yaa ?yba ?yca ?yda ?yea ?_))
    case yaa =>
      intro j u hj
      match j, hj with
      | 0, hj => simp [cellsP] at hj; subst hj; simp [Addr.add] <;> rfl
      | 1, hj => simp [cellsP] at hj; subst hj; simp [Addr.add] <;> rfl
      | 2, hj => simp [cellsP] at hj; subst hj; simp [Addr.add] <;> rfl
    case yba => exact cellsP_one _
    case yca => unfold maxLen; omega
    case yda => omega
    case yea => have := HL1.out.lt; simp; omega
    intro va wa howna hgrowa _
    have HLa := hid ((HL1.out.alloc _).push ((11, 0, ByteArray.empty) : Pt) howna hgrowa)
    clear howna hgrowa
    go_wp2_with fail
    go_step3
    refine ⟨_, ?_, P, L.tail, _, _, _, op, _, _, _, _, _, _, _, _, _, _, _, _, _, _, _, _, _, _, _, _, _, _, _, _, _, _, _, _, _, _, _, _, _, _, _, _, _, _, _, _, _, _, _, _, _, _, _, _, _, _, _, _, _, _, _, _, _, _, _, _, _, _, _, _, _, rfl, HLa.out, ⟨tail_sizes HX.out, fun k hk => by have := HK.out k hk; simp; omega, fit_snoc HF.out ⟨by simp, by simp, by simp⟩, by simp; omega, by simp; omega⟩, HGO, rfl⟩
    omega
  · rw [decide_eq_false h1] at q1
    rw [if_neg h1] at hgo
    by_cases h2 : y = [40]
    · rw [decide_eq_true h2] at q2
      rw [if_pos h2] at hgo
      have HGO := hid hgo
      have hpos : 0 < L.length := by cases L with
        | nil => rw [← HY.out] at h2; cases h2
        | cons => simp
      clear h1 h2 hgo
      go_wp2_with (fail)
      refine (take_in P P L W HL.out.2.1).mono ?_
      rintro e w1 ⟨rfl, hP1, hO1⟩
      rw [HY.out, bs_enc, hu.out]
      have HL1 := hid (HL.out.only hP1 hO1)
      clear hP1 hO1 HL
      go_wp2_with (first | (at_builtin; refine wpList_append_own _ rfl _ _ 169 rfl (P + 1) 3 ii (.int .i64 0) 1 8 Tryz.underlying169 hii hi0 hi1 hi2 rfl (by decide) _ op.length (ints op.reverse) rfl (HL1.out.2.2.2.alloc _) ⟨w1.heap.size, 0, none⟩ 1 1 [.int .i64 (out.length : Int)] rfl rfl ?yai ?ybi ?yci ?ydi ?yei ?_))
      case yai =>
        intro j u hj
        match j, hj with
        | 0, hj => simp at hj; subst hj; simp [Addr.add]
      case ybi => intro u hu; simp at hu; subst hu; rfl
      case yci => unfold maxLen; omega
      case ydi => omega
      case yei => have := HL1.out.lt; simp; omega
      intro vi wi howni hgrowi _
      have HLi := hid ((HL1.out.alloc _).opened out.length howni hgrowi)
      clear howni hgrowi HL1
      go_wp2_with (first | (at_builtin; refine wpList_append_own _ rfl _ _ 40 rfl (P + 1) 99 ip (.agg #[.int .i64 0, .int .i64 0, .string ByteArray.empty]) 3 32 Tryz.underlying40 hip hp0 hp1 hp2 rfl (by decide) _ out.length (cellsP out) rfl (HLi.out.2.2.1.alloc _) ⟨wi.heap.size, 0, none⟩ 1 1 (cellsP [((0, 0, ByteArray.empty) : Pt)]) rfl rfl ?yab ?ybb ?ycb ?ydb ?yeb ?_))
      case yab =>
        intro j u hj
        match j, hj with
        | 0, hj => simp [cellsP] at hj; subst hj; simp [Addr.add] <;> rfl
        | 1, hj => simp [cellsP] at hj; subst hj; simp [Addr.add] <;> rfl
        | 2, hj => simp [cellsP] at hj; subst hj; simp [Addr.add] <;> rfl
      case ybb => exact cellsP_one _
      case ycb => unfold maxLen; omega
      case ydb => omega
      case yeb => have := HLi.out.lt; simp; omega
      intro vb wb hownb hgrowb _
      have HLb := hid ((HLi.out.alloc _).push ((0, 0, ByteArray.empty) : Pt) hownb hgrowb)
      clear hownb hgrowb
      go_wp2_with fail
      go_step3
      refine ⟨_, ?_, P, L.tail, _, _, _, out.length :: op, _, _, _, _, _, _, _, _, _, _, _, _, _, _, _, _, _, _, _, _, _, _, _, _, _, _, _, _, _, _, _, _, _, _, _, _, _, _, _, _, _, _, _, _, _, _, _, _, _, _, _, _, _, _, _, _, _, _, _, _, _, _, _, _, _, rfl, HLb.out, ⟨tail_sizes HX.out, fun k hk => ?_, fit_snoc HF.out ⟨by simp, by simp, by simp⟩, by simp; omega, by simp; omega⟩, HGO, rfl⟩
      · omega
      · rcases List.mem_cons.1 hk with rfl | hk
        · simp
        · have := HK.out k hk; simp; omega
    · rw [decide_eq_false h2] at q2
      rw [if_neg h2] at hgo
      obtain ⟨nx, hnx⟩ : ∃ nx, Hid (nextB L.tail [40] = nx) := ⟨_, rfl⟩
      rw [hnx.out] at hgo
      cases nx
      · rw [if_neg (by decide)] at hgo
        have HGO := hid hgo
        clear h1 h2 hgo
        go_wp2_with (fail)
        refine (take_in P P L W HL.out.2.1).mono ?_
        rintro e w1 ⟨rfl, hP1, hO1⟩
        rw [HY.out, bs_enc, hu.out]
        have HL1 := hid (HL.out.only hP1 hO1)
        clear hP1 hO1 HL
        go_wp2_with (fail)
        refine (next_in P P L.tail ⟨#[40]⟩ w1 HL1.out.2.1).mono ?_
        rintro e w2 ⟨rfl, rfl⟩
        rw [show (⟨#[40]⟩ : ByteArray).data.toList = [40] from rfl, hnx.out]
        go_wp2_with (fail)
        refine (leaf_of u w2 hsz (HE.out.on HL1.out.1.1)).mono ?_
        rintro e w3 ⟨rfl, hB3⟩
        have HFT := hid (fit_leaf hsz)
        obtain ⟨⟨x, m, t⟩, hp⟩ : ∃ p, leafM u = p := ⟨_, rfl⟩
        rw [hp] at HGO HFT ⊢
        have HL3 := hid (HL1.out.on hB3)
        clear hB3 HL1 hp
        go_wp2_with (first | (at_builtin; refine wpList_append_own _ rfl _ _ 40 rfl (P + 1) 99 ip (.agg #[.int .i64 0, .int .i64 0, .string ByteArray.empty]) 3 32 Tryz.underlying40 hip hp0 hp1 hp2 rfl (by decide) _ out.length (cellsP out) rfl (HL3.out.2.2.1.alloc _) ⟨w3.heap.size, 0, none⟩ 1 1 (cellsP [((x, m, t) : Pt)]) rfl rfl ?yac ?ybc ?ycc ?ydc ?yec ?_))
        case yac =>
          intro j u hj
          match j, hj with
          | 0, hj => simp [cellsP] at hj; subst hj; simp [Addr.add] <;> rfl
          | 1, hj => simp [cellsP] at hj; subst hj; simp [Addr.add] <;> rfl
          | 2, hj => simp [cellsP] at hj; subst hj; simp [Addr.add] <;> rfl
        case ybc => exact cellsP_one _
        case ycc => unfold maxLen; omega
        case ydc => omega
        case yec => have := HL3.out.lt; simp; omega
        intro vc wc hownc hgrowc _
        have HLc := hid ((HL3.out.alloc _).push ((x, m, t) : Pt) hownc hgrowc)
        clear hownc hgrowc
        go_wp2_with fail
        go_step3
        refine ⟨_, ?_, P, L.tail, _, _, _, op, _, _, _, _, _, _, _, _, _, _, _, _, _, _, _, _, _, _, _, _, _, _, _, _, _, _, _, _, _, _, _, _, _, _, _, _, _, _, _, _, _, _, _, _, _, _, _, _, _, _, _, _, _, _, _, _, _, _, _, _, _, _, _, _, _, rfl, HLc.out, ⟨tail_sizes HX.out, fun k hk => by have := HK.out k hk; simp; omega, fit_snoc HF.out HFT.out, by simp; omega, by simp; omega⟩, HGO, rfl⟩
        omega
      · rw [if_pos rfl] at hgo
        have HGO := hid hgo
        have hcl := call_len u L.tail
        clear h1 h2 hgo
        go_wp2_with (fail)
        refine (take_in P P L W HL.out.2.1).mono ?_
        rintro e w1 ⟨rfl, hP1, hO1⟩
        rw [HY.out, bs_enc, hu.out]
        have HL1 := hid (HL.out.only hP1 hO1)
        clear hP1 hO1 HL
        go_wp2_with (fail)
        refine (next_in P P L.tail ⟨#[40]⟩ w1 HL1.out.2.1).mono ?_
        rintro e w2 ⟨rfl, rfl⟩
        rw [show (⟨#[40]⟩ : ByteArray).data.toList = [40] from rfl, hnx.out]
        go_wp2_with (fail)
        refine (called_in P P u L.tail w w2 HL1.out.2.1 (Nat.le_of_lt HL1.out.lt) (tail_sizes HX.out) HE.out HL1.out.1.1 HL1.out.1.2).mono ?_
        rintro e w3 ⟨rfl, hP3, hO3⟩
        have HFT := hid (fit_call (u := u) (tail_sizes HX.out))
        have HMR : Hid (∀ x ∈ (callM u L.tail).2, x.length ≤ 8000) := fun x hx => tail_sizes HX.out x (call_mem hx)
        have HL3 := hid (HL1.out.only hP3 hO3)
        clear hP3 hO3 HL1
        obtain ⟨⟨⟨x, m, t⟩, R⟩, hp⟩ : ∃ p, callM u L.tail = p := ⟨_, rfl⟩
        rw [hp] at HGO HFT HMR HL3 hcl ⊢
        clear hp
        go_wp2_with (first | (at_builtin; refine wpList_append_own _ rfl _ _ 40 rfl (P + 1) 99 ip (.agg #[.int .i64 0, .int .i64 0, .string ByteArray.empty]) 3 32 Tryz.underlying40 hip hp0 hp1 hp2 rfl (by decide) _ out.length (cellsP out) rfl (HL3.out.2.2.1.alloc _) ⟨w3.heap.size, 0, none⟩ 1 1 (cellsP [((x, m, t) : Pt)]) rfl rfl ?yad ?ybd ?ycd ?ydd ?yed ?_))
        case yad =>
          intro j u hj
          match j, hj with
          | 0, hj => simp [cellsP] at hj; subst hj; simp [Addr.add] <;> rfl
          | 1, hj => simp [cellsP] at hj; subst hj; simp [Addr.add] <;> rfl
          | 2, hj => simp [cellsP] at hj; subst hj; simp [Addr.add] <;> rfl
        case ybd => exact cellsP_one _
        case ycd => unfold maxLen; omega
        case ydd => omega
        case yed => have := HL3.out.lt; simp; omega
        intro vd wd hownd hgrowd _
        have HLd := hid ((HL3.out.alloc _).push ((x, m, t) : Pt) hownd hgrowd)
        clear hownd hgrowd
        go_wp2_with fail
        go_step3
        refine ⟨_, ?_, P, R, _, _, _, op, _, _, _, _, _, _, _, _, _, _, _, _, _, _, _, _, _, _, _, _, _, _, _, _, _, _, _, _, _, _, _, _, _, _, _, _, _, _, _, _, _, _, _, _, _, _, _, _, _, _, _, _, _, _, _, _, _, _, _, _, _, _, _, _, _, rfl, HLd.out, ⟨HMR.out, fun k hk => by have := HK.out k hk; simp; omega, fit_snoc HF.out HFT.out, by simp; omega, by simp at hcl ⊢; omega⟩, HGO, rfl⟩
        simp at hcl
        omega
end Go.Proofs.YtecopedjjfimoaaGreatDoor.ErpI
/- The program's reader: what follows an operand. (Cut into texts by a program of ours: 71 slots, four labels.) -/
namespace Go.Proofs.YtecopedjjfimoaaGreatDoor.ErpI
open Go.RowKit
open StrW (Nm)
open PrtI PrtW
open RdI (EnvR numV)
open FldK (Only only_trans)

set_option maxRecDepth 100000 in
set_option maxHeartbeats 8000000 in
theorem pass1 (s : ByteArray) (w : World) (G : List Pt) (hE : EnvR w) (hES : EnvS w) (Q : Exit → Act → World → Prop) :
    ∀ n a W, J1 s w G n a W → (labOf Tryz.f102.body 1).wp Tryz.prog (ScopeM.jumps (JJ s w G n) Q) a W := by
  have HE := hid hE
  have HES := hid hES
  clear hE hES
  rintro n a W ⟨P, L, vo, out, vp, op, x5, x7, x8, x9, x10, x11, x12, x13, x14, x15, x16, x17, x18, x19, x20, x21, x22, x23, x24, x25, x26, x27, x28, x29, x30, x31, x32, x33, x34, x35, x36, x37, x38, x39, x40, x41, x42, x43, x44, x45, x46, x47, x48, x49, x50, x51, x52, x53, x54, x55, x56, x57, x58, x59, x60, x61, x62, x63, x64, x65, x66, x67, x68, x69, x70, rfl, hL, ⟨hx, hk, hf, hol, hlen⟩, HG, rfl⟩
  show (Code.seq _ _).wp _ _ _ _
  have HL := hid hL
  have HX := hid hx
  have HK := hid hk
  have HF := hid hf
  obtain ⟨y, hy⟩ : ∃ y, L.headD [] = y := ⟨_, rfl⟩
  have q0 : ((bs y).toList == []) = decide (y = []) := eq_piece
  have q1 : ((bs y).toList == [41]) = decide (y = [41]) := eq_piece
  have q0' : (bs y).toList.isEmpty = decide (y = []) := by rw [← q0]; cases (bs y).toList <;> rfl
  have HY := hid hy
  obtain ⟨u, hu⟩ : ∃ u, Hid (bs y = u) := ⟨_, rfl⟩
  rw [hu.out] at q0 q0' q1
  have htl : L.tail.length = L.length - 1 := by simp
  clear hL hx hk hf hy
  by_cases h0 : y = []
  · rw [decide_eq_true h0] at q0 q0'
    have hgo := HG.out
    rw [run_f_end L out op (.inl (HY.out.trans h0))] at hgo
    have HGO := hid hgo
    clear h0 hgo q1 HG
    go_wp2_with (fail)
    refine (take_in P P L W HL.out.2.1).mono ?_
    rintro e w1 ⟨rfl, hP1, hO1⟩
    rw [HY.out, bs_enc, hu.out]
    have HL1 := hid (HL.out.only hP1 hO1)
    clear hP1 hO1 HL
    go_wp2_with fail
    go_step3
    refine ⟨_, ?_, P, L.tail, _, _, _, op, _, _, _, _, _, _, _, _, _, _, _, _, _, _, _, _, _, _, _, _, _, _, _, _, _, _, _, _, _, _, _, _, _, _, _, _, _, _, _, _, _, _, _, _, _, _, _, _, _, _, _, _, _, _, _, _, _, _, _, _, _, _, _, _, _, rfl, HL1.out, ⟨tail_sizes HX.out, HK.out, HF.out, hol, by omega⟩, HGO, rfl⟩
    omega
  · rw [decide_eq_false h0] at q0 q0'
    have hpos : 0 < L.length := by cases L with
      | nil => exact absurd HY.out.symm h0
      | cons => simp
    obtain ⟨apn, cpn, rfl, hcp⟩ := HL.out.sliceP
    cases op with
    | nil =>
      have hgo := HG.out
      rw [run_f_end L out [] (.inr rfl)] at hgo
      have HGO := hid hgo
      clear h0 hgo q1 HG
      simp only [List.length_nil] at HL hcp ⊢
      go_wp2_with (fail)
      refine (take_in P P L W HL.out.2.1).mono ?_
      rintro e w1 ⟨rfl, hP1, hO1⟩
      rw [HY.out, bs_enc, hu.out]
      have HL1 := hid (HL.out.only hP1 hO1)
      clear hP1 hO1 HL
      go_wp2_with fail
      go_step3
      refine ⟨_, ?_, P, L.tail, _, _, _, [], _, _, _, _, _, _, _, _, _, _, _, _, _, _, _, _, _, _, _, _, _, _, _, _, _, _, _, _, _, _, _, _, _, _, _, _, _, _, _, _, _, _, _, _, _, _, _, _, _, _, _, _, _, _, _, _, _, _, _, _, _, _, _, _, _, rfl, HL1.out, ⟨tail_sizes HX.out, HK.out, HF.out, hol, by omega⟩, HGO, rfl⟩
      omega
    | cons k op =>
      have hgo := HG.out
      rw [run_f L out k op (by rw [HY.out]; exact h0), HY.out] at hgo
      simp only [List.length_cons] at HL hcp hol ⊢
      by_cases h1 : y = [41]
      · rw [decide_eq_true h1] at q1
        rw [if_pos h1] at hgo
        have HGO := hid hgo
        clear h0 h1 hgo HG
        go_wp2_with (fail)
        refine (take_in P P L W HL.out.2.1).mono ?_
        rintro e w1 ⟨rfl, hP1, hO1⟩
        rw [HY.out, bs_enc, hu.out]
        have HL1 := hid (HL.out.only hP1 hO1)
        clear hP1 hO1 HL
        go_wp2_with fail
        go_step3
        refine ⟨_, ?_, P, L.tail, _, _, _, op, _, _, _, _, _, _, _, _, _, _, _, _, _, _, _, _, _, _, _, _, _, _, _, _, _, _, _, _, _, _, _, _, _, _, _, _, _, _, _, _, _, _, _, _, _, _, _, _, _, _, _, _, _, _, _, _, _, _, _, _, _, _, _, _, _, rfl, HL1.out.pop, ⟨tail_sizes HX.out, fun k' hk => HK.out k' (List.mem_cons_of_mem _ hk), HF.out, by omega, by omega⟩, HGO, rfl⟩
        omega
      · rw [decide_eq_false h1] at q1
        rw [if_neg h1] at hgo
        have HGO := hid hgo
        clear h0 h1 hgo HG
        go_wp2_with (fail)
        refine (take_in P P L W HL.out.2.1).mono ?_
        rintro e w1 ⟨rfl, hP1, hO1⟩
        rw [HY.out, bs_enc, hu.out]
        have HL1 := hid (HL.out.only hP1 hO1)
        clear hP1 hO1 HL
        go_wp2_with fail
        go_step3
        refine ⟨_, ?_, P, L.tail, _, _, _, k :: op, _, _, _, _, _, _, _, _, _, _, _, _, _, _, _, _, _, _, _, _, _, _, _, _, _, _, _, _, _, _, _, _, _, _, _, _, _, _, _, _, _, _, _, _, _, _, _, _, _, _, _, _, _, _, _, _, _, _, _, _, _, _, _, _, _, rfl, HL1.out, ⟨tail_sizes HX.out, HK.out, HF.out, by simpa using hol, by omega⟩, ⟨k, op, rfl, HGO⟩, rfl⟩
        omega
end Go.Proofs.YtecopedjjfimoaaGreatDoor.ErpI
/- The program's reader: a sign is put where its bracket was. (Cut into texts by a program of ours: 71 slots, four labels.) -/
namespace Go.Proofs.YtecopedjjfimoaaGreatDoor.ErpI
open Go.RowKit
open StrW (Nm)
open PrtI PrtW
open RdI (EnvR numV)
open FldK (Only only_trans)

set_option maxRecDepth 100000 in
set_option maxHeartbeats 8000000 in
theorem pass3 (s : ByteArray) (w : World) (G : List Pt) (_hE : EnvR w) (hES : EnvS w) (Q : Exit → Act → World → Prop) :
    ∀ n a W, J3 s w G n a W → (labOf Tryz.f102.body 3).wp Tryz.prog (ScopeM.jumps (JJ s w G n) Q) a W := by
  have HES := hid hES
  clear hES
  rintro n a W ⟨P, L, vo, out, vp, op, x5, x7, x8, x9, x10, x11, x12, x13, x14, x15, x16, x17, x18, x19, x20, x21, x22, x23, x24, x25, x26, x27, x28, x29, x30, x31, x32, x33, x34, x35, x36, x37, x38, x39, x40, x41, x42, x43, x44, x45, x46, x47, x48, x49, x50, x51, x52, x53, x54, x55, x56, x57, x58, x59, x60, x61, x62, x63, x64, x65, x66, x67, x68, x69, x70, rfl, hL, ⟨hx, hk, hf, hol, hlen⟩, ⟨k, op1, rfl, HG⟩, rfl⟩
  have hko : k < out.length := hk k (by simp)
  obtain ⟨go, co, rfl, hoc⟩ : ∃ g cap, vo = .slice (some ⟨g, 0, none⟩) out.length cap ∧ out.length ≤ cap := by
    rcases hL.2.2.1.2 with ⟨rfl, h0⟩ | ⟨g, cap, cur, rfl, _, _, hc, _⟩
    · omega
    · exact ⟨g, cap, rfl, hc⟩
  obtain ⟨gp, cp, rfl, hpc⟩ : ∃ g cap, vp = .slice (some ⟨g, 0, none⟩) (op1.length + 1) cap ∧ op1.length + 1 ≤ cap := by
    rcases hL.2.2.2.2 with ⟨rfl, h0⟩ | ⟨g, cap, cur, rfl, _, _, hc, _⟩
    · simp at h0
    · exact ⟨g, cap, rfl, hc⟩
  have HL := hid hL
  have HX := hid hx
  have HK := hid hk
  have HF := hid hf
  obtain ⟨u, hu⟩ : ∃ u, Hid (bs (L.headD []) = u) := ⟨_, rfl⟩
  obtain ⟨o, ho⟩ : ∃ o : Nat, Hid (opM u.data.toList = o) := ⟨_, rfl⟩
  have hop : Hid (opM (L.headD []) = o) := by show _ = _; rw [← ho.out, ← hu.out, bs_data]
  have htl : L.tail.length = L.length - 1 := by simp
  have htl2 : L.tail.tail.length = L.length - 2 := by simp; omega
  have ho10 : o ≤ 10 := by rw [← ho.out]; exact op_le _
  simp only [List.length_cons] at hol
  clear hL hx hk hf
  show (Code.seq _ _).wp _ _ _ _
  refine wp_seq ?_
  refine AnyO.region_once 12 (fun Lr act W' => ∃ (x58 x59 x60 x61 x62 x63 x64 x65 x66 x67 x68 : Value), act = { tmps := #[.string s, undef, .slice none 0 0, .slice (some ⟨go, 0, none⟩) out.length co, .slice (some ⟨gp, 0, none⟩) (op1.length + 1) cp, x5, .pointer (some ⟨P, 0, none⟩), x7, x8, x9, x10, x11, x12, x13, x14, x15, x16, x17, x18, x19, x20, x21, x22, x23, x24, x25, x26, x27, x28, x29, x30, x31, x32, x33, x34, x35, x36, x37, x38, x39, x40, x41, x42, x43, x44, x45, x46, x47, x48, x49, x50, x51, x52, x53, x54, x55, x56, x57, x58, x59, x60, x61, x62, x63, x64, x65, x66, x67, x68, x69, x70], defers := [] } ∧
    (Lr 11 = false → Lk w W' P (if Lr 7 = true then L.tail else L) (.slice (some ⟨go, 0, none⟩) out.length co) out (.slice (some ⟨gp, 0, none⟩) (op1.length + 1) cp) (k :: op1)) ∧
    (Lr 11 = true → (∀ i, i < 12 → Lr i = true) ∧ Lk w W' P L.tail (.slice (some ⟨go, 0, none⟩) out.length co) (out.modify k fun p => ((opM (L.headD []) : Int), p.2)) (.slice (some ⟨gp, 0, none⟩) (op1.length + 1) cp) (k :: op1)) ∧
    (Lr 10 = true → Lr 9 = true) ∧
    (Lr 0 = true → x58 = .slice (some ⟨go, 0, none⟩) out.length co) ∧ (Lr 1 = true → x59 = .slice (some ⟨gp, 0, none⟩) (op1.length + 1) cp) ∧ (Lr 2 = true → x60 = .slice (some ⟨gp, 0, none⟩) (op1.length + 1) cp) ∧ (Lr 3 = true → x61 = .int .i64 ((op1.length : Int) + 1)) ∧ (Lr 4 = true → x62 = .int .i64 (op1.length : Int)) ∧
    (Lr 5 = true → x63 = .pointer (some ⟨gp, op1.length, none⟩)) ∧ (Lr 6 = true → x64 = .int .i64 (k : Int)) ∧ (Lr 7 = true → x65 = .string u) ∧ (Lr 8 = true → x66 = .int .i64 (o : Int)) ∧
    (Lr 9 = true → x67 = .pointer (some ⟨go, k * 3, none⟩)) ∧ (Lr 10 = true → x68 = .pointer (some ⟨go, k * 3, none⟩))) (by kernel_rfl) (by kernel_rfl) (by kernel_rfl) ?start ?step ?fin
  case start => exact ⟨_, _, _, _, _, _, _, _, _, _, _, rfl, fun _ => HL.out.on ((Below.refl _ _).drew), by simp, by simp, by simp, by simp, by simp, by simp, by simp, by simp, by simp, by simp, by simp, by simp, by simp⟩
  case step =>
    rintro i hi Lr act W' ⟨x58, x59, x60, x61, x62, x63, x64, x65, x66, x67, x68, rfl, hA, hB, hC, h0, h1, h2, h3, h4, h5, h6, h7, h8, h9, h10⟩ hLi hd
    have hB' : i ≠ 11 → Lr 11 = false := fun _ => by
      cases e : Lr 11 with
      | false => rfl
      | true => rw [(hB e).1 i hi] at hLi; cases hLi
    have hcases : i = 0 ∨ i = 1 ∨ i = 2 ∨ i = 3 ∨ i = 4 ∨ i = 5 ∨ i = 6 ∨ i = 7 ∨ i = 8 ∨ i = 9 ∨ i = 10 ∨ i = 11 := by omega
    rcases hcases with rfl | rfl | rfl | rfl | rfl | rfl | rfl | rfl | rfl | rfl | rfl | rfl
    · have h11 := hB' (by decide)
      have hN : (Lr 11 = true → (∀ i, i < 12 → AnyO.more Lr 0 i = true) ∧ Lk w W' P L.tail (.slice (some ⟨go, 0, none⟩) out.length co) (out.modify k fun p => ((opM (L.headD []) : Int), p.2)) (.slice (some ⟨gp, 0, none⟩) (op1.length + 1) cp) (k :: op1)) := fun e => by rw [h11] at e; cases e
      refine wpOp_step rfl (fun K hK => ?_)
      clear hi hd
      go_simp
      exact hK _ _ ⟨_, _, _, _, _, _, _, _, _, _, _, rfl, hA, hN, hC, fun _ => rfl, h1, h2, h3, h4, h5, h6, h7, h8, h9, h10⟩
    · have h11 := hB' (by decide)
      have hN : (Lr 11 = true → (∀ i, i < 12 → AnyO.more Lr 1 i = true) ∧ Lk w W' P L.tail (.slice (some ⟨go, 0, none⟩) out.length co) (out.modify k fun p => ((opM (L.headD []) : Int), p.2)) (.slice (some ⟨gp, 0, none⟩) (op1.length + 1) cp) (k :: op1)) := fun e => by rw [h11] at e; cases e
      refine wpOp_step rfl (fun K hK => ?_)
      clear hi hd
      go_simp
      exact hK _ _ ⟨_, _, _, _, _, _, _, _, _, _, _, rfl, hA, hN, hC, h0, fun _ => rfl, h2, h3, h4, h5, h6, h7, h8, h9, h10⟩
    · have h11 := hB' (by decide)
      have hN : (Lr 11 = true → (∀ i, i < 12 → AnyO.more Lr 2 i = true) ∧ Lk w W' P L.tail (.slice (some ⟨go, 0, none⟩) out.length co) (out.modify k fun p => ((opM (L.headD []) : Int), p.2)) (.slice (some ⟨gp, 0, none⟩) (op1.length + 1) cp) (k :: op1)) := fun e => by rw [h11] at e; cases e
      refine wpOp_step rfl (fun K hK => ?_)
      clear hi hd
      go_simp
      exact hK _ _ ⟨_, _, _, _, _, _, _, _, _, _, _, rfl, hA, hN, hC, h0, h1, fun _ => rfl, h3, h4, h5, h6, h7, h8, h9, h10⟩
    · have h11 := hB' (by decide)
      have hN : (Lr 11 = true → (∀ i, i < 12 → AnyO.more Lr 3 i = true) ∧ Lk w W' P L.tail (.slice (some ⟨go, 0, none⟩) out.length co) (out.modify k fun p => ((opM (L.headD []) : Int), p.2)) (.slice (some ⟨gp, 0, none⟩) (op1.length + 1) cp) (k :: op1)) := fun e => by rw [h11] at e; cases e
      have e := h2 (hd 2 (by kernel_rfl))
      subst e
      refine wpOp_step rfl (fun K hK => ?_)
      clear hi hd
      go_simp
      exact hK _ _ ⟨_, _, _, _, _, _, _, _, _, _, _, rfl, hA, hN, hC, h0, h1, h2, fun _ => rfl, h4, h5, h6, h7, h8, h9, h10⟩
    · have h11 := hB' (by decide)
      have hN : (Lr 11 = true → (∀ i, i < 12 → AnyO.more Lr 4 i = true) ∧ Lk w W' P L.tail (.slice (some ⟨go, 0, none⟩) out.length co) (out.modify k fun p => ((opM (L.headD []) : Int), p.2)) (.slice (some ⟨gp, 0, none⟩) (op1.length + 1) cp) (k :: op1)) := fun e => by rw [h11] at e; cases e
      have e := h3 (hd 3 (by kernel_rfl))
      subst e
      have hwr : IntKind.i64.wrap (op1.length : Int) = (op1.length : Int) := by rw [IntKind.wrap_i64]; omega
      refine wpOp_step rfl (fun K hK => ?_)
      clear hi hd
      go_simp
      exact hK _ _ ⟨_, _, _, _, _, _, _, _, _, _, _, rfl, hA, hN, hC, h0, h1, h2, h3, fun _ => rfl, h5, h6, h7, h8, h9, h10⟩
    · have h11 := hB' (by decide)
      have hN : (Lr 11 = true → (∀ i, i < 12 → AnyO.more Lr 5 i = true) ∧ Lk w W' P L.tail (.slice (some ⟨go, 0, none⟩) out.length co) (out.modify k fun p => ((opM (L.headD []) : Int), p.2)) (.slice (some ⟨gp, 0, none⟩) (op1.length + 1) cp) (k :: op1)) := fun e => by rw [h11] at e; cases e
      have e := h1 (hd 1 (by kernel_rfl))
      have e2 := h4 (hd 4 (by kernel_rfl))
      subst e e2
      have hix : (op1.length : Int) < (op1.length : Int) + 1 := by omega
      refine wpOp_step rfl (fun K hK => ?_)
      clear hi hd
      go_simp
      exact hK _ _ ⟨_, _, _, _, _, _, _, _, _, _, _, rfl, hA, hN, hC, h0, h1, h2, h3, h4, fun _ => rfl, h6, h7, h8, h9, h10⟩
    · have h11 := hB' (by decide)
      have hN : (Lr 11 = true → (∀ i, i < 12 → AnyO.more Lr 6 i = true) ∧ Lk w W' P L.tail (.slice (some ⟨go, 0, none⟩) out.length co) (out.modify k fun p => ((opM (L.headD []) : Int), p.2)) (.slice (some ⟨gp, 0, none⟩) (op1.length + 1) cp) (k :: op1)) := fun e => by rw [h11] at e; cases e
      have e := h5 (hd 5 (by kernel_rfl))
      subst e
      have hc := (hA h11).2.2.2.cellAt op1.length (by simp)
      rw [show (ints (k :: op1).reverse)[op1.length]? = some (.int .i64 (k : Int)) by simp [ints]] at hc
      refine wpOp_step rfl (fun K hK => ?_)
      clear hi hd
      go_simp
      exact hK _ _ ⟨_, _, _, _, _, _, _, _, _, _, _, rfl, hA, hN, hC, h0, h1, h2, h3, h4, h5, fun _ => rfl, h7, h8, h9, h10⟩
    · have h11 := hB' (by decide)
      have hl := hA h11
      rw [if_neg (by rw [hLi]; decide)] at hl
      have HLL := hid hl
      clear hl
      refine wpOp_step rfl (fun K hK => ?_)
      clear hi hd
      go_simp
      refine (take_in P P L W' HLL.out.2.1).mono ?_
      rintro e w1 ⟨rfl, hP1, hO1⟩
      rw [bs_enc, hu.out]
      have hl1 := HLL.out.only hP1 hO1
      have hN : (Lr 11 = true → (∀ i, i < 12 → AnyO.more Lr 7 i = true) ∧ Lk w w1 P L.tail (.slice (some ⟨go, 0, none⟩) out.length co) (out.modify k fun p => ((opM (L.headD []) : Int), p.2)) (.slice (some ⟨gp, 0, none⟩) (op1.length + 1) cp) (k :: op1)) := fun e => by rw [h11] at e; cases e
      exact hK _ _ ⟨_, _, _, _, _, _, _, _, _, _, _, rfl, fun _ => by rw [if_pos (show AnyO.more Lr 7 7 = true from rfl)]; exact hl1, hN, hC, h0, h1, h2, h3, h4, h5, h6, fun _ => rfl, h8, h9, h10⟩
    · have h11 := hB' (by decide)
      have hL7 := hd 7 (by kernel_rfl)
      have e := h7 hL7
      subst e
      have hl := hA h11
      rw [if_pos hL7] at hl
      have HLL := hid hl
      clear hl
      refine wpOp_step rfl (fun K hK => ?_)
      clear hi hd
      go_simp
      refine (op_of u W' (HES.out.on HLL.out.1.1)).mono ?_
      rintro e w1 ⟨rfl, hB1⟩
      rw [ho.out]
      have hl1 := HLL.out.on hB1
      have hN : (Lr 11 = true → (∀ i, i < 12 → AnyO.more Lr 8 i = true) ∧ Lk w w1 P L.tail (.slice (some ⟨go, 0, none⟩) out.length co) (out.modify k fun p => ((opM (L.headD []) : Int), p.2)) (.slice (some ⟨gp, 0, none⟩) (op1.length + 1) cp) (k :: op1)) := fun e => by rw [h11] at e; cases e
      exact hK _ _ ⟨_, _, _, _, _, _, _, _, _, _, _, rfl, fun _ => by rw [if_pos (show AnyO.more Lr 8 7 = true from hL7)]; exact hl1, hN, hC, h0, h1, h2, h3, h4, h5, h6, h7, fun _ => rfl, h9, h10⟩
    · have h11 := hB' (by decide)
      have hN : (Lr 11 = true → (∀ i, i < 12 → AnyO.more Lr 9 i = true) ∧ Lk w W' P L.tail (.slice (some ⟨go, 0, none⟩) out.length co) (out.modify k fun p => ((opM (L.headD []) : Int), p.2)) (.slice (some ⟨gp, 0, none⟩) (op1.length + 1) cp) (k :: op1)) := fun e => by rw [h11] at e; cases e
      have e := h0 (hd 0 (by kernel_rfl))
      have e2 := h6 (hd 6 (by kernel_rfl))
      subst e e2
      refine wpOp_step rfl (fun K hK => ?_)
      clear hi hd
      go_simp
      exact hK _ _ ⟨_, _, _, _, _, _, _, _, _, _, _, rfl, hA, hN, fun _ => rfl, h0, h1, h2, h3, h4, h5, h6, h7, h8, fun _ => rfl, h10⟩
    · have h11 := hB' (by decide)
      have hN : (Lr 11 = true → (∀ i, i < 12 → AnyO.more Lr 10 i = true) ∧ Lk w W' P L.tail (.slice (some ⟨go, 0, none⟩) out.length co) (out.modify k fun p => ((opM (L.headD []) : Int), p.2)) (.slice (some ⟨gp, 0, none⟩) (op1.length + 1) cp) (k :: op1)) := fun e => by rw [h11] at e; cases e
      have hL9 := hd 9 (by kernel_rfl)
      have e := h9 hL9
      subst e
      refine wpOp_step rfl (fun K hK => ?_)
      clear hi hd
      go_simp
      exact hK _ _ ⟨_, _, _, _, _, _, _, _, _, _, _, rfl, hA, hN, fun _ => hL9, h0, h1, h2, h3, h4, h5, h6, h7, h8, h9, fun _ => rfl⟩
    · have hL8 := hd 8 (by kernel_rfl)
      have hL10 := hd 10 (by kernel_rfl)
      have hL7 := hd 7 (by kernel_rfl)
      have e := h10 hL10
      have e2 := h8 hL8
      subst e e2
      have hall : ∀ i, i < 12 → AnyO.more Lr 11 i = true := fun i hi => by
        have hq : i = 0 ∨ i = 1 ∨ i = 2 ∨ i = 3 ∨ i = 4 ∨ i = 5 ∨ i = 6 ∨ i = 7 ∨ i = 8 ∨ i = 9 ∨ i = 10 ∨ i = 11 := by omega
        rcases hq with rfl | rfl | rfl | rfl | rfl | rfl | rfl | rfl | rfl | rfl | rfl | rfl
        · exact hd 0 (by kernel_rfl)
        · exact hd 1 (by kernel_rfl)
        · exact hd 2 (by kernel_rfl)
        · exact hd 3 (by kernel_rfl)
        · exact hd 4 (by kernel_rfl)
        · exact hd 5 (by kernel_rfl)
        · exact hd 6 (by kernel_rfl)
        · exact hL7
        · exact hL8
        · exact hC hL10
        · exact hL10
        · rfl
      have hl := hA hLi
      rw [if_pos hL7] at hl
      have HLL := hid hl
      have hfz := hl.2.2.1.frozenAt (k * 3)
      have hcl : ∃ v, W'.cell? ⟨go, k * 3, none⟩ = some v := ⟨_, (hl.2.2.1.cellAt (k * 3) (by omega)).trans (cellsP_at out k hko).1⟩
      obtain ⟨cv, hcl⟩ := hcl
      have HST := hid (hl.setop (o : Int) hko)
      clear hl
      refine wpOp_step rfl (fun K hK => ?_)
      clear hi hd
      go_simp
      refine hK _ _ ⟨_, _, _, _, _, _, _, _, _, _, _, rfl, (fun e => by cases e), (fun _ => ⟨hall, by rw [hop.out]; exact HST.out⟩), hC, h0, h1, h2, h3, h4, h5, h6, (fun _ => rfl), h8, (fun _ => rfl), h10⟩
  case fin =>
    rintro Lr act W' ⟨x58, x59, x60, x61, x62, x63, x64, x65, x66, x67, x68, rfl, hA, hB, hC, h0, h1, h2, h3, h4, h5, h6, h7, h8, h9, h10⟩ hall
    have HL2 := hid (hB (hall 11 (by omega))).2
    clear hA hB hC h0 h1 h2 h3 h4 h5 h6 h7 h8 h9 h10 hall HL
    go_wp2_with fail
    refine (take_in P P L.tail W' HL2.out.2.1).mono ?_
    rintro e w2 ⟨rfl, hP2, hO2⟩
    have HL3 := hid (HL2.out.only hP2 hO2)
    clear hP2 hO2 HL2
    unfold StrW.encS
    go_wp2_with fail
    go_step3
    refine ⟨_, ?_, P, L.tail.tail, _, _, _, k :: op1, _, _, _, _, _, _, _, _, _, _, _, _, _, _, _, _, _, _, _, _, _, _, _, _, _, _, _, _, _, _, _, _, _, _, _, _, _, _, _, _, _, _, _, _, _, _, _, _, _, _, _, _, _, _, _, _, _, _, _, _, _, _, _, _, _, rfl, HL3.out, ⟨tail_sizes (tail_sizes HX.out), fun k' hk => by rw [modify_len]; exact HK.out k' hk, fit_modify HF.out (by have := hop.out; omega), by rw [modify_len]; simpa using hol, by rw [modify_len]; omega⟩, HG, rfl⟩
    omega
end Go.Proofs.YtecopedjjfimoaaGreatDoor.ErpI
/- The program's reader: what is read of a text, whether or not it is an expression's. (Cut into texts by a program of ours: 71 slots, four labels.) -/
namespace Go.Proofs.YtecopedjjfimoaaGreatDoor.ErpI
open Go.RowKit
open StrW (Nm)
open PrtI PrtW
open RdI (EnvR numV)
open FldK (Only only_trans)

set_option maxRecDepth 100000 in
set_option maxHeartbeats 8000000 in
theorem likely_of (s : ByteArray) (w : World) (hs : s.size ≤ 8000) (hE : EnvR w) (hES : EnvS w) :
    Calls Tryz.prog 102 #[.string s] w fun e w' => (∃ v, e = .returned v ∧ w'.ownsRow w.heap.size 99 3 v (likelyM s).length (cellsP (likelyM s))) ∧ (∀ p ∈ likelyM s, Fit p) ∧ (likelyM s).length ≤ 20001 ∧ Below w.heap.size w w' := by
  obtain ⟨ip, hip, hp0, hp1, hp2⟩ := info_parts Tryz.infoP
  obtain ⟨ii, hii, hi0, hi1, hi2⟩ := info_parts Tryz.infoI
  obtain ⟨G, hG⟩ : ∃ G, Hid (likelyM s = G) := ⟨_, rfl⟩
  rw [hG.out]
  have HE := hid hE
  have HES := hid hES
  clear hE hES
  go_enter Tryz.func102, Tryz.ntmps102
  go_wp2_with fail
  refine ScopeM.wp_scope_four (r0 := labOf Tryz.f102.body 0) (r1 := labOf Tryz.f102.body 1) (r2 := labOf Tryz.f102.body 2) (r3 := labOf Tryz.f102.body 3) (J0 s w G) (J1 s w G) (J2 s w G) (J3 s w G) rfl rfl rfl rfl (pass0 s w G HE.out HES.out _) (pass1 s w G HE.out HES.out _) ?p2 (pass3 s w G HE.out HES.out _) ?first
  case p2 =>
    rintro n a W ⟨P, L, vo, out, vp, op, x5, x7, x8, x9, x10, x11, x12, x13, x14, x15, x16, x17, x18, x19, x20, x21, x22, x23, x24, x25, x26, x27, x28, x29, x30, x31, x32, x33, x34, x35, x36, x37, x38, x39, x40, x41, x42, x43, x44, x45, x46, x47, x48, x49, x50, x51, x52, x53, x54, x55, x56, x57, x58, x59, x60, x61, x62, x63, x64, x65, x66, x67, x68, x69, x70, rfl, hL, ⟨hx, hk, hf, hol, hlen⟩, HG, rfl⟩
    show (Code.seq _ _).wp _ _ _ _
    have HL := hid hL
    have HF := hid hf
    clear hL hx hk hf
    go_wp2_with fail
    rw [ScopeM.jumps_ret]
    go_ret
    have e := HG.out
    subst e
    exact ⟨⟨_, rfl, own_base HL.out.2.2.1 (by have := HL.out.1.2; omega)⟩, HF.out, by omega, HL.out.1.1⟩
  case first =>
    intro hfirst
    go_wp2_with fail
    refine (pieces_of s w hs).mono ?_
    rintro e w1 ⟨⟨v, rfl, hown⟩, hB1⟩
    have hsz := pcs_sizes s 8000 hs s.size 0 0 [] (fun x h => by cases h)
    have hcn := pcs_count s hs
    obtain ⟨Lp, hLp⟩ : ∃ Lp, pcsF s s.size 0 0 [] = Lp := ⟨_, rfl⟩
    have HGO : Hid (run true Lp [] [] = G) := by show _ = _; rw [← hG.out, ← hLp]; rfl
    rw [hLp] at hown hsz hcn
    obtain ⟨a1, c1, rfl, hS1, hc1, ha1⟩ := StrW.strs_own hown (by omega)
    have HL1 : Hid (Lk w (w1.alloc (.cells #[.slice a1 Lp.length c1] 171)) w1.heap.size Lp (.slice none 0 0) [] (.slice none 0 0) []) := by
      refine ⟨⟨hB1.alloc hB1.size _, hB1.size⟩, ⟨a1, c1, heap_alloc_new w1 _, hS1.on (StrW.below_one w1 _), hc1, fun g o e hp => ?_⟩, World.ownsRow_nil _ _ _ _, World.ownsRow_nil _ _ _ _⟩
      obtain ⟨b, o1, hbo, hb, _⟩ := hS1.2 hp
      rw [e] at hbo
      cases hbo
      exact ⟨by omega, hb⟩
    clear hown hB1 hS1 hLp ha1
    have HSZ := hid hsz
    clear hsz
    have HFI := hid hfirst
    clear hfirst
    go_wp2_with fail
    go_step3
    rename_i hKK
    refine hKK _ _ ?_
    exact HFI.out _ _ _ ⟨w1.heap.size, Lp, _, [], _, [], _, _, _, _, _, _, _, _, _, _, _, _, _, _, _, _, _, _, _, _, _, _, _, _, _, _, _, _, _, _, _, _, _, _, _, _, _, _, _, _, _, _, _, _, _, _, _, _, _, _, _, _, _, _, _, _, _, _, _, _, _, _, _, _, _, rfl, HL1.out, ⟨HSZ.out, (fun k h => absurd h List.not_mem_nil), (fun p h => absurd h List.not_mem_nil), Nat.le_refl _, (by rw [List.length_nil]; omega)⟩, HGO, rfl⟩
end Go.Proofs.YtecopedjjfimoaaGreatDoor.ErpI
