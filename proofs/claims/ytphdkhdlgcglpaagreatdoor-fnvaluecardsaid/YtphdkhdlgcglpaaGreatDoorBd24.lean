/- Texts of ours, laid together: RdImpl, RdMark. -/
import Derived.Test.YtphdkhdlgcglpaaGreatDoorBd7
import Derived.Test.YtphdkhdlgcglpaaGreatDoorBd19
import Derived.Test.YtphdkhdlgcglpaaGreatDoorBd21
import Derived.Test.YtphdkhdlgcglpaaGreatDoorBd10
import Derived.Test.YtphdkhdlgcglpaaGreatDoorBd20
import Derived.Lib.ConvBytes
import Derived.Lib.ParseIntBTie
import Derived.Test.YtphdkhdlgcglpaaGreatDoorBd8
import Derived.Test.YtphdkhdlgcglpaaGreatDoorBd15
/- The program reads a number, and codes between commas. -/
namespace Go.Proofs.YtphdkhdlgcglpaaGreatDoor.RdI
open Go.RowKit
open ValM ValW ValS ValI TxtM RdM TxtI
open RdS (Fresh fresh_none strs cellsI_snoc own_codes)

/-- beside what the texts ask of the world: the library's two errors, and the type by which errors are asked -/
def EnvR (w : World) : Prop := Env w ∧ (∃ tp p, w.var? Tryz.prog "strconv.ErrSyntax" = some #[.iface tp p]) ∧ (∃ tp p, w.var? Tryz.prog "strconv.ErrRange" = some #[.iface tp p]) ∧
  w.cell? ⟨1, 0, none⟩ = some (.iface 180 (.agg #[.pointer (some ⟨10, 60, none⟩)]))
theorem EnvR.on {w w' : World} (h : EnvR w) (hB : Below w.heap.size w w') : EnvR w' := by
  obtain ⟨h1, ⟨t1, p1, h2⟩, ⟨t2, p2, h3⟩, h4⟩ := h
  refine ⟨h1.on hB, ⟨t1, p1, Joins.var_stays (g := 6) (by kernel_rfl) h2 hB (Nat.le_refl _)⟩, ⟨t2, p2, Joins.var_stays (g := 7) (by kernel_rfl) h3 hB (Nat.le_refl _)⟩, ?_⟩
  rw [hB.cell (p := ⟨1, 0, none⟩) (World.block_lt_of_cell? w _ h4)]; exact h4

theorem below_bytes (w : World) (e : TypeId) (s : ByteArray) : Below w.heap.size w (Lib.bytesWorld w e s) := by
  exact ⟨rfl, rfl, rfl, by rw [Lib.bytesWorld_size]; omega, fun j hj => Lib.bytesWorld_at_old w e s j hj⟩
/-- what reading a number answers -/
def NumEnds (s : ByteArray) (e : Ending) : Prop := (∃ v, e = .returned (.tuple #[.int .i64 v, .nilIface]) ∧ Lib.parseIntB 64 s.data.toList = .ok v) ∨
  (∃ v T p, e = .returned (.tuple #[.int .i64 v, .iface T (.pointer (some p))]) ∧ ∀ z, Lib.parseIntB 64 s.data.toList ≠ .ok z)
/-- the number that is told, whether or not it is one -/
def numV (s : ByteArray) : Int := match Lib.parseIntB 64 s.data.toList with
  | .ok v => v
  | .range => Lib.intSat 64 s.data.toList
  | _ => 0
theorem num_fit (s : ByteArray) : -9223372036854775808 ≤ numV s ∧ numV s ≤ 9223372036854775807 := by
  unfold numV
  cases h : Lib.parseIntB 64 s.data.toList with
  | ok v =>
    have := Lib.parseIntB_bounds h
    simp only at this ⊢
    rw [show ((2 ^ (64 - 1) : Nat) : Int) = 9223372036854775808 by decide] at this
    omega
  | range =>
    simp only
    unfold Lib.intSat
    split <;> decide
  | _ => simp only; omega
def NumAll (s : ByteArray) (e : Ending) : Prop := ∃ x, e = .returned (.tuple #[.int .i64 (numV s), x]) ∧ ((x = .nilIface ∧ ∃ v, Lib.parseIntB 64 s.data.toList = .ok v) ∨ (∃ T p, x = .iface T (.pointer (some p)) ∧ ∀ z, Lib.parseIntB 64 s.data.toList ≠ .ok z))
theorem number_all (s : ByteArray) (w : World) (hs : s.size ≤ 8000) (hE : EnvR w) :
    Calls Tryz.prog 129 #[.string s] w fun e w' => NumAll s e ∧ Below w.heap.size w w' := by
  have HE : Hid (EnvR w) := hE
  clear hE
  cases hp : Lib.parseIntB 64 s.data.toList with
  | ok v =>
    have HP : Hid (Lib.parseIntB 64 s.data.toList = .ok v) := hp
    clear hp
    go_enter Tryz.func129, Tryz.ntmps129
    go_wp2_with fail
    refine (Tryz.strconv_ParseInt_10_at64_ok s (by omega) v HP.out _).mono ?_
    rintro e w1 ⟨rfl, hw⟩
    have HB : Hid (Below w.heap.size w w1) := by
      rcases hw with rfl | ⟨t, rfl⟩
      · exact Below.refl _ _
      · exact below_bytes w _ t
    clear hw
    go_wp2
    refine bodyPost_ret (v := .tuple #[.int .i64 v, .nilIface]) (by simp [results, Tryz.results129, go_sem]) rfl ⟨⟨_, by rw [show numV s = v by unfold numV; rw [HP.out]], .inl ⟨rfl, v, HP.out⟩⟩, HB.out⟩
  | range =>
    have HP : Hid (Lib.parseIntB 64 s.data.toList = .range) := hp
    clear hp
    obtain ⟨tp, p, hv⟩ := HE.out.2.2.1
    have HV : Hid (w.var? Tryz.prog "strconv.ErrRange" = some #[.iface tp p]) := hv
    clear hv
    go_enter Tryz.func129, Tryz.ntmps129
    go_wp2_with fail
    refine (Tryz.strconv_ParseInt_10_at64_range_var s (by omega) HP.out tp p _ HV.out).mono ?_
    rintro e w1 ⟨N, rfl, _, _, hB⟩
    have HB : Hid (Below w.heap.size w w1) := hB
    clear hB
    go_wp2
    refine bodyPost_ret (v := .tuple #[.int .i64 (Lib.intSat 64 s.data.toList), .iface 237 (.pointer (some ⟨N, 0, none⟩))]) (by simp [results, Tryz.results129, go_sem]) rfl ⟨⟨_, by rw [show numV s = Lib.intSat 64 s.data.toList by unfold numV; rw [HP.out]], .inr ⟨_, _, rfl, fun z h => by rw [HP.out] at h; cases h⟩⟩, HB.out⟩
  | _ =>
    have HP := (show Hid _ from hp)
    clear hp
    obtain ⟨tp, p, hv⟩ := HE.out.2.1
    have HV : Hid (w.var? Tryz.prog "strconv.ErrSyntax" = some #[.iface tp p]) := hv
    clear hv
    go_enter Tryz.func129, Tryz.ntmps129
    go_wp2_with fail
    refine (Tryz.strconv_ParseInt_10_at64_syntax_var s (by omega) HP.out tp p _ HV.out).mono ?_
    rintro e w1 ⟨N, rfl, _, _, hB⟩
    have HB : Hid (Below w.heap.size w w1) := hB
    clear hB
    go_wp2
    refine bodyPost_ret (v := .tuple #[.int .i64 0, .iface 237 (.pointer (some ⟨N, 0, none⟩))]) (by simp [results, Tryz.results129, go_sem]) rfl ⟨⟨_, by rw [show numV s = 0 by unfold numV; rw [HP.out]], .inr ⟨_, _, rfl, fun z h => by rw [HP.out] at h; cases h⟩⟩, HB.out⟩
theorem number_in (s : ByteArray) (w : World) (hs : s.size ≤ 8000) (hE : EnvR w) :
    Calls Tryz.prog 129 #[.string s] w fun e w' => NumEnds s e ∧ Below w.heap.size w w' :=
  (number_all s w hs hE).mono fun e w' ⟨⟨x, h1, h2⟩, hB⟩ => ⟨by
    rcases h2 with ⟨rfl, v, hv⟩ | ⟨T, p, rfl, hz⟩
    · refine .inl ⟨v, ?_, hv⟩
      rw [h1, show numV s = v by unfold numV; rw [hv]]
    · exact .inr ⟨_, T, p, h1, hz⟩, hB⟩

/-! codes between commas -/
def par (l : List UInt8) : Lib.NumEnd Int := Lib.parseIntB 64 l
theorem par_inj {zs ys : List Int} (h : zs.map (Lib.NumEnd.ok (α := Int)) = ys.map Lib.NumEnd.ok) : zs = ys := by
  induction zs generalizing ys with
  | nil => cases ys with
    | nil => rfl
    | cons y ys => simp at h
  | cons z zs ih => cases ys with
    | nil => simp at h
    | cons y ys =>
      simp only [List.map_cons, List.cons.injEq, Lib.NumEnd.ok.injEq] at h
      rw [h.1, ih h.2]
theorem par_codes {zs : List Int} (h : ∀ z ∈ zs, 1 ≤ z ∧ z ≤ 20) : (codesL zs).map par = zs.map Lib.NumEnd.ok := by
  unfold codesL
  rw [List.map_map]
  refine List.map_congr_left fun z hz => ?_
  have := h z hz
  exact parse_code this.1 this.2
def pieces (s : ByteArray) : List ByteArray := Lib.splitB ⟨#[44]⟩ 0 (Lib.countB s ⟨#[44]⟩) s
theorem pieces_data (s : ByteArray) : (pieces s).map (·.data.toList) = splitC s.data.toList := by
  unfold pieces
  rw [Lib.splitB_data]; exact splitK_C s.data.toList
theorem pieces_len (s : ByteArray) : (pieces s).length = Lib.countB s ⟨#[44]⟩ + 1 := Lib.splitB_all ⟨#[44]⟩ (by decide) 0 _ s rfl
theorem pieces_le (s : ByteArray) : (pieces s).length ≤ s.size + 1 := by
  rw [pieces_len]; have := Lib.countB_le ⟨#[44]⟩ (by decide) s.size s (Nat.le_refl _); omega
theorem splitB_sizes : ∀ (k : Nat) (s : ByteArray), ∀ p ∈ Lib.splitB ⟨#[44]⟩ 0 k s, p.size ≤ s.size
  | 0, s, p, hp => by rw [Lib.splitB_zero] at hp; rw [List.mem_singleton.1 hp]; exact Nat.le_refl _
  | k + 1, s, p, hp => by
    unfold Lib.splitB at hp
    split at hp
    · rw [List.mem_singleton.1 hp]; exact Nat.le_refl _
    · rcases List.mem_cons.1 hp with rfl | hp
      · simp; omega
      · have := splitB_sizes k _ p hp
        simp at this; omega
/-- what reading codes between commas answers -/
def SetEnds (s : ByteArray) (B : Nat) (e : Ending) (w' : World) : Prop :=
  (∃ zs a cap, e = .returned (.tuple #[.slice a zs.length cap, .nilIface]) ∧ Codes w' a zs ∧ Free w' a zs ∧ Fresh a B ∧ ((s.data.toList = [] ∧ zs = []) ∨ (s.data.toList ≠ [] ∧ (splitC s.data.toList).map par = zs.map Lib.NumEnd.ok))) ∨
  (∃ T p, e = .returned (.tuple #[.slice none 0 0, .iface T (.pointer (some p))]) ∧ s.data.toList ≠ [] ∧ ∃ x ∈ splitC s.data.toList, ∀ z, par x ≠ .ok z)
def UInv (w : World) (ps : List ByteArray) (cv _x1 _x2 _x3 iv : Value) (wr : World) : Prop := ∃ (i : Nat) (zs : List Int), i ≤ ps.length ∧ iv = .int .i64 i ∧ zs.length = i ∧ Hid ((ps.take i).map (fun p => par p.data.toList) = zs.map Lib.NumEnd.ok) ∧
  wr.ownsRow (w.heap.size + 1) 2 1 cv i (cellsI zs) ∧ Below (w.heap.size + 1) (w.alloc (.cells (strs ps).toArray 9)) wr
theorem Tryz.infoI64 : (Tryz.prog.info? 2).map (fun i => (i.zero, i.size, i.bytes)) = some (some (.int .i64 0), 1, 8) := by kernel_rfl

set_option maxRecDepth 10000 in
set_option maxHeartbeats 2000000 in
theorem unlisted_in (s : ByteArray) (w : World) (hs : s.size ≤ 8000) (hE : EnvR w) :
    Calls Tryz.prog 130 #[.string s] w fun e w' => SetEnds s w.heap.size e w' ∧ Below w.heap.size w w' := by
  have HE : Hid (EnvR w) := hE
  clear hE
  by_cases h0 : s.size = 0
  · have q : s.toList.isEmpty = true := by rw [empty_list]; simp [h0]
    have HN : Hid (s.data.toList = []) := List.length_eq_zero_iff.1 (by rw [← size_len]; exact h0)
    clear h0
    go_enter Tryz.func130, Tryz.ntmps130
    go_wp2
    refine bodyPost_ret (v := .tuple #[.slice none 0 0, .nilIface]) (by simp [results, Tryz.results130, go_sem]) rfl ⟨.inl ⟨[], none, 0, rfl, Codes.nil _ _, free_nil _ _, fresh_none _, .inl ⟨HN.out, rfl⟩⟩, Below.refl _ _⟩
  have q : s.toList.isEmpty = false := by rw [empty_list]; exact decide_eq_false (by omega)
  have HN : Hid (s.data.toList ≠ []) := fun e => h0 (by rw [size_len, e]; rfl)
  obtain ⟨i0, hi0, hz0, hz1, hz2⟩ := info_parts Tryz.infoI64
  obtain ⟨m, hm⟩ := HE.out.1.2
  have HM : Hid (w.cell? ⟨3, 0, none⟩ = some (.int .i64 m)) := hm
  have hsp := Tryz.strings_Split s ⟨#[44]⟩ m w (by omega) HM.out (by decide)
  rw [← pieces_len] at hsp
  have HSP : Hid (Calls Tryz.prog 152 #[.string s, .string ⟨#[44]⟩] w fun e w' => e = .returned (.slice (some ⟨w.heap.size, 0, none⟩) (pieces s).length (pieces s).length) ∧ w' = w.alloc (.cells (strs (pieces s)).toArray 9)) := hsp
  have hpl := pieces_le s
  have HPD : Hid ((pieces s).map (·.data.toList) = splitC s.data.toList ∧ ∀ p ∈ pieces s, p.size ≤ s.size) := ⟨pieces_data s, splitB_sizes _ s⟩
  clear hm hsp
  generalize pieces s = ps at *
  go_enter Tryz.func130, Tryz.ntmps130
  go_wp2_with (go_at_call 152; refine HSP.out.mono ?_; rintro e w' ⟨rfl, rfl⟩)
  go_loopw [4, 6, 7, 8, 14] (UInv w ps) (fun _ _ _ _ v _ => ps.length - (intOf v).toNat)
  case atStart => exact ⟨0, [], Nat.zero_le _, rfl, rfl, rfl, World.ownsRow_nil _ _ _ _, Below.refl _ _⟩
  case round =>
    obtain ⟨i, zs, hil, rfl, hzl, HT, hown, hbel⟩ := hrel
    have hszw := hbel.size
    rw [World.size_alloc] at hszw
    have HBW : Hid (Below w.heap.size w wr) := (below_one w _).trans (hbel.mono (by omega))
    by_cases hlt : i < ps.length
    · obtain ⟨p, hp⟩ : ∃ p, ps[i]? = some p := ⟨_, List.getElem?_eq_getElem hlt⟩
      have cp : wr.cell? ⟨w.heap.size, i, none⟩ = some (.string p) := by
        rw [hbel.cell (p := ⟨w.heap.size, i, none⟩) (by simp)]
        simp [strs, hp]
      have hpm := List.mem_of_getElem? hp
      have hpsz : p.size ≤ 8000 := by have := HPD.out.2 p hpm; omega
      have HO : Hid (wr.ownsRow (w.heap.size + 1) 2 1 u4 i (cellsI zs)) := hown
      have HBL : Hid (Below (w.heap.size + 1) (w.alloc (.cells (strs ps).toArray 9)) wr) := hbel
      have HEW : Hid (EnvR wr) := HE.out.on HBW.out
      have HPM : Hid (p.data.toList ∈ splitC s.data.toList) := by
        show _ ∈ _; rw [← HPD.out.1]; exact List.mem_map.2 ⟨p, hpm, rfl⟩
      clear hown hbel hpm
      go_wp2_with fail
      refine (number_in p _ hpsz HEW.out).mono ?_
      rintro e w1 ⟨he, hB1⟩
      have HB1 : Hid (Below wr.heap.size wr w1) := hB1
      clear hB1
      rcases he with ⟨v, rfl, hv⟩ | ⟨v, T, ad, rfl, hv⟩
      · have HV : Hid (par p.data.toList = .ok v) := hv
        have hown1 : w1.ownsRow (w.heap.size + 1) 2 1 u4 i (cellsI zs) := by
          have hg : wr.grownBy w1 none := ⟨HB1.out.os, HB1.out.tape, HB1.out.output, HB1.out.size, fun k hk _ => HB1.out.block k hk⟩
          exact HO.out.kept hg (by cases u4.ownBlock with | none => exact .inl rfl | some k => exact .inr (by simp))
        have hbel1 : Below (w.heap.size + 1) (w.alloc (.cells (strs ps).toArray 9)) w1 := HBL.out.trans (HB1.out.mono hszw)
        have HT2 : Hid ((ps.take (i + 1)).map (fun p => par p.data.toList) = (zs ++ [v]).map Lib.NumEnd.ok) := by
          show _ = _; rw [List.take_add_one, hp]; simp only [Option.toList_some, List.map_append, List.map_cons, List.map_nil]; rw [HT.out, HV.out]
        have hsz1 := hbel1.size
        rw [World.size_alloc] at hsz1
        clear hv cp HO HBL HBW HB1
        go_wp2_with (first
          | (at_builtin; refine wpList_append_own _ rfl _ _ 36 rfl (w.heap.size + 1) 2 i0 (.int .i64 0) 1 8 Tryz.underlying36 hi0 hz0 hz1 hz2 rfl (by decide) _ _ _ rfl (hown1.alloc _) ⟨w1.heap.size, 0, none⟩ 1 1 [.int .i64 v] rfl rfl ?c1 ?c2 ?c3 ?c4 ?c5 ?_))
        case c1 =>
          intro j u hj
          match j, hj with
          | 0, hj => simp at hj; subst hj; simp [Addr.add]
        case c2 => intro u hu; simp at hu; subst hu; rfl
        case c3 => unfold maxLen; omega
        case c4 => omega
        case c5 => simp; omega
        intro v' w2 hown2 hgrow _
        have hb2 := (hbel1.alloc (by simpa using hsz1) (Obj.cells #[Value.int IntKind.i64 v] 2)).grown hgrow (by simp; omega) (fun k hk => (hown1.lt k hk).1)
        rw [← cellsI_snoc] at hown2
        clear hown1 hgrow hbel1
        go_wp2
        go_roundw
        case rel => exact ⟨i + 1, zs ++ [v], by omega, by go_num, by simp; omega, HT2, hown2, hb2⟩
        case measure => simp [intOf]; omega
      · have HV : Hid (∀ z, par p.data.toList ≠ .ok z) := hv
        have HB2 : Hid (Below w.heap.size w w1) := HBW.out.trans (HB1.out.mono HBW.out.size)
        clear hv cp HO HBL HB1
        go_wp2
        refine bodyPost_ret (v := .tuple #[.slice none 0 0, .iface T (.pointer (some ad))]) (by simp [results, Tryz.results130, go_sem]) rfl ⟨.inr ⟨T, ad, rfl, HN.out, _, HPM.out, HV.out⟩, HB2.out⟩
    · have hi2 : i = ps.length := by omega
      obtain ⟨a, cap, hcv, hcd, hap⟩ := own_codes (zs := zs) (by rw [hzl]; exact hown) (by omega)
      subst hcv
      have HCD : Hid (Codes wr a zs) := hcd
      have HFE : Hid (Free wr a zs) := own_free hown
      have HF : Hid (Fresh a w.heap.size) := fun b o hb => by
        rcases hap with h1 | ⟨g, h1, hg⟩
        · rw [h1] at hb; cases hb
        · rw [h1] at hb; cases hb; omega
      have HR : Hid ((splitC s.data.toList).map par = zs.map Lib.NumEnd.ok) := by
        show _ = _; rw [← HPD.out.1, List.map_map, ← HT.out, hi2, List.take_length]; rfl
      clear hown hcd hap hbel
      go_wp2
      refine bodyPost_ret (v := .tuple #[.slice a zs.length cap, .nilIface]) (by simp [results, Tryz.results130, go_sem]) rfl ⟨.inl ⟨zs, a, cap, rfl, HCD.out, HFE.out, HF.out, .inr ⟨HN.out, HR.out⟩⟩, HBW.out⟩
end Go.Proofs.YtphdkhdlgcglpaaGreatDoor.RdI
/- What the laws' own helpers do with an answer that was read: they hold two against each other, write marks over its codes, and look whether these hold. -/
namespace Go.Proofs.YtphdkhdlgcglpaaGreatDoor.RdL
open Go.RowKit
open ValM ValW ValS ValI TxtM RdM
open RdS (Fresh ov)
open RdI (Free)

end Go.Proofs.YtphdkhdlgcglpaaGreatDoor.RdL
