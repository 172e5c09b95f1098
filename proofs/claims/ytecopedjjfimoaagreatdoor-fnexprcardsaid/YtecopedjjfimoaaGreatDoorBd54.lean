/- Texts of ours, laid together: DrawExpS, DrawExpN, DrawExpT, DrawExpO, DrawExpR. -/
import Derived.Test.YtecopedjjfimoaaGreatDoorBd52
import Derived.Test.YtecopedjjfimoaaGreatDoorBd45
import Derived.Test.YtecopedjjfimoaaGreatDoorBd28
/- Expressions as a law draws them: what lies in memory while one is drawn. -/
namespace Go.Proofs.YtecopedjjfimoaaGreatDoor.DrawX
open Go.RowKit
open DrawW
open PrtW (Pt pt0 Fit cellsP cellsP_append cellsP_one)
open ErpI (Own)

/-- nothing below base but block B has changed -/
def Sp (w w' : World) (B base : Nat) : Prop := w'.os = w.os ∧ w'.tape = w.tape ∧ w'.output = w.output ∧ w.heap.size ≤ w'.heap.size ∧ ∀ k, k < base → k ≠ B → w'.heap[k]? = w.heap[k]?
section
variable {w w' w'' : World} {B base : Nat}
theorem Sp.refl (w : World) (B base : Nat) : Sp w w B base := ⟨rfl, rfl, rfl, Nat.le_refl _, fun _ _ _ => rfl⟩
theorem Sp.trans (h : Sp w w' B base) (k : Sp w' w'' B base) : Sp w w'' B base :=
  ⟨k.1.trans h.1, k.2.1.trans h.2.1, k.2.2.1.trans h.2.2.1, Nat.le_trans h.2.2.2.1 k.2.2.2.1, fun j hj hne => (k.2.2.2.2 j hj hne).trans (h.2.2.2.2 j hj hne)⟩
theorem Sp.grown {row : Option Nat} (hg : w.grownBy w' row) (hs : base ≤ w.heap.size) (hr : ∀ k, row = some k → base ≤ k ∨ k = B) : Sp w w' B base :=
  ⟨hg.os, hg.tape, hg.output, hg.size, fun k hk hne => hg.block k (by omega) (fun e => by rcases hr k e.symm with h | h <;> omega)⟩
theorem Sp.alloc (w : World) (o : Obj) (hs : base ≤ w.heap.size) : Sp w (w.alloc o) B base :=
  ⟨rfl, rfl, rfl, by simp, fun k hk _ => Below.heap_alloc w o k (by omega)⟩
theorem Sp.below (h : Sp w w' B base) {C : Nat} (hB : C ≤ B) (hb : C ≤ base) : Below C w w' :=
  ⟨h.1, h.2.1, h.2.2.1, h.2.2.2.1, fun k hk => h.2.2.2.2 k (by omega) (by omega)⟩
end

/-- the source, and the parts that have been drawn so far -/
def X (w : World) (B : Nat) (a : Option Addr) (len cap base : Nat) (v : Value) (ps : List Pt) : Prop :=
  Dr w B a len cap ∧ B < base ∧ base ≤ w.heap.size ∧ Own w base v ps
section
variable {w w' : World} {B base : Nat} {a : Option Addr} {len cap : Nat} {v v' : Value} {ps : List Pt}
theorem X.draw (h : X w B a len cap base v ps) (hd : Dr w' B a len cap) (hg : w.grownBy w' (some B)) : X w' B a len cap base v ps ∧ Sp w w' B base := by
  refine ⟨⟨hd, h.2.1, Nat.le_trans h.2.2.1 hg.size, h.2.2.2.1.kept hg ?_, h.2.2.2.2⟩, Sp.grown hg h.2.2.1 (fun k e => .inr (Option.some.inj e).symm)⟩
  rcases hv : v.ownBlock with _ | g
  · exact .inl rfl
  · have := (h.2.2.2.1.lt g hv).1
    exact .inr (fun e => by have := Option.some.inj e; have := h.2.1; omega)
theorem X.alloc (h : X w B a len cap base v ps) (o : Obj) : X (w.alloc o) B a len cap base v ps :=
  ⟨h.1.alloc o, h.2.1, by have := h.2.2.1; simp; omega, h.2.2.2.1.alloc o, h.2.2.2.2⟩
theorem X.push (h : X w B a len cap base v ps) (p : Pt) (hf : Fit p) (hl : ps.length < 20001) (hown : w'.ownsRow base 99 3 v' (ps.length + 1) (cellsP ps ++ cellsP [p])) (hg : w.grownBy w' v.ownBlock) : X w' B a len cap base v' (ps ++ [p]) ∧ Sp w w' B base := by
  have hr : ∀ g, v.ownBlock = some g → base ≤ g := fun g hv => (h.2.2.2.1.lt g hv).1
  refine ⟨⟨h.1.kept fun k hk => hg.block k (by have := h.2.1; have := h.2.2.1; omega) (fun e => by have := hr k e.symm; have := h.2.1; omega), h.2.1, Nat.le_trans h.2.2.1 hg.size, ?_, ErpI.fit_snoc h.2.2.2.2.1 hf, by simp; omega⟩, Sp.grown hg h.2.2.1 (fun k e => .inl (hr k e))⟩
  rw [cellsP_append]; simpa using hown
theorem X.nil (hd : Dr w B a len cap) : X w B a len cap w.heap.size (.slice none 0 0) [] := ⟨hd, hd.lt, Nat.le_refl _, Own.nil _ _⟩
theorem X.sl (h : X w B a len cap base v ps) : ∃ a' c', v = .slice a' ps.length c' := by
  obtain ⟨a', c', e, _⟩ := h.2.2.2.parts
  exact ⟨a', c', e⟩
end
def nb : Nat → Nat
  | 0 => 1
  | d + 1 => 1 + 2 * nb d
def tb : Nat → Nat
  | 0 => 15
  | d + 1 => 1 + 2 * tb d
theorem nb_pos (d : Nat) : 1 ≤ nb d := by cases d <;> simp [nb]
end Go.Proofs.YtecopedjjfimoaaGreatDoor.DrawX
/- Numbers of expressions as a law draws them: a bound of how many parts they have. -/
namespace Go.Proofs.YtecopedjjfimoaaGreatDoor.DrawX
open Go.RowKit
open DrawW StrW
open PrtW (Pt pt0 Fit cellsP cellsP_append cellsP_one)
open ErpI (Own)

def fields4 : List ByteArray := [⟨#[97, 103, 101]⟩, ⟨#[107, 105, 100, 115]⟩, ⟨#[115, 101, 120]⟩, ⟨#[115, 117, 109]⟩]
theorem fields4_len : ∀ x ∈ fields4, x.size ≤ 5 := by decide
theorem app_assoc (a b c : List Pt) : a ++ b ++ c = a ++ (b ++ c) := List.append_assoc a b c
set_option maxRecDepth 10000 in
set_option maxHeartbeats 4000000 in
theorem number_any : ∀ (d : Nat), d ≤ 3 → ∀ (B : Nat) (a : Option Addr) (len cap base : Nat) (v : Value) (ps : List Pt) (w : World), X w B a len cap base v ps → ps.length + nb d ≤ 10000 →
    Calls Tryz.prog 100 #[.pointer (some ⟨B, 0, none⟩), v, .int .i64 d] w fun e w' =>
      ∃ v' qs, e = .returned v' ∧ X w' B a len cap base v' (ps ++ qs) ∧ 0 < qs.length ∧ qs.length ≤ nb d ∧ Sp w w' B base := by
  intro d
  induction d with
  | zero =>
    intro _ B a len cap base v ps w hx hl
    obtain ⟨ip, hip, hp0, hp1, hp2⟩ := info_parts PrtW.Tryz.infoP
    have HX := hid hx
    have HS := hid (Sp.refl w B base)
    obtain ⟨a0, c0, rfl⟩ := hx.sl
    have hnb := nb_pos 0
    clear hx
    go_enter Tryz.func100, Tryz.ntmps100
    go_wp2_with fail
    refine (one_any B 2 _ a len cap HX.out.1 (by omega)).mono ?_
    rintro e w6 ⟨b, rfl, hd6, hg6⟩
    obtain ⟨hx6, hs6⟩ := HX.out.draw hd6 hg6
    have HX6 := hid hx6
    have HS6 := hid (HS.out.trans hs6)
    clear hx6 hs6 hd6 hg6 HX
    cases b
    · go_wp2_with fail
      have hb6 := HX6.out.1.lt
      refine (DrawV.pick_any B w6.heap.size 4 fields4 _ a len cap (HX6.out.1.alloc _) hb6 (heap_alloc_new w6 _) rfl (by omega) (by omega)).mono ?_
      rintro e w7 ⟨x, rfl, hxm, hd7, hg7⟩
      have hxs := fields4_len x hxm
      obtain ⟨hx7, hs7⟩ := (HX6.out.alloc _).draw hd7 hg7
      have HX7 := hid hx7
      have HS7 := hid (HS6.out.trans ((Sp.alloc _ _ HX6.out.2.2.1).trans hs7))
      clear hx7 hs7 hd7 hg7 HX6 HS6 hxm
      go_wp2_with (first | (at_builtin; refine wpList_append_own _ rfl _ _ 40 rfl base 99 ip (.agg #[.int .i64 0, .int .i64 0, .string ByteArray.empty]) 3 32 Tryz.underlying40 hip hp0 hp1 hp2 rfl (by decide) _ (ps).length (cellsP (ps)) rfl (HX7.out.2.2.2.1.alloc _) ⟨w7.heap.size, 0, none⟩ 1 1 (cellsP [(2, 0, x)]) rfl rfl ?yaq2 ?ybq2 ?ycq2 ?ydq2 ?yeq2 ?_))
      case yaq2 =>
        intro j u hj
        match j, hj with
        | 0, hj => simp [cellsP] at hj; subst hj; simp [Addr.add] <;> rfl
        | 1, hj => simp [cellsP] at hj; subst hj; simp [Addr.add] <;> rfl
        | 2, hj => simp [cellsP] at hj; subst hj; simp [Addr.add] <;> rfl
      case ybq2 => exact cellsP_one _
      case ycq2 => unfold maxLen; omega
      case ydq2 => omega
      case yeq2 => have := HX7.out.2.2.1; simp; omega
      intro vq2 wq2 hownq2 hgrowq2 _
      obtain ⟨hxq2, hsq2⟩ := (HX7.out.alloc _).push ((2, 0, x)) (⟨by simp, by simp, by simp only; omega⟩) (by omega) hownq2 hgrowq2
      have HXq2 := hid hxq2
      have HSq2 : Hid (Sp w wq2 B base) := HS7.out.trans ((Sp.alloc _ _ HX7.out.2.2.1).trans hsq2)
      clear hxq2 hsq2 hownq2 hgrowq2
      obtain ⟨P1, hP1⟩ : ∃ P1, Hid (ps ++ [((2, 0, x) : Pt)] = P1) := ⟨_, rfl⟩
      rw [hP1.out] at HXq2
      obtain ⟨a8, c8, rfl⟩ := HXq2.out.sl
      go_wp2_with fail
      go_ret
      exact ⟨_, [(2, 0, x)], rfl, by rw [hP1.out]; exact HXq2.out, by simp, by simpa using hnb, HSq2.out⟩
    · go_wp2_with fail
      refine (n_any B 30 _ a len cap HX6.out.1 (by omega)).mono ?_
      rintro e w7 ⟨r, rfl, hr, hd7, hg7⟩
      have hr3 : r ≤ 30 := by omega
      obtain ⟨hx7, hs7⟩ := HX6.out.draw hd7 hg7
      have HX7 := hid hx7
      have HS7 := hid (HS6.out.trans hs7)
      clear hx7 hs7 hd7 hg7 HX6 HS6 hr
      go_wp2_with (first | (at_builtin; refine wpList_append_own _ rfl _ _ 40 rfl base 99 ip (.agg #[.int .i64 0, .int .i64 0, .string ByteArray.empty]) 3 32 Tryz.underlying40 hip hp0 hp1 hp2 rfl (by decide) _ (ps).length (cellsP (ps)) rfl (HX7.out.2.2.2.1.alloc _) ⟨w7.heap.size, 0, none⟩ 1 1 (cellsP [(1, (r : Int) - 5, ByteArray.empty)]) rfl rfl ?yaq3 ?ybq3 ?ycq3 ?ydq3 ?yeq3 ?_))
      case yaq3 =>
        intro j u hj
        match j, hj with
        | 0, hj => simp [cellsP] at hj; subst hj; simp [Addr.add] <;> rfl
        | 1, hj => simp [cellsP] at hj; subst hj; simp [Addr.add] <;> rfl
        | 2, hj => simp [cellsP] at hj; subst hj; simp [Addr.add] <;> rfl
      case ybq3 => exact cellsP_one _
      case ycq3 => unfold maxLen; omega
      case ydq3 => omega
      case yeq3 => have := HX7.out.2.2.1; simp; omega
      intro vq3 wq3 hownq3 hgrowq3 _
      obtain ⟨hxq3, hsq3⟩ := (HX7.out.alloc _).push ((1, (r : Int) - 5, ByteArray.empty)) (⟨by simp, by simp only; omega, by simp⟩) (by omega) hownq3 hgrowq3
      have HXq3 := hid hxq3
      have HSq3 : Hid (Sp w wq3 B base) := HS7.out.trans ((Sp.alloc _ _ HX7.out.2.2.1).trans hsq3)
      clear hxq3 hsq3 hownq3 hgrowq3
      obtain ⟨P1, hP1⟩ : ∃ P1, Hid (ps ++ [((1, (r : Int) - 5, ByteArray.empty) : Pt)] = P1) := ⟨_, rfl⟩
      rw [hP1.out] at HXq3
      obtain ⟨a8, c8, rfl⟩ := HXq3.out.sl
      go_wp2_with fail
      go_ret
      exact ⟨_, [(1, (r : Int) - 5, ByteArray.empty)], rfl, by rw [hP1.out]; exact HXq3.out, by simp, by simpa using hnb, HSq3.out⟩
  | succ d ih =>
    intro hd B a len cap base v ps w hx hl
    obtain ⟨ip, hip, hp0, hp1, hp2⟩ := info_parts PrtW.Tryz.infoP
    have HX := hid hx
    have HS := hid (Sp.refl w B base)
    obtain ⟨a0, c0, rfl⟩ := hx.sl
    have hnb := nb_pos (d + 1)
    have hnbd : nb (d + 1) = 1 + 2 * nb d := rfl
    have hnb0 := nb_pos d
    have hnbl : nb d ≤ 7 := by
      rcases (by omega : d = 0 ∨ d = 1 ∨ d = 2) with rfl | rfl | rfl <;> decide
    clear hx
    by_cases h1 : d = 0
    · subst h1
      go_enter Tryz.func100, Tryz.ntmps100
      go_wp2_with fail
      refine (one_any B 2 _ a len cap HX.out.1 (by omega)).mono ?_
      rintro e w6 ⟨b, rfl, hd6, hg6⟩
      obtain ⟨hx6, hs6⟩ := HX.out.draw hd6 hg6
      have HX6 := hid hx6
      have HS6 := hid (HS.out.trans hs6)
      clear hx6 hs6 hd6 hg6 HX
      cases b
      · go_wp2_with fail
        have hb6 := HX6.out.1.lt
        refine (DrawV.pick_any B w6.heap.size 4 fields4 _ a len cap (HX6.out.1.alloc _) hb6 (heap_alloc_new w6 _) rfl (by omega) (by omega)).mono ?_
        rintro e w7 ⟨x, rfl, hxm, hd7, hg7⟩
        have hxs := fields4_len x hxm
        obtain ⟨hx7, hs7⟩ := (HX6.out.alloc _).draw hd7 hg7
        have HX7 := hid hx7
        have HS7 := hid (HS6.out.trans ((Sp.alloc _ _ HX6.out.2.2.1).trans hs7))
        clear hx7 hs7 hd7 hg7 HX6 HS6 hxm
        go_wp2_with (first | (at_builtin; refine wpList_append_own _ rfl _ _ 40 rfl base 99 ip (.agg #[.int .i64 0, .int .i64 0, .string ByteArray.empty]) 3 32 Tryz.underlying40 hip hp0 hp1 hp2 rfl (by decide) _ (ps).length (cellsP (ps)) rfl (HX7.out.2.2.2.1.alloc _) ⟨w7.heap.size, 0, none⟩ 1 1 (cellsP [(2, 0, x)]) rfl rfl ?yaq4 ?ybq4 ?ycq4 ?ydq4 ?yeq4 ?_))
        case yaq4 =>
          intro j u hj
          match j, hj with
          | 0, hj => simp [cellsP] at hj; subst hj; simp [Addr.add] <;> rfl
          | 1, hj => simp [cellsP] at hj; subst hj; simp [Addr.add] <;> rfl
          | 2, hj => simp [cellsP] at hj; subst hj; simp [Addr.add] <;> rfl
        case ybq4 => exact cellsP_one _
        case ycq4 => unfold maxLen; omega
        case ydq4 => omega
        case yeq4 => have := HX7.out.2.2.1; simp; omega
        intro vq4 wq4 hownq4 hgrowq4 _
        obtain ⟨hxq4, hsq4⟩ := (HX7.out.alloc _).push ((2, 0, x)) (⟨by simp, by simp, by simp only; omega⟩) (by omega) hownq4 hgrowq4
        have HXq4 := hid hxq4
        have HSq4 : Hid (Sp w wq4 B base) := HS7.out.trans ((Sp.alloc _ _ HX7.out.2.2.1).trans hsq4)
        clear hxq4 hsq4 hownq4 hgrowq4
        obtain ⟨P1, hP1⟩ : ∃ P1, Hid (ps ++ [((2, 0, x) : Pt)] = P1) := ⟨_, rfl⟩
        rw [hP1.out] at HXq4
        obtain ⟨a8, c8, rfl⟩ := HXq4.out.sl
        go_wp2_with fail
        go_ret
        exact ⟨_, [(2, 0, x)], rfl, by rw [hP1.out]; exact HXq4.out, by simp, by simpa using hnb, HSq4.out⟩
      · go_wp2_with fail
        refine (n_any B 30 _ a len cap HX6.out.1 (by omega)).mono ?_
        rintro e w7 ⟨r, rfl, hr, hd7, hg7⟩
        have hr3 : r ≤ 30 := by omega
        obtain ⟨hx7, hs7⟩ := HX6.out.draw hd7 hg7
        have HX7 := hid hx7
        have HS7 := hid (HS6.out.trans hs7)
        clear hx7 hs7 hd7 hg7 HX6 HS6 hr
        go_wp2_with (first | (at_builtin; refine wpList_append_own _ rfl _ _ 40 rfl base 99 ip (.agg #[.int .i64 0, .int .i64 0, .string ByteArray.empty]) 3 32 Tryz.underlying40 hip hp0 hp1 hp2 rfl (by decide) _ (ps).length (cellsP (ps)) rfl (HX7.out.2.2.2.1.alloc _) ⟨w7.heap.size, 0, none⟩ 1 1 (cellsP [(1, (r : Int) - 5, ByteArray.empty)]) rfl rfl ?yaq5 ?ybq5 ?ycq5 ?ydq5 ?yeq5 ?_))
        case yaq5 =>
          intro j u hj
          match j, hj with
          | 0, hj => simp [cellsP] at hj; subst hj; simp [Addr.add] <;> rfl
          | 1, hj => simp [cellsP] at hj; subst hj; simp [Addr.add] <;> rfl
          | 2, hj => simp [cellsP] at hj; subst hj; simp [Addr.add] <;> rfl
        case ybq5 => exact cellsP_one _
        case ycq5 => unfold maxLen; omega
        case ydq5 => omega
        case yeq5 => have := HX7.out.2.2.1; simp; omega
        intro vq5 wq5 hownq5 hgrowq5 _
        obtain ⟨hxq5, hsq5⟩ := (HX7.out.alloc _).push ((1, (r : Int) - 5, ByteArray.empty)) (⟨by simp, by simp only; omega, by simp⟩) (by omega) hownq5 hgrowq5
        have HXq5 := hid hxq5
        have HSq5 : Hid (Sp w wq5 B base) := HS7.out.trans ((Sp.alloc _ _ HX7.out.2.2.1).trans hsq5)
        clear hxq5 hsq5 hownq5 hgrowq5
        obtain ⟨P1, hP1⟩ : ∃ P1, Hid (ps ++ [((1, (r : Int) - 5, ByteArray.empty) : Pt)] = P1) := ⟨_, rfl⟩
        rw [hP1.out] at HXq5
        obtain ⟨a8, c8, rfl⟩ := HXq5.out.sl
        go_wp2_with fail
        go_ret
        exact ⟨_, [(1, (r : Int) - 5, ByteArray.empty)], rfl, by rw [hP1.out]; exact HXq5.out, by simp, by simpa using hnb, HSq5.out⟩
    · have h1i : ¬ ((d : Int) + 1) ≤ 1 := by omega
      have h1j : (1 : Int) < (d : Int) + 1 := by omega
      go_enter Tryz.func100, Tryz.ntmps100
      go_wp2_with fail
      refine (one_any B 3 _ a len cap HX.out.1 (by omega)).mono ?_
      rintro e w1 ⟨b, rfl, hd1, hg1⟩
      obtain ⟨hx1, hs1⟩ := HX.out.draw hd1 hg1
      have HX1 := hid hx1
      have HS1 := hid hs1
      clear hx1 hs1 hd1 hg1 HX
      cases b
      · go_wp2_with fail
        refine (one_any B 2 _ a len cap HX1.out.1 (by omega)).mono ?_
        rintro e w6 ⟨b, rfl, hd6, hg6⟩
        obtain ⟨hx6, hs6⟩ := HX1.out.draw hd6 hg6
        have HX6 := hid hx6
        have HS6 := hid (HS1.out.trans hs6)
        clear hx6 hs6 hd6 hg6 HX1
        cases b
        · go_wp2_with fail
          have hb6 := HX6.out.1.lt
          refine (DrawV.pick_any B w6.heap.size 4 fields4 _ a len cap (HX6.out.1.alloc _) hb6 (heap_alloc_new w6 _) rfl (by omega) (by omega)).mono ?_
          rintro e w7 ⟨x, rfl, hxm, hd7, hg7⟩
          have hxs := fields4_len x hxm
          obtain ⟨hx7, hs7⟩ := (HX6.out.alloc _).draw hd7 hg7
          have HX7 := hid hx7
          have HS7 := hid (HS6.out.trans ((Sp.alloc _ _ HX6.out.2.2.1).trans hs7))
          clear hx7 hs7 hd7 hg7 HX6 HS6 hxm
          go_wp2_with (first | (at_builtin; refine wpList_append_own _ rfl _ _ 40 rfl base 99 ip (.agg #[.int .i64 0, .int .i64 0, .string ByteArray.empty]) 3 32 Tryz.underlying40 hip hp0 hp1 hp2 rfl (by decide) _ (ps).length (cellsP (ps)) rfl (HX7.out.2.2.2.1.alloc _) ⟨w7.heap.size, 0, none⟩ 1 1 (cellsP [(2, 0, x)]) rfl rfl ?yaq6 ?ybq6 ?ycq6 ?ydq6 ?yeq6 ?_))
          case yaq6 =>
            intro j u hj
            match j, hj with
            | 0, hj => simp [cellsP] at hj; subst hj; simp [Addr.add] <;> rfl
            | 1, hj => simp [cellsP] at hj; subst hj; simp [Addr.add] <;> rfl
            | 2, hj => simp [cellsP] at hj; subst hj; simp [Addr.add] <;> rfl
          case ybq6 => exact cellsP_one _
          case ycq6 => unfold maxLen; omega
          case ydq6 => omega
          case yeq6 => have := HX7.out.2.2.1; simp; omega
          intro vq6 wq6 hownq6 hgrowq6 _
          obtain ⟨hxq6, hsq6⟩ := (HX7.out.alloc _).push ((2, 0, x)) (⟨by simp, by simp, by simp only; omega⟩) (by omega) hownq6 hgrowq6
          have HXq6 := hid hxq6
          have HSq6 : Hid (Sp w wq6 B base) := HS7.out.trans ((Sp.alloc _ _ HX7.out.2.2.1).trans hsq6)
          clear hxq6 hsq6 hownq6 hgrowq6
          obtain ⟨P1, hP1⟩ : ∃ P1, Hid (ps ++ [((2, 0, x) : Pt)] = P1) := ⟨_, rfl⟩
          rw [hP1.out] at HXq6
          obtain ⟨a8, c8, rfl⟩ := HXq6.out.sl
          go_wp2_with fail
          go_ret
          exact ⟨_, [(2, 0, x)], rfl, by rw [hP1.out]; exact HXq6.out, by simp, by simpa using hnb, HSq6.out⟩
        · go_wp2_with fail
          refine (n_any B 30 _ a len cap HX6.out.1 (by omega)).mono ?_
          rintro e w7 ⟨r, rfl, hr, hd7, hg7⟩
          have hr3 : r ≤ 30 := by omega
          obtain ⟨hx7, hs7⟩ := HX6.out.draw hd7 hg7
          have HX7 := hid hx7
          have HS7 := hid (HS6.out.trans hs7)
          clear hx7 hs7 hd7 hg7 HX6 HS6 hr
          go_wp2_with (first | (at_builtin; refine wpList_append_own _ rfl _ _ 40 rfl base 99 ip (.agg #[.int .i64 0, .int .i64 0, .string ByteArray.empty]) 3 32 Tryz.underlying40 hip hp0 hp1 hp2 rfl (by decide) _ (ps).length (cellsP (ps)) rfl (HX7.out.2.2.2.1.alloc _) ⟨w7.heap.size, 0, none⟩ 1 1 (cellsP [(1, (r : Int) - 5, ByteArray.empty)]) rfl rfl ?yaq7 ?ybq7 ?ycq7 ?ydq7 ?yeq7 ?_))
          case yaq7 =>
            intro j u hj
            match j, hj with
            | 0, hj => simp [cellsP] at hj; subst hj; simp [Addr.add] <;> rfl
            | 1, hj => simp [cellsP] at hj; subst hj; simp [Addr.add] <;> rfl
            | 2, hj => simp [cellsP] at hj; subst hj; simp [Addr.add] <;> rfl
          case ybq7 => exact cellsP_one _
          case ycq7 => unfold maxLen; omega
          case ydq7 => omega
          case yeq7 => have := HX7.out.2.2.1; simp; omega
          intro vq7 wq7 hownq7 hgrowq7 _
          obtain ⟨hxq7, hsq7⟩ := (HX7.out.alloc _).push ((1, (r : Int) - 5, ByteArray.empty)) (⟨by simp, by simp only; omega, by simp⟩) (by omega) hownq7 hgrowq7
          have HXq7 := hid hxq7
          have HSq7 : Hid (Sp w wq7 B base) := HS7.out.trans ((Sp.alloc _ _ HX7.out.2.2.1).trans hsq7)
          clear hxq7 hsq7 hownq7 hgrowq7
          obtain ⟨P1, hP1⟩ : ∃ P1, Hid (ps ++ [((1, (r : Int) - 5, ByteArray.empty) : Pt)] = P1) := ⟨_, rfl⟩
          rw [hP1.out] at HXq7
          obtain ⟨a8, c8, rfl⟩ := HXq7.out.sl
          go_wp2_with fail
          go_ret
          exact ⟨_, [(1, (r : Int) - 5, ByteArray.empty)], rfl, by rw [hP1.out]; exact HXq7.out, by simp, by simpa using hnb, HSq7.out⟩
      · go_wp2_with fail
        refine (n_any B 3 _ a len cap HX1.out.1 (by omega)).mono ?_
        rintro e w2 ⟨r, rfl, hr, hd2, hg2⟩
        have hr3 : r ≤ 3 := by omega
        obtain ⟨hx2, hs2⟩ := HX1.out.draw hd2 hg2
        have HX2 := hid hx2
        have HS2 := hid (HS1.out.trans hs2)
        clear hx2 hs2 hd2 hg2 HX1 HS1 hr
        go_wp2_with (first | (at_builtin; refine wpList_append_own _ rfl _ _ 40 rfl base 99 ip (.agg #[.int .i64 0, .int .i64 0, .string ByteArray.empty]) 3 32 Tryz.underlying40 hip hp0 hp1 hp2 rfl (by decide) _ (ps).length (cellsP (ps)) rfl (HX2.out.2.2.2.1.alloc _) ⟨w2.heap.size, 0, none⟩ 1 1 (cellsP [(3 + (r : Int), 0, ByteArray.empty)]) rfl rfl ?yaq1 ?ybq1 ?ycq1 ?ydq1 ?yeq1 ?_))
        case yaq1 =>
          intro j u hj
          match j, hj with
          | 0, hj => simp [cellsP] at hj; subst hj; simp [Addr.add] <;> rfl
          | 1, hj => simp [cellsP] at hj; subst hj; simp [Addr.add] <;> rfl
          | 2, hj => simp [cellsP] at hj; subst hj; simp [Addr.add] <;> rfl
        case ybq1 => exact cellsP_one _
        case ycq1 => unfold maxLen; omega
        case ydq1 => omega
        case yeq1 => have := HX2.out.2.2.1; simp; omega
        intro vq1 wq1 hownq1 hgrowq1 _
        obtain ⟨hxq1, hsq1⟩ := (HX2.out.alloc _).push ((3 + (r : Int), 0, ByteArray.empty)) (⟨by simp only; omega, by simp, by simp⟩) (by omega) hownq1 hgrowq1
        have HXq1 := hid hxq1
        have HSq1 : Hid (Sp w wq1 B base) := HS2.out.trans ((Sp.alloc _ _ HX2.out.2.2.1).trans hsq1)
        clear hxq1 hsq1 hownq1 hgrowq1
        obtain ⟨P1, hP1⟩ : ∃ P1, Hid (ps ++ [((3 + (r : Int), 0, ByteArray.empty) : Pt)] = P1) := ⟨_, rfl⟩
        have hL1 : P1.length + 2 * nb d ≤ 10000 := by rw [← hP1.out]; simp; omega
        rw [hP1.out] at HXq1
        obtain ⟨a1, c1, rfl⟩ := HXq1.out.sl
        go_wp2_with fail
        refine (ih (by omega) B a len cap base _ P1 wq1 HXq1.out (by omega)).mono ?_
        rintro e w4 ⟨v4, qs4, rfl, hx4, hp4, hq4, hs4⟩
        obtain ⟨P2, hP2⟩ : ∃ P2, Hid (P1 ++ qs4 = P2) := ⟨_, rfl⟩
        have hL2 : P2.length + nb d ≤ 10000 := by rw [← hP2.out]; simp; omega
        rw [hP2.out] at hx4
        have HX4 := hid hx4
        have HS4 := hid (HSq1.out.trans hs4)
        obtain ⟨a4, c4, rfl⟩ := hx4.sl
        clear hx4 hs4 HXq1 HSq1
        go_wp2_with fail
        refine (ih (by omega) B a len cap base _ P2 w4 HX4.out (by omega)).mono ?_
        rintro e w5 ⟨v5, qs5, rfl, hx5, hp5, hq5, hs5⟩
        obtain ⟨P3, hP3⟩ : ∃ P3, Hid (P2 ++ qs5 = P3) := ⟨_, rfl⟩
        rw [hP3.out] at hx5
        have HX5 := hid hx5
        have HS5 := hid (HS4.out.trans hs5)
        obtain ⟨a5, c5, rfl⟩ := hx5.sl
        clear hx5 hs5 HX4 HS4
        go_wp2_with fail
        go_ret
        refine ⟨_, [(3 + (r : Int), 0, ByteArray.empty)] ++ qs4 ++ qs5, rfl, ?_, by simp, by simp; omega, HS5.out⟩
        rw [show ps ++ ([(3 + (r : Int), 0, ByteArray.empty)] ++ qs4 ++ qs5) = P3 by rw [← hP3.out, ← hP2.out, ← hP1.out]; simp]
        exact HX5.out
end Go.Proofs.YtecopedjjfimoaaGreatDoor.DrawX
/- Truths of expressions as a law draws them: a bound of how many parts they have. -/
namespace Go.Proofs.YtecopedjjfimoaaGreatDoor.DrawX
open Go.RowKit
open DrawW StrW
open PrtW (Pt pt0 Fit cellsP cellsP_append cellsP_one)
open ErpI (Own)

def fields3 : List ByteArray := [⟨#[97, 103, 101]⟩, ⟨#[110, 97, 109, 101]⟩, ⟨#[108, 105, 107, 101, 115]⟩]
theorem fields3_len : ∀ x ∈ fields3, x.size ≤ 5 := by decide
theorem likes_size : (⟨#[108, 105, 107, 101, 115]⟩ : ByteArray).size ≤ 1048576 := by decide
theorem tb_low (d : Nat) : 15 ≤ tb d := by
  induction d with
  | zero => decide
  | succ d ih => show 15 ≤ 1 + 2 * tb d; omega
set_option maxRecDepth 10000 in
set_option maxHeartbeats 4000000 in
theorem truth_any : ∀ (d : Nat), d ≤ 3 → ∀ (B : Nat) (a : Option Addr) (len cap base : Nat) (v : Value) (ps : List Pt) (w : World), X w B a len cap base v ps → ps.length + tb d ≤ 10000 →
    Calls Tryz.prog 99 #[.pointer (some ⟨B, 0, none⟩), v, .int .i64 d] w fun e w' =>
      ∃ v' qs, e = .returned v' ∧ X w' B a len cap base v' (ps ++ qs) ∧ 0 < qs.length ∧ qs.length ≤ tb d ∧ Sp w w' B base := by
  intro d
  induction d with
  | zero =>
    intro _ B a len cap base v ps w hx hl
    have htb := tb_low 0
    obtain ⟨ip, hip, hp0, hp1, hp2⟩ := info_parts PrtW.Tryz.infoP
    have HX := hid hx
    have HS := hid (Sp.refl w B base)
    obtain ⟨a0, c0, rfl⟩ := hx.sl
    clear hx
    go_enter Tryz.func99, Tryz.ntmps99
    go_wp2_with fail
    refine (n_any B 6 _ a len cap HX.out.1 (by omega)).mono ?_
    rintro e w6 ⟨r, rfl, hr, hd6, hg6⟩
    obtain ⟨hx6, hs6⟩ := HX.out.draw hd6 hg6
    have HX6 := hid hx6
    have HS6 := hid (HS.out.trans hs6)
    clear hx6 hs6 hd6 hg6 HX hr
    by_cases hr0 : r = 0
    · subst hr0
      go_wp2_with fail
      refine (n_any B 4 _ a len cap HX6.out.1 (by omega)).mono ?_
      rintro e w7 ⟨r2, rfl, hr2, hd7, hg7⟩
      have hr3 : r2 ≤ 4 := by omega
      obtain ⟨hx7, hs7⟩ := HX6.out.draw hd7 hg7
      have HX7 := hid hx7
      have HS7 := hid (HS6.out.trans hs7)
      clear hx7 hs7 hd7 hg7 HX6 HS6 hr2
      go_wp2_with (first | (at_builtin; refine wpList_append_own _ rfl _ _ 40 rfl base 99 ip (.agg #[.int .i64 0, .int .i64 0, .string ByteArray.empty]) 3 32 Tryz.underlying40 hip hp0 hp1 hp2 rfl (by decide) _ (ps).length (cellsP (ps)) rfl (HX7.out.2.2.2.1.alloc _) ⟨w7.heap.size, 0, none⟩ 1 1 (cellsP [(12, 1 + (r2 : Int), ⟨#[108, 105, 107, 101, 115]⟩)]) rfl rfl ?yaq10 ?ybq10 ?ycq10 ?ydq10 ?yeq10 ?_))
      case yaq10 =>
        intro j u hj
        match j, hj with
        | 0, hj => simp [cellsP] at hj; subst hj; simp [Addr.add] <;> rfl
        | 1, hj => simp [cellsP] at hj; subst hj; simp [Addr.add] <;> rfl
        | 2, hj => simp [cellsP] at hj; subst hj; simp [Addr.add] <;> rfl
      case ybq10 => exact cellsP_one _
      case ycq10 => unfold maxLen; omega
      case ydq10 => omega
      case yeq10 => have := HX7.out.2.2.1; simp; omega
      intro vq10 wq10 hownq10 hgrowq10 _
      obtain ⟨hxq10, hsq10⟩ := (HX7.out.alloc _).push ((12, 1 + (r2 : Int), ⟨#[108, 105, 107, 101, 115]⟩)) (⟨by simp, by simp only; omega, by simp only; exact likes_size⟩) (by omega) hownq10 hgrowq10
      have HXq10 := hid hxq10
      have HSq10 : Hid (Sp w wq10 B base) := HS7.out.trans ((Sp.alloc _ _ HX7.out.2.2.1).trans hsq10)
      clear hxq10 hsq10 hownq10 hgrowq10
      obtain ⟨P1, hP1⟩ : ∃ P1, Hid (ps ++ [((12, 1 + (r2 : Int), ⟨#[108, 105, 107, 101, 115]⟩) : Pt)] = P1) := ⟨_, rfl⟩
      have hLP1 : P1.length = ps.length + 1 := by rw [← hP1.out]; simp
      have hMP1 := Nat.le_of_eq hLP1
      have hKP1 := Nat.le_of_eq hLP1.symm
      clear hLP1
      rw [hP1.out] at HXq10
      obtain ⟨aq10, cq10, rfl⟩ := HXq10.out.sl
      go_wp2_with fail
      go_ret
      exact ⟨_, [(12, 1 + (r2 : Int), ⟨#[108, 105, 107, 101, 115]⟩)], rfl, by rw [hP1.out]; exact HXq10.out, by simp, by simp; omega, HSq10.out⟩
    by_cases hr1 : r = 1
    · subst hr1
      clear hr0
      go_wp2_with fail
      have hb6 := HX6.out.1.lt
      refine (DrawV.pick_any B w6.heap.size 3 fields3 _ a len cap (HX6.out.1.alloc _) hb6 (heap_alloc_new w6 _) rfl (by omega) (by omega)).mono ?_
      rintro e w7 ⟨x, rfl, hxm, hd7, hg7⟩
      have hxs := fields3_len x hxm
      obtain ⟨hx7, hs7⟩ := (HX6.out.alloc _).draw hd7 hg7
      have HX7 := hid hx7
      have HS7 := hid (HS6.out.trans ((Sp.alloc _ _ HX6.out.2.2.1).trans hs7))
      clear hx7 hs7 hd7 hg7 HX6 HS6 hxm
      go_wp2_with (first | (at_builtin; refine wpList_append_own _ rfl _ _ 40 rfl base 99 ip (.agg #[.int .i64 0, .int .i64 0, .string ByteArray.empty]) 3 32 Tryz.underlying40 hip hp0 hp1 hp2 rfl (by decide) _ (ps).length (cellsP (ps)) rfl (HX7.out.2.2.2.1.alloc _) ⟨w7.heap.size, 0, none⟩ 1 1 (cellsP [(13, 0, x)]) rfl rfl ?yaq11 ?ybq11 ?ycq11 ?ydq11 ?yeq11 ?_))
      case yaq11 =>
        intro j u hj
        match j, hj with
        | 0, hj => simp [cellsP] at hj; subst hj; simp [Addr.add] <;> rfl
        | 1, hj => simp [cellsP] at hj; subst hj; simp [Addr.add] <;> rfl
        | 2, hj => simp [cellsP] at hj; subst hj; simp [Addr.add] <;> rfl
      case ybq11 => exact cellsP_one _
      case ycq11 => unfold maxLen; omega
      case ydq11 => omega
      case yeq11 => have := HX7.out.2.2.1; simp; omega
      intro vq11 wq11 hownq11 hgrowq11 _
      obtain ⟨hxq11, hsq11⟩ := (HX7.out.alloc _).push ((13, 0, x)) (⟨by simp, by simp, by simp only; omega⟩) (by omega) hownq11 hgrowq11
      have HXq11 := hid hxq11
      have HSq11 : Hid (Sp w wq11 B base) := HS7.out.trans ((Sp.alloc _ _ HX7.out.2.2.1).trans hsq11)
      clear hxq11 hsq11 hownq11 hgrowq11
      obtain ⟨P1, hP1⟩ : ∃ P1, Hid (ps ++ [((13, 0, x) : Pt)] = P1) := ⟨_, rfl⟩
      have hLP1 : P1.length = ps.length + 1 := by rw [← hP1.out]; simp
      have hMP1 := Nat.le_of_eq hLP1
      have hKP1 := Nat.le_of_eq hLP1.symm
      clear hLP1
      rw [hP1.out] at HXq11
      obtain ⟨aq11, cq11, rfl⟩ := HXq11.out.sl
      go_wp2_with fail
      go_ret
      exact ⟨_, [(13, 0, x)], rfl, by rw [hP1.out]; exact HXq11.out, by simp, by simp; omega, HSq11.out⟩
    · have q0 : ((r : Int) == 0) = false := by simp; omega
      have q1 : ((r : Int) == 1) = false := by simp; omega
      clear hr0 hr1
      go_wp2_with fail
      refine (n_any B 3 _ a len cap HX6.out.1 (by omega)).mono ?_
      rintro e w7 ⟨r2, rfl, hr2, hd7, hg7⟩
      have hr3 : r2 ≤ 3 := by omega
      obtain ⟨hx7, hs7⟩ := HX6.out.draw hd7 hg7
      have HX7 := hid hx7
      have HS7 := hid (HS6.out.trans hs7)
      clear hx7 hs7 hd7 hg7 HX6 HS6 hr2
      go_wp2_with (first | (at_builtin; refine wpList_append_own _ rfl _ _ 40 rfl base 99 ip (.agg #[.int .i64 0, .int .i64 0, .string ByteArray.empty]) 3 32 Tryz.underlying40 hip hp0 hp1 hp2 rfl (by decide) _ (ps).length (cellsP (ps)) rfl (HX7.out.2.2.2.1.alloc _) ⟨w7.heap.size, 0, none⟩ 1 1 (cellsP [(6 + (r2 : Int), 0, ByteArray.empty)]) rfl rfl ?yaq12 ?ybq12 ?ycq12 ?ydq12 ?yeq12 ?_))
      case yaq12 =>
        intro j u hj
        match j, hj with
        | 0, hj => simp [cellsP] at hj; subst hj; simp [Addr.add] <;> rfl
        | 1, hj => simp [cellsP] at hj; subst hj; simp [Addr.add] <;> rfl
        | 2, hj => simp [cellsP] at hj; subst hj; simp [Addr.add] <;> rfl
      case ybq12 => exact cellsP_one _
      case ycq12 => unfold maxLen; omega
      case ydq12 => omega
      case yeq12 => have := HX7.out.2.2.1; simp; omega
      intro vq12 wq12 hownq12 hgrowq12 _
      obtain ⟨hxq12, hsq12⟩ := (HX7.out.alloc _).push ((6 + (r2 : Int), 0, ByteArray.empty)) (⟨by simp only; omega, by simp, by simp⟩) (by omega) hownq12 hgrowq12
      have HXq12 := hid hxq12
      have HSq12 : Hid (Sp w wq12 B base) := HS7.out.trans ((Sp.alloc _ _ HX7.out.2.2.1).trans hsq12)
      clear hxq12 hsq12 hownq12 hgrowq12
      obtain ⟨P1, hP1⟩ : ∃ P1, Hid (ps ++ [((6 + (r2 : Int), 0, ByteArray.empty) : Pt)] = P1) := ⟨_, rfl⟩
      have hLP1 : P1.length = ps.length + 1 := by rw [← hP1.out]; simp
      have hMP1 := Nat.le_of_eq hLP1
      have hKP1 := Nat.le_of_eq hLP1.symm
      clear hLP1
      rw [hP1.out] at HXq12
      obtain ⟨aq12, cq12, rfl⟩ := HXq12.out.sl
      go_wp2_with fail
      refine (number_any 2 (by omega) B a len cap base _ P1 wq12 HXq12.out (by rw [show nb 2 = 7 from rfl]; omega)).mono ?_
      rintro e w8 ⟨v8, qs8, rfl, hx8, hp8, hq8, hs8⟩
      rw [show nb 2 = 7 from rfl] at hq8
      obtain ⟨P2, hP2⟩ : ∃ P2, Hid (P1 ++ qs8 = P2) := ⟨_, rfl⟩
      have hL2 : P2.length ≤ P1.length + 7 := by rw [← hP2.out]; simp; omega
      rw [hP2.out] at hx8
      have HX8 := hid hx8
      have HS8 := hid (HSq12.out.trans hs8)
      obtain ⟨a8, c8, rfl⟩ := hx8.sl
      clear hx8 hs8 HXq12 HSq12
      go_wp2_with fail
      refine (number_any 2 (by omega) B a len cap base _ P2 w8 HX8.out (by rw [show nb 2 = 7 from rfl]; omega)).mono ?_
      rintro e w9 ⟨v9, qs9, rfl, hx9, hp9, hq9, hs9⟩
      rw [show nb 2 = 7 from rfl] at hq9
      obtain ⟨P3, hP3⟩ : ∃ P3, Hid (P2 ++ qs9 = P3) := ⟨_, rfl⟩
      rw [hP3.out] at hx9
      have HX9 := hid hx9
      have HS9 := hid (HS8.out.trans hs9)
      obtain ⟨a9, c9, rfl⟩ := hx9.sl
      clear hx9 hs9 HX8 HS8
      go_wp2_with fail
      go_ret
      refine ⟨_, [(6 + (r2 : Int), 0, ByteArray.empty)] ++ qs8 ++ qs9, rfl, ?_, by simp, by simp; omega, HS9.out⟩
      rw [show ps ++ ([(6 + (r2 : Int), 0, ByteArray.empty)] ++ qs8 ++ qs9) = P3 by rw [← hP3.out, ← hP2.out, ← hP1.out]; simp]
      exact HX9.out
  | succ d ih =>
    intro hd B a len cap base v ps w hx hl
    have htb := tb_low (d + 1)
    have htbd : tb (d + 1) = 1 + 2 * tb d := rfl
    have htb0 := tb_low d
    have HTB := hid htbd
    clear htbd
    obtain ⟨ip, hip, hp0, hp1, hp2⟩ := info_parts PrtW.Tryz.infoP
    have HX := hid hx
    have HS := hid (Sp.refl w B base)
    obtain ⟨a0, c0, rfl⟩ := hx.sl
    clear hx
    by_cases h1 : d = 0
    · subst h1
      have htb1 := tb_low 1
      go_enter Tryz.func99, Tryz.ntmps99
      go_wp2_with fail
      refine (n_any B 6 _ a len cap HX.out.1 (by omega)).mono ?_
      rintro e w6 ⟨r, rfl, hr, hd6, hg6⟩
      obtain ⟨hx6, hs6⟩ := HX.out.draw hd6 hg6
      have HX6 := hid hx6
      have HS6 := hid (HS.out.trans hs6)
      clear hx6 hs6 hd6 hg6 HX hr
      by_cases hr0 : r = 0
      · subst hr0
        go_wp2_with fail
        refine (n_any B 4 _ a len cap HX6.out.1 (by omega)).mono ?_
        rintro e w7 ⟨r2, rfl, hr2, hd7, hg7⟩
        have hr3 : r2 ≤ 4 := by omega
        obtain ⟨hx7, hs7⟩ := HX6.out.draw hd7 hg7
        have HX7 := hid hx7
        have HS7 := hid (HS6.out.trans hs7)
        clear hx7 hs7 hd7 hg7 HX6 HS6 hr2
        go_wp2_with (first | (at_builtin; refine wpList_append_own _ rfl _ _ 40 rfl base 99 ip (.agg #[.int .i64 0, .int .i64 0, .string ByteArray.empty]) 3 32 Tryz.underlying40 hip hp0 hp1 hp2 rfl (by decide) _ (ps).length (cellsP (ps)) rfl (HX7.out.2.2.2.1.alloc _) ⟨w7.heap.size, 0, none⟩ 1 1 (cellsP [(12, 1 + (r2 : Int), ⟨#[108, 105, 107, 101, 115]⟩)]) rfl rfl ?yaq13 ?ybq13 ?ycq13 ?ydq13 ?yeq13 ?_))
        case yaq13 =>
          intro j u hj
          match j, hj with
          | 0, hj => simp [cellsP] at hj; subst hj; simp [Addr.add] <;> rfl
          | 1, hj => simp [cellsP] at hj; subst hj; simp [Addr.add] <;> rfl
          | 2, hj => simp [cellsP] at hj; subst hj; simp [Addr.add] <;> rfl
        case ybq13 => exact cellsP_one _
        case ycq13 => unfold maxLen; omega
        case ydq13 => omega
        case yeq13 => have := HX7.out.2.2.1; simp; omega
        intro vq13 wq13 hownq13 hgrowq13 _
        obtain ⟨hxq13, hsq13⟩ := (HX7.out.alloc _).push ((12, 1 + (r2 : Int), ⟨#[108, 105, 107, 101, 115]⟩)) (⟨by simp, by simp only; omega, by simp only; exact likes_size⟩) (by omega) hownq13 hgrowq13
        have HXq13 := hid hxq13
        have HSq13 : Hid (Sp w wq13 B base) := HS7.out.trans ((Sp.alloc _ _ HX7.out.2.2.1).trans hsq13)
        clear hxq13 hsq13 hownq13 hgrowq13
        obtain ⟨P1, hP1⟩ : ∃ P1, Hid (ps ++ [((12, 1 + (r2 : Int), ⟨#[108, 105, 107, 101, 115]⟩) : Pt)] = P1) := ⟨_, rfl⟩
        have hLP1 : P1.length = ps.length + 1 := by rw [← hP1.out]; simp
        have hMP1 := Nat.le_of_eq hLP1
        have hKP1 := Nat.le_of_eq hLP1.symm
        clear hLP1
        rw [hP1.out] at HXq13
        obtain ⟨aq13, cq13, rfl⟩ := HXq13.out.sl
        go_wp2_with fail
        go_ret
        exact ⟨_, [(12, 1 + (r2 : Int), ⟨#[108, 105, 107, 101, 115]⟩)], rfl, by rw [hP1.out]; exact HXq13.out, by simp, by simp; omega, HSq13.out⟩
      by_cases hr1 : r = 1
      · subst hr1
        clear hr0
        go_wp2_with fail
        have hb6 := HX6.out.1.lt
        refine (DrawV.pick_any B w6.heap.size 3 fields3 _ a len cap (HX6.out.1.alloc _) hb6 (heap_alloc_new w6 _) rfl (by omega) (by omega)).mono ?_
        rintro e w7 ⟨x, rfl, hxm, hd7, hg7⟩
        have hxs := fields3_len x hxm
        obtain ⟨hx7, hs7⟩ := (HX6.out.alloc _).draw hd7 hg7
        have HX7 := hid hx7
        have HS7 := hid (HS6.out.trans ((Sp.alloc _ _ HX6.out.2.2.1).trans hs7))
        clear hx7 hs7 hd7 hg7 HX6 HS6 hxm
        go_wp2_with (first | (at_builtin; refine wpList_append_own _ rfl _ _ 40 rfl base 99 ip (.agg #[.int .i64 0, .int .i64 0, .string ByteArray.empty]) 3 32 Tryz.underlying40 hip hp0 hp1 hp2 rfl (by decide) _ (ps).length (cellsP (ps)) rfl (HX7.out.2.2.2.1.alloc _) ⟨w7.heap.size, 0, none⟩ 1 1 (cellsP [(13, 0, x)]) rfl rfl ?yaq14 ?ybq14 ?ycq14 ?ydq14 ?yeq14 ?_))
        case yaq14 =>
          intro j u hj
          match j, hj with
          | 0, hj => simp [cellsP] at hj; subst hj; simp [Addr.add] <;> rfl
          | 1, hj => simp [cellsP] at hj; subst hj; simp [Addr.add] <;> rfl
          | 2, hj => simp [cellsP] at hj; subst hj; simp [Addr.add] <;> rfl
        case ybq14 => exact cellsP_one _
        case ycq14 => unfold maxLen; omega
        case ydq14 => omega
        case yeq14 => have := HX7.out.2.2.1; simp; omega
        intro vq14 wq14 hownq14 hgrowq14 _
        obtain ⟨hxq14, hsq14⟩ := (HX7.out.alloc _).push ((13, 0, x)) (⟨by simp, by simp, by simp only; omega⟩) (by omega) hownq14 hgrowq14
        have HXq14 := hid hxq14
        have HSq14 : Hid (Sp w wq14 B base) := HS7.out.trans ((Sp.alloc _ _ HX7.out.2.2.1).trans hsq14)
        clear hxq14 hsq14 hownq14 hgrowq14
        obtain ⟨P1, hP1⟩ : ∃ P1, Hid (ps ++ [((13, 0, x) : Pt)] = P1) := ⟨_, rfl⟩
        have hLP1 : P1.length = ps.length + 1 := by rw [← hP1.out]; simp
        have hMP1 := Nat.le_of_eq hLP1
        have hKP1 := Nat.le_of_eq hLP1.symm
        clear hLP1
        rw [hP1.out] at HXq14
        obtain ⟨aq14, cq14, rfl⟩ := HXq14.out.sl
        go_wp2_with fail
        go_ret
        exact ⟨_, [(13, 0, x)], rfl, by rw [hP1.out]; exact HXq14.out, by simp, by simp; omega, HSq14.out⟩
      · have q0 : ((r : Int) == 0) = false := by simp; omega
        have q1 : ((r : Int) == 1) = false := by simp; omega
        clear hr0 hr1
        go_wp2_with fail
        refine (n_any B 3 _ a len cap HX6.out.1 (by omega)).mono ?_
        rintro e w7 ⟨r2, rfl, hr2, hd7, hg7⟩
        have hr3 : r2 ≤ 3 := by omega
        obtain ⟨hx7, hs7⟩ := HX6.out.draw hd7 hg7
        have HX7 := hid hx7
        have HS7 := hid (HS6.out.trans hs7)
        clear hx7 hs7 hd7 hg7 HX6 HS6 hr2
        go_wp2_with (first | (at_builtin; refine wpList_append_own _ rfl _ _ 40 rfl base 99 ip (.agg #[.int .i64 0, .int .i64 0, .string ByteArray.empty]) 3 32 Tryz.underlying40 hip hp0 hp1 hp2 rfl (by decide) _ (ps).length (cellsP (ps)) rfl (HX7.out.2.2.2.1.alloc _) ⟨w7.heap.size, 0, none⟩ 1 1 (cellsP [(6 + (r2 : Int), 0, ByteArray.empty)]) rfl rfl ?yaq15 ?ybq15 ?ycq15 ?ydq15 ?yeq15 ?_))
        case yaq15 =>
          intro j u hj
          match j, hj with
          | 0, hj => simp [cellsP] at hj; subst hj; simp [Addr.add] <;> rfl
          | 1, hj => simp [cellsP] at hj; subst hj; simp [Addr.add] <;> rfl
          | 2, hj => simp [cellsP] at hj; subst hj; simp [Addr.add] <;> rfl
        case ybq15 => exact cellsP_one _
        case ycq15 => unfold maxLen; omega
        case ydq15 => omega
        case yeq15 => have := HX7.out.2.2.1; simp; omega
        intro vq15 wq15 hownq15 hgrowq15 _
        obtain ⟨hxq15, hsq15⟩ := (HX7.out.alloc _).push ((6 + (r2 : Int), 0, ByteArray.empty)) (⟨by simp only; omega, by simp, by simp⟩) (by omega) hownq15 hgrowq15
        have HXq15 := hid hxq15
        have HSq15 : Hid (Sp w wq15 B base) := HS7.out.trans ((Sp.alloc _ _ HX7.out.2.2.1).trans hsq15)
        clear hxq15 hsq15 hownq15 hgrowq15
        obtain ⟨P1, hP1⟩ : ∃ P1, Hid (ps ++ [((6 + (r2 : Int), 0, ByteArray.empty) : Pt)] = P1) := ⟨_, rfl⟩
        have hLP1 : P1.length = ps.length + 1 := by rw [← hP1.out]; simp
        have hMP1 := Nat.le_of_eq hLP1
        have hKP1 := Nat.le_of_eq hLP1.symm
        clear hLP1
        rw [hP1.out] at HXq15
        obtain ⟨aq15, cq15, rfl⟩ := HXq15.out.sl
        go_wp2_with fail
        refine (number_any 2 (by omega) B a len cap base _ P1 wq15 HXq15.out (by rw [show nb 2 = 7 from rfl]; omega)).mono ?_
        rintro e w8 ⟨v8, qs8, rfl, hx8, hp8, hq8, hs8⟩
        rw [show nb 2 = 7 from rfl] at hq8
        obtain ⟨P2, hP2⟩ : ∃ P2, Hid (P1 ++ qs8 = P2) := ⟨_, rfl⟩
        have hL2 : P2.length ≤ P1.length + 7 := by rw [← hP2.out]; simp; omega
        rw [hP2.out] at hx8
        have HX8 := hid hx8
        have HS8 := hid (HSq15.out.trans hs8)
        obtain ⟨a8, c8, rfl⟩ := hx8.sl
        clear hx8 hs8 HXq15 HSq15
        go_wp2_with fail
        refine (number_any 2 (by omega) B a len cap base _ P2 w8 HX8.out (by rw [show nb 2 = 7 from rfl]; omega)).mono ?_
        rintro e w9 ⟨v9, qs9, rfl, hx9, hp9, hq9, hs9⟩
        rw [show nb 2 = 7 from rfl] at hq9
        obtain ⟨P3, hP3⟩ : ∃ P3, Hid (P2 ++ qs9 = P3) := ⟨_, rfl⟩
        rw [hP3.out] at hx9
        have HX9 := hid hx9
        have HS9 := hid (HS8.out.trans hs9)
        obtain ⟨a9, c9, rfl⟩ := hx9.sl
        clear hx9 hs9 HX8 HS8
        go_wp2_with fail
        go_ret
        refine ⟨_, [(6 + (r2 : Int), 0, ByteArray.empty)] ++ qs8 ++ qs9, rfl, ?_, by simp, by simp; omega, HS9.out⟩
        rw [show ps ++ ([(6 + (r2 : Int), 0, ByteArray.empty)] ++ qs8 ++ qs9) = P3 by rw [← hP3.out, ← hP2.out, ← hP1.out]; simp]
        exact HX9.out
    · have h1i : ¬ ((d : Int) + 1) ≤ 1 := by omega
      have h1j : (1 : Int) < (d : Int) + 1 := by omega
      go_enter Tryz.func99, Tryz.ntmps99
      go_wp2_with fail
      refine (one_any B 2 _ a len cap HX.out.1 (by omega)).mono ?_
      rintro e w1 ⟨b, rfl, hd1, hg1⟩
      obtain ⟨hx1, hs1⟩ := HX.out.draw hd1 hg1
      have HX1 := hid hx1
      have HS1 := hid hs1
      clear hx1 hs1 hd1 hg1 HX
      cases b
      · go_wp2_with fail
        refine (n_any B 6 _ a len cap HX1.out.1 (by omega)).mono ?_
        rintro e w6 ⟨r, rfl, hr, hd6, hg6⟩
        obtain ⟨hx6, hs6⟩ := HX1.out.draw hd6 hg6
        have HX6 := hid hx6
        have HS6 := hid (HS1.out.trans hs6)
        clear hx6 hs6 hd6 hg6 HX1 hr
        by_cases hr0 : r = 0
        · subst hr0
          go_wp2_with fail
          refine (n_any B 4 _ a len cap HX6.out.1 (by omega)).mono ?_
          rintro e w7 ⟨r2, rfl, hr2, hd7, hg7⟩
          have hr3 : r2 ≤ 4 := by omega
          obtain ⟨hx7, hs7⟩ := HX6.out.draw hd7 hg7
          have HX7 := hid hx7
          have HS7 := hid (HS6.out.trans hs7)
          clear hx7 hs7 hd7 hg7 HX6 HS6 hr2
          go_wp2_with (first | (at_builtin; refine wpList_append_own _ rfl _ _ 40 rfl base 99 ip (.agg #[.int .i64 0, .int .i64 0, .string ByteArray.empty]) 3 32 Tryz.underlying40 hip hp0 hp1 hp2 rfl (by decide) _ (ps).length (cellsP (ps)) rfl (HX7.out.2.2.2.1.alloc _) ⟨w7.heap.size, 0, none⟩ 1 1 (cellsP [(12, 1 + (r2 : Int), ⟨#[108, 105, 107, 101, 115]⟩)]) rfl rfl ?yaq16 ?ybq16 ?ycq16 ?ydq16 ?yeq16 ?_))
          case yaq16 =>
            intro j u hj
            match j, hj with
            | 0, hj => simp [cellsP] at hj; subst hj; simp [Addr.add] <;> rfl
            | 1, hj => simp [cellsP] at hj; subst hj; simp [Addr.add] <;> rfl
            | 2, hj => simp [cellsP] at hj; subst hj; simp [Addr.add] <;> rfl
          case ybq16 => exact cellsP_one _
          case ycq16 => unfold maxLen; omega
          case ydq16 => omega
          case yeq16 => have := HX7.out.2.2.1; simp; omega
          intro vq16 wq16 hownq16 hgrowq16 _
          obtain ⟨hxq16, hsq16⟩ := (HX7.out.alloc _).push ((12, 1 + (r2 : Int), ⟨#[108, 105, 107, 101, 115]⟩)) (⟨by simp, by simp only; omega, by simp only; exact likes_size⟩) (by omega) hownq16 hgrowq16
          have HXq16 := hid hxq16
          have HSq16 : Hid (Sp w wq16 B base) := HS7.out.trans ((Sp.alloc _ _ HX7.out.2.2.1).trans hsq16)
          clear hxq16 hsq16 hownq16 hgrowq16
          obtain ⟨P1, hP1⟩ : ∃ P1, Hid (ps ++ [((12, 1 + (r2 : Int), ⟨#[108, 105, 107, 101, 115]⟩) : Pt)] = P1) := ⟨_, rfl⟩
          have hLP1 : P1.length = ps.length + 1 := by rw [← hP1.out]; simp
          have hMP1 := Nat.le_of_eq hLP1
          have hKP1 := Nat.le_of_eq hLP1.symm
          clear hLP1
          rw [hP1.out] at HXq16
          obtain ⟨aq16, cq16, rfl⟩ := HXq16.out.sl
          go_wp2_with fail
          go_ret
          exact ⟨_, [(12, 1 + (r2 : Int), ⟨#[108, 105, 107, 101, 115]⟩)], rfl, by rw [hP1.out]; exact HXq16.out, by simp, by simp; omega, HSq16.out⟩
        by_cases hr1 : r = 1
        · subst hr1
          clear hr0
          go_wp2_with fail
          have hb6 := HX6.out.1.lt
          refine (DrawV.pick_any B w6.heap.size 3 fields3 _ a len cap (HX6.out.1.alloc _) hb6 (heap_alloc_new w6 _) rfl (by omega) (by omega)).mono ?_
          rintro e w7 ⟨x, rfl, hxm, hd7, hg7⟩
          have hxs := fields3_len x hxm
          obtain ⟨hx7, hs7⟩ := (HX6.out.alloc _).draw hd7 hg7
          have HX7 := hid hx7
          have HS7 := hid (HS6.out.trans ((Sp.alloc _ _ HX6.out.2.2.1).trans hs7))
          clear hx7 hs7 hd7 hg7 HX6 HS6 hxm
          go_wp2_with (first | (at_builtin; refine wpList_append_own _ rfl _ _ 40 rfl base 99 ip (.agg #[.int .i64 0, .int .i64 0, .string ByteArray.empty]) 3 32 Tryz.underlying40 hip hp0 hp1 hp2 rfl (by decide) _ (ps).length (cellsP (ps)) rfl (HX7.out.2.2.2.1.alloc _) ⟨w7.heap.size, 0, none⟩ 1 1 (cellsP [(13, 0, x)]) rfl rfl ?yaq17 ?ybq17 ?ycq17 ?ydq17 ?yeq17 ?_))
          case yaq17 =>
            intro j u hj
            match j, hj with
            | 0, hj => simp [cellsP] at hj; subst hj; simp [Addr.add] <;> rfl
            | 1, hj => simp [cellsP] at hj; subst hj; simp [Addr.add] <;> rfl
            | 2, hj => simp [cellsP] at hj; subst hj; simp [Addr.add] <;> rfl
          case ybq17 => exact cellsP_one _
          case ycq17 => unfold maxLen; omega
          case ydq17 => omega
          case yeq17 => have := HX7.out.2.2.1; simp; omega
          intro vq17 wq17 hownq17 hgrowq17 _
          obtain ⟨hxq17, hsq17⟩ := (HX7.out.alloc _).push ((13, 0, x)) (⟨by simp, by simp, by simp only; omega⟩) (by omega) hownq17 hgrowq17
          have HXq17 := hid hxq17
          have HSq17 : Hid (Sp w wq17 B base) := HS7.out.trans ((Sp.alloc _ _ HX7.out.2.2.1).trans hsq17)
          clear hxq17 hsq17 hownq17 hgrowq17
          obtain ⟨P1, hP1⟩ : ∃ P1, Hid (ps ++ [((13, 0, x) : Pt)] = P1) := ⟨_, rfl⟩
          have hLP1 : P1.length = ps.length + 1 := by rw [← hP1.out]; simp
          have hMP1 := Nat.le_of_eq hLP1
          have hKP1 := Nat.le_of_eq hLP1.symm
          clear hLP1
          rw [hP1.out] at HXq17
          obtain ⟨aq17, cq17, rfl⟩ := HXq17.out.sl
          go_wp2_with fail
          go_ret
          exact ⟨_, [(13, 0, x)], rfl, by rw [hP1.out]; exact HXq17.out, by simp, by simp; omega, HSq17.out⟩
        · have q0 : ((r : Int) == 0) = false := by simp; omega
          have q1 : ((r : Int) == 1) = false := by simp; omega
          clear hr0 hr1
          go_wp2_with fail
          refine (n_any B 3 _ a len cap HX6.out.1 (by omega)).mono ?_
          rintro e w7 ⟨r2, rfl, hr2, hd7, hg7⟩
          have hr3 : r2 ≤ 3 := by omega
          obtain ⟨hx7, hs7⟩ := HX6.out.draw hd7 hg7
          have HX7 := hid hx7
          have HS7 := hid (HS6.out.trans hs7)
          clear hx7 hs7 hd7 hg7 HX6 HS6 hr2
          go_wp2_with (first | (at_builtin; refine wpList_append_own _ rfl _ _ 40 rfl base 99 ip (.agg #[.int .i64 0, .int .i64 0, .string ByteArray.empty]) 3 32 Tryz.underlying40 hip hp0 hp1 hp2 rfl (by decide) _ (ps).length (cellsP (ps)) rfl (HX7.out.2.2.2.1.alloc _) ⟨w7.heap.size, 0, none⟩ 1 1 (cellsP [(6 + (r2 : Int), 0, ByteArray.empty)]) rfl rfl ?yaq18 ?ybq18 ?ycq18 ?ydq18 ?yeq18 ?_))
          case yaq18 =>
            intro j u hj
            match j, hj with
            | 0, hj => simp [cellsP] at hj; subst hj; simp [Addr.add] <;> rfl
            | 1, hj => simp [cellsP] at hj; subst hj; simp [Addr.add] <;> rfl
            | 2, hj => simp [cellsP] at hj; subst hj; simp [Addr.add] <;> rfl
          case ybq18 => exact cellsP_one _
          case ycq18 => unfold maxLen; omega
          case ydq18 => omega
          case yeq18 => have := HX7.out.2.2.1; simp; omega
          intro vq18 wq18 hownq18 hgrowq18 _
          obtain ⟨hxq18, hsq18⟩ := (HX7.out.alloc _).push ((6 + (r2 : Int), 0, ByteArray.empty)) (⟨by simp only; omega, by simp, by simp⟩) (by omega) hownq18 hgrowq18
          have HXq18 := hid hxq18
          have HSq18 : Hid (Sp w wq18 B base) := HS7.out.trans ((Sp.alloc _ _ HX7.out.2.2.1).trans hsq18)
          clear hxq18 hsq18 hownq18 hgrowq18
          obtain ⟨P1, hP1⟩ : ∃ P1, Hid (ps ++ [((6 + (r2 : Int), 0, ByteArray.empty) : Pt)] = P1) := ⟨_, rfl⟩
          have hLP1 : P1.length = ps.length + 1 := by rw [← hP1.out]; simp
          have hMP1 := Nat.le_of_eq hLP1
          have hKP1 := Nat.le_of_eq hLP1.symm
          clear hLP1
          rw [hP1.out] at HXq18
          obtain ⟨aq18, cq18, rfl⟩ := HXq18.out.sl
          go_wp2_with fail
          refine (number_any 2 (by omega) B a len cap base _ P1 wq18 HXq18.out (by rw [show nb 2 = 7 from rfl]; omega)).mono ?_
          rintro e w8 ⟨v8, qs8, rfl, hx8, hp8, hq8, hs8⟩
          rw [show nb 2 = 7 from rfl] at hq8
          obtain ⟨P2, hP2⟩ : ∃ P2, Hid (P1 ++ qs8 = P2) := ⟨_, rfl⟩
          have hL2 : P2.length ≤ P1.length + 7 := by rw [← hP2.out]; simp; omega
          rw [hP2.out] at hx8
          have HX8 := hid hx8
          have HS8 := hid (HSq18.out.trans hs8)
          obtain ⟨a8, c8, rfl⟩ := hx8.sl
          clear hx8 hs8 HXq18 HSq18
          go_wp2_with fail
          refine (number_any 2 (by omega) B a len cap base _ P2 w8 HX8.out (by rw [show nb 2 = 7 from rfl]; omega)).mono ?_
          rintro e w9 ⟨v9, qs9, rfl, hx9, hp9, hq9, hs9⟩
          rw [show nb 2 = 7 from rfl] at hq9
          obtain ⟨P3, hP3⟩ : ∃ P3, Hid (P2 ++ qs9 = P3) := ⟨_, rfl⟩
          rw [hP3.out] at hx9
          have HX9 := hid hx9
          have HS9 := hid (HS8.out.trans hs9)
          obtain ⟨a9, c9, rfl⟩ := hx9.sl
          clear hx9 hs9 HX8 HS8
          go_wp2_with fail
          go_ret
          refine ⟨_, [(6 + (r2 : Int), 0, ByteArray.empty)] ++ qs8 ++ qs9, rfl, ?_, by simp, by simp; omega, HS9.out⟩
          rw [show ps ++ ([(6 + (r2 : Int), 0, ByteArray.empty)] ++ qs8 ++ qs9) = P3 by rw [← hP3.out, ← hP2.out, ← hP1.out]; simp]
          exact HX9.out
      go_wp2_with fail
      refine (one_any B 3 _ a len cap HX1.out.1 (by omega)).mono ?_
      rintro e w2 ⟨b, rfl, hd2, hg2⟩
      obtain ⟨hx2, hs2⟩ := HX1.out.draw hd2 hg2
      have HX2 := hid hx2
      have HS2 := hid (HS1.out.trans hs2)
      clear hx2 hs2 hd2 hg2 HX1 HS1
      cases b
      · go_wp2_with fail
        refine (n_any B 2 _ a len cap HX2.out.1 (by omega)).mono ?_
        rintro e w3 ⟨r, rfl, hr, hd3, hg3⟩
        have hr3 : r ≤ 2 := by omega
        obtain ⟨hx3, hs3⟩ := HX2.out.draw hd3 hg3
        have HX3 := hid hx3
        have HS3 := hid (HS2.out.trans hs3)
        clear hx3 hs3 hd3 hg3 HX2 HS2 hr
        go_wp2_with (first | (at_builtin; refine wpList_append_own _ rfl _ _ 40 rfl base 99 ip (.agg #[.int .i64 0, .int .i64 0, .string ByteArray.empty]) 3 32 Tryz.underlying40 hip hp0 hp1 hp2 rfl (by decide) _ (ps).length (cellsP (ps)) rfl (HX3.out.2.2.2.1.alloc _) ⟨w3.heap.size, 0, none⟩ 1 1 (cellsP [(9 + (r : Int), 0, ByteArray.empty)]) rfl rfl ?yaq9 ?ybq9 ?ycq9 ?ydq9 ?yeq9 ?_))
        case yaq9 =>
          intro j u hj
          match j, hj with
          | 0, hj => simp [cellsP] at hj; subst hj; simp [Addr.add] <;> rfl
          | 1, hj => simp [cellsP] at hj; subst hj; simp [Addr.add] <;> rfl
          | 2, hj => simp [cellsP] at hj; subst hj; simp [Addr.add] <;> rfl
        case ybq9 => exact cellsP_one _
        case ycq9 => unfold maxLen; omega
        case ydq9 => omega
        case yeq9 => have := HX3.out.2.2.1; simp; omega
        intro vq9 wq9 hownq9 hgrowq9 _
        obtain ⟨hxq9, hsq9⟩ := (HX3.out.alloc _).push ((9 + (r : Int), 0, ByteArray.empty)) (⟨by simp only; omega, by simp, by simp⟩) (by omega) hownq9 hgrowq9
        have HXq9 := hid hxq9
        have HSq9 : Hid (Sp w wq9 B base) := HS3.out.trans ((Sp.alloc _ _ HX3.out.2.2.1).trans hsq9)
        clear hxq9 hsq9 hownq9 hgrowq9
        obtain ⟨P1, hP1⟩ : ∃ P1, Hid (ps ++ [((9 + (r : Int), 0, ByteArray.empty) : Pt)] = P1) := ⟨_, rfl⟩
        have hLP1 : P1.length = ps.length + 1 := by rw [← hP1.out]; simp
        have hMP1 := Nat.le_of_eq hLP1
        have hKP1 := Nat.le_of_eq hLP1.symm
        clear hLP1
        rw [hP1.out] at HXq9
        obtain ⟨aq9, cq9, rfl⟩ := HXq9.out.sl
        go_wp2_with fail
        refine (ih (by omega) B a len cap base _ P1 wq9 HXq9.out (by have := HTB.out; omega)).mono ?_
        rintro e w4 ⟨v4, qs4, rfl, hx4, hp4, hq4, hs4⟩
        obtain ⟨P2, hP2⟩ : ∃ P2, Hid (P1 ++ qs4 = P2) := ⟨_, rfl⟩
        have hL2 : P2.length ≤ P1.length + tb d := by rw [← hP2.out]; simp; omega
        rw [hP2.out] at hx4
        have HX4 := hid hx4
        have HS4 := hid (HSq9.out.trans hs4)
        obtain ⟨a4, c4, rfl⟩ := hx4.sl
        clear hx4 hs4 HXq9 HSq9
        go_wp2_with fail
        refine (ih (by omega) B a len cap base _ P2 w4 HX4.out (by have := HTB.out; omega)).mono ?_
        rintro e w5 ⟨v5, qs5, rfl, hx5, hp5, hq5, hs5⟩
        obtain ⟨P3, hP3⟩ : ∃ P3, Hid (P2 ++ qs5 = P3) := ⟨_, rfl⟩
        rw [hP3.out] at hx5
        have HX5 := hid hx5
        have HS5 := hid (HS4.out.trans hs5)
        obtain ⟨a5, c5, rfl⟩ := hx5.sl
        clear hx5 hs5 HX4 HS4
        go_wp2_with fail
        go_ret
        refine ⟨_, [(9 + (r : Int), 0, ByteArray.empty)] ++ qs4 ++ qs5, rfl, ?_, by simp, by have := HTB.out; simp; omega, HS5.out⟩
        rw [show ps ++ ([(9 + (r : Int), 0, ByteArray.empty)] ++ qs4 ++ qs5) = P3 by rw [← hP3.out, ← hP2.out, ← hP1.out]; simp]
        exact HX5.out
      · go_wp2_with (first | (at_builtin; refine wpList_append_own _ rfl _ _ 40 rfl base 99 ip (.agg #[.int .i64 0, .int .i64 0, .string ByteArray.empty]) 3 32 Tryz.underlying40 hip hp0 hp1 hp2 rfl (by decide) _ (ps).length (cellsP (ps)) rfl (HX2.out.2.2.2.1.alloc _) ⟨w2.heap.size, 0, none⟩ 1 1 (cellsP [(11, 0, ByteArray.empty)]) rfl rfl ?yaq8 ?ybq8 ?ycq8 ?ydq8 ?yeq8 ?_))
        case yaq8 =>
          intro j u hj
          match j, hj with
          | 0, hj => simp [cellsP] at hj; subst hj; simp [Addr.add] <;> rfl
          | 1, hj => simp [cellsP] at hj; subst hj; simp [Addr.add] <;> rfl
          | 2, hj => simp [cellsP] at hj; subst hj; simp [Addr.add] <;> rfl
        case ybq8 => exact cellsP_one _
        case ycq8 => unfold maxLen; omega
        case ydq8 => omega
        case yeq8 => have := HX2.out.2.2.1; simp; omega
        intro vq8 wq8 hownq8 hgrowq8 _
        obtain ⟨hxq8, hsq8⟩ := (HX2.out.alloc _).push ((11, 0, ByteArray.empty)) (⟨by simp, by simp, by simp⟩) (by omega) hownq8 hgrowq8
        have HXq8 := hid hxq8
        have HSq8 : Hid (Sp w wq8 B base) := HS2.out.trans ((Sp.alloc _ _ HX2.out.2.2.1).trans hsq8)
        clear hxq8 hsq8 hownq8 hgrowq8
        obtain ⟨P1, hP1⟩ : ∃ P1, Hid (ps ++ [((11, 0, ByteArray.empty) : Pt)] = P1) := ⟨_, rfl⟩
        have hLP1 : P1.length = ps.length + 1 := by rw [← hP1.out]; simp
        have hMP1 := Nat.le_of_eq hLP1
        have hKP1 := Nat.le_of_eq hLP1.symm
        clear hLP1
        rw [hP1.out] at HXq8
        obtain ⟨aq8, cq8, rfl⟩ := HXq8.out.sl
        go_wp2_with fail
        refine (ih (by omega) B a len cap base _ P1 wq8 HXq8.out (by have := HTB.out; omega)).mono ?_
        rintro e w4 ⟨v4, qs4, rfl, hx4, hp4, hq4, hs4⟩
        obtain ⟨P2, hP2⟩ : ∃ P2, Hid (P1 ++ qs4 = P2) := ⟨_, rfl⟩
        rw [hP2.out] at hx4
        have HX4 := hid hx4
        have HS4 := hid (HSq8.out.trans hs4)
        obtain ⟨a4, c4, rfl⟩ := hx4.sl
        clear hx4 hs4 HXq8 HSq8
        go_wp2_with fail
        go_ret
        refine ⟨_, [(11, 0, ByteArray.empty)] ++ qs4, rfl, ?_, by simp, by have := HTB.out; simp; omega, HS4.out⟩
        rw [show ps ++ ([(11, 0, ByteArray.empty)] ++ qs4) = P2 by rw [← hP2.out, ← hP1.out]; simp]
        exact HX4.out
end Go.Proofs.YtecopedjjfimoaaGreatDoor.DrawX
/- Expressions as a law draws them: a bound of how many parts they have. -/
namespace Go.Proofs.YtecopedjjfimoaaGreatDoor.DrawX
open Go.RowKit
open DrawW StrW
open PrtW (Pt pt0 Fit cellsP cellsP_append cellsP_one)
open ErpI (Own)

theorem Sp.mono {w w' : World} {B base b : Nat} (h : Sp w w' B base) (hb : b ≤ base) : Sp w w' B b := ⟨h.1, h.2.1, h.2.2.1, h.2.2.2.1, fun k hk hne => h.2.2.2.2 k (by omega) hne⟩
theorem Sp.set {w w' : World} {B base g : Nat} (h : Sp w w' B base) (hg : base ≤ g) (j : Nat) (v : Value) : Sp w (w'.setCell ⟨g, j, none⟩ v) B base :=
  ⟨h.1, h.2.1, h.2.2.1, by have := h.2.2.2.1; simpa using this, fun k hk hne => by rw [Below.heap_setCell _ _ _ _ (show k ≠ g by omega)]; exact h.2.2.2.2 k hk hne⟩
theorem own_set0 {W : World} {base g n cap : Nat} {p : Pt} {r : List Pt} (h : Own W base (.slice (some ⟨g, 0, none⟩) n cap) (p :: r)) (x : Int) (hx : -9223372036854775808 ≤ x ∧ x ≤ 9223372036854775807) : Own (W.setCell ⟨g, 0, none⟩ (.int .i64 x)) base (.slice (some ⟨g, 0, none⟩) n cap) ((x, p.2) :: r) := by
  have hn : n = (p :: r).length := by
    rcases h.1.2 with ⟨e, _⟩ | ⟨g', c', cur, e, _⟩
    · cases e
    · cases e; rfl
  subst hn
  have h1 := (h.1.stored 0 (.int .i64 x)).1
  exact ⟨h1, fun q hq => by
    rcases List.mem_cons.1 hq with rfl | hq
    · exact ⟨hx, (h.2.1 p (by simp)).2⟩
    · exact h.2.1 q (List.mem_cons_of_mem _ hq), h.2.2⟩
theorem own_set1 {W : World} {base g n cap : Nat} {p : Pt} {r : List Pt} (h : Own W base (.slice (some ⟨g, 0, none⟩) n cap) (p :: r)) (x : Int) (hx : -9223372036854775808 ≤ x ∧ x ≤ 9223372036854775807) : Own (W.setCell ⟨g, 1, none⟩ (.int .i64 x)) base (.slice (some ⟨g, 0, none⟩) n cap) ((p.1, x, p.2.2) :: r) := by
  have hn : n = (p :: r).length := by
    rcases h.1.2 with ⟨e, _⟩ | ⟨g', c', cur, e, _⟩
    · cases e
    · cases e; rfl
  subst hn
  have h1 := (h.1.stored 1 (.int .i64 x)).1
  exact ⟨h1, fun q hq => by
    rcases List.mem_cons.1 hq with rfl | hq
    · exact ⟨(h.2.1 p (by simp)).1, hx, (h.2.1 p (by simp)).2.2⟩
    · exact h.2.1 q (List.mem_cons_of_mem _ hq), h.2.2⟩
theorem own_head {W : World} {base : Nat} {v : Value} {p : Pt} {r : List Pt} (h : Own W base v (p :: r)) : ∃ g cap, v = .slice (some ⟨g, 0, none⟩) (r.length + 1) cap ∧ base ≤ g ∧ g < W.heap.size ∧ r.length + 1 ≤ cap ∧ (∃ u, W.cell? ⟨g, 0, none⟩ = some u) ∧ (∃ u, W.cell? ⟨g, 1, none⟩ = some u) ∧ ∀ j, W.frozen? ⟨g, j, none⟩ = false := by
  rcases h.1.2 with ⟨_, e⟩ | ⟨g, cap, cur, e, hb, hg, hc, _⟩
  · simp at e
  · subst e
    have c0 := h.1.cellAt 0 (by simp)
    have c1 := h.1.cellAt 1 (by simp; omega)
    exact ⟨g, cap, rfl, hb, (Array.getElem?_eq_some_iff.1 hg).1, by simpa using hc, ⟨_, c0⟩, ⟨_, c1⟩, fun j => h.1.frozenAt j⟩
def four4 : List Int := [-1000001, -1000000, 1000000, 1]
theorem four4_at (r : Nat) (h : r < 4) : (#[Value.int IntKind.i64 (-1000001), Value.int IntKind.i64 (-1000000), Value.int IntKind.i64 1000000, Value.int IntKind.i64 1] : Array Value)[r]? = some (.int .i64 (four4.getD r 0)) ∧ -1000001 ≤ four4.getD r 0 ∧ four4.getD r 0 ≤ 1000000 := by
  rcases (by omega : r = 0 ∨ r = 1 ∨ r = 2 ∨ r = 3) with rfl | rfl | rfl | rfl <;> exact ⟨rfl, by decide, by decide⟩

set_option maxRecDepth 10000 in
set_option maxHeartbeats 4000000 in
theorem some_any (B : Nat) (w : World) (a : Option Addr) (len cap : Nat) (hd : Dr w B a len cap) :
    Calls Tryz.prog 69 #[.pointer (some ⟨B, 0, none⟩)] w fun e w' =>
      ∃ v ps base, e = .returned v ∧ X w' B a len cap base v ps ∧ w.heap.size ≤ base ∧ 0 < ps.length ∧ ps.length ≤ 200 ∧ Sp w w' B w.heap.size := by
  obtain ⟨ip, hip, hp0, hp1, hp2⟩ := info_parts PrtW.Tryz.infoP
  have HX0 := hid (X.nil hd)
  clear hd
  go_enter Tryz.func69, Tryz.ntmps69
  go_wp2_with fail
  refine (truth_any 3 (by omega) B a len cap w.heap.size _ [] w HX0.out (by simp [tb])).mono ?_
  rintro e w1 ⟨v1, qs1, rfl, hx1, hp1', hq1, hs1⟩
  rw [List.nil_append] at hx1
  rw [show tb 3 = 127 from rfl] at hq1
  have HX1 := hid hx1
  have HS1 := hid hs1
  obtain ⟨a1, c1, rfl⟩ := hx1.sl
  clear hx1 hs1 HX0
  go_wp2_with fail
  refine (one_any B 3 _ a len cap HX1.out.1 (by omega)).mono ?_
  rintro e w2 ⟨b, rfl, hd2, hg2⟩
  obtain ⟨hx2, hs2⟩ := HX1.out.draw hd2 hg2
  have HX2 := hid hx2
  have HS2 := hid (HS1.out.trans hs2)
  clear hx2 hs2 hd2 hg2 HX1 HS1
  cases b
  · have hbs : w.heap.size ≤ w.heap.size := Nat.le_refl _
    generalize qs1 = PS at *
    generalize w2 = W at *
    generalize a1 = va at *
    generalize c1 = vc at *
    obtain ⟨bs, hbsq⟩ : ∃ bs, w.heap.size = bs := ⟨_, rfl⟩
    have HXW : Hid (X W B a len cap bs (.slice va PS.length vc) PS) := by rw [← hbsq]; exact HX2.out
    have HSW : Hid (Sp w W B w.heap.size) := HS2.out
    have hbs : w.heap.size ≤ bs := by omega
    clear hbsq HX2 HS2
    have hpl : PS.length ≤ 127 := by omega
    have hp0' : 0 < PS.length := by omega
    go_wp2_with fail
    refine (one_any B 15 _ a len cap HXW.out.1 (by omega)).mono ?_
    rintro e W4 ⟨b, rfl, hd4, hg4⟩
    obtain ⟨hx4, hs4⟩ := HXW.out.draw hd4 hg4
    have HX4 := hid hx4
    have HS4 := hid (HSW.out.trans (hs4.mono hbs))
    clear hx4 hs4 hd4 hg4 HXW HSW
    cases b
    · go_wp2_with fail
      go_ret
      exact ⟨_, PS, bs, rfl, HX4.out, hbs, hp0', by omega, HS4.out⟩
    go_wp2_with fail
    refine (n_any B 4 _ a len cap HX4.out.1 (by omega)).mono ?_
    rintro e W5 ⟨r, rfl, hr, hd5, hg5⟩
    obtain ⟨hx5, hs5⟩ := HX4.out.draw hd5 hg5
    have HX5 := hid hx5
    have HS5 := hid (HS4.out.trans (hs5.mono hbs))
    clear hx5 hs5 hd5 hg5 HX4 HS4 hr
    by_cases hr0 : r = 0
    · subst hr0
      go_wp2_with fail
      refine (n_any B 15 _ a len cap HX5.out.1 (by omega)).mono ?_
      rintro e W6 ⟨r2, rfl, hr2, hd6, hg6⟩
      have hr3 : r2 ≤ 15 := by omega
      obtain ⟨hx6, hs6⟩ := HX5.out.draw hd6 hg6
      have HX6 := hid hx6
      have HS6 := hid (HS5.out.trans (hs6.mono hbs))
      clear hx6 hs6 hd6 hg6 HX5 HS5 hr2
      cases PS with
      | nil => simp at hp0'
      | cons p PS =>
        obtain ⟨g, cp, e, hbg, hgl, hcp, ⟨u0, k0⟩, ⟨u1, k1⟩, kf⟩ := own_head HX6.out.2.2.2
        cases e
        have kf0 := kf 0
        have hsb := HX6.out.2.1
        simp only [List.length_cons] at hpl
        go_wp2_with fail
        go_ret
        refine ⟨_, ((r2 : Int), p.2) :: PS, bs, rfl, ⟨HX6.out.1.kept fun k hk => Below.heap_setCell _ _ _ _ (by simp only; omega), HX6.out.2.1, by have := HX6.out.2.2.1; simpa using this, own_set0 HX6.out.2.2.2 (r2 : Int) (by omega)⟩, hbs, by simp, by simp; omega, HS6.out.set (by omega) _ _⟩
    by_cases hr1 : r = 1
    · subst hr1
      clear hr0
      go_wp2_with (first | (at_builtin; refine wpList_append_own _ rfl _ _ 40 rfl (bs) 99 ip (.agg #[.int .i64 0, .int .i64 0, .string ByteArray.empty]) 3 32 Tryz.underlying40 hip hp0 hp1 hp2 rfl (by decide) _ (PS).length (cellsP (PS)) rfl (HX5.out.2.2.2.1.alloc _) ⟨W5.heap.size, 0, none⟩ 1 1 (cellsP [(1, 0, ByteArray.empty)]) rfl rfl ?yaq19 ?ybq19 ?ycq19 ?ydq19 ?yeq19 ?_))
      case yaq19 =>
        intro j u hj
        match j, hj with
        | 0, hj => simp [cellsP] at hj; subst hj; simp [Addr.add] <;> rfl
        | 1, hj => simp [cellsP] at hj; subst hj; simp [Addr.add] <;> rfl
        | 2, hj => simp [cellsP] at hj; subst hj; simp [Addr.add] <;> rfl
      case ybq19 => exact cellsP_one _
      case ycq19 => unfold maxLen; omega
      case ydq19 => omega
      case yeq19 => have := HX5.out.2.2.1; simp; omega
      intro vq19 wq19 hownq19 hgrowq19 _
      obtain ⟨hxq19, hsq19⟩ := (HX5.out.alloc _).push ((1, 0, ByteArray.empty)) (⟨by simp, by simp, by simp⟩) (by omega) hownq19 hgrowq19
      have HXq19 := hid hxq19
      have HSq19 : Hid (Sp w wq19 B w.heap.size) := HS5.out.trans ((Sp.alloc _ _ (by have := HX5.out.2.2.1; omega)).trans (hsq19.mono hbs))
      clear hxq19 hsq19 hownq19 hgrowq19
      obtain ⟨P1, hP1⟩ : ∃ P1, Hid (PS ++ [((1, 0, ByteArray.empty) : Pt)] = P1) := ⟨_, rfl⟩
      have hL1 : P1.length ≤ PS.length + 1 := by rw [← hP1.out]; simp
      have hL2 : 0 < P1.length := by rw [← hP1.out]; simp
      rw [hP1.out] at HXq19
      obtain ⟨a8, c8, rfl⟩ := HXq19.out.sl
      go_wp2_with fail
      go_ret
      exact ⟨_, P1, bs, rfl, HXq19.out, hbs, hL2, by omega, HSq19.out⟩
    by_cases hr2 : r = 2
    · subst hr2
      clear hr0 hr1
      go_wp2_with fail
      refine (n_any B 4 _ a len cap (HX5.out.1.alloc _) (by omega)).mono ?_
      rintro e W6 ⟨r2, rfl, hr2, hd6, hg6⟩
      have hr3 : r2 < 4 := by omega
      obtain ⟨hx6, hs6⟩ := (HX5.out.alloc _).draw hd6 hg6
      have HX6 := hid hx6
      have HS6 := hid (HS5.out.trans ((Sp.alloc _ _ (by have := HX5.out.2.2.1; omega)).trans (hs6.mono hbs)))
      have hb5 := HX5.out.1.lt
      have hq4 : W6.cell? ⟨W5.heap.size, r2, none⟩ = some (.int .i64 (four4.getD r2 0)) := by
        rw [World.cell?_of_block (a := ⟨W5.heap.size, r2, none⟩) (hg6.block W5.heap.size (by simp) (fun e => by have := Option.some.inj e; omega))]
        rw [World.cell?_alloc_at _ _ _ _ rfl]
        exact (four4_at r2 hr3).1
      obtain ⟨-, hv1, hv2⟩ := four4_at r2 hr3
      generalize four4.getD r2 0 = fv at *
      have hr3i : (r2 : Int) < 4 := by omega
      clear hx6 hs6 hd6 hg6 HX5 HS5 hr2
      cases PS with
      | nil => simp at hp0'
      | cons p PS =>
        obtain ⟨g, cp, e, hbg, hgl, hcp, ⟨u0, k0⟩, ⟨u1, k1⟩, kf⟩ := own_head HX6.out.2.2.2
        cases e
        have kf1 := kf 1
        have hsb := HX6.out.2.1
        simp only [List.length_cons] at hpl
        go_wp2_with fail
        go_ret
        refine ⟨_, (p.1, fv, p.2.2) :: PS, bs, rfl, ⟨HX6.out.1.kept fun k hk => Below.heap_setCell _ _ _ _ (by simp only; omega), HX6.out.2.1, by have := HX6.out.2.2.1; simpa using this, own_set1 HX6.out.2.2.2 fv (by omega)⟩, hbs, by simp, by simp; omega, HS6.out.set (by omega) _ _⟩
    · have q0 : ((r : Int) == 0) = false := by simp; omega
      have q1 : ((r : Int) == 1) = false := by simp; omega
      have q2 : ((r : Int) == 2) = false := by simp; omega
      clear hr0 hr1 hr2
      go_wp2_with fail
      go_loopw [3, 4] (fun v i wr => ∃ (j : Nat) (p : Pt) (qs : List Pt) (b : Nat), i = .int .i64 j ∧ j ≤ 5 ∧ Hid (X wr B a len cap b v (p :: qs)) ∧ w.heap.size ≤ b ∧ qs.length ≤ 127 + j ∧ Hid (Sp w wr B w.heap.size)) (fun _ i _ => 5 - (intOf i).toNat)
      case atStart =>
        cases PS with
        | nil => simp at hp0'
        | cons p PS => exact ⟨0, p, PS, bs, rfl, Nat.zero_le _, HX5, hbs, by simp at hpl; omega, HS5⟩
      case round =>
        obtain ⟨j, p, qs, b, rfl, hj, HXr, hbr, hql, HSr⟩ := hrel
        by_cases hlt : j < 5
        · obtain ⟨g, cp, rfl, hbg, hgl, hcp, -, -, -⟩ := own_head HXr.out.2.2.2
          have hji : (j : Int) < 5 := by omega
          go_wp2_with (first | (at_builtin; refine wpList_append_own _ rfl _ _ 40 rfl wr.heap.size 99 ip (.agg #[.int .i64 0, .int .i64 0, .string ByteArray.empty]) 3 32 Tryz.underlying40 hip hp0 hp1 hp2 rfl (by decide) (.slice (some ⟨wr.heap.size, 0, none⟩) 1 1) 1 (cellsP [((11, 0, ByteArray.empty) : Pt)]) rfl (World.ownsRow_lit wr _ 1 (Nat.le_refl _) (by unfold maxLen; omega) rfl) ⟨g, 0, none⟩ (qs.length + 1) cp (cellsP (p :: qs)) rfl ?ya ?yb ?yc ?yd ?ye ?yf ?_))
          case ya => rw [PrtW.cellsP_len]; simp
          case yb => exact (HXr.out.2.2.2.1.alloc _).cells (by rfl)
          case yc => exact cellsP_one _
          case yd => unfold maxLen; omega
          case ye => omega
          case yf => simp
          intro v2 w2' hown2 hgrow2 _
          have hB := HXr.out.2.1
          have hbw := HXr.out.2.2.1
          have HXn : Hid (X w2' B a len cap wr.heap.size v2 ((11, 0, ByteArray.empty) :: p :: qs)) := by
            refine ⟨HXr.out.1.kept fun k hk => (hgrow2.block k (by simp; omega) (fun e => by have : k = wr.heap.size := Option.some.inj e; omega)).trans (Below.heap_alloc _ _ _ (by omega)), by omega, Nat.le_trans (by simp) hgrow2.size, ?_, fun q hq => ?_, by simp; omega⟩
            · simpa [cellsP, Nat.add_comm] using hown2
            · rcases List.mem_cons.1 hq with rfl | hq
              · exact ⟨by simp, by simp, by simp⟩
              · exact HXr.out.2.2.2.2.1 q hq
          have HSn : Hid (Sp w w2' B w.heap.size) := HSr.out.trans ((Sp.alloc _ _ (by omega)).trans (Sp.grown hgrow2 (by simp; omega) (fun k e => .inl (by have : wr.heap.size = k := Option.some.inj e; omega))))
          clear hown2 hgrow2
          go_wp2_with fail
          exact ⟨⟨j + 1, _, p :: qs, wr.heap.size, by go_num, by omega, HXn, by omega, by simp; omega, HSn⟩, by simp [intOf]; omega⟩
        · have hji : ¬ (j : Int) < 5 := by omega
          obtain ⟨g, cp, rfl, hbg, hgl, hcp, -, -, -⟩ := own_head HXr.out.2.2.2
          go_wp2_with fail
          go_ret
          first
            | exact ⟨_, p :: qs, b, rfl, HXr.out, hbr, by simp, by simp; omega, HSr.out⟩
            | exact ⟨_, rfl, p :: qs, b, HXr.out, hbr, by simp, by simp; omega, HSr.out⟩
            | exact ⟨_, rfl, p :: qs, ⟨b, HXr.out, hbr⟩, by simp, by simp; omega, HSr.out⟩
            | (trace_state; fail)
  · go_wp2_with fail
    refine (number_any 3 (by omega) B a len cap w2.heap.size _ [] w2 (X.nil HX2.out.1) (by simp [nb])).mono ?_
    rintro e w3 ⟨v3, qs3, rfl, hx3, hp3', hq3, hs3⟩
    rw [List.nil_append] at hx3
    rw [show nb 3 = 15 from rfl] at hq3
    have hbs : w.heap.size ≤ w2.heap.size := HS2.out.2.2.2.1
    have HXW := hid hx3
    have HSW := hid (HS2.out.trans (hs3.mono hbs))
    obtain ⟨va, vc, rfl⟩ := hx3.sl
    clear hx3 hs3 HX2 HS2 hq1 hp1'
    generalize qs3 = PS at *
    generalize w2.heap.size = bs at *
    generalize w3 = W at *
    have hpl : PS.length ≤ 127 := by omega
    have hp0' : 0 < PS.length := by omega
    go_wp2_with fail
    refine (one_any B 15 _ a len cap HXW.out.1 (by omega)).mono ?_
    rintro e W4 ⟨b, rfl, hd4, hg4⟩
    obtain ⟨hx4, hs4⟩ := HXW.out.draw hd4 hg4
    have HX4 := hid hx4
    have HS4 := hid (HSW.out.trans (hs4.mono hbs))
    clear hx4 hs4 hd4 hg4 HXW HSW
    cases b
    · go_wp2_with fail
      go_ret
      exact ⟨_, PS, bs, rfl, HX4.out, hbs, hp0', by omega, HS4.out⟩
    go_wp2_with fail
    refine (n_any B 4 _ a len cap HX4.out.1 (by omega)).mono ?_
    rintro e W5 ⟨r, rfl, hr, hd5, hg5⟩
    obtain ⟨hx5, hs5⟩ := HX4.out.draw hd5 hg5
    have HX5 := hid hx5
    have HS5 := hid (HS4.out.trans (hs5.mono hbs))
    clear hx5 hs5 hd5 hg5 HX4 HS4 hr
    by_cases hr0 : r = 0
    · subst hr0
      go_wp2_with fail
      refine (n_any B 15 _ a len cap HX5.out.1 (by omega)).mono ?_
      rintro e W6 ⟨r2, rfl, hr2, hd6, hg6⟩
      have hr3 : r2 ≤ 15 := by omega
      obtain ⟨hx6, hs6⟩ := HX5.out.draw hd6 hg6
      have HX6 := hid hx6
      have HS6 := hid (HS5.out.trans (hs6.mono hbs))
      clear hx6 hs6 hd6 hg6 HX5 HS5 hr2
      cases PS with
      | nil => simp at hp0'
      | cons p PS =>
        obtain ⟨g, cp, e, hbg, hgl, hcp, ⟨u0, k0⟩, ⟨u1, k1⟩, kf⟩ := own_head HX6.out.2.2.2
        cases e
        have kf0 := kf 0
        have hsb := HX6.out.2.1
        simp only [List.length_cons] at hpl
        go_wp2_with fail
        go_ret
        refine ⟨_, ((r2 : Int), p.2) :: PS, bs, rfl, ⟨HX6.out.1.kept fun k hk => Below.heap_setCell _ _ _ _ (by simp only; omega), HX6.out.2.1, by have := HX6.out.2.2.1; simpa using this, own_set0 HX6.out.2.2.2 (r2 : Int) (by omega)⟩, hbs, by simp, by simp; omega, HS6.out.set (by omega) _ _⟩
    by_cases hr1 : r = 1
    · subst hr1
      clear hr0
      go_wp2_with (first | (at_builtin; refine wpList_append_own _ rfl _ _ 40 rfl (bs) 99 ip (.agg #[.int .i64 0, .int .i64 0, .string ByteArray.empty]) 3 32 Tryz.underlying40 hip hp0 hp1 hp2 rfl (by decide) _ (PS).length (cellsP (PS)) rfl (HX5.out.2.2.2.1.alloc _) ⟨W5.heap.size, 0, none⟩ 1 1 (cellsP [(1, 0, ByteArray.empty)]) rfl rfl ?yaq20 ?ybq20 ?ycq20 ?ydq20 ?yeq20 ?_))
      case yaq20 =>
        intro j u hj
        match j, hj with
        | 0, hj => simp [cellsP] at hj; subst hj; simp [Addr.add] <;> rfl
        | 1, hj => simp [cellsP] at hj; subst hj; simp [Addr.add] <;> rfl
        | 2, hj => simp [cellsP] at hj; subst hj; simp [Addr.add] <;> rfl
      case ybq20 => exact cellsP_one _
      case ycq20 => unfold maxLen; omega
      case ydq20 => omega
      case yeq20 => have := HX5.out.2.2.1; simp; omega
      intro vq20 wq20 hownq20 hgrowq20 _
      obtain ⟨hxq20, hsq20⟩ := (HX5.out.alloc _).push ((1, 0, ByteArray.empty)) (⟨by simp, by simp, by simp⟩) (by omega) hownq20 hgrowq20
      have HXq20 := hid hxq20
      have HSq20 : Hid (Sp w wq20 B w.heap.size) := HS5.out.trans ((Sp.alloc _ _ (by have := HX5.out.2.2.1; omega)).trans (hsq20.mono hbs))
      clear hxq20 hsq20 hownq20 hgrowq20
      obtain ⟨P1, hP1⟩ : ∃ P1, Hid (PS ++ [((1, 0, ByteArray.empty) : Pt)] = P1) := ⟨_, rfl⟩
      have hL1 : P1.length ≤ PS.length + 1 := by rw [← hP1.out]; simp
      have hL2 : 0 < P1.length := by rw [← hP1.out]; simp
      rw [hP1.out] at HXq20
      obtain ⟨a8, c8, rfl⟩ := HXq20.out.sl
      go_wp2_with fail
      go_ret
      exact ⟨_, P1, bs, rfl, HXq20.out, hbs, hL2, by omega, HSq20.out⟩
    by_cases hr2 : r = 2
    · subst hr2
      clear hr0 hr1
      go_wp2_with fail
      refine (n_any B 4 _ a len cap (HX5.out.1.alloc _) (by omega)).mono ?_
      rintro e W6 ⟨r2, rfl, hr2, hd6, hg6⟩
      have hr3 : r2 < 4 := by omega
      obtain ⟨hx6, hs6⟩ := (HX5.out.alloc _).draw hd6 hg6
      have HX6 := hid hx6
      have HS6 := hid (HS5.out.trans ((Sp.alloc _ _ (by have := HX5.out.2.2.1; omega)).trans (hs6.mono hbs)))
      have hb5 := HX5.out.1.lt
      have hq4 : W6.cell? ⟨W5.heap.size, r2, none⟩ = some (.int .i64 (four4.getD r2 0)) := by
        rw [World.cell?_of_block (a := ⟨W5.heap.size, r2, none⟩) (hg6.block W5.heap.size (by simp) (fun e => by have := Option.some.inj e; omega))]
        rw [World.cell?_alloc_at _ _ _ _ rfl]
        exact (four4_at r2 hr3).1
      obtain ⟨-, hv1, hv2⟩ := four4_at r2 hr3
      generalize four4.getD r2 0 = fv at *
      have hr3i : (r2 : Int) < 4 := by omega
      clear hx6 hs6 hd6 hg6 HX5 HS5 hr2
      cases PS with
      | nil => simp at hp0'
      | cons p PS =>
        obtain ⟨g, cp, e, hbg, hgl, hcp, ⟨u0, k0⟩, ⟨u1, k1⟩, kf⟩ := own_head HX6.out.2.2.2
        cases e
        have kf1 := kf 1
        have hsb := HX6.out.2.1
        simp only [List.length_cons] at hpl
        go_wp2_with fail
        go_ret
        refine ⟨_, (p.1, fv, p.2.2) :: PS, bs, rfl, ⟨HX6.out.1.kept fun k hk => Below.heap_setCell _ _ _ _ (by simp only; omega), HX6.out.2.1, by have := HX6.out.2.2.1; simpa using this, own_set1 HX6.out.2.2.2 fv (by omega)⟩, hbs, by simp, by simp; omega, HS6.out.set (by omega) _ _⟩
    · have q0 : ((r : Int) == 0) = false := by simp; omega
      have q1 : ((r : Int) == 1) = false := by simp; omega
      have q2 : ((r : Int) == 2) = false := by simp; omega
      clear hr0 hr1 hr2
      go_wp2_with fail
      go_loopw [3, 4] (fun v i wr => ∃ (j : Nat) (p : Pt) (qs : List Pt) (b : Nat), i = .int .i64 j ∧ j ≤ 5 ∧ Hid (X wr B a len cap b v (p :: qs)) ∧ w.heap.size ≤ b ∧ qs.length ≤ 127 + j ∧ Hid (Sp w wr B w.heap.size)) (fun _ i _ => 5 - (intOf i).toNat)
      case atStart =>
        cases PS with
        | nil => simp at hp0'
        | cons p PS => exact ⟨0, p, PS, bs, rfl, Nat.zero_le _, HX5, hbs, by simp at hpl; omega, HS5⟩
      case round =>
        obtain ⟨j, p, qs, b, rfl, hj, HXr, hbr, hql, HSr⟩ := hrel
        by_cases hlt : j < 5
        · obtain ⟨g, cp, rfl, hbg, hgl, hcp, -, -, -⟩ := own_head HXr.out.2.2.2
          have hji : (j : Int) < 5 := by omega
          go_wp2_with (first | (at_builtin; refine wpList_append_own _ rfl _ _ 40 rfl wr.heap.size 99 ip (.agg #[.int .i64 0, .int .i64 0, .string ByteArray.empty]) 3 32 Tryz.underlying40 hip hp0 hp1 hp2 rfl (by decide) (.slice (some ⟨wr.heap.size, 0, none⟩) 1 1) 1 (cellsP [((11, 0, ByteArray.empty) : Pt)]) rfl (World.ownsRow_lit wr _ 1 (Nat.le_refl _) (by unfold maxLen; omega) rfl) ⟨g, 0, none⟩ (qs.length + 1) cp (cellsP (p :: qs)) rfl ?ya ?yb ?yc ?yd ?ye ?yf ?_))
          case ya => rw [PrtW.cellsP_len]; simp
          case yb => exact (HXr.out.2.2.2.1.alloc _).cells (by rfl)
          case yc => exact cellsP_one _
          case yd => unfold maxLen; omega
          case ye => omega
          case yf => simp
          intro v2 w2' hown2 hgrow2 _
          have hB := HXr.out.2.1
          have hbw := HXr.out.2.2.1
          have HXn : Hid (X w2' B a len cap wr.heap.size v2 ((11, 0, ByteArray.empty) :: p :: qs)) := by
            refine ⟨HXr.out.1.kept fun k hk => (hgrow2.block k (by simp; omega) (fun e => by have : k = wr.heap.size := Option.some.inj e; omega)).trans (Below.heap_alloc _ _ _ (by omega)), by omega, Nat.le_trans (by simp) hgrow2.size, ?_, fun q hq => ?_, by simp; omega⟩
            · simpa [cellsP, Nat.add_comm] using hown2
            · rcases List.mem_cons.1 hq with rfl | hq
              · exact ⟨by simp, by simp, by simp⟩
              · exact HXr.out.2.2.2.2.1 q hq
          have HSn : Hid (Sp w w2' B w.heap.size) := HSr.out.trans ((Sp.alloc _ _ (by omega)).trans (Sp.grown hgrow2 (by simp; omega) (fun k e => .inl (by have : wr.heap.size = k := Option.some.inj e; omega))))
          clear hown2 hgrow2
          go_wp2_with fail
          exact ⟨⟨j + 1, _, p :: qs, wr.heap.size, by go_num, by omega, HXn, by omega, by simp; omega, HSn⟩, by simp [intOf]; omega⟩
        · have hji : ¬ (j : Int) < 5 := by omega
          obtain ⟨g, cp, rfl, hbg, hgl, hcp, -, -, -⟩ := own_head HXr.out.2.2.2
          go_wp2_with fail
          go_ret
          first
            | exact ⟨_, p :: qs, b, rfl, HXr.out, hbr, by simp, by simp; omega, HSr.out⟩
            | exact ⟨_, rfl, p :: qs, b, HXr.out, hbr, by simp, by simp; omega, HSr.out⟩
            | exact ⟨_, rfl, p :: qs, ⟨b, HXr.out, hbr⟩, by simp, by simp; omega, HSr.out⟩
            | (trace_state; fail)
end Go.Proofs.YtecopedjjfimoaaGreatDoor.DrawX
/- An expression, and a text for one to be read of, as a law draws them. -/
namespace Go.Proofs.YtecopedjjfimoaaGreatDoor.DrawX
open Go.RowKit
open DrawW StrW
open PrtW (Pt pt0 Fit cellsP cellsP_append cellsP_one Parts)
open PrtM (rightB)
open TexM (textB txt)
open ErpI (Own)

set_option maxRecDepth 10000 in
set_option maxHeartbeats 1000000 in
theorem drawExpr_any (w : World) (a : Option Addr) (len cap : Nat) (hc : CodeAt w w.heap.size a len) :
    Calls Tryz.prog 26 #[.slice a len cap] w fun e w' => ∃ v ps, e = .returned v ∧ Own w' w.heap.size v ps ∧ ps.length ≤ 200 ∧ Below w.heap.size w w' := by
  have HC := hid hc
  clear hc
  go_enter Tryz.func26, Tryz.ntmps26
  go_wp2_with fail
  refine (source_any w a len cap HC.out).mono ?_
  rintro e w1 ⟨rfl, hd1, hB1⟩
  have HD1 := hid hd1
  have HB1 := hid hB1
  clear hd1 hB1
  go_wp2_with fail
  refine (some_any w.heap.size w1 a len cap HD1.out).mono ?_
  rintro e w2 ⟨v, ps, base, rfl, hx, hb, hp, hl, hs⟩
  have HB2 : Hid (Below w.heap.size w w2) := HB1.out.trans (hs.below (Nat.le_refl _) HB1.out.size)
  have HO : Hid (Own w2 w.heap.size v ps) := ⟨ErpI.own_base hx.2.2.2.1 (Nat.le_trans HB1.out.size hb), hx.2.2.2.2⟩
  obtain ⟨a2, c2, rfl⟩ := hx.sl
  clear hx hs
  go_wp2_with fail
  go_ret
  exact ⟨_, ps, rfl, HO.out, hl, HB2.out⟩

theorem code_more {w w' : World} {B B' : Nat} {a : Option Addr} {len : Nat} (h : CodeAt w B a len) (hb : B ≤ B') (hk : ∀ k, k < B → w'.heap[k]? = w.heap[k]?) : CodeAt w' B' a len := by
  obtain ⟨h1, h2⟩ := h.kept hk
  refine ⟨h1, fun hp => ?_⟩
  obtain ⟨b, off, ha, hb2, hz⟩ := h2 hp
  exact ⟨b, off, ha, by omega, hz⟩
theorem textB_small (ps : List Pt) : (textB ps).size ≤ 900 := by
  unfold textB
  by_cases h : rightB ps = true
  · rw [if_pos h, DecM.size_len, DecM.data_mk]
    obtain ⟨h1, h2⟩ := TexM.right_behind h
    have := TexM.txt_len 6 ps [] h2
    simp at this; omega
  · rw [if_neg h]; simp
def reads15 : List ByteArray := [⟨#[]⟩, ⟨#[40]⟩, ⟨#[40, 41]⟩, ⟨#[40, 49, 32, 43, 32, 50]⟩, ⟨#[40, 49, 32, 43, 32, 50, 41]⟩, ⟨#[40, 49, 32, 38, 32, 50, 41]⟩, ⟨#[33, 49]⟩, ⟨#[104, 97, 115, 40, 97, 41]⟩, ⟨#[104, 97, 115, 40, 97, 44, 48, 41]⟩, ⟨#[107, 110, 111, 119, 110, 40, 65, 41]⟩, ⟨#[40, 97, 32, 61, 32, 98, 41]⟩, ⟨#[45, 48]⟩, ⟨#[40, 97, 32, 60, 61, 32, 51, 41]⟩, ⟨#[104, 97, 115]⟩, ⟨#[107, 110, 111, 119, 110]⟩]
theorem reads15_len : ∀ x ∈ reads15, x.size ≤ 10 := by decide

set_option maxRecDepth 10000 in
set_option maxHeartbeats 1000000 in
theorem drawERead_any (w : World) (a : Option Addr) (len cap : Nat) (hc : CodeAt w w.heap.size a len) :
    Calls Tryz.prog 28 #[.slice a len cap] w fun e w' => ∃ s : ByteArray, e = .returned (.string s) ∧ s.size ≤ 901 ∧ Below w.heap.size w w' := by
  have HC := hid hc
  clear hc
  go_enter Tryz.func28, Tryz.ntmps28
  go_wp2_with fail
  refine (source_any w a len cap HC.out).mono ?_
  rintro e w1 ⟨rfl, hd1, hB1⟩
  have HD1 := hid hd1
  have HB1 := hid hB1
  clear hd1 hB1
  go_wp2_with fail
  refine (some_any w.heap.size w1 a len cap HD1.out).mono ?_
  rintro e w2 ⟨v, ps, base, rfl, hx, hb, hp, hl, hs⟩
  have HB2 : Hid (Below w.heap.size w w2) := HB1.out.trans (hs.below (Nat.le_refl _) HB1.out.size)
  have HD2 := hid hx.1
  obtain ⟨a2, c2, rfl, hP, -, -⟩ := hx.2.2.2.parts
  have HP := hid hP
  clear hx hs hP HB1 HD1
  go_wp2_with fail
  refine (TexS.spec_text a2 c2 ps w2 HP.out).mono ?_
  rintro e w3 ⟨rfl, hB3⟩
  have hs2 := HD2.out.lt
  have HD3 : Hid (Dr w3 w.heap.size a len cap) := HD2.out.kept fun j hj => hB3.block j (by omega)
  have HB3 : Hid (Below w.heap.size w w3) := HB2.out.trans (hB3.mono HB2.out.size)
  have hl3 := textB_small ps
  generalize textB ps = s at *
  clear hB3 HB2 HD2 HP
  go_wp2_with fail
  refine (n_any w.heap.size 4 _ a len cap HD3.out (by omega)).mono ?_
  rintro e w4 ⟨r, rfl, hr, hd4, hg4⟩
  have HD4 := hid hd4
  have HB4 : Hid (Below w.heap.size w w4) := HB3.out.trans (grown_below hg4 (Nat.le_refl _) HB3.out.size)
  clear hd4 hg4 HB3 HD3
  by_cases h0 : r = 0
  · subst h0
    go_wp2_with fail
    refine (DrawV.spoil_any w.heap.size s w4 a len cap HD4.out (by omega)).mono ?_
    rintro e w5 ⟨s2, rfl, hs2, hd5, hg5⟩
    have HB5 : Hid (Below w.heap.size w w5) := HB4.out.trans (grown_below hg5 (Nat.le_refl _) HB4.out.size)
    clear hd5 hg5
    go_wp2
    go_ret
    exact ⟨_, rfl, by omega, HB5.out⟩
  by_cases h1 : r = 1
  · subst h1
    go_wp2_with fail
    have hs4 := HD4.out.lt
    refine (DrawV.pick_any w.heap.size w4.heap.size 15 reads15 _ a len cap (HD4.out.alloc _) hs4 (heap_alloc_new w4 _) rfl (by omega) (by omega)).mono ?_
    rintro e w5 ⟨x, rfl, hx, hd5, hg5⟩
    have hx2 := reads15_len x hx
    have HB5 : Hid (Below w.heap.size w w5) := (HB4.out.trans ((below_one w4 _).mono (by omega))).trans (grown_below hg5 (Nat.le_refl _) (by simp; omega))
    clear hd5 hg5 hx
    go_wp2
    go_ret
    exact ⟨_, rfl, by omega, HB5.out⟩
  · have q0 : ((r : Int) == 0) = false := by simp; omega
    have q1 : ((r : Int) == 1) = false := by simp; omega
    go_wp2
    go_ret
    exact ⟨_, rfl, by omega, HB4.out⟩
end Go.Proofs.YtecopedjjfimoaaGreatDoor.DrawX
