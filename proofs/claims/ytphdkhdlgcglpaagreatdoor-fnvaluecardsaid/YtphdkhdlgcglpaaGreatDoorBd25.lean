/- Texts of ours, laid together: RdLike. -/
import Derived.Test.YtphdkhdlgcglpaaGreatDoorBd24
import Derived.Test.YtphdkhdlgcglpaaGreatDoorBd9
/- The program looks what a text can be the text of. -/
namespace Go.Proofs.YtphdkhdlgcglpaaGreatDoor.RdI
open Go.RowKit
open ValM ValW ValS ValI TxtM RdM TxtI
open RdS (Fresh fresh_none strs)

def NoText (s : ByteArray) : Prop := ∀ k0 n0 z0 t0, right k0 n0 z0 t0 = true → s.data.toList ≠ textL k0 n0 z0 t0
/-- nothing is said in a field that is not named for the kind -/
def Clean (k n : Int) (zs : List Int) (t : ByteArray) (a : Option Addr) (cap : Nat) : Prop := ((k = 0 ∨ k = 5 ∨ k = 6) ∧ n = 0 ∧ zs = [] ∧ t = ByteArray.empty ∧ a = none ∧ cap = 0) ∨ ((k = 1 ∨ k = 2) ∧ zs = [] ∧ t = ByteArray.empty ∧ a = none ∧ cap = 0) ∨ (k = 3 ∧ n = 0 ∧ t = ByteArray.empty) ∨ (k = 4 ∧ n = 0 ∧ zs = [] ∧ a = none ∧ cap = 0)

theorem code_text {s : ByteArray} {r : List UInt8} (h : s.data.toList = 35 :: r) {k0 n0 : Int} {z0 : List Int} {t0 : ByteArray} (hr : right k0 n0 z0 t0 = true) (e : s.data.toList = textL k0 n0 z0 t0) :
    k0 = 2 ∧ [] = z0 ∧ ByteArray.empty = t0 ∧ Lib.parseIntB 64 r = .ok n0 := by
  rw [h] at e
  have hk0 : k0 = 2 := by
    rcases of_kind hr _ _ e.symm with ⟨a, b⟩ | ⟨a, b⟩ | ⟨a, b⟩ | ⟨a, b⟩ | ⟨a, b⟩ | ⟨a, b⟩ <;> first | exact a | exact absurd b (by decide)
  subst hk0
  rcases kinds hr with ⟨hk', _⟩ | ⟨hk', _⟩ | ⟨_, a, a1, b, c⟩ | ⟨hk', _⟩ | ⟨hk', _⟩
  · omega
  · omega
  · rw [text_code] at e
    exact ⟨rfl, no_codes b, no_text c, by rw [(List.cons.inj e).2]; exact parse_code a a1⟩
  all_goals omega
theorem int_text {s : ByteArray} {c : UInt8} {r : List UInt8} (h : s.data.toList = c :: r) (q1 : s.data.toList ≠ [68, 75]) (q2 : s.data.toList ≠ [82, 70]) (q3 : c ≠ 35) (q4 : c ≠ 123) (q5 : c ≠ 34) {k0 n0 : Int} {z0 : List Int} {t0 : ByteArray} (hr : right k0 n0 z0 t0 = true) (e : s.data.toList = textL k0 n0 z0 t0) :
    k0 = 1 ∧ [] = z0 ∧ ByteArray.empty = t0 ∧ Lib.parseIntB 64 s.data.toList = .ok n0 := by
  have hk0 : k0 = 1 := by
    rcases of_kind hr c r (by rw [← e]; exact h) with ⟨a, b⟩ | ⟨a, b⟩ | ⟨a, b⟩ | ⟨a, b⟩ | ⟨a, b⟩ | ⟨a, b⟩
    · subst a; exact absurd e q1
    · subst a; exact absurd e q2
    · exact absurd b q3
    · exact absurd b q4
    · exact absurd b q5
    · exact a
  subst hk0
  rcases kinds hr with ⟨hk', _⟩ | ⟨_, a, a1, b, c⟩ | ⟨hk', _⟩ | ⟨hk', _⟩ | ⟨hk', _⟩
  · omega
  · exact ⟨rfl, no_codes b, no_text c, by rw [e, text_int]; exact parse_itoa a a1⟩
  all_goals omega
theorem set_text {s : ByteArray} {r : List UInt8} (h : s.data.toList = 123 :: r) {k0 n0 : Int} {z0 : List Int} {t0 : ByteArray} (hr : right k0 n0 z0 t0 = true) (e : s.data.toList = textL k0 n0 z0 t0) :
    k0 = 3 ∧ n0 = 0 ∧ ByteArray.empty = t0 ∧ (∀ z ∈ z0, 1 ≤ z ∧ z ≤ 20) ∧ Lib.trimSuffix r [125] = Lib.join (codesL z0) [44] := by
  obtain ⟨hk, hn, hz, ht, hj⟩ := set_kind h hr e
  exact ⟨hk, hn, ht, codes_of hz, by rw [hj, trim_end]⟩
theorem is_set2 {s u : ByteArray} {r : List UInt8} {zs : List Int} (h : s.data.toList = 123 :: r) (hu : u.data.toList = Lib.trimSuffix r [125]) (hz : (u.data.toList = [] ∧ zs = []) ∨ (u.data.toList ≠ [] ∧ (splitC u.data.toList).map par = zs.map Lib.NumEnd.ok)) : IsOf s 3 0 zs ByteArray.empty := by
  intro k0 n0 z0 t0 hr e
  obtain ⟨hk, hn, ht, hc, hj⟩ := set_text h hr e
  refine ⟨hk.symm, hn.symm, ?_, ht⟩
  rw [hu, hj] at hz
  by_cases h0 : z0 = []
  · rcases hz with ⟨_, hz⟩ | ⟨hz, _⟩
    · rw [hz, h0]
    · exact absurd (by rw [h0]; rfl) hz
  · rcases hz with ⟨hz, _⟩ | ⟨_, hz⟩
    · exact absurd hz (join_some h0)
    · rw [split_codes h0, par_codes hc] at hz
      exact (par_inj hz).symm
theorem no_set {s u : ByteArray} {r : List UInt8} (h : s.data.toList = 123 :: r) (hu : u.data.toList = Lib.trimSuffix r [125]) (hne : u.data.toList ≠ []) (hx : ∃ x ∈ splitC u.data.toList, ∀ z, par x ≠ .ok z) : NoText s := by
  intro k0 n0 z0 t0 hr e
  obtain ⟨hk, hn, ht, hc, hj⟩ := set_text h hr e
  obtain ⟨x, hx, hp⟩ := hx
  rw [hu, hj] at hx hne
  have h0 : z0 ≠ [] := fun h0 => hne (by rw [h0]; rfl)
  rw [split_codes h0] at hx
  unfold codesL at hx
  obtain ⟨z, hz, rfl⟩ := List.mem_map.1 hx
  exact hp z (parse_code (hc z hz).1 (hc z hz).2)
theorem is_text2 {s t : ByteArray} {r : List UInt8} (h : s.data.toList = 34 :: r) (ht : t.data.toList = Lib.replaceAll (Lib.trimSuffix r [34]) [34, 34] [34]) : IsOf s 4 0 [] t :=
  is_text r h fun x hx => by
    rw [h] at hx
    rw [ht, (List.cons.inj hx).2, trim_end, unquote_all]
/-- what is looked up of a text -/
def LikeEnds (s : ByteArray) (B : Nat) (e : Ending) (w' : World) : Prop := ∃ k n zs t a cap err, e = .returned (.tuple #[contV k n a zs.length cap t, err]) ∧ Codes w' a zs ∧ Free w' a zs ∧ Fresh a B ∧ t.size ≤ 8000 ∧ Clean k n zs t a cap ∧
  ((err = .nilIface ∧ IsOf s k n zs t) ∨ ((∃ T p, err = .iface T (.pointer (some p))) ∧ NoText s))
theorem rep_len (old new : List UInt8) (h : new.length ≤ old.length) (hne : old ≠ []) : ∀ (k : Nat) (l : List UInt8), (Lib.replaceK old new k l).length ≤ l.length
  | 0, l => Nat.le_refl _
  | k + 1, l => by
    rw [Lib.replaceK]
    split
    · exact Nat.le_refl _
    · rename_i hm
      have ih := rep_len old new h hne k (l.drop ((Lib.index l old).toNat + old.length))
      have hge := Lib.index_ge l old
      have hm' : Lib.index l old ≠ -1 := fun e => hm (by rw [e]; rfl)
      have hr := Lib.index_room l old (by omega)
      simp only [List.length_append, List.length_take, List.length_drop] at ih ⊢
      omega
theorem unq_len (l : List UInt8) : (Lib.replaceAll l [34, 34] [34]).length ≤ l.length := by
  unfold Lib.replaceAll Lib.replace
  rw [if_neg (by decide)]
  exact rep_len _ _ (by decide) (by decide) _ _

theorem like_none (s : ByteArray) (w : World) (h : s.size = 0) :
    Calls Tryz.prog 99 #[.string s] w fun e w' => LikeEnds s w.heap.size e w' ∧ Below w.heap.size w w' := by
  have q : s.toList.isEmpty = true := by rw [empty_list]; simp [h]
  have HI : Hid (IsOf s 0 0 [] ByteArray.empty) := is_none (List.length_eq_zero_iff.1 (by rw [← size_len]; exact h))
  clear h
  go_enter Tryz.func99, Tryz.ntmps99
  go_wp2
  refine bodyPost_ret (v := .tuple #[contV 0 0 none 0 0 ByteArray.empty, .nilIface]) (by simp [results, Tryz.results99, go_sem, contV]) rfl ⟨⟨0, 0, [], ByteArray.empty, none, 0, _, rfl, Codes.nil _ _, free_nil _ _, fresh_none _, by decide, .inl ⟨.inl rfl, rfl, rfl, rfl, rfl, rfl⟩, .inl ⟨rfl, HI.out⟩⟩, by go_grown⟩
theorem like_dont (s : ByteArray) (w : World) (h : s.data.toList = [68, 75]) :
    Calls Tryz.prog 99 #[.string s] w fun e w' => LikeEnds s w.heap.size e w' ∧ Below w.heap.size w w' := by
  have q : s.toList.isEmpty = false := by rw [ByteArray.toList_eq, h]; rfl
  have q2 : (s.toList == [68, 75]) = true := by rw [ByteArray.toList_eq, h]; rfl
  have HI : Hid (IsOf s 5 0 [] ByteArray.empty) := is_word 68 _ h (.inl ⟨rfl, rfl⟩)
  clear h
  go_enter Tryz.func99, Tryz.ntmps99
  go_wp2
  refine bodyPost_ret (v := .tuple #[contV 5 0 none 0 0 ByteArray.empty, .nilIface]) (by simp [results, Tryz.results99, go_sem, contV]) rfl ⟨⟨5, 0, [], ByteArray.empty, none, 0, _, rfl, Codes.nil _ _, free_nil _ _, fresh_none _, by decide, .inl ⟨.inr (.inl rfl), rfl, rfl, rfl, rfl, rfl⟩, .inl ⟨rfl, HI.out⟩⟩, by go_grown⟩
theorem like_refuse (s : ByteArray) (w : World) (h : s.data.toList = [82, 70]) :
    Calls Tryz.prog 99 #[.string s] w fun e w' => LikeEnds s w.heap.size e w' ∧ Below w.heap.size w w' := by
  have q : s.toList.isEmpty = false := by rw [ByteArray.toList_eq, h]; rfl
  have q1 : (s.toList == [68, 75]) = false := by rw [ByteArray.toList_eq, h]; rfl
  have q2 : (s.toList == [82, 70]) = true := by rw [ByteArray.toList_eq, h]; rfl
  have HI : Hid (IsOf s 6 0 [] ByteArray.empty) := is_word 82 _ h (.inr ⟨rfl, rfl⟩)
  clear h
  go_enter Tryz.func99, Tryz.ntmps99
  go_wp2
  refine bodyPost_ret (v := .tuple #[contV 6 0 none 0 0 ByteArray.empty, .nilIface]) (by simp [results, Tryz.results99, go_sem, contV]) rfl ⟨⟨6, 0, [], ByteArray.empty, none, 0, _, rfl, Codes.nil _ _, free_nil _ _, fresh_none _, by decide, .inl ⟨.inr (.inr rfl), rfl, rfl, rfl, rfl, rfl⟩, .inl ⟨rfl, HI.out⟩⟩, by go_grown⟩
theorem like_code (s : ByteArray) (w : World) (h : 0 < s.size) (hs : s.size ≤ 8000) (hE : EnvR w) (q1 : s.data.toList ≠ [68, 75]) (q2 : s.data.toList ≠ [82, 70]) (hx : (s[0]'h).toNat = 35) :
    Calls Tryz.prog 99 #[.string s] w fun e w' => LikeEnds s w.heap.size e w' ∧ Below w.heap.size w w' := by
  have q : s.toList.isEmpty = false := by rw [empty_list]; exact decide_eq_false (by omega)
  have p1 : (s.toList == [68, 75]) = false := by rw [ByteArray.toList_eq]; simp [q1]
  have p2 : (s.toList == [82, 70]) = false := by rw [ByteArray.toList_eq]; simp [q2]
  have HE : Hid (EnvR w) := hE
  obtain ⟨c, r, hc⟩ : ∃ c r, s.data.toList = c :: r := by
    cases hh : s.data.toList with
    | nil => rw [size_len, hh] at h; exact absurd h (by simp)
    | cons c l => exact ⟨c, l, rfl⟩
  have hcx : s[0]'h = c := by
    have e1 : s.data.toList[0]? = some c := by rw [hc]; rfl
    have e2 := Lib.data_getElem? s 0 h
    rw [e1] at e2; exact (Option.some.inj e2).symm
  obtain ⟨u, hu⟩ : ∃ u : ByteArray, s.extract 1 s.size = u := ⟨_, rfl⟩
  have hus : u.size = s.size - 1 := by rw [← hu]; simp
  have hud : u.data.toList = r := by rw [← hu, Lib.extract_to_end, hc]; rfl
  have HS : Hid (s.data.toList = 35 :: u.data.toList) := by
    show _ = _; rw [hc, hud]; congr 1; rw [← hcx]; exact UInt8.toNat_inj.1 hx
  clear hE q1 q2 hc hcx hud
  go_enter Tryz.func99, Tryz.ntmps99
  go_wp2_with fail
  refine (number_in u _ (by omega) HE.out).mono ?_
  rintro e w1 ⟨he, hB1⟩
  have HB : Hid (Below w.heap.size w w1) := hB1
  clear hB1
  rcases he with ⟨v, rfl, hv⟩ | ⟨v, T, ad, rfl, hv⟩
  · have HI : Hid (IsOf s 2 v [] ByteArray.empty) := fun k0 n0 z0 t0 hr e => by
      obtain ⟨a, b, c, d⟩ := code_text HS.out hr e
      rw [hv] at d; exact ⟨a.symm, Lib.NumEnd.ok.inj d, b, c⟩
    clear hv
    go_wp2
    refine bodyPost_ret (v := .tuple #[contV 2 v none 0 0 ByteArray.empty, .nilIface]) (by simp [results, Tryz.results99, go_sem, contV]) rfl ⟨⟨2, v, [], ByteArray.empty, none, 0, _, rfl, Codes.nil _ _, free_nil _ _, fresh_none _, by decide, .inr (.inl ⟨.inr rfl, rfl, rfl, rfl, rfl⟩), .inl ⟨rfl, HI.out⟩⟩, HB.out⟩
  · have HI : Hid (NoText s) := fun k0 n0 z0 t0 hr e => by
      obtain ⟨a, b, c, d⟩ := code_text HS.out hr e
      exact hv _ d
    clear hv
    go_wp2
    refine bodyPost_ret (v := .tuple #[contV 2 v none 0 0 ByteArray.empty, .iface T (.pointer (some ad))]) (by simp [results, Tryz.results99, go_sem, contV]) rfl ⟨⟨2, v, [], ByteArray.empty, none, 0, _, rfl, Codes.nil _ _, free_nil _ _, fresh_none _, by decide, .inr (.inl ⟨.inr rfl, rfl, rfl, rfl, rfl⟩), .inr ⟨⟨T, ad, rfl⟩, HI.out⟩⟩, HB.out⟩
theorem like_int (s : ByteArray) (w : World) (h : 0 < s.size) (hs : s.size ≤ 8000) (hE : EnvR w) (q1 : s.data.toList ≠ [68, 75]) (q2 : s.data.toList ≠ [82, 70]) (x : Nat) (hx : (s[0]'h).toNat = x) (h3 : ¬ x = 35) (h4 : ¬ x = 123) (h5 : ¬ x = 34) :
    Calls Tryz.prog 99 #[.string s] w fun e w' => LikeEnds s w.heap.size e w' ∧ Below w.heap.size w w' := by
  have q : s.toList.isEmpty = false := by rw [empty_list]; exact decide_eq_false (by omega)
  have p1 : (s.toList == [68, 75]) = false := by rw [ByteArray.toList_eq]; simp [q1]
  have p2 : (s.toList == [82, 70]) = false := by rw [ByteArray.toList_eq]; simp [q2]
  have HE : Hid (EnvR w) := hE
  obtain ⟨c, r, hc⟩ : ∃ c r, s.data.toList = c :: r := by
    cases hh : s.data.toList with
    | nil => rw [size_len, hh] at h; exact absurd h (by simp)
    | cons c l => exact ⟨c, l, rfl⟩
  have hcx : s[0]'h = c := by
    have e1 : s.data.toList[0]? = some c := by rw [hc]; rfl
    have e2 := Lib.data_getElem? s 0 h
    rw [e1] at e2; exact (Option.some.inj e2).symm
  have hn : ∀ y : UInt8, ¬ x = y.toNat → c ≠ y := fun y hy e => hy (by rw [← hx, hcx, e])
  have HT : Hid (∀ {k0 n0 : Int} {z0 : List Int} {t0 : ByteArray}, right k0 n0 z0 t0 = true → s.data.toList = textL k0 n0 z0 t0 → k0 = 1 ∧ [] = z0 ∧ ByteArray.empty = t0 ∧ Lib.parseIntB 64 s.data.toList = .ok n0) :=
    fun hr e => int_text hc q1 q2 (hn 35 h3) (hn 123 h4) (hn 34 h5) hr e
  clear hE q1 q2 hc hcx hn
  go_enter Tryz.func99, Tryz.ntmps99
  go_wp2_with fail
  refine (number_in s _ hs HE.out).mono ?_
  rintro e w1 ⟨he, hB1⟩
  have HB : Hid (Below w.heap.size w w1) := hB1
  clear hB1
  rcases he with ⟨v, rfl, hv⟩ | ⟨v, T, ad, rfl, hv⟩
  · have HI : Hid (IsOf s 1 v [] ByteArray.empty) := fun k0 n0 z0 t0 hr e => by
      obtain ⟨a, b, c, d⟩ := HT.out hr e
      rw [hv] at d; exact ⟨a.symm, Lib.NumEnd.ok.inj d, b, c⟩
    clear hv
    go_wp2
    refine bodyPost_ret (v := .tuple #[contV 1 v none 0 0 ByteArray.empty, .nilIface]) (by simp [results, Tryz.results99, go_sem, contV]) rfl ⟨⟨1, v, [], ByteArray.empty, none, 0, _, rfl, Codes.nil _ _, free_nil _ _, fresh_none _, by decide, .inr (.inl ⟨.inl rfl, rfl, rfl, rfl, rfl⟩), .inl ⟨rfl, HI.out⟩⟩, HB.out⟩
  · have HI : Hid (NoText s) := fun k0 n0 z0 t0 hr e => by
      obtain ⟨a, b, c, d⟩ := HT.out hr e
      exact hv _ d
    clear hv
    go_wp2
    refine bodyPost_ret (v := .tuple #[contV 1 v none 0 0 ByteArray.empty, .iface T (.pointer (some ad))]) (by simp [results, Tryz.results99, go_sem, contV]) rfl ⟨⟨1, v, [], ByteArray.empty, none, 0, _, rfl, Codes.nil _ _, free_nil _ _, fresh_none _, by decide, .inr (.inl ⟨.inl rfl, rfl, rfl, rfl, rfl⟩), .inr ⟨⟨T, ad, rfl⟩, HI.out⟩⟩, HB.out⟩
theorem like_set (s : ByteArray) (w : World) (h : 0 < s.size) (hs : s.size ≤ 8000) (hE : EnvR w) (q1 : s.data.toList ≠ [68, 75]) (q2 : s.data.toList ≠ [82, 70]) (hx : (s[0]'h).toNat = 123) :
    Calls Tryz.prog 99 #[.string s] w fun e w' => LikeEnds s w.heap.size e w' ∧ Below w.heap.size w w' := by
  have q : s.toList.isEmpty = false := by rw [empty_list]; exact decide_eq_false (by omega)
  have p1 : (s.toList == [68, 75]) = false := by rw [ByteArray.toList_eq]; simp [q1]
  have p2 : (s.toList == [82, 70]) = false := by rw [ByteArray.toList_eq]; simp [q2]
  have HE : Hid (EnvR w) := hE
  obtain ⟨c, r, hc⟩ : ∃ c r, s.data.toList = c :: r := by
    cases hh : s.data.toList with
    | nil => rw [size_len, hh] at h; exact absurd h (by simp)
    | cons c l => exact ⟨c, l, rfl⟩
  have hcx : s[0]'h = c := by
    have e1 : s.data.toList[0]? = some c := by rw [hc]; rfl
    have e2 := Lib.data_getElem? s 0 h
    rw [e1] at e2; exact (Option.some.inj e2).symm
  obtain ⟨u, hu⟩ : ∃ u : ByteArray, s.extract 1 s.size = u := ⟨_, rfl⟩
  have hus : u.size = s.size - 1 := by rw [← hu]; simp
  have hud : u.data.toList = r := by rw [← hu, Lib.extract_to_end, hc]; rfl
  have HS : Hid (s.data.toList = 123 :: u.data.toList) := by
    show _ = _; rw [hc, hud]; congr 1; rw [← hcx]; exact UInt8.toNat_inj.1 hx
  obtain ⟨v, hv⟩ := hide (⟨(Lib.trimSuffix u.data.toList [125]).toArray⟩ : ByteArray)
  have HV : Hid (v.data.toList = Lib.trimSuffix u.data.toList [125]) := by show _ = _; rw [← hv.out, data_mk]
  have hvs : v.size ≤ 8000 := by rw [size_len, HV.out]; have := trim_len u.data.toList [125]; rw [← size_len] at this; omega
  have htr := Tryz.strings_TrimSuffix u ⟨#[125]⟩ w (by omega)
  have HTR : Hid (Calls Tryz.prog 131 #[.string u, .string ⟨#[125]⟩] w fun e w' => e = .returned (.string v) ∧ w = w') := htr.mono fun e w' h => ⟨by rw [h.1, ← hv.out], h.2.symm⟩
  clear hE q1 q2 hc hcx hud htr
  go_enter Tryz.func99, Tryz.ntmps99
  go_wp2_with (go_at_call 131; refine HTR.out.mono ?_; rintro e w' ⟨rfl, rfl⟩)
  refine (unlisted_in v _ hvs HE.out).mono ?_
  rintro e w1 ⟨he, hB1⟩
  have HB : Hid (Below w.heap.size w w1) := hB1
  clear hB1
  rcases he with ⟨zs, a, cap, rfl, hcd, hfe, hfr, hz⟩ | ⟨T, ad, rfl, hne, hx2⟩
  · have HI : Hid (IsOf s 3 0 zs ByteArray.empty) := is_set2 HS.out HV.out hz
    have HCD : Hid (Codes w1 a zs) := hcd
    have HFR : Hid (Fresh a w.heap.size) := hfr
    have HFE : Hid (Free w1 a zs) := hfe
    clear hz hcd hfr hfe
    go_wp2
    refine bodyPost_ret (v := .tuple #[contV 3 0 a zs.length cap ByteArray.empty, .nilIface]) (by simp [results, Tryz.results99, go_sem, contV]) rfl ⟨⟨3, 0, zs, ByteArray.empty, a, cap, _, rfl, HCD.out, HFE.out, HFR.out, by decide, .inr (.inr (.inl ⟨rfl, rfl, rfl⟩)), .inl ⟨rfl, HI.out⟩⟩, HB.out⟩
  · have HI : Hid (NoText s) := no_set HS.out HV.out hne hx2
    clear hne hx2
    go_wp2
    refine bodyPost_ret (v := .tuple #[contV 3 0 none 0 0 ByteArray.empty, .iface T (.pointer (some ad))]) (by simp [results, Tryz.results99, go_sem, contV]) rfl ⟨⟨3, 0, [], ByteArray.empty, none, 0, _, rfl, Codes.nil _ _, free_nil _ _, fresh_none _, by decide, .inr (.inr (.inl ⟨rfl, rfl, rfl⟩)), .inr ⟨⟨T, ad, rfl⟩, HI.out⟩⟩, HB.out⟩
theorem like_text (s : ByteArray) (w : World) (h : 0 < s.size) (hs : s.size ≤ 8000) (hE : EnvR w) (q1 : s.data.toList ≠ [68, 75]) (q2 : s.data.toList ≠ [82, 70]) (hx : (s[0]'h).toNat = 34) :
    Calls Tryz.prog 99 #[.string s] w fun e w' => LikeEnds s w.heap.size e w' ∧ Below w.heap.size w w' := by
  have q : s.toList.isEmpty = false := by rw [empty_list]; exact decide_eq_false (by omega)
  have p1 : (s.toList == [68, 75]) = false := by rw [ByteArray.toList_eq]; simp [q1]
  have p2 : (s.toList == [82, 70]) = false := by rw [ByteArray.toList_eq]; simp [q2]
  have HE : Hid (EnvR w) := hE
  obtain ⟨c, r, hc⟩ : ∃ c r, s.data.toList = c :: r := by
    cases hh : s.data.toList with
    | nil => rw [size_len, hh] at h; exact absurd h (by simp)
    | cons c l => exact ⟨c, l, rfl⟩
  have hcx : s[0]'h = c := by
    have e1 : s.data.toList[0]? = some c := by rw [hc]; rfl
    have e2 := Lib.data_getElem? s 0 h
    rw [e1] at e2; exact (Option.some.inj e2).symm
  obtain ⟨u, hu⟩ : ∃ u : ByteArray, s.extract 1 s.size = u := ⟨_, rfl⟩
  have hus : u.size = s.size - 1 := by rw [← hu]; simp
  have hud : u.data.toList = r := by rw [← hu, Lib.extract_to_end, hc]; rfl
  have HS : Hid (s.data.toList = 34 :: u.data.toList) := by
    show _ = _; rw [hc, hud]; congr 1; rw [← hcx]; exact UInt8.toNat_inj.1 hx
  obtain ⟨v, hv⟩ := hide (⟨(Lib.trimSuffix u.data.toList [34]).toArray⟩ : ByteArray)
  have HV : Hid (v.data.toList = Lib.trimSuffix u.data.toList [34]) := by show _ = _; rw [← hv.out, data_mk]
  have hvs : v.size ≤ 8000 := by rw [size_len, HV.out]; have := trim_len u.data.toList [34]; rw [← size_len] at this; omega
  have htr := Tryz.strings_TrimSuffix u ⟨#[34]⟩ w (by omega)
  have HTR : Hid (Calls Tryz.prog 131 #[.string u, .string ⟨#[34]⟩] w fun e w' => e = .returned (.string v) ∧ w = w') := htr.mono fun e w' h => ⟨by rw [h.1, ← hv.out], h.2.symm⟩
  obtain ⟨t, ht⟩ := hide (⟨(Lib.replaceAll v.data.toList [34, 34] [34]).toArray⟩ : ByteArray)
  have HTD : Hid (t.data.toList = Lib.replaceAll v.data.toList [34, 34] [34]) := by show _ = _; rw [← ht.out, data_mk]
  have hts : t.size ≤ 8000 := by rw [size_len, HTD.out]; have := unq_len v.data.toList; rw [← size_len] at this; omega
  have HI : Hid (IsOf s 4 0 [] t) := is_text2 HS.out (by rw [HTD.out, HV.out])
  obtain ⟨m, hm⟩ := HE.out.1.2
  have hcb := Lib.countB_le ⟨#[34, 34]⟩ (by decide) v.size v (Nat.le_refl _)
  have e1 : (⟨#[34]⟩ : ByteArray).size = 1 := rfl
  have hrp := Tryz.strings_ReplaceAll v ⟨#[34, 34]⟩ ⟨#[34]⟩ m w (by omega) hm (by decide) (by rw [e1]; omega)
  have HRP : Hid (Calls Tryz.prog 98 #[.string v, .string ⟨#[34, 34]⟩, .string ⟨#[34]⟩] w fun e w' => e = .returned (.string t) ∧ Below w.heap.size w w') := hrp.mono fun e w' h => ⟨by rw [h.1, ← ht.out], h.2⟩
  clear hE q1 q2 hc hcx hud htr hrp hcb hm e1
  go_enter Tryz.func99, Tryz.ntmps99
  go_wp2_with (go_at_call 131; refine HTR.out.mono ?_; rintro e w' ⟨rfl, rfl⟩)
  refine HRP.out.mono ?_
  rintro e w1 ⟨rfl, hB1⟩
  have HB : Hid (Below w.heap.size w w1) := hB1
  clear hB1
  go_wp2_with fail
  refine (LaidW.laid_one t w1 (by omega)).mono ?_
  rintro e w2 ⟨rfl, hB2⟩
  have HB2 : Hid (Below w.heap.size w w2) := HB.out.trans (hB2.mono HB.out.size)
  clear hB2
  go_wp2
  refine bodyPost_ret (v := .tuple #[contV 4 0 none 0 0 t, .nilIface]) (by simp [results, Tryz.results99, go_sem, contV]) rfl ⟨⟨4, 0, [], t, none, 0, _, rfl, Codes.nil _ _, free_nil _ _, fresh_none _, hts, .inr (.inr (.inr ⟨rfl, rfl, rfl, rfl, rfl⟩)), .inl ⟨rfl, HI.out⟩⟩, HB2.out⟩

theorem likely_in (s : ByteArray) (w : World) (hs : s.size ≤ 8000) (hE : EnvR w) :
    Calls Tryz.prog 99 #[.string s] w fun e w' => LikeEnds s w.heap.size e w' ∧ Below w.heap.size w w' := by
  by_cases h0 : s.size = 0
  · exact like_none s w h0
  have h : 0 < s.size := by omega
  by_cases q1 : s.data.toList = [68, 75]
  · exact like_dont s w q1
  by_cases q2 : s.data.toList = [82, 70]
  · exact like_refuse s w q2
  by_cases q3 : (s[0]'h).toNat = 35
  · exact like_code s w h hs hE q1 q2 q3
  by_cases q4 : (s[0]'h).toNat = 123
  · exact like_set s w h hs hE q1 q2 q4
  by_cases q5 : (s[0]'h).toNat = 34
  · exact like_text s w h hs hE q1 q2 q5
  · exact like_int s w h hs hE q1 q2 _ rfl q3 q4 q5
end Go.Proofs.YtphdkhdlgcglpaaGreatDoor.RdI
