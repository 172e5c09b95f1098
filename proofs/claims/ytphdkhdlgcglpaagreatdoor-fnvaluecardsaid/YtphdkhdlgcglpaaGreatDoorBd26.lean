/- Texts of ours, laid together: RdOutI. -/
import Derived.Test.YtphdkhdlgcglpaaGreatDoorBd25
import Derived.Test.YtphdkhdlgcglpaaGreatDoorBd21
import Derived.Test.YtphdkhdlgcglpaaGreatDoorBd6
/- ValueRead of the program. -/
namespace Go.Proofs.YtphdkhdlgcglpaaGreatDoor.RdI
open Go.RowKit
open ValM ValW ValS ValI TxtM RdM TxtI
open RdS (Fresh fresh_none strs Reads ov codes_set zero_cells zero5)

theorem n_silence_right (v : Value) (w : World) : (nilAhead 379 126 v "loop.example/g00561/impl.right").run Tryz.prog w = .ok (some false) w := by kernel_rfl
theorem m_silence_right (v : Value) (w : World) : (Go.method 379 126 v "loop.example/g00561/impl.right").run Tryz.prog w = .ok (214, v) w := by kernel_rfl
theorem n_silence_value (v : Value) (w : World) : (nilAhead 379 126 v "loop.example/g00561/impl.value").run Tryz.prog w = .ok (some false) w := by kernel_rfl
theorem m_silence_value (v : Value) (w : World) : (Go.method 379 126 v "loop.example/g00561/impl.value").run Tryz.prog w = .ok (215, v) w := by kernel_rfl
theorem n_integer_right (v : Value) (w : World) : (nilAhead 379 128 v "loop.example/g00561/impl.right").run Tryz.prog w = .ok (some false) w := by kernel_rfl
theorem m_integer_right (v : Value) (w : World) : (Go.method 379 128 v "loop.example/g00561/impl.right").run Tryz.prog w = .ok (216, v) w := by kernel_rfl
theorem n_integer_value (v : Value) (w : World) : (nilAhead 379 128 v "loop.example/g00561/impl.value").run Tryz.prog w = .ok (some false) w := by kernel_rfl
theorem m_integer_value (v : Value) (w : World) : (Go.method 379 128 v "loop.example/g00561/impl.value").run Tryz.prog w = .ok (217, v) w := by kernel_rfl
theorem n_choice_right (v : Value) (w : World) : (nilAhead 379 129 v "loop.example/g00561/impl.right").run Tryz.prog w = .ok (some false) w := by kernel_rfl
theorem m_choice_right (v : Value) (w : World) : (Go.method 379 129 v "loop.example/g00561/impl.right").run Tryz.prog w = .ok (218, v) w := by kernel_rfl
theorem n_choice_value (v : Value) (w : World) : (nilAhead 379 129 v "loop.example/g00561/impl.value").run Tryz.prog w = .ok (some false) w := by kernel_rfl
theorem m_choice_value (v : Value) (w : World) : (Go.method 379 129 v "loop.example/g00561/impl.value").run Tryz.prog w = .ok (219, v) w := by kernel_rfl
theorem n_choices_right (v : Value) (w : World) : (nilAhead 379 131 v "loop.example/g00561/impl.right").run Tryz.prog w = .ok (some false) w := by kernel_rfl
theorem m_choices_right (v : Value) (w : World) : (Go.method 379 131 v "loop.example/g00561/impl.right").run Tryz.prog w = .ok (220, v) w := by kernel_rfl
theorem n_choices_value (v : Value) (w : World) : (nilAhead 379 131 v "loop.example/g00561/impl.value").run Tryz.prog w = .ok (some false) w := by kernel_rfl
theorem m_choices_value (v : Value) (w : World) : (Go.method 379 131 v "loop.example/g00561/impl.value").run Tryz.prog w = .ok (221, v) w := by kernel_rfl
theorem n_words_right (v : Value) (w : World) : (nilAhead 379 134 v "loop.example/g00561/impl.right").run Tryz.prog w = .ok (some false) w := by kernel_rfl
theorem m_words_right (v : Value) (w : World) : (Go.method 379 134 v "loop.example/g00561/impl.right").run Tryz.prog w = .ok (222, v) w := by kernel_rfl
theorem n_words_value (v : Value) (w : World) : (nilAhead 379 134 v "loop.example/g00561/impl.value").run Tryz.prog w = .ok (some false) w := by kernel_rfl
theorem m_words_value (v : Value) (w : World) : (Go.method 379 134 v "loop.example/g00561/impl.value").run Tryz.prog w = .ok (223, v) w := by kernel_rfl
theorem f_silence_right (v : Value) (w : World) : (callFunc 214 #[v]).run Tryz.prog w = .ok (.enter 214 #[v]) w := by kernel_rfl
theorem f_silence_value (v : Value) (w : World) : (callFunc 215 #[v]).run Tryz.prog w = .ok (.enter 215 #[v]) w := by kernel_rfl
theorem f_integer_right (v : Value) (w : World) : (callFunc 216 #[v]).run Tryz.prog w = .ok (.enter 216 #[v]) w := by kernel_rfl
theorem f_integer_value (v : Value) (w : World) : (callFunc 217 #[v]).run Tryz.prog w = .ok (.enter 217 #[v]) w := by kernel_rfl
theorem f_choice_right (v : Value) (w : World) : (callFunc 218 #[v]).run Tryz.prog w = .ok (.enter 218 #[v]) w := by kernel_rfl
theorem f_choice_value (v : Value) (w : World) : (callFunc 219 #[v]).run Tryz.prog w = .ok (.enter 219 #[v]) w := by kernel_rfl
theorem f_choices_right (v : Value) (w : World) : (callFunc 220 #[v]).run Tryz.prog w = .ok (.enter 220 #[v]) w := by kernel_rfl
theorem f_choices_value (v : Value) (w : World) : (callFunc 221 #[v]).run Tryz.prog w = .ok (.enter 221 #[v]) w := by kernel_rfl
theorem f_words_right (v : Value) (w : World) : (callFunc 222 #[v]).run Tryz.prog w = .ok (.enter 222 #[v]) w := by kernel_rfl
theorem f_words_value (v : Value) (w : World) : (callFunc 223 #[v]).run Tryz.prog w = .ok (.enter 223 #[v]) w := by kernel_rfl

/-- what the program does with what an answer says: whether it is right, its text, the answer itself -/
theorem pack {k n : Int} {zs : List Int} {t : ByteArray} {a : Option Addr} {cap : Nat} (hc : Clean k n zs t a cap) (ht : t.size ≤ maxLen) :
    ∃ (T : TypeId) (v : Value) (fR fV : FuncId), contV k n a zs.length cap t = .iface T v ∧
      (∀ W, (nilAhead 379 T v "loop.example/g00561/impl.right").run Tryz.prog W = .ok (some false) W) ∧ (∀ W, (Go.method 379 T v "loop.example/g00561/impl.right").run Tryz.prog W = .ok (fR, v) W) ∧
      (∀ W, (nilAhead 379 T v "loop.example/g00561/impl.value").run Tryz.prog W = .ok (some false) W) ∧ (∀ W, (Go.method 379 T v "loop.example/g00561/impl.value").run Tryz.prog W = .ok (fV, v) W) ∧
      (∀ W, (callFunc fR #[v]).run Tryz.prog W = .ok (.enter fR #[v]) W) ∧ (∀ W, (callFunc fV #[v]).run Tryz.prog W = .ok (.enter fV #[v]) W) ∧
      (∀ W, Codes W a zs → Calls Tryz.prog fR #[v] W fun e w' => e = .returned (.bool (right k n zs t)) ∧ Below W.heap.size W w') ∧
      (∀ W, Codes W a zs → right k n zs t = true → Env W → Calls Tryz.prog 56 #[.iface T v] W fun e w' => e = .returned (.string ⟨(textL k n zs t).toArray⟩) ∧ Below W.heap.size W w') ∧
      (∀ W, Calls Tryz.prog fV #[v] W fun e w' => e = .returned (av k n a zs.length cap t) ∧ Below W.heap.size W w') := by
  have hT : ∀ (T : TypeId) (v : Value), contV k n a zs.length cap t = .iface T v → ∀ W, Codes W a zs → right k n zs t = true → Env W → Calls Tryz.prog 56 #[.iface T v] W fun e w' => e = .returned (.string ⟨(textL k n zs t).toArray⟩) ∧ Below W.heap.size W w' :=
    fun T v he W h1 h2 h3 => by rw [← he]; exact cont_any k n a cap zs t W h1 h2 h3
  rcases hc with ⟨hk, rfl, rfl, rfl, rfl, rfl⟩ | ⟨hk, rfl, rfl, rfl, rfl⟩ | ⟨rfl, rfl, rfl⟩ | ⟨rfl, rfl, rfl, rfl, rfl⟩
  · refine ⟨_, _, _, _, contV_none hk, n_silence_right _, m_silence_right _, n_silence_value _, m_silence_value _, f_silence_right _, f_silence_value _, fun W _ => ?_, hT _ _ (contV_none hk), fun W => silence_value k W⟩
    have e : right k 0 [] ByteArray.empty = true := by rw [right_none 0 [] ByteArray.empty hk]; rfl
    rw [e]; exact silence_right k W
  · rcases hk with rfl | rfl
    · refine ⟨_, _, _, _, rfl, n_integer_right _, m_integer_right _, n_integer_value _, m_integer_value _, f_integer_right _, f_integer_value _, fun W _ => ?_, hT _ _ rfl, fun W => integer_value n W⟩
      have e : right 1 n [] ByteArray.empty = decide (-1000000000 ≤ n ∧ n ≤ 1000000000) := by rw [right_int]; simp
      rw [e]; exact integer_right n W
    · refine ⟨_, _, _, _, rfl, n_choice_right _, m_choice_right _, n_choice_value _, m_choice_value _, f_choice_right _, f_choice_value _, fun W _ => ?_, hT _ _ rfl, fun W => choice_value n W⟩
      have e : right 2 n [] ByteArray.empty = decide (1 ≤ n ∧ n ≤ 20) := by rw [right_code]; simp
      rw [e]; exact choice_right n W
  · refine ⟨_, _, _, _, rfl, n_choices_right _, m_choices_right _, n_choices_value _, m_choices_value _, f_choices_right _, f_choices_value _, fun W hW => ?_, hT _ _ rfl, fun W => choices_value a zs.length cap W⟩
    have e : right 3 0 zs ByteArray.empty = risesB zs := by rw [right_set]; simp
    rw [e]; exact choices_right a cap zs W hW
  · refine ⟨_, _, _, _, rfl, n_words_right _, m_words_right _, n_words_value _, m_words_value _, f_words_right _, f_words_value _, fun W _ => ?_, hT _ _ rfl, fun W => words_value t W⟩
    have e : right 4 0 [] t = (plainB t && decide (t.size ≤ 40)) := by rw [right_text]; simp
    rw [e]; exact words_right t W ht

def errC (c : Int) : Value := if c = 0 then .nilIface else .iface 109 (.agg #[.int .i64 c])
def zero4 : Array Value := #[.int .i64 0, .int .i64 0, .slice none 0 0, .string ByteArray.empty]
theorem zero_cells4 {w : World} {b : Nat} {T : TypeId} (h : w.heap[b]? = some (.cells zero4 T (0, 0))) :
    w.cell? ⟨b, 0, none⟩ = some (.int .i64 0) ∧ w.cell? ⟨b, 1, none⟩ = some (.int .i64 0) ∧ w.cell? ⟨b, 2, none⟩ = some (.slice none 0 0) ∧ w.cell? ⟨b, 3, none⟩ = some (.string ByteArray.empty) ∧ ∀ j, w.frozen? ⟨b, j, none⟩ = false :=
  ⟨by simp [World.cell?, h, zero4], by simp [World.cell?, h, zero4], by simp [World.cell?, h, zero4], by simp [World.cell?, h, zero4], fun j => by simp [World.frozen?, h]⟩
theorem rv_big (s : ByteArray) (w : World) (hs : 8000 < s.size) (hm : s.size ≤ maxLen) :
    Calls Tryz.prog 58 #[.string s] w fun e w' => e = .returned (.tuple #[av 0 0 none 0 0 ByteArray.empty, .iface 109 (.agg #[.int .i64 2])]) ∧ Below w.heap.size w w' := by
  unfold maxLen at hm
  go_enter Tryz.func58, Tryz.ntmps58
  go_wp2
  refine bodyPost_ret (v := .tuple #[av 0 0 none 0 0 ByteArray.empty, .iface 109 (.agg #[.int .i64 2])]) (by simp [results, Tryz.results58, go_sem]; rfl) rfl ⟨rfl, ?_⟩
  go_grown

set_option maxRecDepth 10000 in
set_option maxHeartbeats 2000000 in
theorem rv_in (s : ByteArray) (w : World) (hs : s.size ≤ 8000) (hE : EnvR w) :
    Calls Tryz.prog 58 #[.string s] w fun e w' => ∃ k n zs t a cap c, e = .returned (.tuple #[av k n a zs.length cap t, errC c]) ∧ Below w.heap.size w w' ∧ Codes w' a zs ∧ Free w' a zs ∧ Fresh a w.heap.size ∧ Reads s k n zs t c := by
  have HE : Hid (EnvR w) := hE
  have HS : Hid (s.size ≤ 8000) := hs
  clear hE
  go_enter Tryz.func58, Tryz.ntmps58
  go_wp2_with fail
  refine (likely_in s _ hs (HE.out.on (below_one w _))).mono ?_
  rintro e w1 ⟨⟨k, n, zs, t, a, cap, err, rfl, hcd, hfe, hfr, hts, hcl, hend⟩, hB1⟩
  rw [World.size_alloc] at hfr
  obtain ⟨T, v, fR, fV, hc, hnr, hmr, hnv, hmv, hfr1, hfv1, hR, hT, hV⟩ := pack hcl (by unfold maxLen; omega)
  rw [hc]
  have HB1 : Hid (Below w.heap.size w w1) := (below_one w _).trans (hB1.mono (by simp))
  have HCD : Hid (Codes w1 a zs) := hcd
  have HFE : Hid (Free w1 a zs) := hfe
  have HFR : Hid (Fresh a (w.heap.size + 1)) := hfr
  have HZ : Hid (w1.heap[w.heap.size]? = some (.cells zero4 38 (0, 0))) := by
    show _ = _; rw [hB1.block _ (by simp)]; exact heap_alloc_new w _
  have HR : Hid (∀ W, Codes W a zs → Calls Tryz.prog fR #[v] W fun e w' => e = .returned (.bool (right k n zs t)) ∧ Below W.heap.size W w') := hR
  have HT : Hid (∀ W, Codes W a zs → right k n zs t = true → Env W → Calls Tryz.prog 56 #[.iface T v] W fun e w' => e = .returned (.string ⟨(textL k n zs t).toArray⟩) ∧ Below W.heap.size W w') := hT
  have HV : Hid (∀ W, Calls Tryz.prog fV #[v] W fun e w' => e = .returned (av k n a zs.length cap t) ∧ Below W.heap.size W w') := hV
  have hlt1 : w.heap.size < w1.heap.size := (Array.getElem?_eq_some_iff.1 HZ.out).1
  clear hcd hfr hfe hB1 hc hR hT hV hcl
  rcases hend with ⟨rfl, his⟩ | ⟨⟨T', p, rfl⟩, hno⟩
  · have HIS : Hid (IsOf s k n zs t) := his
    clear his
    obtain ⟨y, hy⟩ : ∃ y, Hid (right k n zs t = y) := ⟨_, rfl⟩
    go_wp2_with fail
    refine (HR.out _ HCD.out).mono ?_
    rintro e w2 ⟨rfl, hB2⟩
    rw [hy.out]
    have HB2 : Hid (Below w.heap.size w w2) := HB1.out.trans (hB2.mono HB1.out.size)
    have HCD2 : Hid (Codes w2 a zs) := HCD.out.on hB2
    have HFE2 : Hid (Free w2 a zs) := HFE.out.on hB2
    have HZ2 : Hid (w2.heap[w.heap.size]? = some (.cells zero4 38 (0, 0))) := (hB2.block _ hlt1).trans HZ.out
    have hlt2 : w.heap.size < w2.heap.size := (Array.getElem?_eq_some_iff.1 HZ2.out).1
    clear hB2 HCD HZ HB1
    cases y with
    | false =>
      have HRD : Hid (Reads s 0 0 [] ByteArray.empty 3) := .inr (.inr ⟨HS.out, rfl, rfl, rfl, rfl, rfl, fun k0 n0 z0 t0 hr e => by
        obtain ⟨rfl, rfl, rfl, rfl⟩ := HIS.out k0 n0 z0 t0 hr e
        rw [hr] at hy; exact absurd hy.out (by simp)⟩)
      obtain ⟨z0, z1, z2, z3, zf⟩ := zero_cells4 HZ2.out
      go_wp2
      refine bodyPost_ret (v := .tuple #[av 0 0 none 0 0 ByteArray.empty, .iface 109 (.agg #[.int .i64 3])]) (by simp [results, Tryz.results58, go_sem, z0, z1, z2, z3]; rfl) rfl ⟨0, 0, [], ByteArray.empty, none, 0, 3, rfl, ?_, Codes.nil _ _, free_nil _ _, fresh_none _, HRD.out⟩
      repeat (refine Below.setCell ?_ (show w.heap.size ≤ _ by simp only; omega) _)
      exact HB2.out
    | true =>
      obtain ⟨x, hx⟩ := hide (⟨(textL k n zs t).toArray⟩ : ByteArray)
      go_wp2_with fail
      refine (HT.out _ HCD2.out hy.out (HE.out.on HB2.out).1).mono ?_
      rintro e w3 ⟨rfl, hB3⟩
      rw [hx.out]
      have HB3 : Hid (Below w.heap.size w w3) := HB2.out.trans (hB3.mono HB2.out.size)
      have HCD3 : Hid (Codes w3 a zs) := HCD2.out.on hB3
      have HFE3 : Hid (Free w3 a zs) := HFE2.out.on hB3
      have HZ3 : Hid (w3.heap[w.heap.size]? = some (.cells zero4 38 (0, 0))) := (hB3.block _ hlt2).trans HZ2.out
      have hlt3 : w.heap.size < w3.heap.size := (Array.getElem?_eq_some_iff.1 HZ3.out).1
      clear hB3 HCD2 HZ2 HB2
      by_cases he : x.toList = s.toList
      · have q : (x.toList == s.toList) = true := by simp [he]
        have HRD : Hid (Reads s k n zs t 0) := .inr (.inl ⟨HS.out, hy.out, by
          rw [ByteArray.toList_eq, ByteArray.toList_eq, ← hx.out, data_mk] at he; exact he.symm, rfl⟩)
        clear he
        go_wp2_with fail
        refine (HV.out _).mono ?_
        rintro e w4 ⟨rfl, hB4⟩
        have HB4 : Hid (Below w.heap.size w w4) := HB3.out.trans (hB4.mono HB3.out.size)
        have HCD4 : Hid (Codes w4 a zs) := HCD3.out.on hB4
        have HFE4 : Hid (Free w4 a zs) := HFE3.out.on hB4
        obtain ⟨z0, z1, z2, z3, zf⟩ := zero_cells4 ((hB4.block _ hlt3).trans HZ3.out)
        have hlt4 : w.heap.size < w4.heap.size := Nat.lt_of_lt_of_le hlt3 hB4.size
        clear hB4 HCD3 HZ3 HB3
        go_wp2
        refine bodyPost_ret (v := .tuple #[av k n a zs.length cap t, .nilIface]) (by simp [results, Tryz.results58, go_sem, z0, z1, z2, z3]) rfl ⟨k, n, zs, t, a, cap, 0, rfl, ?_, ?_, ?_, fun b o hb => by have := HFR.out b o hb; omega, HRD.out⟩
        · repeat (refine Below.setCell ?_ (show w.heap.size ≤ _ by simp only; omega) _)
          exact HB4.out
        · repeat (refine codes_set ?_ (fun b o hb => by have := HFR.out b o hb; simp only; omega) _)
          exact HCD4.out
        · repeat (refine free_set ?_ _ _)
          exact HFE4.out
      · have q : (x.toList == s.toList) = false := by simp [he]
        have HRD : Hid (Reads s 0 0 [] ByteArray.empty 3) := .inr (.inr ⟨HS.out, rfl, rfl, rfl, rfl, rfl, fun k0 n0 z0 t0 hr e => by
          obtain ⟨rfl, rfl, rfl, rfl⟩ := HIS.out k0 n0 z0 t0 hr e
          apply he; rw [ByteArray.toList_eq, ByteArray.toList_eq, ← hx.out, data_mk, e]⟩)
        clear he
        obtain ⟨z0, z1, z2, z3, zf⟩ := zero_cells4 HZ3.out
        go_wp2
        refine bodyPost_ret (v := .tuple #[av 0 0 none 0 0 ByteArray.empty, .iface 109 (.agg #[.int .i64 3])]) (by simp [results, Tryz.results58, go_sem, z0, z1, z2, z3]; rfl) rfl ⟨0, 0, [], ByteArray.empty, none, 0, 3, rfl, ?_, Codes.nil _ _, free_nil _ _, fresh_none _, HRD.out⟩
        repeat (refine Below.setCell ?_ (show w.heap.size ≤ _ by simp only; omega) _)
        exact HB3.out
  · have HRD : Hid (Reads s 0 0 [] ByteArray.empty 3) := .inr (.inr ⟨HS.out, rfl, rfl, rfl, rfl, rfl, hno⟩)
    clear hno
    obtain ⟨z0, z1, z2, z3, zf⟩ := zero_cells4 HZ.out
    go_wp2
    refine bodyPost_ret (v := .tuple #[av 0 0 none 0 0 ByteArray.empty, .iface 109 (.agg #[.int .i64 3])]) (by simp [results, Tryz.results58, go_sem, z0, z1, z2, z3]; rfl) rfl ⟨0, 0, [], ByteArray.empty, none, 0, 3, rfl, ?_, Codes.nil _ _, free_nil _ _, fresh_none _, HRD.out⟩
    repeat (refine Below.setCell ?_ (show w.heap.size ≤ _ by simp only; omega) _)
    exact HB1.out
end Go.Proofs.YtphdkhdlgcglpaaGreatDoor.RdI
