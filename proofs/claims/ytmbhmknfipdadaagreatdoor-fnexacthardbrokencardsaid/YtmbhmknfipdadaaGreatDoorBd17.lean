/- Texts of ours, laid together. -/
import Derived.Test.YtmbhmknfipdadaaGreatDoorBd14
import Derived.Laws.StructEq
import Derived.ChangeKeysEq
namespace Go.Proofs.YtmbhmknfipdadaaGreatDoor.ValH
open Go.RowKit
open ValM ValW
def same20 (zs ys : List Int) (is : List Nat) : Bool := is.all fun i => zs.getD i 0 == ys.getD i 0
def sameW (k n : Int) (zs : List Int) (t : ByteArray) (k' n' : Int) (zs' : List Int) (t' : ByteArray) : Bool :=
 (k == k') && ((n == n') && (((zs.length : Int) == (zs'.length : Int)) && (same20 zs zs' (List.range 20) && (t.toList == t'.toList))))
theorem items_run (w : World) (d : Nat) (xs ys : Array Value) (zs zs' : List Int) : ∀ is : List Nat, (∀ i ∈ is, xs[i]? = some (.int .i64 (zs.getD i 0)) ∧ ys[i]? = some (.int .i64 (zs'.getD i 0))) →
  (Op.eqItems (d + 1) 2 1 xs ys is).run Tryz.prog w = .ok (same20 zs zs' is) w
 | [], _ => by simp [Op.eqItems, same20]
 | i :: is, h => by
  obtain ⟨h1, h2⟩ := h i (by simp)
  have ih := items_run w d xs ys zs zs' is (fun j hj => h j (by simp [hj]))
  have hp : Tryz.prog.plainKey 2 = true := by kernel_rfl
  simp only [Op.eqItems, Nat.mul_one, Sem.run_bind, run_part_plain w hp h1, run_part_plain w hp h2, Result.andThen_ok, run_equalIn_int w d 2 .i64 .i64 _ _ Tryz.underlying2]
  unfold same20
  rw [List.all_cons]
  cases zs.getD i 0 == zs'.getD i 0 with
  | false => simp
  | true => simpa [same20] using ih
theorem Tryz.arr20 : Tryz.prog.underlying 136 = some (.array 20 2) := by kernel_rfl
theorem part_codes (w : World) (k n : Int) (zs : List Int) (t : ByteArray) : (part 136 (wholeL k n zs t).toArray 3).run Tryz.prog w = .ok (.agg (codes20 zs).toArray) w := by
 have hs : (sizeOf 136).run Tryz.prog w = .ok 20 w := by kernel_rfl
 have ha : (isAgg 136).run Tryz.prog w = .ok true w := by kernel_rfl
 have he : ((wholeL k n zs t).toArray.extract 3 23) = (codes20 zs).toArray := by
  unfold wholeL
  rw [List.extract_toArray]
  simp [List.extract_eq_take_drop, codes20]
 simp only [part, Sem.run_bind, ha, Result.andThen_ok, if_true, hs, Sem.run_pure, Nat.reduceAdd, he]
theorem codes_run (w : World) (d : Nat) (zs zs' : List Int) :
  (Op.equalIn (d + 2) 136 (.agg (codes20 zs).toArray) (.agg (codes20 zs').toArray)).run Tryz.prog w = .ok (same20 zs zs' (List.range 20)) w := by
 obtain ⟨i, hi, _⟩ := info_parts Tryz.infoI
 have hc : Tryz.prog.cellsOf 2 = 1 := by kernel_rfl
 rw [run_equalIn_array w (d + 1) _ _ Tryz.arr20 hi, hc]
 refine items_run w d _ _ zs zs' (List.range 20) (fun i hi => ?_)
 have hi : i < 20 := by simpa using hi
 constructor <;> simp [codes20, hi]
theorem whole_eq (w : World) (k n : Int) (zs : List Int) (t : ByteArray) (k' n' : Int) (zs' : List Int) (t' : ByteArray) :
  (binOp .eql 138 (.agg (wholeL k n zs t).toArray) (.agg (wholeL k' n' zs' t').toArray)).run Tryz.prog w = .ok (.bool (sameW k n zs t k' n' zs' t')) w := by
 have hf : Tryz.prog.underlying 138 = some (.struct (Tryz.prog.fieldsOf 138)) := by kernel_rfl
 have hs : Tryz.prog.stoodInHeld 138 = false := by kernel_rfl
 have hp : Tryz.prog.plainKey 2 = true := by kernel_rfl
 have hp2 : Tryz.prog.plainKey 3 = true := by kernel_rfl
 have hp3 : Tryz.prog.plainKey 9 = true := by kernel_rfl
 have a0 : ∀ (k n : Int) (zs : List Int) (t : ByteArray), (wholeL k n zs t).toArray[0]? = some (.int .i64 k) := fun _ _ _ _ => rfl
 have a1 : ∀ (k n : Int) (zs : List Int) (t : ByteArray), (wholeL k n zs t).toArray[1]? = some (.int .i64 n) := fun _ _ _ _ => rfl
 have a2 : ∀ (k n : Int) (zs : List Int) (t : ByteArray), (wholeL k n zs t).toArray[2]? = some (.int .i64 zs.length) := fun _ _ _ _ => rfl
 have a3 : ∀ (k n : Int) (zs : List Int) (t : ByteArray), (wholeL k n zs t).toArray[23]? = some (.string t) := fun _ _ _ _ => rfl
 have e := run_equalIn_agg w 9999 138 (wholeL k n zs t).toArray (wholeL k' n' zs' t').toArray hf hs
 rw [run_eql_struct, e]
 unfold Program.fieldsOf
 rw [Tryz.underlying138]
 simp only [Op.eqFields, Sem.run_bind, Sem.run_ite, part_codes, codes_run w 9997, run_part_plain w hp (a0 _ _ _ _), run_part_plain w hp (a1 _ _ _ _), run_part_plain w hp2 (a2 _ _ _ _), run_part_plain w hp3 (a3 _ _ _ _),
  run_equalIn_int w 9998 2 .i64 .i64 _ _ Tryz.underlying2, run_equalIn_int w 9998 3 .i64 .i64 _ _ Tryz.underlying3, run_equalIn_string w 9998 9 _ _ Tryz.underlying9, Result.andThen_ok]
 unfold sameW
 cases k == k' <;> cases n == n' <;> cases (zs.length : Int) == (zs'.length : Int) <;> cases same20 zs zs' (List.range 20) <;> cases t.toList == t'.toList <;> simp
end Go.Proofs.YtmbhmknfipdadaaGreatDoor.ValH
