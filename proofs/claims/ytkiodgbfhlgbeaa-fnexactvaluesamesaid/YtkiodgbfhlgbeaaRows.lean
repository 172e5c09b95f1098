/-
  No cell of these rows narrows 'for every input' (looked for: loops, veiled, ifaces, maps, wideKeys, modest, calm, conditions, laid).
  DERIVED. THE GIVEN ROWS OF THIS SEAT. 5 by the template 'for every input the law returns true; each argument reads behind the call as it read before'; 0 by the template 'total and deterministic' (their statements: YtkiodgbfhlgbeaaTotals.lean).
  GIVEN WITH THE SEED: the statements are not yours to turn. If you find one false, say at which input.
  Laid BY PROGRAM, IN A SANDBOX (cutbox-rows.mjs): the forced cells as the released guide's own fill.sh prints them over the translation 7153a84d7a362d79… (all of the seat's roots in one cut). By AI agents, Wed Nov 11 2026. No macro, syntax, notation, axiom, sorry.
-/
import Derived.Test.YtkiodgbfhlgbeaaChecked
import GoSem.Claim
import GoSem.ClaimJoined
import GoSem.ClaimMapViews
import Derived.JoinedTies
import Derived.KernelRfl
namespace Go.Proofs.Ytkiodgbfhlgbeaa
/- THE CELL 'sum', in the pinned program and in every row, IS THE sha256 OF THE DUMP (.gsa) THAT YtkiodgbfhlgbeaaProg.lean LOADS. Nothing in Lean hashes anything: it is a label: what it is worth is what the hold of that sum in a sandbox is worth. -/
noncomputable def Try.pinned : Pinned := { name := "ytkiodgbfhlgbeaa", sum := "7153a84d7a362d7933d1871b182b941ffef28f1a884757cc40d71720e981e459", checked := Try.checked }
namespace Rows
def none {H : Type} : Left H := { results := [], args := [] }

/-- 'laws.FnExactValueRight': WHATEVER THE INPUT: true; the input reads as it did. -/
def fnExactValueRightSpec : ChangeSpec := { name := "fnExactValueRight", fn := fun _ => fun
  | [d] => { results := [.lit (.bool true)], args := [d] }
  | _ => none }
def fnExactValueRightRow : OpenClaim := { program := "ytkiodgbfhlgbeaa", sum := "7153a84d7a362d7933d1871b182b941ffef28f1a884757cc40d71720e981e459", func := "loop.example/g00561/laws.FnExactValueRight", spec := "fnExactValueRight", unfollowed := true, recurses := true, apart := false }
def FnExactValueRightSaid : Prop := fnExactValueRightRow.holds Try.pinned (OpenSpec.ofChange fnExactValueRightSpec)

/-- ITS FALSE NEIGHBOUR: 'it returns false'. Refute it at one input. -/
def fnExactValueRightWrong : ChangeSpec := { name := "fnExactValueRight", fn := fun _ => fun
  | [d] => { results := [.lit (.bool false)], args := [d] }
  | _ => none }
def FnExactValueRightWrongFalsely : Prop := fnExactValueRightRow.holds Try.pinned (OpenSpec.ofChange fnExactValueRightWrong)

/-- 'laws.FnExactValueSame': WHATEVER THE INPUT: true; the input reads as it did. -/
def fnExactValueSameSpec : ChangeSpec := { name := "fnExactValueSame", fn := fun _ => fun
  | [d1, d2] => { results := [.lit (.bool true)], args := [d1, d2] }
  | _ => none }
def fnExactValueSameRow : OpenClaim := { program := "ytkiodgbfhlgbeaa", sum := "7153a84d7a362d7933d1871b182b941ffef28f1a884757cc40d71720e981e459", func := "loop.example/g00561/laws.FnExactValueSame", spec := "fnExactValueSame", unfollowed := true, recurses := true, apart := false }
def FnExactValueSameSaid : Prop := fnExactValueSameRow.holds Try.pinned (OpenSpec.ofChange fnExactValueSameSpec)

/-- ITS FALSE NEIGHBOUR: 'it returns false'. Refute it at one input. -/
def fnExactValueSameWrong : ChangeSpec := { name := "fnExactValueSame", fn := fun _ => fun
  | [d1, d2] => { results := [.lit (.bool false)], args := [d1, d2] }
  | _ => none }
def FnExactValueSameWrongFalsely : Prop := fnExactValueSameRow.holds Try.pinned (OpenSpec.ofChange fnExactValueSameWrong)

/-- 'laws.FnExactAnswered': WHATEVER THE INPUT: true; the input reads as it did. -/
def fnExactAnsweredSpec : ChangeSpec := { name := "fnExactAnswered", fn := fun _ => fun
  | [d] => { results := [.lit (.bool true)], args := [d] }
  | _ => none }
def fnExactAnsweredRow : OpenClaim := { program := "ytkiodgbfhlgbeaa", sum := "7153a84d7a362d7933d1871b182b941ffef28f1a884757cc40d71720e981e459", func := "loop.example/g00561/laws.FnExactAnswered", spec := "fnExactAnswered", unfollowed := true, recurses := true, apart := false }
def FnExactAnsweredSaid : Prop := fnExactAnsweredRow.holds Try.pinned (OpenSpec.ofChange fnExactAnsweredSpec)

/-- ITS FALSE NEIGHBOUR: 'it returns false'. Refute it at one input. -/
def fnExactAnsweredWrong : ChangeSpec := { name := "fnExactAnswered", fn := fun _ => fun
  | [d] => { results := [.lit (.bool false)], args := [d] }
  | _ => none }
def FnExactAnsweredWrongFalsely : Prop := fnExactAnsweredRow.holds Try.pinned (OpenSpec.ofChange fnExactAnsweredWrong)

/-- 'laws.FnExactKnown': WHATEVER THE INPUT: true; the input reads as it did. -/
def fnExactKnownSpec : ChangeSpec := { name := "fnExactKnown", fn := fun _ => fun
  | [d] => { results := [.lit (.bool true)], args := [d] }
  | _ => none }
def fnExactKnownRow : OpenClaim := { program := "ytkiodgbfhlgbeaa", sum := "7153a84d7a362d7933d1871b182b941ffef28f1a884757cc40d71720e981e459", func := "loop.example/g00561/laws.FnExactKnown", spec := "fnExactKnown", unfollowed := true, recurses := true, apart := false }
def FnExactKnownSaid : Prop := fnExactKnownRow.holds Try.pinned (OpenSpec.ofChange fnExactKnownSpec)

/-- ITS FALSE NEIGHBOUR: 'it returns false'. Refute it at one input. -/
def fnExactKnownWrong : ChangeSpec := { name := "fnExactKnown", fn := fun _ => fun
  | [d] => { results := [.lit (.bool false)], args := [d] }
  | _ => none }
def FnExactKnownWrongFalsely : Prop := fnExactKnownRow.holds Try.pinned (OpenSpec.ofChange fnExactKnownWrong)

/-- 'laws.FnExactHasCode': WHATEVER THE INPUT: true; the input reads as it did. -/
def fnExactHasCodeSpec : ChangeSpec := { name := "fnExactHasCode", fn := fun _ => fun
  | [d1, d2] => { results := [.lit (.bool true)], args := [d1, d2] }
  | _ => none }
def fnExactHasCodeRow : OpenClaim := { program := "ytkiodgbfhlgbeaa", sum := "7153a84d7a362d7933d1871b182b941ffef28f1a884757cc40d71720e981e459", func := "loop.example/g00561/laws.FnExactHasCode", spec := "fnExactHasCode", unfollowed := true, recurses := true, apart := false }
def FnExactHasCodeSaid : Prop := fnExactHasCodeRow.holds Try.pinned (OpenSpec.ofChange fnExactHasCodeSpec)

/-- ITS FALSE NEIGHBOUR: 'it returns false'. Refute it at one input. -/
def fnExactHasCodeWrong : ChangeSpec := { name := "fnExactHasCode", fn := fun _ => fun
  | [d1, d2] => { results := [.lit (.bool false)], args := [d1, d2] }
  | _ => none }
def FnExactHasCodeWrongFalsely : Prop := fnExactHasCodeRow.holds Try.pinned (OpenSpec.ofChange fnExactHasCodeWrong)

/- THE SECOND FORM. 'bulk': how many values and letters a reading holds, each counted each time it is reached (what is shared counts as often as it is met; a slice's spare places count too). A statement '..UptoSaid' is the law's where the arguments, and the package variables that the reading takes, are together of bulk at most 1048576: NARROWER than '..Said'. Prove '..Said' where nothing that the law and all that it calls make is longer than what came in: it says more and counts as full. Else prove '..UptoSaid'. A law counts once. -/
mutual
def uptoBulk {H : Type} : DataW H → Nat
  | .lit (.string bytes) => bytes.length + 1
  | .lit _ => 1
  | .nil => 1
  | .ptr d => uptoBulk d + 1
  | .slice elems spare => uptoBulkAll elems + uptoBulkAll spare + 1
  | .agg parts => uptoBulkAll parts + 1
  | .iface _ d => uptoBulk d + 1
  | .map entries => uptoBulkEntries entries + 1
  | .held _ => 1
def uptoBulkAll {H : Type} : List (DataW H) → Nat
  | [] => 0
  | d :: r => uptoBulk d + uptoBulkAll r
def uptoBulkEntries {H : Type} : List (Lit × DataW H) → Nat
  | [] => 0
  | x :: r => uptoBulkEntry x + uptoBulkEntries r
def uptoBulkEntry {H : Type} : Lit × DataW H → Nat
  | (.string bytes, d) => bytes.length + uptoBulk d + 1
  | (_, d) => uptoBulk d + 1
 end
def uptoSmall : (H : Type) → List (DataW H) → Bool := fun _ ds => decide (uptoBulkAll ds ≤ 1048576)
def OpenSpec.upto (s : _root_.Go.ChangeSpec) : _root_.Go.OpenSpec := { _root_.Go.OpenSpec.ofChange s with cond := some uptoSmall }

/-- 'laws.FnExactValueRight', WHERE WHAT IT READS IS OF BULK AT MOST 1048576: true; the input reads as it did. -/
def fnExactValueRightUptoRow : OpenClaim := { program := "ytkiodgbfhlgbeaa", sum := "7153a84d7a362d7933d1871b182b941ffef28f1a884757cc40d71720e981e459", func := "loop.example/g00561/laws.FnExactValueRight", spec := "fnExactValueRight", unfollowed := true, recurses := true, apart := false, narrowed := true }
def FnExactValueRightUptoSaid : Prop := fnExactValueRightUptoRow.holds Try.pinned (OpenSpec.upto fnExactValueRightSpec)

/-- 'laws.FnExactValueSame', WHERE WHAT IT READS IS OF BULK AT MOST 1048576: true; the input reads as it did. -/
def fnExactValueSameUptoRow : OpenClaim := { program := "ytkiodgbfhlgbeaa", sum := "7153a84d7a362d7933d1871b182b941ffef28f1a884757cc40d71720e981e459", func := "loop.example/g00561/laws.FnExactValueSame", spec := "fnExactValueSame", unfollowed := true, recurses := true, apart := false, narrowed := true }
def FnExactValueSameUptoSaid : Prop := fnExactValueSameUptoRow.holds Try.pinned (OpenSpec.upto fnExactValueSameSpec)

/-- 'laws.FnExactAnswered', WHERE WHAT IT READS IS OF BULK AT MOST 1048576: true; the input reads as it did. -/
def fnExactAnsweredUptoRow : OpenClaim := { program := "ytkiodgbfhlgbeaa", sum := "7153a84d7a362d7933d1871b182b941ffef28f1a884757cc40d71720e981e459", func := "loop.example/g00561/laws.FnExactAnswered", spec := "fnExactAnswered", unfollowed := true, recurses := true, apart := false, narrowed := true }
def FnExactAnsweredUptoSaid : Prop := fnExactAnsweredUptoRow.holds Try.pinned (OpenSpec.upto fnExactAnsweredSpec)

/-- 'laws.FnExactKnown', WHERE WHAT IT READS IS OF BULK AT MOST 1048576: true; the input reads as it did. -/
def fnExactKnownUptoRow : OpenClaim := { program := "ytkiodgbfhlgbeaa", sum := "7153a84d7a362d7933d1871b182b941ffef28f1a884757cc40d71720e981e459", func := "loop.example/g00561/laws.FnExactKnown", spec := "fnExactKnown", unfollowed := true, recurses := true, apart := false, narrowed := true }
def FnExactKnownUptoSaid : Prop := fnExactKnownUptoRow.holds Try.pinned (OpenSpec.upto fnExactKnownSpec)

/-- 'laws.FnExactHasCode', WHERE WHAT IT READS IS OF BULK AT MOST 1048576: true; the input reads as it did. -/
def fnExactHasCodeUptoRow : OpenClaim := { program := "ytkiodgbfhlgbeaa", sum := "7153a84d7a362d7933d1871b182b941ffef28f1a884757cc40d71720e981e459", func := "loop.example/g00561/laws.FnExactHasCode", spec := "fnExactHasCode", unfollowed := true, recurses := true, apart := false, narrowed := true }
def FnExactHasCodeUptoSaid : Prop := fnExactHasCodeUptoRow.holds Try.pinned (OpenSpec.upto fnExactHasCodeSpec)

end Rows
end Go.Proofs.Ytkiodgbfhlgbeaa
