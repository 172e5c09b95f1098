/-
  NARROWER THAN 'FOR EVERY INPUT', by the rows' own cells (each row's printed sentence says how): FnExactEval: laid · FnExactIsTrue: laid.
  DERIVED. THE GIVEN ROWS OF THIS SEAT. 2 by the template 'for every input the law returns true; each argument reads behind the call as it read before'; 0 by the template 'total and deterministic' (their statements: YtflofhbooedpjaaGreatDoorTotals.lean).
  GIVEN WITH THE SEED: the statements are not yours to turn. If you find one false, say at which input.
  Laid BY PROGRAM, IN A SANDBOX (cutbox-rows.mjs): the forced cells as the released guide's own fill.sh prints them over the translation e631bc899b25913e… (all of the seat's roots in one cut). By AI agents, Wed Nov 11 2026. No macro, syntax, notation, axiom, sorry.
-/
import Derived.Test.YtflofhbooedpjaaGreatDoorChecked
import GoSem.Claim
import GoSem.ClaimJoined
import GoSem.ClaimMapViews
import Derived.JoinedTies
import Derived.KernelRfl
namespace Go.Proofs.YtflofhbooedpjaaGreatDoor
/- THE CELL 'sum', in the pinned program and in every row, IS THE sha256 OF THE DUMP (.gsa) THAT YtflofhbooedpjaaGreatDoorProg.lean LOADS. Nothing in Lean hashes anything: it is a label: what it is worth is what the hold of that sum in a sandbox is worth. -/
noncomputable def Tryz.pinned : Pinned := { name := "ytflofhbooedpjaagreatdoor", sum := "e631bc899b25913ef785b2096cd7bfd707bc8b23d916589f877387de19a40e42", checked := Tryz.checked }
namespace Rows
def none {H : Type} : Left H := { results := [], args := [] }

/- WHAT THE LISTED PACKAGE-LEVEL VARIABLES READ AS WHEN THE CALL BEGINS. Each datum BY PROGRAM (the guide's laid-datum.mjs) off the statement by which the dump's own 'gosem.cut.vars' lays the variable. In a bare row this is a premise. The card (YtflofhbooedpjaaGreatDoorCards.lean) ties it to the program's text. -/
def laid_loop_example_g00561_impl_shapes {H : Type} : DataW H := .agg [.agg [.lit (.bool false), .lit (.int .i64 0), .lit (.bool false), .lit (.bool false), .lit (.int .i64 0), .lit (.int .i64 0), .lit (.string [])], .agg [.lit (.bool false), .lit (.int .i64 0), .lit (.bool false), .lit (.bool false), .lit (.int .i64 (-1000000)), .lit (.int .i64 1000000), .lit (.string [])], .agg [.lit (.bool false), .lit (.int .i64 0), .lit (.bool false), .lit (.bool true), .lit (.int .i64 0), .lit (.int .i64 0), .lit (.string [])], .agg [.lit (.bool false), .lit (.int .i64 2), .lit (.bool false), .lit (.bool false), .lit (.int .i64 0), .lit (.int .i64 0), .lit (.string [43])], .agg [.lit (.bool false), .lit (.int .i64 2), .lit (.bool false), .lit (.bool false), .lit (.int .i64 0), .lit (.int .i64 0), .lit (.string [45])], .agg [.lit (.bool false), .lit (.int .i64 2), .lit (.bool false), .lit (.bool false), .lit (.int .i64 0), .lit (.int .i64 0), .lit (.string [42])], .agg [.lit (.bool true), .lit (.int .i64 2), .lit (.bool false), .lit (.bool false), .lit (.int .i64 0), .lit (.int .i64 0), .lit (.string [61])], .agg [.lit (.bool true), .lit (.int .i64 2), .lit (.bool false), .lit (.bool false), .lit (.int .i64 0), .lit (.int .i64 0), .lit (.string [60])], .agg [.lit (.bool true), .lit (.int .i64 2), .lit (.bool false), .lit (.bool false), .lit (.int .i64 0), .lit (.int .i64 0), .lit (.string [60, 61])], .agg [.lit (.bool true), .lit (.int .i64 2), .lit (.bool true), .lit (.bool false), .lit (.int .i64 0), .lit (.int .i64 0), .lit (.string [38])], .agg [.lit (.bool true), .lit (.int .i64 2), .lit (.bool true), .lit (.bool false), .lit (.int .i64 0), .lit (.int .i64 0), .lit (.string [124])], .agg [.lit (.bool true), .lit (.int .i64 1), .lit (.bool true), .lit (.bool false), .lit (.int .i64 0), .lit (.int .i64 0), .lit (.string [33])], .agg [.lit (.bool true), .lit (.int .i64 0), .lit (.bool false), .lit (.bool true), .lit (.int .i64 1), .lit (.int .i64 20), .lit (.string [])], .agg [.lit (.bool true), .lit (.int .i64 0), .lit (.bool false), .lit (.bool true), .lit (.int .i64 0), .lit (.int .i64 0), .lit (.string [])]]

/-- 'laws.FnExactEval': WHATEVER THE INPUT: true; the input reads as it did. -/
def fnExactEvalSpec : ChangeSpec := { name := "fnExactEval", vars := ["loop.example/g00561/impl.shapes"], fn := fun _ => fun
  | [d1, d2, g1] => { results := [.lit (.bool true)], args := [d1, d2], vars := [g1] }
  | _ => none }
def fnExactEvalRow : OpenClaim := { program := "ytflofhbooedpjaagreatdoor", sum := "e631bc899b25913ef785b2096cd7bfd707bc8b23d916589f877387de19a40e42", func := "loop.example/g00561/laws.FnExactEval", spec := "fnExactEval", unfollowed := true, recurses := true, named := ["loop.example/g00561/impl.shapes"], apart := false, laid := [("loop.example/g00561/impl.shapes", laid_loop_example_g00561_impl_shapes)] }
def FnExactEvalSaid : Prop := fnExactEvalRow.holds Tryz.pinned (OpenSpec.ofChange fnExactEvalSpec)

/-- ITS FALSE NEIGHBOUR: 'it returns false'. Refute it at one input. -/
def fnExactEvalWrong : ChangeSpec := { name := "fnExactEval", vars := ["loop.example/g00561/impl.shapes"], fn := fun _ => fun
  | [d1, d2, g1] => { results := [.lit (.bool false)], args := [d1, d2], vars := [g1] }
  | _ => none }
def FnExactEvalWrongFalsely : Prop := fnExactEvalRow.holds Tryz.pinned (OpenSpec.ofChange fnExactEvalWrong)

/-- 'laws.FnExactIsTrue': WHATEVER THE INPUT: true; the input reads as it did. -/
def fnExactIsTrueSpec : ChangeSpec := { name := "fnExactIsTrue", vars := ["loop.example/g00561/impl.shapes"], fn := fun _ => fun
  | [d1, d2, g1] => { results := [.lit (.bool true)], args := [d1, d2], vars := [g1] }
  | _ => none }
def fnExactIsTrueRow : OpenClaim := { program := "ytflofhbooedpjaagreatdoor", sum := "e631bc899b25913ef785b2096cd7bfd707bc8b23d916589f877387de19a40e42", func := "loop.example/g00561/laws.FnExactIsTrue", spec := "fnExactIsTrue", unfollowed := true, recurses := true, named := ["loop.example/g00561/impl.shapes"], apart := false, laid := [("loop.example/g00561/impl.shapes", laid_loop_example_g00561_impl_shapes)] }
def FnExactIsTrueSaid : Prop := fnExactIsTrueRow.holds Tryz.pinned (OpenSpec.ofChange fnExactIsTrueSpec)

/-- ITS FALSE NEIGHBOUR: 'it returns false'. Refute it at one input. -/
def fnExactIsTrueWrong : ChangeSpec := { name := "fnExactIsTrue", vars := ["loop.example/g00561/impl.shapes"], fn := fun _ => fun
  | [d1, d2, g1] => { results := [.lit (.bool false)], args := [d1, d2], vars := [g1] }
  | _ => none }
def FnExactIsTrueWrongFalsely : Prop := fnExactIsTrueRow.holds Tryz.pinned (OpenSpec.ofChange fnExactIsTrueWrong)

/- THE SECOND FORM. 'bulk': how many values and letters a reading holds, each counted each time it is reached (what is shared counts as often as it is met; a slice's spare places count too). A statement '..UptoSaid' is the law's where the arguments, and the package variables that the reading takes, are together of bulk at most 1048576: NARROWER than '..Said'. Prove '..Said' where nothing that the law and all that it calls make is longer than what came in: it says more and counts as full. Else prove '..UptoSaid'. A law counts once. -/
mutual
def uptoBulk {H : Type} : DataW H → Nat
  | .lit (.string bytes) => bytes.length + 1
  | .lit _ => 1
  | .nil => 1
  | .ptr d => uptoBulk d + 1
  | .slice elems spare => uptoBulkAll elems + uptoBulkAll spare + 1
  | .agg parts => uptoBulkAll parts + 1
  | .iface _ d => uptoBulk d + 1
  | .map entries => uptoBulkEntries entries + 1
  | .held _ => 1
def uptoBulkAll {H : Type} : List (DataW H) → Nat
  | [] => 0
  | d :: r => uptoBulk d + uptoBulkAll r
def uptoBulkEntries {H : Type} : List (Lit × DataW H) → Nat
  | [] => 0
  | x :: r => uptoBulkEntry x + uptoBulkEntries r
def uptoBulkEntry {H : Type} : Lit × DataW H → Nat
  | (.string bytes, d) => bytes.length + uptoBulk d + 1
  | (_, d) => uptoBulk d + 1
 end
def uptoSmall : (H : Type) → List (DataW H) → Bool := fun _ ds => decide (uptoBulkAll ds ≤ 1048576)
def OpenSpec.upto (s : _root_.Go.ChangeSpec) : _root_.Go.OpenSpec := { _root_.Go.OpenSpec.ofChange s with cond := some uptoSmall }

/-- 'laws.FnExactEval', WHERE WHAT IT READS IS OF BULK AT MOST 1048576: true; the input reads as it did. -/
def fnExactEvalUptoRow : OpenClaim := { program := "ytflofhbooedpjaagreatdoor", sum := "e631bc899b25913ef785b2096cd7bfd707bc8b23d916589f877387de19a40e42", func := "loop.example/g00561/laws.FnExactEval", spec := "fnExactEval", unfollowed := true, recurses := true, named := ["loop.example/g00561/impl.shapes"], apart := false, laid := [("loop.example/g00561/impl.shapes", laid_loop_example_g00561_impl_shapes)], narrowed := true }
def FnExactEvalUptoSaid : Prop := fnExactEvalUptoRow.holds Tryz.pinned (OpenSpec.upto fnExactEvalSpec)

/-- 'laws.FnExactIsTrue', WHERE WHAT IT READS IS OF BULK AT MOST 1048576: true; the input reads as it did. -/
def fnExactIsTrueUptoRow : OpenClaim := { program := "ytflofhbooedpjaagreatdoor", sum := "e631bc899b25913ef785b2096cd7bfd707bc8b23d916589f877387de19a40e42", func := "loop.example/g00561/laws.FnExactIsTrue", spec := "fnExactIsTrue", unfollowed := true, recurses := true, named := ["loop.example/g00561/impl.shapes"], apart := false, laid := [("loop.example/g00561/impl.shapes", laid_loop_example_g00561_impl_shapes)], narrowed := true }
def FnExactIsTrueUptoSaid : Prop := fnExactIsTrueUptoRow.holds Tryz.pinned (OpenSpec.upto fnExactIsTrueSpec)

end Rows
end Go.Proofs.YtflofhbooedpjaaGreatDoor
