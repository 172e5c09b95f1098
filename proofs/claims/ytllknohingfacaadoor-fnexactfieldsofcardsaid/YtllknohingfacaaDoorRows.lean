/-
  NARROWER THAN 'FOR EVERY INPUT', by the rows' own cells (each row's printed sentence says how): FnExactFieldOf: ifaces, laid · FnExactFieldsOf: ifaces, laid.
  DERIVED. THE GIVEN ROWS OF THIS SEAT. 2 by the template 'for every input the law returns true; each argument reads behind the call as it read before'; 0 by the template 'total and deterministic' (their statements: YtllknohingfacaaDoorTotals.lean).
  GIVEN WITH THE SEED: the statements are not yours to turn. If you find one false, say at which input.
  Laid BY PROGRAM, IN A SANDBOX (cutbox-rows.mjs): the forced cells as the released guide's own fill.sh prints them over the translation cd79d562f0388fa8… (all of the seat's roots in one cut). By AI agents, Wed Nov 11 2026. No macro, syntax, notation, axiom, sorry.
-/
import Derived.Test.YtllknohingfacaaDoorChecked
import GoSem.PinnedTables
import GoSem.Claim
import GoSem.ClaimJoined
import GoSem.ClaimMapViews
import Derived.JoinedTies
import Derived.KernelRfl
namespace Go.Proofs.YtllknohingfacaaDoor
/- THE CELL 'sum', in the pinned program and in every row, IS THE sha256 OF THE DUMP (.gsa) THAT YtllknohingfacaaDoorProg.lean LOADS. Nothing in Lean hashes anything: it is a label: what it is worth is what the hold of that sum in a sandbox is worth. -/
noncomputable def Tryd.pinned : Pinned := { name := "ytllknohingfacaadoor", sum := "cd79d562f0388fa8b36eba21c4059ff21b1af711baf17a0bafe5bcc17ba84b80", checked := Tryd.checked }
namespace Rows
def none {H : Type} : Left H := { results := [], args := [] }

/- WHAT THE LISTED PACKAGE-LEVEL VARIABLES READ AS WHEN THE CALL BEGINS. Each datum BY PROGRAM (the guide's laid-datum.mjs) off the statement by which the dump's own 'gosem.cut.vars' lays the variable. In a bare row this is a premise. The card (YtllknohingfacaaDoorCards.lean) ties it to the program's text. -/
def laid_unicode_utf8_acceptRanges {H : Type} : DataW H := .agg [.agg [.lit (.int .u8 128), .lit (.int .u8 191)], .agg [.lit (.int .u8 160), .lit (.int .u8 191)], .agg [.lit (.int .u8 128), .lit (.int .u8 159)], .agg [.lit (.int .u8 144), .lit (.int .u8 191)], .agg [.lit (.int .u8 128), .lit (.int .u8 143)], .agg [.lit (.int .u8 0), .lit (.int .u8 0)], .agg [.lit (.int .u8 0), .lit (.int .u8 0)], .agg [.lit (.int .u8 0), .lit (.int .u8 0)], .agg [.lit (.int .u8 0), .lit (.int .u8 0)], .agg [.lit (.int .u8 0), .lit (.int .u8 0)], .agg [.lit (.int .u8 0), .lit (.int .u8 0)], .agg [.lit (.int .u8 0), .lit (.int .u8 0)], .agg [.lit (.int .u8 0), .lit (.int .u8 0)], .agg [.lit (.int .u8 0), .lit (.int .u8 0)], .agg [.lit (.int .u8 0), .lit (.int .u8 0)], .agg [.lit (.int .u8 0), .lit (.int .u8 0)]]
def laid_loop_example_g00561_impl_shapes {H : Type} : DataW H := .agg [.agg [.lit (.bool false), .lit (.int .i64 0), .lit (.bool false), .lit (.bool false), .lit (.int .i64 0), .lit (.int .i64 0), .lit (.string [])], .agg [.lit (.bool false), .lit (.int .i64 0), .lit (.bool false), .lit (.bool false), .lit (.int .i64 (-1000000)), .lit (.int .i64 1000000), .lit (.string [])], .agg [.lit (.bool false), .lit (.int .i64 0), .lit (.bool false), .lit (.bool true), .lit (.int .i64 0), .lit (.int .i64 0), .lit (.string [])], .agg [.lit (.bool false), .lit (.int .i64 2), .lit (.bool false), .lit (.bool false), .lit (.int .i64 0), .lit (.int .i64 0), .lit (.string [43])], .agg [.lit (.bool false), .lit (.int .i64 2), .lit (.bool false), .lit (.bool false), .lit (.int .i64 0), .lit (.int .i64 0), .lit (.string [45])], .agg [.lit (.bool false), .lit (.int .i64 2), .lit (.bool false), .lit (.bool false), .lit (.int .i64 0), .lit (.int .i64 0), .lit (.string [42])], .agg [.lit (.bool true), .lit (.int .i64 2), .lit (.bool false), .lit (.bool false), .lit (.int .i64 0), .lit (.int .i64 0), .lit (.string [61])], .agg [.lit (.bool true), .lit (.int .i64 2), .lit (.bool false), .lit (.bool false), .lit (.int .i64 0), .lit (.int .i64 0), .lit (.string [60])], .agg [.lit (.bool true), .lit (.int .i64 2), .lit (.bool false), .lit (.bool false), .lit (.int .i64 0), .lit (.int .i64 0), .lit (.string [60, 61])], .agg [.lit (.bool true), .lit (.int .i64 2), .lit (.bool true), .lit (.bool false), .lit (.int .i64 0), .lit (.int .i64 0), .lit (.string [38])], .agg [.lit (.bool true), .lit (.int .i64 2), .lit (.bool true), .lit (.bool false), .lit (.int .i64 0), .lit (.int .i64 0), .lit (.string [124])], .agg [.lit (.bool true), .lit (.int .i64 1), .lit (.bool true), .lit (.bool false), .lit (.int .i64 0), .lit (.int .i64 0), .lit (.string [33])], .agg [.lit (.bool true), .lit (.int .i64 0), .lit (.bool false), .lit (.bool true), .lit (.int .i64 1), .lit (.int .i64 20), .lit (.string [])], .agg [.lit (.bool true), .lit (.int .i64 0), .lit (.bool false), .lit (.bool true), .lit (.int .i64 0), .lit (.int .i64 0), .lit (.string [])]]
def laid_loop_example_g00561_impl_errItem {H : Type} : DataW H := .iface "*errors.errorString" (.ptr (.agg [.lit (.string [97, 110, 32, 105, 116, 101, 109, 32, 105, 115, 32, 110, 111, 116, 32, 115, 111, 32, 109, 97, 100, 101])]))
def laid_loop_example_g00561_impl_errMany {H : Type} : DataW H := .iface "*errors.errorString" (.ptr (.agg [.lit (.string [116, 104, 101, 114, 101, 32, 97, 114, 101, 32, 116, 111, 111, 32, 109, 97, 110, 121, 32, 105, 116, 101, 109, 115])]))
def laid_loop_example_g00561_impl_errTwice {H : Type} : DataW H := .iface "*errors.errorString" (.ptr (.agg [.lit (.string [97, 32, 110, 97, 109, 101, 32, 115, 116, 97, 110, 100, 115, 32, 116, 119, 105, 99, 101])]))
def laid_loop_example_g00561_impl_errField {H : Type} : DataW H := .iface "*errors.errorString" (.ptr (.agg [.lit (.string [110, 111, 32, 115, 117, 99, 104, 32, 102, 105, 101, 108, 100, 32, 105, 115, 32, 97, 104, 101, 97, 100])]))
def laid_loop_example_g00561_impl_errBlock {H : Type} : DataW H := .iface "*errors.errorString" (.ptr (.agg [.lit (.string [97, 32, 98, 108, 111, 99, 107, 32, 105, 115, 32, 110, 111, 116, 32, 99, 108, 111, 115, 101, 100, 44, 32, 111, 114, 32, 110, 111, 116, 32, 111, 112, 101, 110, 44, 32, 111, 114, 32, 116, 111, 111, 32, 100, 101, 101, 112])]))
def laid_loop_example_g00561_impl_outlines {H : Type} : DataW H := .agg [.agg [.lit (.bool false), .lit (.bool false), .lit (.bool false), .lit (.bool false), .lit (.int .i64 0)], .agg [.lit (.bool true), .lit (.bool true), .lit (.bool true), .lit (.bool false), .lit (.int .i64 0)], .agg [.lit (.bool false), .lit (.bool false), .lit (.bool false), .lit (.bool false), .lit (.int .i64 2)], .agg [.lit (.bool false), .lit (.bool false), .lit (.bool false), .lit (.bool false), .lit (.int .i64 0)], .agg [.lit (.bool false), .lit (.bool false), .lit (.bool false), .lit (.bool false), .lit (.int .i64 0)], .agg [.lit (.bool true), .lit (.bool false), .lit (.bool true), .lit (.bool true), .lit (.int .i64 2)], .agg [.lit (.bool true), .lit (.bool false), .lit (.bool false), .lit (.bool false), .lit (.int .i64 1)]]
/-- One of Go's own tables, pinned by name: the form's constant. -/
def laid_unicode_utf8_first : DataW Unit := Go.Pinned.utf8First

/-- 'laws.FnExactFieldOf': WHATEVER THE INPUT: true; the input reads as it did. -/
def fnExactFieldOfSpec : ChangeSpec := { name := "fnExactFieldOf", vars := ["loop.example/g00561/impl.errMany", "loop.example/g00561/impl.errItem", "loop.example/g00561/impl.outlines", "loop.example/g00561/impl.shapes", "loop.example/g00561/impl.errTwice", "loop.example/g00561/impl.errField", "loop.example/g00561/impl.errBlock"], fn := fun _ => fun
  | [d1, d2, g1, g2, g3, g4, g5, g6, g7] => { results := [.lit (.bool true)], args := [d1, d2], vars := [g1, g2, g3, g4, g5, g6, g7] }
  | _ => none }
def fnExactFieldOfRow : OpenClaim := { program := "ytllknohingfacaadoor", sum := "cd79d562f0388fa8b36eba21c4059ff21b1af711baf17a0bafe5bcc17ba84b80", func := "loop.example/g00561/laws.FnExactFieldOf", spec := "fnExactFieldOf", inPlace := ["internal/bytealg.IndexByteString", "internal/bytealg.IndexString"], recurses := true, named := ["loop.example/g00561/impl.errMany", "loop.example/g00561/impl.errItem", "loop.example/g00561/impl.outlines", "unicode/utf8.first", "unicode/utf8.acceptRanges", "loop.example/g00561/impl.shapes", "loop.example/g00561/impl.errTwice", "loop.example/g00561/impl.errField", "loop.example/g00561/impl.errBlock", "internal/bytealg.MaxLen"], ifaces := true, apart := false, laid := [("unicode/utf8.acceptRanges", laid_unicode_utf8_acceptRanges), ("loop.example/g00561/impl.shapes", laid_loop_example_g00561_impl_shapes), ("loop.example/g00561/impl.errItem", laid_loop_example_g00561_impl_errItem), ("loop.example/g00561/impl.errMany", laid_loop_example_g00561_impl_errMany), ("loop.example/g00561/impl.errTwice", laid_loop_example_g00561_impl_errTwice), ("loop.example/g00561/impl.errField", laid_loop_example_g00561_impl_errField), ("loop.example/g00561/impl.errBlock", laid_loop_example_g00561_impl_errBlock), ("loop.example/g00561/impl.outlines", laid_loop_example_g00561_impl_outlines), ("unicode/utf8.first", laid_unicode_utf8_first)] }
def FnExactFieldOfSaid : Prop := fnExactFieldOfRow.holds Tryd.pinned (OpenSpec.ofChange fnExactFieldOfSpec)

/-- ITS FALSE NEIGHBOUR: 'it returns false'. Refute it at one input. -/
def fnExactFieldOfWrong : ChangeSpec := { name := "fnExactFieldOf", vars := ["loop.example/g00561/impl.errMany", "loop.example/g00561/impl.errItem", "loop.example/g00561/impl.outlines", "loop.example/g00561/impl.shapes", "loop.example/g00561/impl.errTwice", "loop.example/g00561/impl.errField", "loop.example/g00561/impl.errBlock"], fn := fun _ => fun
  | [d1, d2, g1, g2, g3, g4, g5, g6, g7] => { results := [.lit (.bool false)], args := [d1, d2], vars := [g1, g2, g3, g4, g5, g6, g7] }
  | _ => none }
def FnExactFieldOfWrongFalsely : Prop := fnExactFieldOfRow.holds Tryd.pinned (OpenSpec.ofChange fnExactFieldOfWrong)

/-- 'laws.FnExactFieldsOf': WHATEVER THE INPUT: true; the input reads as it did. -/
def fnExactFieldsOfSpec : ChangeSpec := { name := "fnExactFieldsOf", vars := ["loop.example/g00561/impl.errMany", "loop.example/g00561/impl.errItem", "loop.example/g00561/impl.outlines", "loop.example/g00561/impl.shapes", "loop.example/g00561/impl.errTwice", "loop.example/g00561/impl.errField", "loop.example/g00561/impl.errBlock"], fn := fun _ => fun
  | [d, g1, g2, g3, g4, g5, g6, g7] => { results := [.lit (.bool true)], args := [d], vars := [g1, g2, g3, g4, g5, g6, g7] }
  | _ => none }
def fnExactFieldsOfRow : OpenClaim := { program := "ytllknohingfacaadoor", sum := "cd79d562f0388fa8b36eba21c4059ff21b1af711baf17a0bafe5bcc17ba84b80", func := "loop.example/g00561/laws.FnExactFieldsOf", spec := "fnExactFieldsOf", inPlace := ["internal/bytealg.IndexByteString", "internal/bytealg.IndexString"], recurses := true, named := ["loop.example/g00561/impl.errMany", "loop.example/g00561/impl.errItem", "loop.example/g00561/impl.outlines", "unicode/utf8.first", "unicode/utf8.acceptRanges", "loop.example/g00561/impl.shapes", "loop.example/g00561/impl.errTwice", "loop.example/g00561/impl.errField", "loop.example/g00561/impl.errBlock", "internal/bytealg.MaxLen"], ifaces := true, apart := false, laid := [("unicode/utf8.acceptRanges", laid_unicode_utf8_acceptRanges), ("loop.example/g00561/impl.shapes", laid_loop_example_g00561_impl_shapes), ("loop.example/g00561/impl.errItem", laid_loop_example_g00561_impl_errItem), ("loop.example/g00561/impl.errMany", laid_loop_example_g00561_impl_errMany), ("loop.example/g00561/impl.errTwice", laid_loop_example_g00561_impl_errTwice), ("loop.example/g00561/impl.errField", laid_loop_example_g00561_impl_errField), ("loop.example/g00561/impl.errBlock", laid_loop_example_g00561_impl_errBlock), ("loop.example/g00561/impl.outlines", laid_loop_example_g00561_impl_outlines), ("unicode/utf8.first", laid_unicode_utf8_first)] }
def FnExactFieldsOfSaid : Prop := fnExactFieldsOfRow.holds Tryd.pinned (OpenSpec.ofChange fnExactFieldsOfSpec)

/-- ITS FALSE NEIGHBOUR: 'it returns false'. Refute it at one input. -/
def fnExactFieldsOfWrong : ChangeSpec := { name := "fnExactFieldsOf", vars := ["loop.example/g00561/impl.errMany", "loop.example/g00561/impl.errItem", "loop.example/g00561/impl.outlines", "loop.example/g00561/impl.shapes", "loop.example/g00561/impl.errTwice", "loop.example/g00561/impl.errField", "loop.example/g00561/impl.errBlock"], fn := fun _ => fun
  | [d, g1, g2, g3, g4, g5, g6, g7] => { results := [.lit (.bool false)], args := [d], vars := [g1, g2, g3, g4, g5, g6, g7] }
  | _ => none }
def FnExactFieldsOfWrongFalsely : Prop := fnExactFieldsOfRow.holds Tryd.pinned (OpenSpec.ofChange fnExactFieldsOfWrong)

/- THE SECOND FORM. 'bulk': how many values and letters a reading holds, each counted each time it is reached (what is shared counts as often as it is met; a slice's spare places count too). A statement '..UptoSaid' is the law's where the arguments, and the package variables that the reading takes, are together of bulk at most 1048576: NARROWER than '..Said'. Prove '..Said' where nothing that the law and all that it calls make is longer than what came in: it says more and counts as full. Else prove '..UptoSaid'. A law counts once. -/
mutual
def uptoBulk {H : Type} : DataW H → Nat
  | .lit (.string bytes) => bytes.length + 1
  | .lit _ => 1
  | .nil => 1
  | .ptr d => uptoBulk d + 1
  | .slice elems spare => uptoBulkAll elems + uptoBulkAll spare + 1
  | .agg parts => uptoBulkAll parts + 1
  | .iface _ d => uptoBulk d + 1
  | .map entries => uptoBulkEntries entries + 1
  | .held _ => 1
def uptoBulkAll {H : Type} : List (DataW H) → Nat
  | [] => 0
  | d :: r => uptoBulk d + uptoBulkAll r
def uptoBulkEntries {H : Type} : List (Lit × DataW H) → Nat
  | [] => 0
  | x :: r => uptoBulkEntry x + uptoBulkEntries r
def uptoBulkEntry {H : Type} : Lit × DataW H → Nat
  | (.string bytes, d) => bytes.length + uptoBulk d + 1
  | (_, d) => uptoBulk d + 1
 end
def uptoSmall : (H : Type) → List (DataW H) → Bool := fun _ ds => decide (uptoBulkAll ds ≤ 1048576)
def OpenSpec.upto (s : _root_.Go.ChangeSpec) : _root_.Go.OpenSpec := { _root_.Go.OpenSpec.ofChange s with cond := some uptoSmall }

/-- 'laws.FnExactFieldOf', WHERE WHAT IT READS IS OF BULK AT MOST 1048576: true; the input reads as it did. -/
def fnExactFieldOfUptoRow : OpenClaim := { program := "ytllknohingfacaadoor", sum := "cd79d562f0388fa8b36eba21c4059ff21b1af711baf17a0bafe5bcc17ba84b80", func := "loop.example/g00561/laws.FnExactFieldOf", spec := "fnExactFieldOf", inPlace := ["internal/bytealg.IndexByteString", "internal/bytealg.IndexString"], recurses := true, named := ["loop.example/g00561/impl.errMany", "loop.example/g00561/impl.errItem", "loop.example/g00561/impl.outlines", "unicode/utf8.first", "unicode/utf8.acceptRanges", "loop.example/g00561/impl.shapes", "loop.example/g00561/impl.errTwice", "loop.example/g00561/impl.errField", "loop.example/g00561/impl.errBlock", "internal/bytealg.MaxLen"], ifaces := true, apart := false, laid := [("unicode/utf8.acceptRanges", laid_unicode_utf8_acceptRanges), ("loop.example/g00561/impl.shapes", laid_loop_example_g00561_impl_shapes), ("loop.example/g00561/impl.errItem", laid_loop_example_g00561_impl_errItem), ("loop.example/g00561/impl.errMany", laid_loop_example_g00561_impl_errMany), ("loop.example/g00561/impl.errTwice", laid_loop_example_g00561_impl_errTwice), ("loop.example/g00561/impl.errField", laid_loop_example_g00561_impl_errField), ("loop.example/g00561/impl.errBlock", laid_loop_example_g00561_impl_errBlock), ("loop.example/g00561/impl.outlines", laid_loop_example_g00561_impl_outlines), ("unicode/utf8.first", laid_unicode_utf8_first)], narrowed := true }
def FnExactFieldOfUptoSaid : Prop := fnExactFieldOfUptoRow.holds Tryd.pinned (OpenSpec.upto fnExactFieldOfSpec)

/-- 'laws.FnExactFieldsOf', WHERE WHAT IT READS IS OF BULK AT MOST 1048576: true; the input reads as it did. -/
def fnExactFieldsOfUptoRow : OpenClaim := { program := "ytllknohingfacaadoor", sum := "cd79d562f0388fa8b36eba21c4059ff21b1af711baf17a0bafe5bcc17ba84b80", func := "loop.example/g00561/laws.FnExactFieldsOf", spec := "fnExactFieldsOf", inPlace := ["internal/bytealg.IndexByteString", "internal/bytealg.IndexString"], recurses := true, named := ["loop.example/g00561/impl.errMany", "loop.example/g00561/impl.errItem", "loop.example/g00561/impl.outlines", "unicode/utf8.first", "unicode/utf8.acceptRanges", "loop.example/g00561/impl.shapes", "loop.example/g00561/impl.errTwice", "loop.example/g00561/impl.errField", "loop.example/g00561/impl.errBlock", "internal/bytealg.MaxLen"], ifaces := true, apart := false, laid := [("unicode/utf8.acceptRanges", laid_unicode_utf8_acceptRanges), ("loop.example/g00561/impl.shapes", laid_loop_example_g00561_impl_shapes), ("loop.example/g00561/impl.errItem", laid_loop_example_g00561_impl_errItem), ("loop.example/g00561/impl.errMany", laid_loop_example_g00561_impl_errMany), ("loop.example/g00561/impl.errTwice", laid_loop_example_g00561_impl_errTwice), ("loop.example/g00561/impl.errField", laid_loop_example_g00561_impl_errField), ("loop.example/g00561/impl.errBlock", laid_loop_example_g00561_impl_errBlock), ("loop.example/g00561/impl.outlines", laid_loop_example_g00561_impl_outlines), ("unicode/utf8.first", laid_unicode_utf8_first)], narrowed := true }
def FnExactFieldsOfUptoSaid : Prop := fnExactFieldsOfUptoRow.holds Tryd.pinned (OpenSpec.upto fnExactFieldsOfSpec)

end Rows
end Go.Proofs.YtllknohingfacaaDoor
