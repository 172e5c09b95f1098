/- Texts of ours, laid together: ValTypes. -/
import Derived.Test.YtphdkhdlgcglpaaGreatDoorProg
import Derived.WalkKit
import Derived.WalkSpells
import Derived.WalkLawsBesides
/- What a type switch over the program's kinds of answers meets: each kind asked for each. -/
namespace Go.Proofs.YtphdkhdlgcglpaaGreatDoor.ValT
open Go.RowKit
theorem silence_silence (v : Value) (w : World) : (Instr.typeAssert (.iface 126 v) 85 126 true).run Tryz.prog w = .ok (.tuple #[v, .bool true]) w := by kernel_rfl
theorem silence_integer (v : Value) (w : World) : (Instr.typeAssert (.iface 126 v) 85 128 true).run Tryz.prog w = .ok (.tuple #[.agg #[.int .i64 0], .bool false]) w := by kernel_rfl
theorem silence_choice (v : Value) (w : World) : (Instr.typeAssert (.iface 126 v) 85 129 true).run Tryz.prog w = .ok (.tuple #[.agg #[.int .i64 0], .bool false]) w := by kernel_rfl
theorem silence_choices (v : Value) (w : World) : (Instr.typeAssert (.iface 126 v) 85 131 true).run Tryz.prog w = .ok (.tuple #[.agg #[.slice none 0 0], .bool false]) w := by kernel_rfl
theorem silence_words (v : Value) (w : World) : (Instr.typeAssert (.iface 126 v) 85 134 true).run Tryz.prog w = .ok (.tuple #[.agg #[.string ByteArray.empty], .bool false]) w := by kernel_rfl
theorem integer_silence (v : Value) (w : World) : (Instr.typeAssert (.iface 128 v) 85 126 true).run Tryz.prog w = .ok (.tuple #[.agg #[.int .i64 0], .bool false]) w := by kernel_rfl
theorem integer_integer (v : Value) (w : World) : (Instr.typeAssert (.iface 128 v) 85 128 true).run Tryz.prog w = .ok (.tuple #[v, .bool true]) w := by kernel_rfl
theorem integer_choice (v : Value) (w : World) : (Instr.typeAssert (.iface 128 v) 85 129 true).run Tryz.prog w = .ok (.tuple #[.agg #[.int .i64 0], .bool false]) w := by kernel_rfl
theorem integer_choices (v : Value) (w : World) : (Instr.typeAssert (.iface 128 v) 85 131 true).run Tryz.prog w = .ok (.tuple #[.agg #[.slice none 0 0], .bool false]) w := by kernel_rfl
theorem integer_words (v : Value) (w : World) : (Instr.typeAssert (.iface 128 v) 85 134 true).run Tryz.prog w = .ok (.tuple #[.agg #[.string ByteArray.empty], .bool false]) w := by kernel_rfl
theorem choice_silence (v : Value) (w : World) : (Instr.typeAssert (.iface 129 v) 85 126 true).run Tryz.prog w = .ok (.tuple #[.agg #[.int .i64 0], .bool false]) w := by kernel_rfl
theorem choice_integer (v : Value) (w : World) : (Instr.typeAssert (.iface 129 v) 85 128 true).run Tryz.prog w = .ok (.tuple #[.agg #[.int .i64 0], .bool false]) w := by kernel_rfl
theorem choice_choice (v : Value) (w : World) : (Instr.typeAssert (.iface 129 v) 85 129 true).run Tryz.prog w = .ok (.tuple #[v, .bool true]) w := by kernel_rfl
theorem choice_choices (v : Value) (w : World) : (Instr.typeAssert (.iface 129 v) 85 131 true).run Tryz.prog w = .ok (.tuple #[.agg #[.slice none 0 0], .bool false]) w := by kernel_rfl
theorem choice_words (v : Value) (w : World) : (Instr.typeAssert (.iface 129 v) 85 134 true).run Tryz.prog w = .ok (.tuple #[.agg #[.string ByteArray.empty], .bool false]) w := by kernel_rfl
theorem choices_silence (v : Value) (w : World) : (Instr.typeAssert (.iface 131 v) 85 126 true).run Tryz.prog w = .ok (.tuple #[.agg #[.int .i64 0], .bool false]) w := by kernel_rfl
theorem choices_integer (v : Value) (w : World) : (Instr.typeAssert (.iface 131 v) 85 128 true).run Tryz.prog w = .ok (.tuple #[.agg #[.int .i64 0], .bool false]) w := by kernel_rfl
theorem choices_choice (v : Value) (w : World) : (Instr.typeAssert (.iface 131 v) 85 129 true).run Tryz.prog w = .ok (.tuple #[.agg #[.int .i64 0], .bool false]) w := by kernel_rfl
theorem choices_choices (v : Value) (w : World) : (Instr.typeAssert (.iface 131 v) 85 131 true).run Tryz.prog w = .ok (.tuple #[v, .bool true]) w := by kernel_rfl
theorem choices_words (v : Value) (w : World) : (Instr.typeAssert (.iface 131 v) 85 134 true).run Tryz.prog w = .ok (.tuple #[.agg #[.string ByteArray.empty], .bool false]) w := by kernel_rfl
theorem words_silence (v : Value) (w : World) : (Instr.typeAssert (.iface 134 v) 85 126 true).run Tryz.prog w = .ok (.tuple #[.agg #[.int .i64 0], .bool false]) w := by kernel_rfl
theorem words_integer (v : Value) (w : World) : (Instr.typeAssert (.iface 134 v) 85 128 true).run Tryz.prog w = .ok (.tuple #[.agg #[.int .i64 0], .bool false]) w := by kernel_rfl
theorem words_choice (v : Value) (w : World) : (Instr.typeAssert (.iface 134 v) 85 129 true).run Tryz.prog w = .ok (.tuple #[.agg #[.int .i64 0], .bool false]) w := by kernel_rfl
theorem words_choices (v : Value) (w : World) : (Instr.typeAssert (.iface 134 v) 85 131 true).run Tryz.prog w = .ok (.tuple #[.agg #[.slice none 0 0], .bool false]) w := by kernel_rfl
theorem words_words (v : Value) (w : World) : (Instr.typeAssert (.iface 134 v) 85 134 true).run Tryz.prog w = .ok (.tuple #[v, .bool true]) w := by kernel_rfl
end Go.Proofs.YtphdkhdlgcglpaaGreatDoor.ValT
