/- Two words, held against each other. -/
import Derived.Test.YtpalcgelcnlhbaaDoorBase
import Derived.Laws.StructEq
import Derived.Laws.Closers25b
namespace Go.Proofs.YtpalcgelcnlhbaaDoor
open Go.ChangeShapes Go.WideShapes Go.ChangeAt Go.RowKit

theorem held_word : Tryd.prog.stoodInHeld 23 = false := by kernel_rfl
theorem guard_word : Tryd.prog.eqGuardType Tryd.prog.depth 23 = false := by kernel_rfl
theorem fields_word : Tryd.prog.underlying 23 = some (.struct (Tryd.prog.fieldsOf 23)) := by kernel_rfl

theorem run_eq_word (k c t e n n' : Int) (nm dt nm' dt' : ByteArray) (w : World) :
    (binOp .eql 23 (.agg #[.int .i64 k, .int .i64 c, .int .i64 t, .int .i64 e, .int .i64 n, .string nm, .string dt]) (.agg #[.int .i64 k, .int .i64 c, .int .i64 t, .int .i64 e, .int .i64 n', .string nm', .string dt'])).run Tryd.prog w = .ok (.bool (n == n' && (nm.toList == nm'.toList && dt.toList == dt'.toList))) w := by
  rw [run_eql_struct, run_equalIn_agg _ _ _ _ _ fields_word held_word]
  simp only [Program.fieldsOf, Tryd.underlying23, Op.eqFields]
  simp [go_sem, Tryd.underlying3, Tryd.underlying9]
  by_cases h1 : n = n'
  · by_cases h2 : nm.toList = nm'.toList
    · by_cases h3 : dt.toList = dt'.toList
      · simp [h1, h2, h3]
      · simp [h1, h2, h3]
    · simp [h1, h2]
  · simp [h1]
end Go.Proofs.YtpalcgelcnlhbaaDoor
