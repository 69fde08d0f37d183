/- Buckets that are the same, held against each other by the language itself. -/
import Derived.Test.YtgdmhodipjfkoaaBktA
import Derived.Laws.StructEq
import Derived.Laws.Closers25b
namespace Go.Proofs.Ytgdmhodipjfkoaa
open Go.ChangeShapes Go.WideShapes Go.ChangeAt Go.RowKit

theorem held_bkt : Try.prog.stoodInHeld 24 = false := by kernel_rfl
theorem guard_bkt : Try.prog.eqGuardType Try.prog.depth 24 = false := by kernel_rfl
theorem fields_bkt : Try.prog.underlying 24 = some (.struct (Try.prog.fieldsOf 24)) := by kernel_rfl
theorem run_eq_bkt (a b c d : Int) (w : World) :
    (binOp .eql 24 (.agg #[.int .i64 a, .int .i64 b, .int .i64 c, .int .i64 d]) (.agg #[.int .i64 a, .int .i64 b, .int .i64 c, .int .i64 d])).run Try.prog w = .ok (.bool true) w := by
  rw [run_eql_struct, run_equalIn_agg _ _ _ _ _ fields_bkt held_bkt]
  simp only [Program.fieldsOf, Try.underlying24, Op.eqFields]
  simp [go_sem, Try.underlying3]
theorem run_neq_bkt (a b c d : Int) (w : World) :
    (binOp .neq 24 (.agg #[.int .i64 a, .int .i64 b, .int .i64 c, .int .i64 d]) (.agg #[.int .i64 a, .int .i64 b, .int .i64 c, .int .i64 d])).run Try.prog w = .ok (.bool false) w := by
  rw [run_neq_struct, run_equalIn_agg _ _ _ _ _ fields_bkt held_bkt]
  simp only [Program.fieldsOf, Try.underlying24, Op.eqFields]
  simp [go_sem, Try.underlying3]
end Go.Proofs.Ytgdmhodipjfkoaa
