/-
  The first field of a task by value.
-/
import Derived.Test.YtboglnaagigcmaaSchFree
namespace Go.Proofs.Ytboglnaagigcmaa.SchE
open Go.ChangeShapes Go.WideShapes Go.ChangeAt Go.RowKit
theorem field_state (w : World) (x y z : Int) : (Instr.field 38 (.agg #[.int .i64 x, .int .i64 y, .int .i64 z]) 0).run Try.prog w = .ok (.int .i64 x) w := by
  simp [Instr.field, asAgg, part, isAgg, run_underlying Try.underlying38, run_underlying Try.underlying3]
end Go.Proofs.Ytboglnaagigcmaa.SchE
