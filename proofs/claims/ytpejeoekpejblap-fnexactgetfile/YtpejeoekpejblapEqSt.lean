/- What the laws' eqStamp comes to, of one stamp twice. -/
import Derived.Test.YtpejeoekpejblapStB
namespace Go.Proofs.Ytpejeoekpejblap.Wk
set_option linter.unusedVariables false
open Go.ChangeShapes Go.WideShapes Go.ChangeAt Go.RowKit

set_option maxHeartbeats 400000 in
set_option maxRecDepth 100000 in
theorem eqSt (t q n : Int) (w : World) :
    Calls Try.prog 28 #[.agg #[.int .i64 t, .int .i64 q, .int .i64 n], .agg #[.int .i64 t, .int .i64 q, .int .i64 n]] w fun e w' => e = .returned (.bool true) ∧ Below w.heap.size w w' := by
  go_enter Try.func28, Try.ntmps28
  go_wp2
  go_ret
  exact ⟨rfl, bel2 _ _ _⟩
end Go.Proofs.Ytpejeoekpejblap.Wk
