/- What the laws' eqDev comes to, of one device twice. -/
import Derived.Test.YtcejeiakgmamdanStB
namespace Go.Proofs.Ytcejeiakgmamdan.Wk
set_option linter.unusedVariables false
open Go.ChangeShapes Go.WideShapes Go.ChangeAt Go.RowKit

set_option maxHeartbeats 400000 in
set_option maxRecDepth 100000 in
theorem eqDv (t q n : Int) (w : World) :
    Calls Try.prog 44 #[.agg #[.int .i64 t, .int .i64 q, .int .i64 n], .agg #[.int .i64 t, .int .i64 q, .int .i64 n]] w fun e w' => e = .returned (.bool true) ∧ Below w.heap.size w w' := by
  go_enter Try.func44, Try.ntmps44
  go_wp2
  go_ret
  exact ⟨rfl, bel2 _ _ _⟩
end Go.Proofs.Ytcejeiakgmamdan.Wk
