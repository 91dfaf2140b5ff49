/- What the laws' toStamp comes to: the same numbers. -/
import Derived.Test.YtpejeoekpejblapStB
namespace Go.Proofs.Ytpejeoekpejblap.Wk
set_option linter.unusedVariables false
open Go.ChangeShapes Go.WideShapes Go.ChangeAt Go.RowKit

set_option maxHeartbeats 400000 in
set_option maxRecDepth 100000 in
theorem toSt (t q n : Int) (w : World) :
    Calls Try.prog 32 #[.agg #[.int .i64 t, .int .i64 q, .int .i64 n]] w fun e w' => e = .returned (.agg #[.int .i64 t, .int .i64 q, .int .i64 n]) ∧ Below w.heap.size w w' := by
  go_enter Try.func32, Try.ntmps32
  go_wp2
  exact bodyPost_ret (v := .agg #[.int .i64 t, .int .i64 q, .int .i64 n]) (by simp [results, Try.results32, go_sem]) rfl ⟨rfl, bel3 _ _ _ _⟩
end Go.Proofs.Ytpejeoekpejblap.Wk
