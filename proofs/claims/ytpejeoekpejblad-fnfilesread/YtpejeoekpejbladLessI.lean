/- What LessStamp of the program comes to. -/
import Derived.Test.YtpejeoekpejbladStB
namespace Go.Proofs.Ytpejeoekpejblad.Wk
set_option linter.unusedVariables false
open Go.ChangeShapes Go.WideShapes Go.ChangeAt Go.RowKit

set_option maxHeartbeats 400000 in
set_option maxRecDepth 100000 in
theorem implLess (t q n t' q' n' : Int) (w : World) :
    Calls Try.prog 19 #[.agg #[.int .i64 t, .int .i64 q, .int .i64 n], .agg #[.int .i64 t', .int .i64 q', .int .i64 n']] w fun e w' => e = .returned (.bool (Sm.less t q n t' q' n')) ∧ Below w.heap.size w w' := by
  go_enter Try.func19, Try.ntmps19
  go_wp2
  · go_ret; exact ⟨ret_bool (Sm.way_t ‹_›), bel2 _ _ _⟩
  · go_ret; exact ⟨ret_bool (Sm.way_q ‹_› ‹_›), bel2 _ _ _⟩
  · go_ret; exact ⟨ret_bool (Sm.way_n ‹_› ‹_›), bel2 _ _ _⟩
end Go.Proofs.Ytpejeoekpejblad.Wk
