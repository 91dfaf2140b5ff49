/- What l1In of the specification comes to: whether a number lies between two others. -/
import Derived.Test.YtcejeiakgmamdacStB
import Derived.Sort.AtCall
namespace Go.Proofs.Ytcejeiakgmamdac.Wk
set_option linter.unusedVariables false
open Go.ChangeShapes Go.WideShapes Go.ChangeAt Go.RowKit

set_option maxHeartbeats 400000 in
set_option maxRecDepth 100000 in
theorem inC (x a b : Int) (B : Bool) (hB : (decide (a ≤ x) && decide (x ≤ b)) = B) (w : World) :
    Calls Try.prog 41 #[.int .i64 x, .int .i64 a, .int .i64 b] w fun e w' => e = .returned (.bool B) ∧ w' = w := by
  subst hB
  go_enter Try.func41, Try.ntmps41
  by_cases h : a ≤ x
  · go_wp2
    go_ret
    exact ⟨ret_bool (by simp [h]), rfl⟩
  · go_wp2
    go_ret
    exact ⟨ret_bool (by simp; omega), rfl⟩
end Go.Proofs.Ytcejeiakgmamdac.Wk
