/- A text and its beginnings. -/
import Derived.Test.YtekjnfkmjmmcmabUnW
import Derived.Test.YtekjnfkmjmmcmabNmB
namespace Go.Proofs.Ytekjnfkmjmmcmab.Wk
set_option linter.unusedVariables false

theorem under_cut (s : ByteArray) (k : Nat) (h : k ≤ s.size) : under s (s.extract 0 k) = true := by
  unfold under
  rw [Nm.cut_size s k h]
  simp [h]
theorem under_long (s p : ByteArray) (h : s.size < p.size) : under s p = false := by
  unfold under
  rw [decide_eq_false (by omega), Bool.false_and]
end Go.Proofs.Ytekjnfkmjmmcmab.Wk
