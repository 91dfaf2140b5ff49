/- Lists of named bytes within bounds. -/
import Derived.Test.YtmappmboedpgmaqNdB
namespace Go.Proofs.Ytmappmboedpgmaq.Wk
set_option linter.unusedVariables false

def NdZ (l : List Nd) : Prop := l.length ≤ 1048576 ∧ ∀ x ∈ l, x.1.size ≤ 1048576 ∧ x.2.length ≤ 1048576
end Go.Proofs.Ytmappmboedpgmaq.Wk
