/- GetFile of the specification in one. -/
import Derived.Test.YtpejeoekpejbladGfG
namespace Go.Proofs.Ytpejeoekpejblad.Wk
set_option linter.unusedVariables false
open Go.ChangeShapes Go.WideShapes Go.ChangeAt Go.RowKit

theorem specGetFile (a : Option Addr) (cap : Nat) (l : List UInt8) (w : World) (hl : l.length ≤ 1048576) (hcap : l.length ≤ cap) (hcm : cap ≤ maxLen) (hr : RdA w a l) (hc : a = none → cap = 0) :
    Calls Try.prog 15 #[.slice a l.length cap] w fun e w' => FileRet w (getF l) e w' ∧ Below w.heap.size w w' := by
  cases hG : gGood l with
  | true => exact specGetFile_good a cap l w hl hcap hcm hr hc hG
  | false => exact specGetFile_bad a cap l w hl hcap hcm hr hG
end Go.Proofs.Ytpejeoekpejblad.Wk
