/- What DevsText of the specification comes to. -/
import Derived.Test.YtekjnfkmjmmcmabGreatDoorTextS
import Derived.Test.YtekjnfkmjmmcmabGreatDoorTxM
import Derived.Test.YtekjnfkmjmmcmabGreatDoorDvS
namespace Go.Proofs.YtekjnfkmjmmcmabGreatDoor.Wk
set_option linter.unusedVariables false
open Go.ChangeShapes Go.WideShapes Go.ChangeAt Go.RowKit

theorem catL (a b : List UInt8) : (⟨a.toArray⟩ : ByteArray) ++ ⟨b.toArray⟩ = ⟨(a ++ b).toArray⟩ := by
  apply ByteArray.ext
  simp
theorem addL (a b : List UInt8) (h : a.length + b.length ≤ 1000) : binOp .add 9 (.string ⟨a.toArray⟩) (.string ⟨b.toArray⟩) = pure (.string ⟨(a ++ b).toArray⟩) := by
  rw [← catL]
  exact addS _ _ (by rw [szL, szL]; exact h)
/-- a device's text behind another text, a piece at a time -/
theorem wordAdd (s : List UInt8) (i z n : Nat) (hs : s.length ≤ 900) (hi : i ≤ 20) (hz : z ≤ 20) (hn : n ≤ 1000) : ∃ A B C E F : ByteArray,
    binOp .add 9 (.string ⟨s.toArray⟩) (.string ⟨(Lib.decDigits i).toArray⟩) = pure (.string A) ∧ binOp .add 9 (.string A) (.string ⟨#[58]⟩) = pure (.string B) ∧
    binOp .add 9 (.string B) (.string ⟨(Lib.decDigits z).toArray⟩) = pure (.string C) ∧ binOp .add 9 (.string C) (.string ⟨#[58]⟩) = pure (.string E) ∧
    binOp .add 9 (.string E) (.string ⟨(Lib.decDigits n).toArray⟩) = pure (.string F) ∧ F = ⟨(s ++ Dv.wtext ((i : Int), (z : Int), (n : Int))).toArray⟩ := by
  have l1 := dec_len i (by omega)
  have l2 := dec_len z (by omega)
  have l3 := dec_len n (by omega)
  refine ⟨_, _, _, _, _, addL _ _ (by omega), addL _ [58] (by simp; omega), addL _ _ (by simp; omega), addL _ [58] (by simp; omega), addL _ _ (by simp; omega), ?_⟩
  simp [Dv.wtext]

end Go.Proofs.YtekjnfkmjmmcmabGreatDoor.Wk
