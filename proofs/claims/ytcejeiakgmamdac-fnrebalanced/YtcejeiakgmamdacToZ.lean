/- What the laws' toIntS comes to: the same numbers in new memory, which is the call's own. -/
import Derived.Test.YtcejeiakgmamdacRgB
namespace Go.Proofs.Ytcejeiakgmamdac.Wk
set_option linter.unusedVariables false
open Go.ChangeShapes Go.WideShapes Go.ChangeAt Go.RowKit

/-- of a row's cells the first k are these numbers -/
def RowZ (xs : List Value) (l : List Int) (k : Nat) : Prop := ∀ i (h : i < l.length), i < k → xs[i]? = some (.int .i64 l[i])
theorem RowZ.step {xs : List Value} {l : List Int} {k : Nat} {x : Int} (h : RowZ xs l k) (hk : k < l.length) (hx : l[k] = x) (hlen : xs.length = l.length * 1) : RowZ (xs.set k (.int .i64 x)) l (k + 1) := by
  intro i hi hik
  by_cases e : i = k
  · subst e
    rw [List.getElem?_set_self (by omega), hx]
  · rw [List.getElem?_set_ne (by omega)]
    exact h i hi (by omega)
theorem RowZ.all {xs : List Value} {l : List Int} (h : RowZ xs l l.length) (hlen : xs.length = l.length * 1) : xs = Zv l := by
  apply List.ext_getElem?
  intro i
  by_cases hi : i < l.length
  · rw [h i hi hi]; simp [Zv, hi]
  · rw [List.getElem?_eq_none (by omega), List.getElem?_eq_none (by simp [Zv]; omega)]

end Go.Proofs.Ytcejeiakgmamdac.Wk
