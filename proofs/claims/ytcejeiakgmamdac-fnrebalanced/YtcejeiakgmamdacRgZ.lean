/- What the laws' szIntS, szPart, szPartS, szRing come to: what is left of a bound. -/
import Derived.Test.YtcejeiakgmamdacRgB
namespace Go.Proofs.Ytcejeiakgmamdac.Wk
set_option linter.unusedVariables false
open Go.ChangeShapes Go.WideShapes Go.ChangeAt Go.RowKit

/-- what is left of L when n are taken, -1 when there are not as many -/
def szV (L n : Nat) : Int := if L < n then -1 else (L : Int) - (n : Int)
theorem szV_no {L n : Nat} (h : L < n) : szV L n = -1 := if_pos h
theorem szV_yes {L n : Nat} (h : ¬ L < n) : szV L n = (L : Int) - (n : Int) := if_neg h
/-- how many numbers there are in all -/
def tot (ps : List (List Int)) : Nat := (ps.map List.length).sum
theorem tot_append (a b : List (List Int)) : tot (a ++ b) = tot a + tot b := by simp [tot]
theorem tot_take_le (ps : List (List Int)) (k : Nat) : tot (ps.take k) ≤ tot ps := by
  have h := tot_append (ps.take k) (ps.drop k)
  rw [List.take_append_drop] at h
  omega
theorem tot_step {ps : List (List Int)} {k : Nat} (hk : k < ps.length) : tot (ps.take (k + 1)) = tot (ps.take k) + ps[k].length := by
  rw [List.take_succ_eq_append_getElem hk, tot_append]
  congr 1
theorem tot_mem {ps : List (List Int)} {p : List Int} (h : p ∈ ps) : p.length ≤ tot ps := by
  induction ps with
  | nil => simp at h
  | cons x r ih =>
    simp only [tot, List.map_cons, List.sum_cons] at ih ⊢
    rcases List.mem_cons.1 h with rfl | h
    · omega
    · have := ih h; omega

end Go.Proofs.Ytcejeiakgmamdac.Wk
