/- How many numbers of some lists are not in those of others at the same place. Plain facts. -/
import Derived.Test.YtcejeiakgmamdacDvM
namespace Go.Proofs.Ytcejeiakgmamdac.Rg
set_option linter.unusedVariables false

/-- how many of a are not in b -/
def mvRow (a b : List Int) : Nat := a.countP fun x => !decide (x ∈ b)
theorem mvRow_step {a b : List Int} {m : Nat} (hm : m < a.length) : mvRow (a.take (m + 1)) b = mvRow (a.take m) b + if a[m] ∈ b then 0 else 1 := by
  unfold mvRow
  rw [List.take_succ_eq_append_getElem hm, List.countP_append]
  by_cases h : a[m] ∈ b
  · simp [h]
  · simp [h]
theorem mvRow_le (a b : List Int) : mvRow a b ≤ a.length := List.countP_le_length
theorem mvRow_take_le (a b : List Int) (m : Nat) : mvRow (a.take m) b ≤ a.length := Nat.le_trans (mvRow_le _ _) (by rw [List.length_take]; omega)
def moved (A B : List (List Int)) : Nat := ((A.zip B).map fun x => mvRow x.1 x.2).sum
theorem zip_take2 {A B : List (List Int)} (k : Nat) : (A.take k).zip (B.take k) = (A.zip B).take k := by
  unfold List.zip
  rw [List.take_zipWith]
theorem moved_step {A B : List (List Int)} {k : Nat} (ha : k < A.length) (hb : k < B.length) : moved (A.take (k + 1)) (B.take (k + 1)) = moved (A.take k) (B.take k) + mvRow A[k] B[k] := by
  have hz : k < (A.zip B).length := by rw [List.length_zip]; omega
  unfold moved
  rw [zip_take2, zip_take2, List.take_succ_eq_append_getElem hz, List.map_append, List.sum_append]
  simp
theorem moved_end {A B : List (List Int)} {k : Nat} (h : A.length ≤ k ∨ B.length ≤ k) : moved (A.take k) (B.take k) = moved A B := by
  unfold moved
  rw [zip_take2, List.take_of_length_le (by rw [List.length_zip]; omega)]
theorem moved_le : ∀ A B : List (List Int), moved A B ≤ (A.map List.length).sum
  | [], B => by simp [moved]
  | a :: A, [] => by simp [moved]
  | a :: A, b :: B => by
    have h1 := moved_le A B
    have h2 := mvRow_le a b
    simp only [moved, List.zip_cons_cons, List.map_cons, List.sum_cons] at h1 ⊢
    omega
end Go.Proofs.Ytcejeiakgmamdac.Rg
