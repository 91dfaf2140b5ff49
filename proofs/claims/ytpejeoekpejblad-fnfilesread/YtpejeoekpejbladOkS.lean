/- What StampOk of the specification comes to. -/
import Derived.Test.YtpejeoekpejbladStB
namespace Go.Proofs.Ytpejeoekpejblad.Wk
set_option linter.unusedVariables false
open Go.ChangeShapes Go.WideShapes Go.ChangeAt Go.RowKit

set_option maxHeartbeats 400000 in
set_option maxRecDepth 100000 in
theorem specIn (x a b : Int) (w : World) :
    Calls Try.prog 39 #[.int .i64 x, .int .i64 a, .int .i64 b] w fun e w' => e = .returned (.bool (decide (a ≤ x) && decide (x ≤ b))) ∧ w' = w := by
  go_enter Try.func39, Try.ntmps39
  by_cases h : a ≤ x
  · go_wp2
    go_ret
    exact ⟨ret_bool (by simp [h]), rfl⟩
  · go_wp2
    go_ret
    exact ⟨ret_bool (by simp; omega), rfl⟩
set_option maxHeartbeats 400000 in
set_option maxRecDepth 100000 in
theorem specOk (t q n : Int) (w : World) :
    Calls Try.prog 26 #[.agg #[.int .i64 t, .int .i64 q, .int .i64 n]] w fun e w' => e = .returned (.bool (Sm.ok t q n)) ∧ Below w.heap.size w w' := by
  have HE : Hid (Sm.ok t q n = ((decide (0 ≤ t) && decide (t ≤ 1000000000)) && ((decide (0 ≤ q) && decide (q ≤ 1000000)) && (decide (0 ≤ n) && decide (n ≤ 20))))) := by
    show Sm.ok t q n = _
    unfold Sm.ok; simp [Bool.and_assoc]
  generalize Sm.ok t q n = K at HE
  generalize hT : (decide (0 ≤ t) && decide (t ≤ 1000000000)) = T at HE
  generalize hQ : (decide (0 ≤ q) && decide (q ≤ 1000000)) = Q at HE
  generalize hN : (decide (0 ≤ n) && decide (n ≤ 20)) = N at HE
  have cT : ∀ w, Calls Try.prog 39 #[.int .i64 t, .int .i64 0, .int .i64 1000000000] w fun e w' => e = .returned (.bool T) ∧ w' = w := fun w => hT ▸ specIn t 0 1000000000 w
  have cQ : ∀ w, Calls Try.prog 39 #[.int .i64 q, .int .i64 0, .int .i64 1000000] w fun e w' => e = .returned (.bool Q) ∧ w' = w := fun w => hQ ▸ specIn q 0 1000000 w
  have cN : ∀ w, Calls Try.prog 39 #[.int .i64 n, .int .i64 0, .int .i64 20] w fun e w' => e = .returned (.bool N) ∧ w' = w := fun w => hN ▸ specIn n 0 20 w
  clear hT hQ hN
  cases T <;> cases Q <;> cases N
  all_goals
    have hK := HE.out
    subst hK
    go_enter Try.func26, Try.ntmps26
    go_wp2_with (first | (go_at_call_of 39 (Value.int .i64 t); refine (cT _).mono ?_; rintro e w1 ⟨rfl, rfl⟩) | (go_at_call_of 39 (Value.int .i64 q); refine (cQ _).mono ?_; rintro e w2 ⟨rfl, rfl⟩) | (go_at_call_of 39 (Value.int .i64 n); refine (cN _).mono ?_; rintro e w3 ⟨rfl, rfl⟩))
    go_ret
    exact ⟨rfl, bel1 _ _⟩
end Go.Proofs.Ytpejeoekpejblad.Wk
