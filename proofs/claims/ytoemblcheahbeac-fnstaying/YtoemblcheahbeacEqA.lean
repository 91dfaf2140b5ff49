/- What == says of two arrays of five numbers. -/
import Derived.Test.YtoemblcheahbeacCpW
import Derived.Laws.StructEq
import Derived.Tactics2
namespace Go.Proofs.Ytoemblcheahbeac.Wk
set_option linter.unusedVariables false
open Go.ChangeShapes Go.WideShapes Go.ChangeAt Go.RowKit

set_option maxHeartbeats 2000000 in
theorem eqArr (a0 a1 a2 a3 a4 b0 b1 b2 b3 b4 : Int) (w : World) :
    (Op.equalIn 10000 82 (.agg #[.int .i64 a0, .int .i64 a1, .int .i64 a2, .int .i64 a3, .int .i64 a4]) (.agg #[.int .i64 b0, .int .i64 b1, .int .i64 b2, .int .i64 b3, .int .i64 b4])).run Try.prog w = .ok (a0 == b0 && (a1 == b1 && (a2 == b2 && (a3 == b3 && a4 == b4)))) w := by
  have u3 := Try.underlying3
  have i3 := Try.isAgg3
  have z3 := Try.sizeOf3
  rw [show (10000 : Nat) = 9999 + 1 from rfl, Op.equalIn]
  simp only [Sem.run_bind, run_underlying Try.underlying82, Result.andThen_ok]
  simp only [Std.Legacy.Range.forIn_eq_forIn_range', Std.Legacy.Range.size, Nat.sub_zero, Nat.add_sub_cancel, Nat.div_one, List.range'_succ, List.range'_zero, List.forIn_cons, List.forIn_nil]
  go_simp
  by_cases h0 : a0 = b0
  · by_cases h1 : a1 = b1
    · by_cases h2 : a2 = b2
      · by_cases h3 : a3 = b3
        · by_cases h4 : a4 = b4
          · simp [h0, h1, h2, h3, h4]
          · simp [h0, h1, h2, h3, h4]
        · simp [h0, h1, h2, h3]
      · simp [h0, h1, h2]
    · simp [h0, h1]
  · simp [h0]
theorem eqArrSame (p : List Int) (w : World) : (Op.equalIn 10000 82 (.agg #[.int .i64 (gd p 0), .int .i64 (gd p 1), .int .i64 (gd p 2), .int .i64 (gd p 3), .int .i64 (gd p 4)]) (.agg #[.int .i64 (gd p 0), .int .i64 (gd p 1), .int .i64 (gd p 2), .int .i64 (gd p 3), .int .i64 (gd p 4)])).run Try.prog w = .ok true w := by
  rw [eqArr]
  simp
theorem eqArrOther (p q : List Int) (j : Nat) (hj : j < 5) (h : gd q j ≠ gd p j) (w : World) : (Op.equalIn 10000 82 (.agg #[.int .i64 (gd q 0), .int .i64 (gd q 1), .int .i64 (gd q 2), .int .i64 (gd q 3), .int .i64 (gd q 4)]) (.agg #[.int .i64 (gd p 0), .int .i64 (gd p 1), .int .i64 (gd p 2), .int .i64 (gd p 3), .int .i64 (gd p 4)])).run Try.prog w = .ok false w := by
  rw [eqArr]
  have : (gd q 0 == gd p 0 && (gd q 1 == gd p 1 && (gd q 2 == gd p 2 && (gd q 3 == gd p 3 && gd q 4 == gd p 4)))) = false := by
    match j, hj with
    | 0, _ => simp [h]
    | 1, _ => simp [h]
    | 2, _ => simp [h]
    | 3, _ => simp [h]
    | 4, _ => simp [h]
  rw [this]
theorem gd_in {p : List Int} {j : Nat} (h : j < p.length) : gd p j ∈ p := by
  unfold gd
  rw [List.getD_eq_getElem?_getD, List.getElem?_eq_getElem h]
  exact List.getElem_mem h
end Go.Proofs.Ytoemblcheahbeac.Wk
