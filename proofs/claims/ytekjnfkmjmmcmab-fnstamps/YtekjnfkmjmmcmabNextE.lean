/- The contracts on stamps with their answers named ahead: for regions that draw their order. -/
import Derived.Test.YtekjnfkmjmmcmabNextS
import Derived.Test.YtekjnfkmjmmcmabNextI
import Derived.Test.YtekjnfkmjmmcmabLessI
namespace Go.Proofs.Ytekjnfkmjmmcmab.Wk
set_option linter.unusedVariables false
open Go.ChangeShapes Go.WideShapes Go.ChangeAt Go.RowKit

theorem specNextE (t q n time node a b c : Int) (h : Hid ((a, b, c) = Sm.next (t, q, n) time node)) (w : World) :
    Calls Try.prog 8 #[.agg #[.int .i64 t, .int .i64 q, .int .i64 n], .int .i64 time, .int .i64 node] w fun e w' => e = .returned (.agg #[.int .i64 a, .int .i64 b, .int .i64 c]) ∧ Below w.heap.size w w' := by
  refine (specNext t q n time node w).mono ?_
  rintro e w1 ⟨a', b', c', rfl, HS, hb⟩
  have hE := HS.out.trans h.out.symm
  simp only [Prod.mk.injEq] at hE
  obtain ⟨rfl, rfl, rfl⟩ := hE
  exact ⟨rfl, hb⟩
theorem implNextE (t q n time node a b c : Int) (h : Hid ((a, b, c) = Sm.next (t, q, n) time node)) (w : World) :
    Calls Try.prog 7 #[.agg #[.int .i64 t, .int .i64 q, .int .i64 n], .int .i64 time, .int .i64 node] w fun e w' => e = .returned (.agg #[.int .i64 a, .int .i64 b, .int .i64 c]) ∧ Below w.heap.size w w' := by
  refine (implNext t q n time node w).mono ?_
  rintro e w1 ⟨a', b', c', rfl, HS, hb⟩
  have hE := HS.out.trans h.out.symm
  simp only [Prod.mk.injEq] at hE
  obtain ⟨rfl, rfl, rfl⟩ := hE
  exact ⟨rfl, hb⟩
theorem implLessE (t q n t' q' n' : Int) (B : Bool) (h : Hid (Sm.less t q n t' q' n' = B)) (w : World) :
    Calls Try.prog 9 #[.agg #[.int .i64 t, .int .i64 q, .int .i64 n], .agg #[.int .i64 t', .int .i64 q', .int .i64 n']] w fun e w' => e = .returned (.bool B) ∧ Below w.heap.size w w' := by
  have := implLess t q n t' q' n' w
  rw [h.out] at this
  exact this
theorem implOkE (t q n : Int) (B : Bool) (h : Hid (Sm.ok t q n = B)) (w : World) :
    Calls Try.prog 10 #[.agg #[.int .i64 t, .int .i64 q, .int .i64 n]] w fun e w' => e = .returned (.bool B) ∧ Below w.heap.size w w' := by
  have := implOk t q n w
  rw [h.out] at this
  exact this
end Go.Proofs.Ytekjnfkmjmmcmab.Wk
