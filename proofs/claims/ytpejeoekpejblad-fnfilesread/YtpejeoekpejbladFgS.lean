/- What Newer, SumOf and l8GetStamp of the specification come to. -/
import Derived.Test.YtpejeoekpejbladFlS
import Derived.Test.YtpejeoekpejbladGfM
import Derived.Test.YtpejeoekpejbladCrcW
import Derived.Test.YtpejeoekpejbladGetNumW
import Derived.Test.YtpejeoekpejbladStL
namespace Go.Proofs.Ytpejeoekpejblad.Wk
set_option linter.unusedVariables false
open Go.ChangeShapes Go.WideShapes Go.ChangeAt Go.RowKit

/-- a stamp that is read at a place -/
def getStampV (l : List UInt8) (p : Int) : Value :=
  .tuple #[.agg #[.int .i64 (nv (Mt.getNum l p)), .int .i64 (nv (Mt.getNum l (np (Mt.getNum l p)))), .int .i64 (nv (Mt.getNum l (np (Mt.getNum l (np (Mt.getNum l p))))))],
    .int .i64 (np (Mt.getNum l (np (Mt.getNum l (np (Mt.getNum l p)))))),
    .bool ((Mt.getNum l p).isSome && ((Mt.getNum l (np (Mt.getNum l p))).isSome && (Mt.getNum l (np (Mt.getNum l (np (Mt.getNum l p))))).isSome))]

set_option maxHeartbeats 2000000 in
set_option maxRecDepth 100000 in
theorem specGetStamp (a : Option Addr) (cap : Nat) (l : List UInt8) (p : Int) (w : World) (hl : l.length ≤ 1048576) (hr : RdA w a l) :
    Calls Try.prog 34 #[.slice a l.length cap, .int .i64 p] w fun e w' => e = .returned (getStampV l p) ∧ Below w.heap.size w w' := by
  have b0 := bel1 w (.cells #[.int .i64 0, .int .i64 0, .int .i64 0] 25)
  have hr0 := hr.below b0
  have s0 := slotNew w 0 0 0 25
  obtain ⟨⟨d1, d2, d3⟩, f1, f2, f3⟩ := (show _ from s0)
  have c1 := specGetNum a cap l p (w.alloc (.cells #[.int .i64 0, .int .i64 0, .int .i64 0] 25)) hl hr0
  have c2 := specGetNum a cap l (np (Mt.getNum l p)) (w.alloc (.cells #[.int .i64 0, .int .i64 0, .int .i64 0] 25)) hl hr0
  have c3 := specGetNum a cap l (np (Mt.getNum l (np (Mt.getNum l p)))) (w.alloc (.cells #[.int .i64 0, .int .i64 0, .int .i64 0] 25)) hl hr0
  unfold getStampV
  rw [numV_eq] at c1 c2 c3
  generalize Mt.getNum l (np (Mt.getNum l (np (Mt.getNum l p)))) = o3 at c3 ⊢
  generalize Mt.getNum l (np (Mt.getNum l p)) = o2 at c2 c3 ⊢
  generalize Mt.getNum l p = o1 at c1 c2 ⊢
  generalize nv o3 = n3, np o3 = p3, o3.isSome = k3 at c3 ⊢
  generalize nv o2 = n2, np o2 = p2, o2.isSome = k2 at c2 c3 ⊢
  generalize nv o1 = n1, np o1 = p1, o1.isSome = k1 at c1 c2 ⊢
  cases k1 <;> cases k2
  all_goals
    go_enter Try.func34, Try.ntmps34
    go_wp2_with fail
    refine c1.mono ?_
    rintro e w1 ⟨rfl, hw1⟩
    subst hw1
    go_wp2_with fail
    refine c2.mono ?_
    rintro e w2 ⟨rfl, hw2⟩
    subst hw2
    go_wp2_with fail
    refine c3.mono ?_
    rintro e w3 ⟨rfl, hw3⟩
    subst hw3
    go_wp2
    exact bodyPost_ret (v := .tuple #[.agg #[.int .i64 n1, .int .i64 n2, .int .i64 n3], .int .i64 p3, .bool _]) (by simp [results, Try.results34, go_sem]) rfl ⟨rfl, bel1 _ _⟩
end Go.Proofs.Ytpejeoekpejblad.Wk
