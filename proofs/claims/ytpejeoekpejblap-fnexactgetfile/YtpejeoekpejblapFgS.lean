/- What Newer, SumOf and l8GetStamp of the specification come to. -/
import Derived.Test.YtpejeoekpejblapFlS
import Derived.Test.YtpejeoekpejblapGfM
import Derived.Test.YtpejeoekpejblapCrcW
import Derived.Test.YtpejeoekpejblapLessS
import Derived.Test.YtpejeoekpejblapGetNumW
import Derived.Test.YtpejeoekpejblapStL
namespace Go.Proofs.Ytpejeoekpejblap.Wk
set_option linter.unusedVariables false
open Go.ChangeShapes Go.WideShapes Go.ChangeAt Go.RowKit

set_option maxHeartbeats 2000000 in
set_option maxRecDepth 100000 in
theorem specNewer (t q n : Int) (d : Bool) (v : Value) (t' q' n' : Int) (d' : Bool) (v' : Value) (w : World) :
    Calls Try.prog 15 #[.agg #[.int .i64 t, .int .i64 q, .int .i64 n, .bool d, v], .agg #[.int .i64 t', .int .i64 q', .int .i64 n', .bool d', v']] w fun e w' => e = .returned (.bool (Sm.less t' q' n' t q n)) ∧ Below w.heap.size w w' := by
  have cL := fun w => specLess t' q' n' t q n w
  have b0 := bel1 w (.cells #[.int .i64 t, .int .i64 q, .int .i64 n, .bool d, v] 26)
  have b1 := behind b0 (bel1 (w.alloc (.cells #[.int .i64 t, .int .i64 q, .int .i64 n, .bool d, v] 26)) (.cells #[.int .i64 t', .int .i64 q', .int .i64 n', .bool d', v'] 26))
  go_enter Try.func15, Try.ntmps15
  go_wp2_with fail
  refine (cL _).mono ?_
  rintro e w2 ⟨rfl, hb2⟩
  go_wp2
  go_ret
  exact ⟨rfl, behind b1 hb2⟩

set_option maxHeartbeats 2000000 in
set_option maxRecDepth 100000 in
theorem specSumOf (t q n : Int) (d : Bool) (a : Option Addr) (cap : Nat) (data : List UInt8) (w : World) (hk : data.length ≤ 1048576) (hr : RdA w a data) :
    Calls Try.prog 18 #[.agg #[.int .i64 t, .int .i64 q, .int .i64 n, .bool d, .slice a data.length cap]] w fun e w' => e = .returned (.int .i64 (Mt.crcN data)) ∧ Below w.heap.size w w' := by
  have b0 := bel1 w (.cells #[.int .i64 t, .int .i64 q, .int .i64 n, .bool d, .slice a data.length cap] 26)
  have cC := specCrc a cap data (w.alloc (.cells #[.int .i64 t, .int .i64 q, .int .i64 n, .bool d, .slice a data.length cap] 26)) hk (hr.below b0)
  generalize Mt.crcN data = X at cC ⊢
  go_enter Try.func18, Try.ntmps18
  go_wp2_with fail
  refine cC.mono ?_
  rintro e w2 ⟨rfl, hw2⟩
  subst hw2
  go_wp2
  go_ret
  exact ⟨rfl, b0⟩

/-- a stamp that is read at a place -/
def getStampV (l : List UInt8) (p : Int) : Value :=
  .tuple #[.agg #[.int .i64 (nv (Mt.getNum l p)), .int .i64 (nv (Mt.getNum l (np (Mt.getNum l p)))), .int .i64 (nv (Mt.getNum l (np (Mt.getNum l (np (Mt.getNum l p))))))],
    .int .i64 (np (Mt.getNum l (np (Mt.getNum l (np (Mt.getNum l p)))))),
    .bool ((Mt.getNum l p).isSome && ((Mt.getNum l (np (Mt.getNum l p))).isSome && (Mt.getNum l (np (Mt.getNum l (np (Mt.getNum l p))))).isSome))]

set_option maxHeartbeats 2000000 in
set_option maxRecDepth 100000 in
theorem specGetStamp (a : Option Addr) (cap : Nat) (l : List UInt8) (p : Int) (w : World) (hl : l.length ≤ 1048576) (hr : RdA w a l) :
    Calls Try.prog 20 #[.slice a l.length cap, .int .i64 p] w fun e w' => e = .returned (getStampV l p) ∧ Below w.heap.size w w' := by
  have b0 := bel1 w (.cells #[.int .i64 0, .int .i64 0, .int .i64 0] 24)
  have hr0 := hr.below b0
  have s0 := slotNew w 0 0 0 24
  obtain ⟨⟨d1, d2, d3⟩, f1, f2, f3⟩ := (show _ from s0)
  have c1 := specGetNum a cap l p (w.alloc (.cells #[.int .i64 0, .int .i64 0, .int .i64 0] 24)) hl hr0
  have c2 := specGetNum a cap l (np (Mt.getNum l p)) (w.alloc (.cells #[.int .i64 0, .int .i64 0, .int .i64 0] 24)) hl hr0
  have c3 := specGetNum a cap l (np (Mt.getNum l (np (Mt.getNum l p)))) (w.alloc (.cells #[.int .i64 0, .int .i64 0, .int .i64 0] 24)) hl hr0
  unfold getStampV
  rw [numV_eq] at c1 c2 c3
  generalize Mt.getNum l (np (Mt.getNum l (np (Mt.getNum l p)))) = o3 at c3 ⊢
  generalize Mt.getNum l (np (Mt.getNum l p)) = o2 at c2 c3 ⊢
  generalize Mt.getNum l p = o1 at c1 c2 ⊢
  generalize nv o3 = n3, np o3 = p3, o3.isSome = k3 at c3 ⊢
  generalize nv o2 = n2, np o2 = p2, o2.isSome = k2 at c2 c3 ⊢
  generalize nv o1 = n1, np o1 = p1, o1.isSome = k1 at c1 c2 ⊢
  cases k1 <;> cases k2
  all_goals
    go_enter Try.func20, Try.ntmps20
    go_wp2_with fail
    refine c1.mono ?_
    rintro e w1 ⟨rfl, hw1⟩
    subst hw1
    go_wp2_with fail
    refine c2.mono ?_
    rintro e w2 ⟨rfl, hw2⟩
    subst hw2
    go_wp2_with fail
    refine c3.mono ?_
    rintro e w3 ⟨rfl, hw3⟩
    subst hw3
    go_wp2
    exact bodyPost_ret (v := .tuple #[.agg #[.int .i64 n1, .int .i64 n2, .int .i64 n3], .int .i64 p3, .bool _]) (by simp [results, Try.results20, go_sem]) rfl ⟨rfl, bel1 _ _⟩
end Go.Proofs.Ytpejeoekpejblap.Wk
