/- What PutNum of the program comes to: the bytes, and behind them the number's groups, in memory of its own. -/
import Derived.Test.YtekjnfkmjmmcmajPutNums
namespace Go.Proofs.Ytekjnfkmjmmcmaj.Wk
set_option linter.unusedVariables false
open Go.ChangeShapes Go.WideShapes Go.ChangeAt Go.RowKit

set_option maxHeartbeats 400000 in
set_option maxRecDepth 100000 in
theorem implPutNum (b off cap : Nat) (l : List UInt8) (n : Int) (w : World) (hl : l.length ≤ 2097152) (hr : RdA w (some ⟨b, off, none⟩) l) :
    Calls Try.prog 7 #[.slice (some ⟨b, off, none⟩) l.length cap, .int .i64 n] w fun e w' => ∃ v, e = .returned v ∧ OwnB w' w.heap.size v (l ++ Mt.enc (Mt.clamp n)) ∧ Below w.heap.size w w' := by
  have hb0 : Below w.heap.size w (w.alloc (.cells #[.int .i64 n] 3)) := (Below.refl _ _).alloc (Nat.le_refl _) _
  have hI : RdI (w.alloc (.cells #[.int .i64 n] 3)) (some ⟨w.heap.size, 0, none⟩) [n] := by
    intro i hi
    have : i = 0 := by simp at hi; omega
    subst this
    exact ⟨w.heap.size, 0, rfl, by rw [World.cell?_alloc_at _ _ _ _ rfl]; rfl⟩
  go_enter Try.func7, Try.ntmps7
  go_wp2_with fail
  refine (putNums b off cap _ _ l [n] _ hl (by simp) (hr.below hb0) hI).mono ?_
  rintro e w1 ⟨v, rfl, ho, hb⟩
  go_wp2
  go_ret
  refine ⟨_, rfl, ?_, hb0.trans (hb.mono hb0.size)⟩
  rw [Mt.encs_one] at ho
  exact ownBase ho hb0.size
end Go.Proofs.Ytekjnfkmjmmcmaj.Wk
