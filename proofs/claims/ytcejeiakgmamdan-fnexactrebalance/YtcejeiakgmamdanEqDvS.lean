/- What the laws' eqDevS comes to, of two lists of the same devices: true. -/
import Derived.Test.YtcejeiakgmamdanStL
import Derived.Test.YtcejeiakgmamdanEqDv
namespace Go.Proofs.Ytcejeiakgmamdan.Wk
set_option linter.unusedVariables false
open Go.ChangeShapes Go.WideShapes Go.ChangeAt Go.RowKit

set_option maxHeartbeats 1000000 in
set_option maxRecDepth 100000 in
theorem eqDvS (a b : Option Addr) (ca cb : Nat) (l : List Sm.St) (w : World) (hl : l.length ≤ 1048576) (hr : RdS w a l) (hs : RdS w b l) :
    Calls Try.prog 16 #[.slice a l.length ca, .slice b l.length cb] w fun e w' => e = .returned (.bool true) ∧ Below w.heap.size w w' := by
  go_enter Try.func16, Try.ntmps16
  go_wp2
  go_loopw [5] (fun i wr => ∃ k : Nat, k ≤ l.length ∧ i = .int .i64 k ∧ Below w.heap.size w wr) (fun i _ => l.length - (intOf i).toNat)
  case atStart => exact ⟨0, Nat.zero_le _, rfl, Below.refl _ _⟩
  case round =>
    obtain ⟨k, hk, rfl, hb⟩ := hrel
    by_cases hlt : k < l.length
    · obtain ⟨b1, o1, rfl, p0, p1, p2⟩ := (hr.below hb) k hlt
      obtain ⟨b2, o2, rfl, q0, q1, q2⟩ := (hs.below hb) k hlt
      generalize l[k] = u at p0 p1 p2 q0 q1 q2
      obtain ⟨t, q, n⟩ := u
      go_wp2_with fail
      go_region_with (go_at_call 44; refine (eqDv t q n _).mono ?_; rintro e w2 ⟨rfl, hb2⟩)
      all_goals
        go_wp2
        go_roundw
        case rel => exact ⟨k + 1, by omega, by go_num, behind hb.drew hb2⟩
        case measure => simp [intOf]; omega
    · go_wp2
      go_ret
      exact ⟨rfl, hb⟩
end Go.Proofs.Ytcejeiakgmamdan.Wk
