/- What the laws' sameBytes and sameFile come to, of the same twice. -/
import Derived.Test.YtpejeoekpejbladFlT
namespace Go.Proofs.Ytpejeoekpejblad.Wk
set_option linter.unusedVariables false
open Go.ChangeShapes Go.WideShapes Go.ChangeAt Go.RowKit

set_option maxHeartbeats 400000 in
set_option maxRecDepth 100000 in
theorem sameBy (a b : Option Addr) (ca cb : Nat) (l : List UInt8) (w : World) (hl : l.length ≤ 1073741824) (hr : RdA w a l) (hs : RdA w b l) :
    Calls Try.prog 17 #[.slice a l.length ca, .slice b l.length cb] w fun e w' => e = .returned (.bool true) ∧ ∃ n, w' = w.drewN n := by
  go_enter Try.func17, Try.ntmps17
  go_wp2
  go_loopw [5] (fun i wr => ∃ k : Nat, k ≤ l.length ∧ i = .int .i64 k ∧ ∃ n, wr = w.drewN n) (fun i _ => l.length - (intOf i).toNat)
  case atStart => exact ⟨0, Nat.zero_le _, rfl, 0, rfl⟩
  case round =>
    obtain ⟨k, hk, rfl, n, rfl⟩ := hrel
    by_cases hlt : k < l.length
    · obtain ⟨b1, o1, rfl, hc1⟩ := hr k hlt
      obtain ⟨b2, o2, rfl, hc2⟩ := hs k hlt
      go_wp2
      go_quiet (fail)
      go_wp2
      go_roundw
      case rel => exact ⟨k + 1, by omega, by go_num, n + nq, by simp⟩
      case measure => simp [intOf]; omega
    · go_wp2
      go_ret
      exact ⟨rfl, n, rfl⟩
set_option maxHeartbeats 2000000 in
set_option maxRecDepth 100000 in
theorem sameFl (t q n : Int) (d : Bool) (a b : Option Addr) (ca cb : Nat) (l : List UInt8) (w : World) (hl : l.length ≤ 1048576) (hr : RdA w a l) (hs : RdA w b l) :
    Calls Try.prog 12 #[.agg #[.int .i64 t, .int .i64 q, .int .i64 n, .bool d, .slice a l.length ca], .agg #[.int .i64 t, .int .i64 q, .int .i64 n, .bool d, .slice b l.length cb]] w fun e w' => e = .returned (.bool true) ∧ Below w.heap.size w w' := by
  have s0 := slot5fNew w (.int .i64 t) (.int .i64 q) (.int .i64 n) (.bool d) (.slice a l.length ca) 27
  have b0 := bel1 w (.cells #[.int .i64 t, .int .i64 q, .int .i64 n, .bool d, .slice a l.length ca] 27)
  have e0 : (w.alloc (.cells #[.int .i64 t, .int .i64 q, .int .i64 n, .bool d, .slice a l.length ca] 27)).heap.size = w.heap.size + 1 := by simp
  have s1 := slot5fNew (w.alloc (.cells #[.int .i64 t, .int .i64 q, .int .i64 n, .bool d, .slice a l.length ca] 27)) (.int .i64 t) (.int .i64 q) (.int .i64 n) (.bool d) (.slice b l.length cb) 27
  have b1 := bel1 (w.alloc (.cells #[.int .i64 t, .int .i64 q, .int .i64 n, .bool d, .slice a l.length ca] 27)) (.cells #[.int .i64 t, .int .i64 q, .int .i64 n, .bool d, .slice b l.length cb] 27)
  rw [e0] at s1
  have t0 := s0.below b1
  have B1 := behind b0 b1
  have cB := fun w h1 h2 => sameBy a b ca cb l w (by omega) h1 h2
  clear s0 b0 b1 e0
  obtain ⟨⟨x0, x1, x2, x3, x4⟩, -⟩ := id t0
  obtain ⟨⟨z0, z1, z2, z3, z4⟩, -⟩ := id s1
  go_enter Try.func12, Try.ntmps12
  go_wp2_with fail
  refine (cB _ (hr.below B1) (hs.below B1)).mono ?_
  rintro e w3 ⟨rfl, m, rfl⟩
  go_wp2
  go_ret
  exact ⟨rfl, belowDrewN B1 m⟩
end Go.Proofs.Ytpejeoekpejblad.Wk
