/- GetFile of the specification in one; the laws' helpers for a file without data. -/
import Derived.Test.YtpejeoekpejblapGfG
import Derived.Test.YtpejeoekpejblapToFl
namespace Go.Proofs.Ytpejeoekpejblap.Wk
set_option linter.unusedVariables false
open Go.ChangeShapes Go.WideShapes Go.ChangeAt Go.RowKit

theorem specGetFile (a : Option Addr) (cap : Nat) (l : List UInt8) (w : World) (hl : l.length ≤ 1048576) (hcap : l.length ≤ cap) (hcm : cap ≤ maxLen) (hr : RdA w a l) (hc : a = none → cap = 0) :
    Calls Try.prog 6 #[.slice a l.length cap] w fun e w' => FileRet w (getF l) e w' ∧ Below w.heap.size w w' := by
  cases hG : gGood l with
  | true => exact specGetFile_good a cap l w hl hcap hcm hr hc hG
  | false => exact specGetFile_bad a cap l w hl hcap hcm hr hG
theorem eqFl0 (w : World) : Calls Try.prog 9 #[.agg #[.int .i64 0, .int .i64 0, .int .i64 0, .bool false, .slice none 0 0], .agg #[.int .i64 0, .int .i64 0, .int .i64 0, .bool false, .slice none 0 0]] w fun e w' => e = .returned (.bool true) ∧ Below w.heap.size w w' :=
  eqFl 0 0 0 false none none 0 0 [] w (by simp) (RdA.nil _ _) (RdA.nil _ _)
set_option maxHeartbeats 400000 in
set_option maxRecDepth 100000 in
theorem markBy0 (k : Nat) (w : World) : Calls Try.prog 11 #[.slice none 0 0, .int .i64 (k : Int)] w fun e w' => e = .returned (.int .i64 (k : Int)) ∧ w' = w := by
  go_enter Try.func11, Try.ntmps11
  go_wp2
  go_loop [1, 5] (fun q i => i = .int .i64 0 ∧ q = .int .i64 (k : Int)) (fun _ i => (intOf i).toNat)
  case atStart => exact ⟨rfl, rfl⟩
  case round =>
    obtain ⟨rfl, rfl⟩ := hrel
    go_wp2
    go_ret
    exact ⟨rfl, rfl⟩
set_option maxHeartbeats 1000000 in
set_option maxRecDepth 100000 in
theorem markFl0 (k : Nat) (w : World) : Calls Try.prog 12 #[.agg #[.int .i64 0, .int .i64 0, .int .i64 0, .bool false, .slice none 0 0], .int .i64 (k : Int)] w fun e w' => e = .returned (.int .i64 (k : Int)) ∧ Below w.heap.size w w' := by
  have b0 := bel1 w (.cells #[.int .i64 0, .int .i64 0, .int .i64 0, .bool false, .slice none 0 0] 26)
  go_enter Try.func12, Try.ntmps12
  go_wp2_with fail
  refine (markBy0 k _).mono ?_
  rintro e w2 ⟨rfl, hw2⟩
  subst hw2
  go_wp2
  go_ret
  exact ⟨rfl, b0⟩
set_option maxHeartbeats 400000 in
set_option maxRecDepth 100000 in
theorem heldBy0 (k : Nat) (w : World) : Calls Try.prog 29 #[.slice none 0 0, .int .i64 (k : Int)] w fun e w' => e = .returned (.int .i64 (k : Int)) ∧ w' = w := by
  go_enter Try.func29, Try.ntmps29
  go_wp2
  go_loop [1, 5] (fun q i => i = .int .i64 0 ∧ q = .int .i64 (k : Int)) (fun _ i => (intOf i).toNat)
  case atStart => exact ⟨rfl, rfl⟩
  case round =>
    obtain ⟨rfl, rfl⟩ := hrel
    go_wp2
    go_ret
    exact ⟨rfl, rfl⟩
set_option maxHeartbeats 1000000 in
set_option maxRecDepth 100000 in
theorem heldFl0 (k : Nat) (w : World) (hk : k ≤ 1073741824) : Calls Try.prog 13 #[.agg #[.int .i64 0, .int .i64 0, .int .i64 0, .bool false, .slice none 0 0], .int .i64 (k : Int)] w fun e w' => e = .returned (.int .i64 (k : Int)) ∧ Below w.heap.size w w' := by
  have b0 := bel1 w (.cells #[.int .i64 0, .int .i64 0, .int .i64 0, .bool false, .slice none 0 0] 26)
  go_enter Try.func13, Try.ntmps13
  go_wp2_with fail
  refine (heldBy0 k _).mono ?_
  rintro e w2 ⟨rfl, hw2⟩
  subst hw2
  go_wp2
  go_ret
  exact ⟨rfl, b0⟩
end Go.Proofs.Ytpejeoekpejblap.Wk
