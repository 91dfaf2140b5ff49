/- What NextStamp of the specification comes to. -/
import Derived.Test.YtekjnfkmjmmcmabOkS
namespace Go.Proofs.Ytekjnfkmjmmcmab.Wk
set_option linter.unusedVariables false
open Go.ChangeShapes Go.WideShapes Go.ChangeAt Go.RowKit

set_option maxHeartbeats 1000000 in
set_option maxRecDepth 100000 in
theorem specNext (t q n time node : Int) (w : World) :
    Calls Try.prog 8 #[.agg #[.int .i64 t, .int .i64 q, .int .i64 n], .int .i64 time, .int .i64 node] w fun e w' => ∃ a b c : Int, e = .returned (.agg #[.int .i64 a, .int .i64 b, .int .i64 c]) ∧ Hid ((a, b, c) = Sm.next (t, q, n) time node) ∧ Below w.heap.size w w' := by
  by_cases hlt : time ≤ t
  · go_enter Try.func8, Try.ntmps8
    have HK := Sm.next_le (t, q, n) time node hlt
    go_wp2_with fail
    refine (specOk _ _ _ _).mono ?_
    rintro e w1 ⟨rfl, hb1⟩
    obtain ⟨hc, hf⟩ := bcell hb1
    have hz := hb1.size
    simp at hz
    cases hk : Sm.ok t (wrap64 (q + 1)) node with
    | true =>
      go_wp2
      exact bodyPost_ret (v := .agg #[.int .i64 t, .int .i64 (wrap64 (q + 1)), .int .i64 node]) (by simp [results, Try.results8, go_sem, hc]) rfl ⟨_, _, _, rfl, HK.1 hk, set3 (behind (bel3 _ _ _ _) hb1) (by simp)⟩
    | false =>
      go_wp2
      exact bodyPost_ret (v := .agg #[.int .i64 t, .int .i64 q, .int .i64 n]) (by simp [results, Try.results8, go_sem, hc]) rfl ⟨_, _, _, rfl, HK.2 hk, set3 (behind (bel3 _ _ _ _) hb1) (by simp)⟩
  · go_enter Try.func8, Try.ntmps8
    have HK := Sm.next_gt (t, q, n) time node hlt
    go_wp2_with fail
    refine (specOk _ _ _ _).mono ?_
    rintro e w1 ⟨rfl, hb1⟩
    obtain ⟨hc, hf⟩ := bcell hb1
    have hz := hb1.size
    simp at hz
    cases hk : Sm.ok time 0 node with
    | true =>
      go_wp2
      exact bodyPost_ret (v := .agg #[.int .i64 time, .int .i64 0, .int .i64 node]) (by simp [results, Try.results8, go_sem, hc]) rfl ⟨_, _, _, rfl, HK.1 hk, set3 (behind (bel3 _ _ _ _) hb1) (by simp)⟩
    | false =>
      go_wp2
      exact bodyPost_ret (v := .agg #[.int .i64 t, .int .i64 q, .int .i64 n]) (by simp [results, Try.results8, go_sem, hc]) rfl ⟨_, _, _, rfl, HK.2 hk, set3 (behind (bel3 _ _ _ _) hb1) (by simp)⟩
end Go.Proofs.Ytekjnfkmjmmcmab.Wk
