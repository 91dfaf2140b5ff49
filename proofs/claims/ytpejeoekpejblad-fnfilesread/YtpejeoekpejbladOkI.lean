/- What StampOk of the program comes to. -/
import Derived.Test.YtpejeoekpejbladStB
namespace Go.Proofs.Ytpejeoekpejblad.Wk
set_option linter.unusedVariables false
open Go.ChangeShapes Go.WideShapes Go.ChangeAt Go.RowKit

set_option maxHeartbeats 400000 in
set_option maxRecDepth 100000 in
theorem near (t q n : Int) (w : World) :
    Calls Try.prog 40 #[.agg #[.int .i64 t, .int .i64 q, .int .i64 n]] w fun e w' => e = .returned (.agg #[.int .i64 (Sm.near t 1000000000), .int .i64 (Sm.near q 1000000), .int .i64 (Sm.near n 20)]) ∧ Below w.heap.size w w' := by
  go_enter Try.func40, Try.ntmps40
  go_wp2
  all_goals exact bodyPost_ret (v := .agg #[.int .i64 (Sm.near t 1000000000), .int .i64 (Sm.near q 1000000), .int .i64 (Sm.near n 20)]) (by simp [results, Try.results40, go_sem]; unfold Sm.near; omega) rfl ⟨rfl, bel2 _ _ _⟩

theorem nearYes (t q n : Int) (w : World) (h : Sm.ok t q n = true) :
    Calls Try.prog 40 #[.agg #[.int .i64 t, .int .i64 q, .int .i64 n]] w fun e w' => e = .returned (.agg #[.int .i64 t, .int .i64 q, .int .i64 n]) ∧ Below w.heap.size w w' := by
  refine (near t q n w).mono ?_
  rintro e w1 ⟨rfl, hb⟩
  obtain ⟨⟨a, b⟩, ⟨c, d⟩, e, f⟩ := Sm.ok_true h
  exact ⟨by rw [Sm.near_in t _ a b, Sm.near_in q _ c d, Sm.near_in n _ e f], hb⟩
theorem nearT (t q n : Int) (w : World) (h : ¬ (0 ≤ t ∧ t ≤ 1000000000)) :
    Calls Try.prog 40 #[.agg #[.int .i64 t, .int .i64 q, .int .i64 n]] w fun e w' => ∃ T Q N : Int, e = .returned (.agg #[.int .i64 T, .int .i64 Q, .int .i64 N]) ∧ ¬ t = T ∧ Below w.heap.size w w' := by
  refine (near t q n w).mono ?_
  rintro e w1 ⟨rfl, hb⟩
  exact ⟨_, _, _, rfl, by have := Sm.near_out t 1000000000 (by omega) h; simpa using this, hb⟩
theorem nearQ (t q n : Int) (w : World) (h0 : 0 ≤ t ∧ t ≤ 1000000000) (h : ¬ (0 ≤ q ∧ q ≤ 1000000)) :
    Calls Try.prog 40 #[.agg #[.int .i64 t, .int .i64 q, .int .i64 n]] w fun e w' => ∃ Q N : Int, e = .returned (.agg #[.int .i64 t, .int .i64 Q, .int .i64 N]) ∧ ¬ q = Q ∧ Below w.heap.size w w' := by
  refine (near t q n w).mono ?_
  rintro e w1 ⟨rfl, hb⟩
  rw [Sm.near_in t _ h0.1 h0.2]
  exact ⟨_, _, rfl, by have := Sm.near_out q 1000000 (by omega) h; simpa using this, hb⟩
theorem nearN (t q n : Int) (w : World) (h0 : 0 ≤ t ∧ t ≤ 1000000000) (h1 : 0 ≤ q ∧ q ≤ 1000000) (h : ¬ (0 ≤ n ∧ n ≤ 20)) :
    Calls Try.prog 40 #[.agg #[.int .i64 t, .int .i64 q, .int .i64 n]] w fun e w' => ∃ N : Int, e = .returned (.agg #[.int .i64 t, .int .i64 q, .int .i64 N]) ∧ ¬ n = N ∧ Below w.heap.size w w' := by
  refine (near t q n w).mono ?_
  rintro e w1 ⟨rfl, hb⟩
  rw [Sm.near_in t _ h0.1 h0.2, Sm.near_in q _ h1.1 h1.2]
  exact ⟨_, rfl, by have := Sm.near_out n 20 (by omega) h; simpa using this, hb⟩

set_option maxHeartbeats 1000000 in
set_option maxRecDepth 100000 in
theorem implOk (t q n : Int) (w : World) :
    Calls Try.prog 27 #[.agg #[.int .i64 t, .int .i64 q, .int .i64 n]] w fun e w' => e = .returned (.bool (Sm.ok t q n)) ∧ Below w.heap.size w w' := by
  rcases (show Sm.ok t q n = true ∨ ¬ (0 ≤ t ∧ t ≤ 1000000000) ∨ ((0 ≤ t ∧ t ≤ 1000000000) ∧ ¬ (0 ≤ q ∧ q ≤ 1000000)) ∨ ((0 ≤ t ∧ t ≤ 1000000000) ∧ (0 ≤ q ∧ q ≤ 1000000) ∧ ¬ (0 ≤ n ∧ n ≤ 20)) from by
    cases hk : Sm.ok t q n with
    | true => exact .inl rfl
    | false => have := Sm.ok_false hk; omega) with hk | hk | ⟨h0, hk⟩ | ⟨h0, h1, hk⟩
  · rw [hk]
    have HK : Hid (Sm.ok t q n = true) := hk
    clear hk
    go_enter Try.func27, Try.ntmps27
    go_wp2_with fail
    go_region_with (go_at_call 40; refine (nearYes t q n _ HK.out).mono ?_; rintro e w1 ⟨rfl, hb1⟩; obtain ⟨hc, hf⟩ := bcell hb1)
    all_goals
      go_wp2
      go_ret
      exact ⟨rfl, after1 hb1⟩
  · rw [Sm.ok_no (by omega)]
    have HK : Hid (¬ (0 ≤ t ∧ t ≤ 1000000000)) := hk
    clear hk
    go_enter Try.func27, Try.ntmps27
    go_wp2_with fail
    go_region_with (go_at_call 40; refine (nearT t q n _ HK.out).mono ?_; rintro e w1 ⟨T, Q, N, rfl, hT, hb1⟩; obtain ⟨hc, hf⟩ := bcell hb1)
    all_goals
      go_wp2
      go_ret
      exact ⟨rfl, after1 hb1⟩
  · rw [Sm.ok_no (by omega)]
    have HK : Hid (¬ (0 ≤ q ∧ q ≤ 1000000)) := hk
    have H0 : Hid (0 ≤ t ∧ t ≤ 1000000000) := h0
    clear hk h0
    go_enter Try.func27, Try.ntmps27
    go_wp2_with fail
    go_region_with (go_at_call 40; refine (nearQ t q n _ H0.out HK.out).mono ?_; rintro e w1 ⟨Q, N, rfl, hQ, hb1⟩; obtain ⟨hc, hf⟩ := bcell hb1)
    all_goals
      go_wp2
      go_ret
      exact ⟨rfl, after1 hb1⟩
  · rw [Sm.ok_no (by omega)]
    have HK : Hid (¬ (0 ≤ n ∧ n ≤ 20)) := hk
    have H0 : Hid (0 ≤ t ∧ t ≤ 1000000000) := h0
    have H1 : Hid (0 ≤ q ∧ q ≤ 1000000) := h1
    clear hk h0 h1
    go_enter Try.func27, Try.ntmps27
    go_wp2_with fail
    go_region_with (go_at_call 40; refine (nearN t q n _ H0.out H1.out HK.out).mono ?_; rintro e w1 ⟨N, rfl, hN, hb1⟩; obtain ⟨hc, hf⟩ := bcell hb1)
    all_goals
      go_wp2
      go_ret
      exact ⟨rfl, after1 hb1⟩
end Go.Proofs.Ytpejeoekpejblad.Wk
