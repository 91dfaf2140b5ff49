/- What slices.Contains comes to over numbers. -/
import Derived.Test.YtcejeiakgmamdacZnM
namespace Go.Proofs.Ytcejeiakgmamdac.Wk
set_option linter.unusedVariables false
open Go.ChangeShapes Go.WideShapes Go.ChangeAt Go.RowKit

set_option maxHeartbeats 1000000 in
set_option maxRecDepth 100000 in
theorem indexZ (a : Option Addr) (cap : Nat) (R : List Int) (z : Int) (w : World) (hl : R.length ≤ 1048576) (hr : RdZ w a R) :
    Calls Try.prog 87 #[.slice a R.length cap, .int .i64 z] w fun e w' => ∃ n : Int, e = .returned (.int .i64 n) ∧ decide (0 ≤ n) = decide (z ∈ R) ∧ w' = w := by
  obtain ⟨K, hK⟩ : ∃ K, decide (z ∈ R) = K := ⟨_, rfl⟩
  have HK : Hid (decide (z ∈ R) = K) := hK
  rw [hK]
  clear hK
  go_enter Try.func87, Try.ntmps87
  go_wp2
  go_loop [8] (fun i => ∃ k : Nat, k ≤ R.length ∧ i = .int .i64 k ∧ Hid (z ∉ R.take k)) (fun i => R.length - (intOf i).toNat)
  case atStart => exact ⟨0, Nat.zero_le _, rfl, by show z ∉ R.take 0; simp⟩
  case round =>
    obtain ⟨k, hk, rfl, HN⟩ := hrel
    by_cases hlt : k < R.length
    · obtain ⟨b, off, rfl, hc⟩ := hr k hlt
      have HY : Hid (R[k] = z → K = true) := fun e => by rw [← HK.out, ← e]; simp
      have HM : Hid (¬ R[k] = z → z ∉ R.take (k + 1)) := fun e => by
        rw [List.take_succ_eq_append_getElem hlt, List.mem_append, List.mem_singleton]
        rintro (h | h)
        · exact HN.out h
        · exact e h.symm
      generalize R[k] = x at hc HY HM
      clear HN HK hr
      by_cases e : x = z
      · have eK := HY.out e
        subst eK
        subst e
        clear HY HM
        go_wp2
        go_ret
        exact ⟨k, rfl, by simp, rfl⟩
      · have HM' : Hid (z ∉ R.take (k + 1)) := HM.out e
        have e' : ¬ z = x := fun h => e h.symm
        clear HY HM
        go_wp2
        go_round
        case rel => exact ⟨k + 1, by omega, by go_num, HM'⟩
        case measure => simp [intOf]; omega
    · have eK : K = false := by
        rw [← HK.out]
        have := HN.out
        rw [List.take_of_length_le (by omega)] at this
        simpa using this
      subst eK
      clear HN HK hr
      go_wp2
      go_ret
      exact ⟨-1, rfl, by simp, rfl⟩

set_option maxHeartbeats 400000 in
set_option maxRecDepth 100000 in
theorem containsZ (a : Option Addr) (cap : Nat) (R : List Int) (z : Int) (w : World) (hl : R.length ≤ 1048576) (hr : RdZ w a R) :
    Calls Try.prog 66 #[.slice a R.length cap, .int .i64 z] w fun e w' => e = .returned (.bool (decide (z ∈ R))) ∧ w' = w := by
  go_enter Try.func66, Try.ntmps66
  go_wp2_with fail
  refine (indexZ a cap R z w hl hr).mono ?_
  rintro e wa ⟨n, rfl, hn, hwa⟩
  subst wa
  go_wp2
  go_ret
  exact ⟨rfl, rfl⟩
end Go.Proofs.Ytcejeiakgmamdac.Wk
