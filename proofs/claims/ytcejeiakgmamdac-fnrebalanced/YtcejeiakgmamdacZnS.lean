/- What ZonesOf of the specification comes to. -/
import Derived.Test.YtcejeiakgmamdacZnM
import Derived.Deep.QuietTactic
import Derived.BigQuiet
import Derived.Laws.OwnMore
namespace Go.Proofs.Ytcejeiakgmamdac.Wk
set_option linter.unusedVariables false
open Go.ChangeShapes Go.WideShapes Go.ChangeAt Go.RowKit

set_option maxHeartbeats 1000000 in
set_option maxRecDepth 100000 in
theorem specHas (a : Option Addr) (cap : Nat) (R : List Int) (z : Int) (w : World) (hl : R.length ≤ 1048576) (hr : RdZ w a R) :
    Calls Try.prog 53 #[.slice a R.length cap, .int .i64 z] w fun e w' => e = .returned (.bool (decide (z ∈ R))) ∧ w' = w := by
  obtain ⟨K, hK⟩ : ∃ K, decide (z ∈ R) = K := ⟨_, rfl⟩
  have HK : Hid (decide (z ∈ R) = K) := hK
  rw [hK]
  clear hK
  go_enter Try.func53, Try.ntmps53
  go_wp2
  go_loop [5] (fun i => ∃ k : Nat, k ≤ R.length ∧ i = .int .i64 k ∧ Hid (z ∉ R.take k)) (fun i => R.length - (intOf i).toNat)
  case atStart => exact ⟨0, Nat.zero_le _, rfl, by show z ∉ R.take 0; simp⟩
  case round =>
    obtain ⟨k, hk, rfl, HN⟩ := hrel
    by_cases hlt : k < R.length
    · obtain ⟨b, off, rfl, hc⟩ := hr k hlt
      have HY : Hid (R[k] = z → K = true) := fun e => by rw [← HK.out, ← e]; simp
      have HM : Hid (¬ R[k] = z → z ∉ R.take (k + 1)) := fun e => by
        rw [List.take_succ_eq_append_getElem hlt, List.mem_append, List.mem_singleton]
        rintro (h | h)
        · exact HN.out h
        · exact e h.symm
      generalize R[k] = x at hc HY HM
      clear HN HK hr
      by_cases e : x = z
      · have eK := HY.out e
        subst eK
        subst e
        clear HY HM
        go_wp2
        go_ret
        exact ⟨rfl, rfl⟩
      · have HM' : Hid (z ∉ R.take (k + 1)) := HM.out e
        clear HY HM
        go_wp2
        go_round
        case rel => exact ⟨k + 1, by omega, by go_num, HM'⟩
        case measure => simp [intOf]; omega
    · have eK : K = false := by
        rw [← HK.out]
        have := HN.out
        rw [List.take_of_length_le (by omega)] at this
        simpa using this
      subst eK
      clear HN HK hr
      go_wp2
      go_ret
      exact ⟨rfl, rfl⟩

end Go.Proofs.Ytcejeiakgmamdac.Wk
