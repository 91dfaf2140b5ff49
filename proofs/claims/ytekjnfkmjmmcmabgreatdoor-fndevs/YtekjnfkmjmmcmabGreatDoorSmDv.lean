/- What the laws' sameDevs (of the same devices) and has come to. -/
import Derived.Test.YtekjnfkmjmmcmabGreatDoorStL
import Derived.Test.YtekjnfkmjmmcmabGreatDoorZnM
import Derived.BigQuiet
import Derived.Deep.QuietTactic
namespace Go.Proofs.YtekjnfkmjmmcmabGreatDoor.Wk
set_option linter.unusedVariables false
open Go.ChangeShapes Go.WideShapes Go.ChangeAt Go.RowKit

theorem belowQ {B : Nat} {a w : World} (h : Below B a w) (n : Nat) : Below B a (w.drewN n) := h.trans ⟨rfl, rfl, rfl, Nat.le_refl _, fun _ _ => rfl⟩
set_option maxHeartbeats 1000000 in
set_option maxRecDepth 100000 in
theorem sameDv (a b : Option Addr) (ca cb : Nat) (l : List Sm.St) (w : World) (hl : l.length ≤ 1048576) (hr : RdS w a l) (hs : RdS w b l) :
    Calls Tryz.prog 10 #[.slice a l.length ca, .slice b l.length cb] w fun e w' => e = .returned (.bool true) ∧ Below w.heap.size w w' := by
  go_enter Tryz.func10, Tryz.ntmps10
  go_wp2
  go_loopw [5] (fun i wr => ∃ k : Nat, k ≤ l.length ∧ i = .int .i64 k ∧ Below w.heap.size w wr) (fun i _ => l.length - (intOf i).toNat)
  case atStart => exact ⟨0, Nat.zero_le _, rfl, Below.refl _ _⟩
  case round =>
    obtain ⟨k, hk, rfl, hb⟩ := hrel
    by_cases hlt : k < l.length
    · obtain ⟨b1, o1, rfl, p0, p1, p2⟩ := (hr.below hb) k hlt
      obtain ⟨b2, o2, rfl, q0, q1, q2⟩ := (hs.below hb) k hlt
      generalize l[k] = u at p0 p1 p2 q0 q1 q2
      obtain ⟨t, q, n⟩ := u
      go_wp2
      go_quiet (fail)
      go_wp2
      go_roundw
      case rel => exact ⟨k + 1, by omega, by go_num, belowQ hb _⟩
      case measure => simp [intOf]; omega
    · go_wp2
      go_ret
      exact ⟨rfl, hb⟩

set_option maxHeartbeats 1000000 in
set_option maxRecDepth 100000 in
theorem hasZ (a : Option Addr) (cap : Nat) (R : List Int) (z : Int) (w : World) (hl : R.length ≤ 1048576) (hr : RdZ w a R) (hz : z ∈ R) :
    Calls Tryz.prog 13 #[.slice a R.length cap, .int .i64 z] w fun e w' => e = .returned (.bool true) ∧ w' = w := by
  obtain ⟨m, hm, hmz⟩ := List.mem_iff_getElem.1 hz
  go_enter Tryz.func13, Tryz.ntmps13
  go_wp2
  go_loop [5] (fun i => ∃ k : Nat, k ≤ m ∧ i = .int .i64 k) (fun i => R.length - (intOf i).toNat)
  case atStart => exact ⟨0, Nat.zero_le _, rfl⟩
  case round =>
    obtain ⟨k, hk, rfl⟩ := hrel
    have hlt : k < R.length := by omega
    obtain ⟨b, off, rfl, hc⟩ := hr k hlt
    by_cases he : R[k] = z
    · rw [he] at hc
      go_wp2
      go_ret
      exact ⟨rfl, rfl⟩
    · have hkm : k < m := by
        rcases Nat.lt_or_ge k m with h | h
        · exact h
        · exact absurd (by rw [← hmz]; congr 1; omega) he
      generalize R[k] = y at hc he
      go_wp2
      go_round
      case rel => exact ⟨k + 1, by omega, by go_num⟩
      case measure => simp [intOf]; omega
end Go.Proofs.YtekjnfkmjmmcmabGreatDoor.Wk
