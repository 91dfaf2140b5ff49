/- What the laws' helper at comes to: atV of the code, a number from 0 to 255; the world stays. -/
import Derived.Test.YtpejeoekpejbladBy
namespace Go.Proofs.Ytpejeoekpejblad.Wk
set_option linter.unusedVariables false
open Go.ChangeShapes Go.WideShapes Go.ChangeAt Go.RowKit

def atV (l : List UInt8) (i : Int) : Int := if i < l.length then ((l.getD i.toNat 0).toNat : Int) else (i * 31 + (l.length : Int) * 7) % 256
theorem atV_le (l : List UInt8) (i : Int) : 0 ≤ atV l i ∧ atV l i ≤ 255 := by
  unfold atV
  split
  · have := (l.getD i.toNat 0).toNat_lt; omega
  · omega

set_option maxHeartbeats 400000 in
set_option maxRecDepth 100000 in
theorem atC (a : Option Addr) (cap : Nat) (i : Int) (l : List UInt8) (w : World) (hl : l.length ≤ 1048576) (h0 : 0 ≤ i) (hi : i ≤ 1000) (hr : RdA w a l) :
    Calls Try.prog 11 #[.slice a l.length cap, .int .i64 i] w fun e w' => e = .returned (.int .i64 (atV l i)) ∧ w' = w := by
  by_cases hlt : i < l.length
  · have e : atV l i = ((l.getD i.toNat 0).toNat : Int) := by unfold atV; rw [if_pos hlt]
    rw [e]
    obtain ⟨n, rfl⟩ := Int.eq_ofNat_of_zero_le h0
    obtain ⟨b, off, rfl, hcell⟩ := hr n (by omega)
    have hcl : l[n].toNat < 256 := l[n].toNat_lt
    have e2 : (l.getD (n : Int).toNat 0) = l[n] := by rw [Int.toNat_natCast, List.getD_eq_getElem?_getD, List.getElem?_eq_getElem (by omega), Option.getD_some]
    rw [e2]
    clear e e2
    generalize l[n].toNat = c at hcell hcl
    go_enter Try.func11, Try.ntmps11
    go_wp2
    go_ret
    exact ⟨rfl, rfl⟩
  · have e : atV l i = (i * 31 + (l.length : Int) * 7) % 256 := by unfold atV; rw [if_neg hlt]
    rw [e]
    clear e
    go_enter Try.func11, Try.ntmps11
    go_wp2
    go_ret
    exact ⟨rfl, rfl⟩
end Go.Proofs.Ytpejeoekpejblad.Wk
