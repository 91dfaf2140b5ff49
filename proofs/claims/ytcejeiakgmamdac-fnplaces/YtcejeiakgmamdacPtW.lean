/- What PartOf of the specification and PartOf of the program come to: the hash's rest by the number of parts, 0 where there is none; nothing old is turned. -/
import Derived.Test.YtcejeiakgmamdacHashW
namespace Go.Proofs.Ytcejeiakgmamdac.Wk
set_option linter.unusedVariables false
open Go.ChangeShapes Go.WideShapes Go.ChangeAt Go.RowKit

/-- the part of a text -/
def partN (s : ByteArray) (n : Int) : Int := if n < 1 then 0 else (Mt.hashN s.data.toList : Int) % n
theorem part_range (s : ByteArray) (n : Int) : 0 ≤ partN s n ∧ (0 < n → partN s n < n) := by
  unfold partN
  split
  · exact ⟨Int.le_refl _, fun h => by omega⟩
  · exact ⟨Int.emod_nonneg _ (by omega), fun h => Int.emod_lt_of_pos _ h⟩

theorem specPart (s : ByteArray) (n : Int) (w : World) (hs : s.size ≤ 1048576) :
    Calls Try.prog 73 #[.string s, .int .i64 n] w fun e w' => e = .returned (.int .i64 (partN s n)) ∧ w' = w := by
  have cH := fun w => specHash s w hs
  by_cases h : n < 1
  · have e : partN s n = 0 := by unfold partN; rw [if_pos h]
    rw [e]
    go_enter Try.func73, Try.ntmps73
    go_wp2
    go_ret
    exact ⟨rfl, rfl⟩
  · have e : partN s n = (Mt.hashN s.data.toList : Int) % n := by unfold partN; rw [if_neg h]
    have hh := Mt.hashN_lt s.data.toList
    rw [e]
    clear e
    generalize Mt.hashN s.data.toList = H at cH hh
    go_enter Try.func73, Try.ntmps73
    go_wp2_with fail
    refine (cH _).mono ?_
    rintro e w1 ⟨rfl, rfl⟩
    go_wp2
    go_ret
    exact ⟨rfl, rfl⟩

theorem implPart (s : ByteArray) (n : Int) (w : World) (hs : s.size ≤ 1048576) :
    Calls Try.prog 101 #[.string s, .int .i64 n] w fun e w' => e = .returned (.int .i64 (partN s n)) ∧ Below w.heap.size w w' := by
  have cH := fun w => implHash s w hs
  by_cases h : n < 1
  · have e : partN s n = 0 := by unfold partN; rw [if_pos h]
    rw [e]
    go_enter Try.func101, Try.ntmps101
    go_wp2
    go_ret
    exact ⟨rfl, Below.refl _ _⟩
  · have e : partN s n = (Mt.hashN s.data.toList : Int) % n := by unfold partN; rw [if_neg h]
    have hh := Mt.hashN_lt s.data.toList
    rw [e]
    clear e
    generalize Mt.hashN s.data.toList = H at cH hh
    go_enter Try.func101, Try.ntmps101
    go_wp2_with fail
    refine (cH _).mono ?_
    rintro e w1 ⟨rfl, -, hb⟩
    go_wp2
    go_ret
    exact ⟨rfl, hb⟩
end Go.Proofs.Ytcejeiakgmamdac.Wk
