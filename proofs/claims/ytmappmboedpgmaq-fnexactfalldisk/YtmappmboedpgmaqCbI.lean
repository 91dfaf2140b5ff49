/- What copyBytes of the program comes to. -/
import Derived.Test.YtmappmboedpgmaqBy
import Derived.Test.YtmappmboedpgmaqStB
import Derived.Laws.OwnMore
import Derived.Laws.CopyOwn
namespace Go.Proofs.Ytmappmboedpgmaq.Wk
set_option linter.unusedVariables false
open Go.ChangeShapes Go.WideShapes Go.ChangeAt Go.RowKit

set_option maxHeartbeats 2000000 in
set_option maxRecDepth 100000 in
theorem copyBytesN (a : Option Addr) (cap : Nat) (l : List UInt8) (w : World) (hl : l.length ≤ 1048576) (hr : RdA w a l) :
    Calls Try.prog 70 #[.slice a l.length cap] w fun e w' => e = .returned (.slice (some ⟨w.heap.size, 0, none⟩) l.length l.length) ∧
      OwnB w' w.heap.size (.slice (some ⟨w.heap.size, 0, none⟩) l.length l.length) l ∧ Below w.heap.size w w' := by
  obtain ⟨i0, hi, hz0, hz1, hz2⟩ := info_parts Try.info5
  obtain ⟨w1, hrun, hown, hgrow⟩ := run_make_full (P := Try.prog) w w.heap.size 55 5 i0 (.int .u8 0) 1 Try.underlying55 hi hz0 hz1 .i64 .i64 l.length (by rw [hz2]; omega) (by unfold maxLen; omega) (Nat.le_refl _)
  have hbel : Below w.heap.size w w1 := (Below.refl _ _).grown hgrow (Nat.le_refl _) (fun k h => by cases h)
  rw [Nat.mul_one, show (Value.int .u8 0).cells = #[.int .u8 0] from rfl, toList_madeCells_one] at hown
  have hr1 := hr.below hbel
  obtain ⟨g, cap', cur, e1, hg, hh, hnc, hcm, hcs, ht⟩ : ∃ g cap cur, Value.slice (some ⟨w.heap.size, 0, none⟩) l.length l.length = .slice (some ⟨g, 0, none⟩) l.length cap ∧ w.heap.size ≤ g ∧ w1.heap[g]? = some (.cells cur 5 (0, 0)) ∧ l.length ≤ cap ∧ cap ≤ maxLen ∧ cur.size = cap * 1 ∧ cur.toList.take (l.length * 1) = List.replicate l.length (.int .u8 0) := by
    rcases hown.2 with ⟨e1, -⟩ | h
    · cases e1
    · exact h
  simp only [Value.slice.injEq, Option.some.injEq, Addr.mk.injEq, and_true, true_and] at e1
  obtain ⟨e1, e2⟩ := e1
  subst e1 e2
  have hcl : cur.toList.length = l.length := by rw [Array.length_toList, hcs, Nat.mul_one]
  have hpos : 0 < (By l).length → (some (⟨w.heap.size, 0, none⟩ : Addr)) = some ⟨w.heap.size, 0, none⟩ ∧ ∃ ad, a = some ad ∧ ∀ j v, (By l)[j]? = some v → w1.cell? (ad.add j) = some v := by
    intro h0
    rw [By_length] at h0
    obtain ⟨b, off, rfl, -⟩ := hr1 0 h0
    exact ⟨rfl, _, rfl, hr1.news⟩
  have hfit : 0 + (By l).length ≤ cur.toList.length := by rw [hcl, By_length]; omega
  have hn0 : (By l).length = Nat.min l.length l.length := by rw [By_length]; exact (Nat.min_self _).symm
  have hh' : w1.heap[w.heap.size]? = some (.cells cur.toList.toArray 5 (0, 0)) := by simpa using hh
  have hspl : splice cur.toList 0 (By l) = By l := by unfold splice; rw [List.take_zero, List.nil_append, Nat.zero_add, List.drop_of_length_le (by rw [hcl, By_length]; exact Nat.le_refl _), List.append_nil]
  have hsz : (Try.prog.info? 5).map (·.size) = some 1 := by rw [hi]; exact congrArg some hz1
  clear hgrow hz0 hz1 hz2 hown ht hcs hh hi
  go_enter Try.func70, Try.ntmps70
  go_wp2_with (refine wpList_copy_splice rfl (.tmp 7) (.tmp 8) 55 55 rfl 5 Try.underlying55 hsz (some ⟨w.heap.size, 0, none⟩) a l.length l.length l.length cap rfl rfl w.heap.size 0 cur.toList 5 hh' (By l) hn0 hpos hfit (By_one l) w.heap.size w hbel (Nat.le_refl _) ?_; intro w2 HG2 hB2)
  go_ret
  refine ⟨rfl, ⟨by rw [By_length, Nat.mul_one], .inr ⟨w.heap.size, l.length, (By l).toArray, rfl, Nat.le_refl _, ?_, Nat.le_refl _, hcm, by simp [By_length], by rw [List.toList_toArray, Nat.mul_one]; exact List.take_of_length_le (by rw [By_length]; exact Nat.le_refl _)⟩⟩, hB2⟩
  have := HG2.out
  rw [hspl] at this
  exact this
end Go.Proofs.Ytmappmboedpgmaq.Wk
