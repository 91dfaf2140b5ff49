/- What DrawPartOf and DrawUnder come to: short texts, a number. -/
import Derived.Test.YtekjnfkmjmmcmabDrNm
namespace Go.Proofs.Ytekjnfkmjmmcmab.Wk
set_option linter.unusedVariables false
open Go.ChangeShapes Go.WideShapes Go.ChangeAt Go.RowKit

def parts3 : List Int := [1, 2, 7, 64, 0, -1]

set_option maxHeartbeats 1000000 in
set_option maxRecDepth 100000 in
theorem drawPart (a : Option Addr) (cap : Nat) (l : List UInt8) (w : World) (hl : l.length ≤ 1048576) (hr : RdA w a l) :
    Calls Try.prog 13 #[.slice a l.length cap] w fun e w' => ∃ (s : ByteArray) (n : Int), e = .returned (.tuple #[.string s, .int .i64 n]) ∧ s.size ≤ 100 ∧ Below w.heap.size w w' := by
  go_enter Try.func13, Try.ntmps13
  go_wp2_with fail
  refine (l1New a cap l _ hl hr).mono ?_
  rintro e w1 ⟨rfl, hc1, hb1⟩
  go_wp2_with fail
  refine (l3Any w.heap.size l _ hc1).mono ?_
  rintro e w2 ⟨s, rfl, hy, hc2, hg2⟩
  have hX := rdiNew (w := w2) (t := 3) (ns := parts3) (cs := #[.int .i64 1, .int .i64 2, .int .i64 7, .int .i64 64, .int .i64 0, .int .i64 (-1)]) rfl
  have hb := belN w2 (.cells #[.int .i64 1, .int .i64 2, .int .i64 7, .int .i64 64, .int .i64 0, .int .i64 (-1)] 3)
  have hz := hc2.lt
  have hc3 := hc2.below hb
  go_wp2_with fail
  refine (l1Int w.heap.size w2.heap.size 0 _ 6 l parts3 _ rfl hc3 (by decide) (by decide) hX (by omega)).mono ?_
  rintro e w3 ⟨j, hj, rfl, hc4, hg3⟩
  generalize parts3[j] = n
  clear hX hj hc3
  go_wp2
  go_ret2
  exact ⟨s, n, rfl, hy, belowOf (behindN (belowOf hb1 hg2 (Nat.le_refl _)) hb) hg3 (Nat.le_refl _)⟩

set_option maxHeartbeats 1000000 in
set_option maxRecDepth 100000 in
theorem drawUnder (a : Option Addr) (cap : Nat) (l : List UInt8) (w : World) (hl : l.length ≤ 1048576) (hr : RdA w a l) :
    Calls Try.prog 16 #[.slice a l.length cap] w fun e w' => ∃ s p : ByteArray, e = .returned (.tuple #[.string s, .string p]) ∧ s.size ≤ 100 ∧ p.size ≤ 100 ∧ Below w.heap.size w w' := by
  go_enter Try.func16, Try.ntmps16
  go_wp2_with fail
  refine (l1New a cap l _ hl hr).mono ?_
  rintro e w1 ⟨rfl, hc1, hb1⟩
  go_wp2_with fail
  refine (l3Name w.heap.size l _ hc1).mono ?_
  rintro e w2 ⟨s, rfl, hy, hc2, hg2⟩
  have hB2 := belowOf hb1 hg2 (Nat.le_refl _)
  go_wp2_with fail
  refine (l1Once w.heap.size l 2 _ hc2 (by omega)).mono ?_
  rintro e w3 ⟨B, rfl, hc3, hg3⟩
  have hB3 := belowOf hB2 hg3 (Nat.le_refl _)
  clear hb1 hg2 hB2 hg3 hc1 hc2
  cases B with
  | true =>
    have hwr : IntKind.i64.wrap ((s.size : Int) + 1) = (s.size : Int) + 1 := Mt.wrap_i64 _ (by omega) (by omega)
    go_wp2_with fail
    go_region_with (go_at_call 27; refine (l1Below w.heap.size l ((s.size : Int) + 1) _ (by exact hc3) (by omega)).mono ?_; rintro e w4 ⟨x, rfl, hx0, hx1, -, hc4, hg4⟩; obtain ⟨k, rfl⟩ := Int.eq_ofNat_of_zero_le hx0; have hk : k ≤ s.size := (by have := hx1 (by omega); omega); have hB4 := belowOf hB3.drew hg4 (Nat.le_refl _); clear hx0 hx1)
    all_goals
      go_wp2
      go_ret2
      exact ⟨s, s.extract 0 k, rfl, hy, by simp; omega, hB4⟩
  | false =>
    have hX := rdxNew (w := w3) (t := 9) (ss := names3U) (cs := #[.string ⟨#[]⟩, .string ⟨#[99, 97, 116]⟩, .string ⟨#[99, 97, 116, 47]⟩, .string ⟨#[100, 111, 103, 115]⟩, .string ⟨#[98]⟩]) rfl
    have hb := belN w3 (.cells #[.string ⟨#[]⟩, .string ⟨#[99, 97, 116]⟩, .string ⟨#[99, 97, 116, 47]⟩, .string ⟨#[100, 111, 103, 115]⟩, .string ⟨#[98]⟩] 9)
    have hz := hc3.lt
    have hc4 := hc3.below hb
    go_wp2_with fail
    refine (l1Str w.heap.size w3.heap.size 0 _ 5 l names3U _ names3U_len hc4 (by decide) (by decide) hX (by omega)).mono ?_
    rintro e w4 ⟨j, hj, rfl, hc5, hg4⟩
    have hv := inX names3U 100 names3U_le j hj
    generalize names3U[j] = p at hv
    clear hX hj hc4
    go_wp2
    go_ret2
    exact ⟨s, p, rfl, hy, hv, belowOf (behindN hB3 hb) hg4 (Nat.le_refl _)⟩
end Go.Proofs.Ytekjnfkmjmmcmab.Wk
