/- What the draws of names come to: short texts. -/
import Derived.Test.YtcejeiakgmamdacDrX
import Derived.Deep.QuietTactic
import Derived.Deep.RegionWith
import Derived.WalkLawsBesides
import Derived.Outline
namespace Go.Proofs.Ytcejeiakgmamdac.Wk
set_option linter.unusedVariables false
open Go.ChangeShapes Go.WideShapes Go.ChangeAt Go.RowKit

def names3 : List ByteArray := [⟨#[97]⟩, ⟨#[98]⟩, ⟨#[99, 97, 116, 47, 49]⟩, ⟨#[99, 97, 116, 47, 50]⟩, ⟨#[100, 111, 103]⟩, ⟨#[120, 45, 49]⟩]
theorem names3_len : names3.length = 6 := rfl
theorem names3_le : ∀ x ∈ names3, x.size ≤ 100 := by decide
def names3A : List ByteArray := [⟨#[]⟩, ⟨#[65]⟩, ⟨#[97, 32, 98]⟩, ⟨#[116, 119, 101, 110, 116, 121, 111, 110, 101, 98, 121, 116, 101, 115, 116, 119, 101, 110, 116, 121, 111]⟩, ⟨#[116, 119, 101, 110, 116, 121, 98, 121, 116, 101, 115, 116, 119, 101, 110, 116, 121, 98, 121, 116]⟩, ⟨#[47]⟩]
theorem names3A_len : names3A.length = 6 := rfl
theorem names3A_le : ∀ x ∈ names3A, x.size ≤ 100 := by decide
def names3U : List ByteArray := [⟨#[]⟩, ⟨#[99, 97, 116]⟩, ⟨#[99, 97, 116, 47]⟩, ⟨#[100, 111, 103, 115]⟩, ⟨#[98]⟩]
theorem names3U_len : names3U.length = 5 := rfl
theorem names3U_le : ∀ x ∈ names3U, x.size ≤ 100 := by decide

set_option maxHeartbeats 1000000 in
set_option maxRecDepth 100000 in
theorem l3Name (C : Nat) (l : List UInt8) (w : World) (hc : Cur w C l) :
    Calls Try.prog 89 #[.pointer (some ⟨C, 0, none⟩)] w fun e w' => ∃ s : ByteArray, e = .returned (.string s) ∧ s.size ≤ 100 ∧ Cur w' C l ∧ w.grownBy w' (some C) := by
  have hX := rdxNew (w := w) (t := 9) (ss := names3) (cs := #[.string ⟨#[97]⟩, .string ⟨#[98]⟩, .string ⟨#[99, 97, 116, 47, 49]⟩, .string ⟨#[99, 97, 116, 47, 50]⟩, .string ⟨#[100, 111, 103]⟩, .string ⟨#[120, 45, 49]⟩]) rfl
  have hb := belN w (.cells #[.string ⟨#[97]⟩, .string ⟨#[98]⟩, .string ⟨#[99, 97, 116, 47, 49]⟩, .string ⟨#[99, 97, 116, 47, 50]⟩, .string ⟨#[100, 111, 103]⟩, .string ⟨#[120, 45, 49]⟩] 9)
  have hz := hc.lt
  have hc1 := hc.below hb
  go_enter Try.func89, Try.ntmps89
  go_wp2_with fail
  refine (l1Str C w.heap.size 0 _ 6 l names3 _ names3_len hc1 (by decide) (by decide) hX (by omega)).mono ?_
  rintro e w3 ⟨j, hj, rfl, hc3, hg3⟩
  have hy := inX names3 100 names3_le j hj
  generalize names3[j] = s at hy
  clear hX hj hc1
  go_wp2
  go_ret
  exact ⟨s, rfl, hy, hc3, grownTrans (grownOf hb) hg3⟩

set_option maxHeartbeats 1000000 in
set_option maxRecDepth 100000 in
theorem l3Any (C : Nat) (l : List UInt8) (w : World) (hc : Cur w C l) :
    Calls Try.prog 69 #[.pointer (some ⟨C, 0, none⟩)] w fun e w' => ∃ s : ByteArray, e = .returned (.string s) ∧ s.size ≤ 100 ∧ Cur w' C l ∧ w.grownBy w' (some C) := by
  go_enter Try.func69, Try.ntmps69
  go_wp2_with fail
  refine (l1Once C l 5 _ hc (by omega)).mono ?_
  rintro e w2 ⟨B, rfl, hc2, hg2⟩
  cases B with
  | true =>
    have hX := rdxNew (w := w2) (t := 9) (ss := names3A) (cs := #[.string ⟨#[]⟩, .string ⟨#[65]⟩, .string ⟨#[97, 32, 98]⟩, .string ⟨#[116, 119, 101, 110, 116, 121, 111, 110, 101, 98, 121, 116, 101, 115, 116, 119, 101, 110, 116, 121, 111]⟩, .string ⟨#[116, 119, 101, 110, 116, 121, 98, 121, 116, 101, 115, 116, 119, 101, 110, 116, 121, 98, 121, 116]⟩, .string ⟨#[47]⟩]) rfl
    have hb := belN w2 (.cells #[.string ⟨#[]⟩, .string ⟨#[65]⟩, .string ⟨#[97, 32, 98]⟩, .string ⟨#[116, 119, 101, 110, 116, 121, 111, 110, 101, 98, 121, 116, 101, 115, 116, 119, 101, 110, 116, 121, 111]⟩, .string ⟨#[116, 119, 101, 110, 116, 121, 98, 121, 116, 101, 115, 116, 119, 101, 110, 116, 121, 98, 121, 116]⟩, .string ⟨#[47]⟩] 9)
    have hz := hc2.lt
    have hc3 := hc2.below hb
    go_wp2_with fail
    refine (l1Str C w2.heap.size 0 _ 6 l names3A _ names3A_len hc3 (by decide) (by decide) hX (by omega)).mono ?_
    rintro e w3 ⟨j, hj, rfl, hc4, hg3⟩
    have hy := inX names3A 100 names3A_le j hj
    generalize names3A[j] = s at hy
    clear hX hj hc3
    go_wp2
    go_ret
    exact ⟨s, rfl, hy, hc4, grownTrans hg2 (grownTrans (grownOf hb) hg3)⟩
  | false =>
    go_wp2_with fail
    refine (l3Name C l _ hc2).mono ?_
    rintro e w3 ⟨s, rfl, hy, hc3, hg3⟩
    go_wp2
    go_ret
    exact ⟨s, rfl, hy, hc3, grownTrans hg2 hg3⟩

end Go.Proofs.Ytcejeiakgmamdac.Wk
