/- What DrawParseStamp comes to: a short text. -/
import Derived.Test.YtekjnfkmjmmcmabDoorDrSt
import Derived.Test.YtekjnfkmjmmcmabDoorDrX
import Derived.Test.YtekjnfkmjmmcmabDoorStTextS
namespace Go.Proofs.YtekjnfkmjmmcmabDoor.Wk
set_option linter.unusedVariables false
open Go.ChangeShapes Go.WideShapes Go.ChangeAt Go.RowKit

theorem dot_size (t q n : Nat) (ht : t ≤ 1000000000) (hq : q ≤ 1000000000) (hn : n ≤ 1000000000) : (dotted t q n).size ≤ 100 := by
  have l1 := dec_len t (by omega)
  have l2 := dec_len q (by omega)
  have l3 := dec_len n (by omega)
  unfold dotted
  rw [ByteArray.size_append, ByteArray.size_append, ByteArray.size_append, ByteArray.size_append, szL (Lib.decDigits t), szL (Lib.decDigits q), szL (Lib.decDigits n), sz1]
  omega

set_option maxHeartbeats 1000000 in
set_option maxRecDepth 100000 in
theorem drawParse (a : Option Addr) (cap : Nat) (l : List UInt8) (w : World) (hl : l.length ≤ 1048576) (hr : RdA w a l) :
    Calls Tryd.prog 14 #[.slice a l.length cap] w fun e w' => ∃ s : ByteArray, e = .returned (.string s) ∧ s.size ≤ 100 ∧ Below w.heap.size w w' := by
  go_enter Tryd.func14, Tryd.ntmps14
  go_wp2_with fail
  refine (l1New a cap l _ hl hr).mono ?_
  rintro e w1 ⟨rfl, hc1, hb1⟩
  go_wp2_with fail
  refine (l1Once w.heap.size l 3 _ hc1 (by omega)).mono ?_
  rintro e w2 ⟨B, rfl, hc2, hg2⟩
  have hB2 := belowOf hb1 hg2 (Nat.le_refl _)
  cases B with
  | true =>
    have hX := rdxNew (w := w2) (t := 9) (ss := [⟨#[]⟩, ⟨#[49]⟩, ⟨#[49, 46, 50]⟩, ⟨#[49, 46, 50, 46, 51, 46, 52]⟩, ⟨#[48, 49, 46, 50, 46, 51]⟩, ⟨#[49, 46, 46, 51]⟩, ⟨#[49, 46, 50, 46, 50, 49]⟩, ⟨#[45, 49, 46, 50, 46, 51]⟩, ⟨#[49, 48, 48, 48, 48, 48, 48, 48, 48, 49, 46, 48, 46, 48]⟩, ⟨#[57, 57, 57, 57, 57, 57, 57, 57, 57, 57, 57, 46, 48, 46, 48]⟩]) (cs := #[.string ⟨#[]⟩, .string ⟨#[49]⟩, .string ⟨#[49, 46, 50]⟩, .string ⟨#[49, 46, 50, 46, 51, 46, 52]⟩, .string ⟨#[48, 49, 46, 50, 46, 51]⟩, .string ⟨#[49, 46, 46, 51]⟩, .string ⟨#[49, 46, 50, 46, 50, 49]⟩, .string ⟨#[45, 49, 46, 50, 46, 51]⟩, .string ⟨#[49, 48, 48, 48, 48, 48, 48, 48, 48, 49, 46, 48, 46, 48]⟩, .string ⟨#[57, 57, 57, 57, 57, 57, 57, 57, 57, 57, 57, 46, 48, 46, 48]⟩]) rfl
    have hb2 := bel1 w2 (.cells #[.string ⟨#[]⟩, .string ⟨#[49]⟩, .string ⟨#[49, 46, 50]⟩, .string ⟨#[49, 46, 50, 46, 51, 46, 52]⟩, .string ⟨#[48, 49, 46, 50, 46, 51]⟩, .string ⟨#[49, 46, 46, 51]⟩, .string ⟨#[49, 46, 50, 46, 50, 49]⟩, .string ⟨#[45, 49, 46, 50, 46, 51]⟩, .string ⟨#[49, 48, 48, 48, 48, 48, 48, 48, 48, 49, 46, 48, 46, 48]⟩, .string ⟨#[57, 57, 57, 57, 57, 57, 57, 57, 57, 57, 57, 46, 48, 46, 48]⟩] 9)
    have hz2 := hc2.lt
    go_wp2_with fail
    refine (l1Str w.heap.size w2.heap.size 0 _ 10 l [⟨#[]⟩, ⟨#[49]⟩, ⟨#[49, 46, 50]⟩, ⟨#[49, 46, 50, 46, 51, 46, 52]⟩, ⟨#[48, 49, 46, 50, 46, 51]⟩, ⟨#[49, 46, 46, 51]⟩, ⟨#[49, 46, 50, 46, 50, 49]⟩, ⟨#[45, 49, 46, 50, 46, 51]⟩, ⟨#[49, 48, 48, 48, 48, 48, 48, 48, 48, 49, 46, 48, 46, 48]⟩, ⟨#[57, 57, 57, 57, 57, 57, 57, 57, 57, 57, 57, 46, 48, 46, 48]⟩] _ rfl (hc2.below hb2) (by simp) (by simp) hX (by omega)).mono ?_
    rintro e w3 ⟨j, hj, rfl, hc3, hg3⟩
    have hy := inX [⟨#[]⟩, ⟨#[49]⟩, ⟨#[49, 46, 50]⟩, ⟨#[49, 46, 50, 46, 51, 46, 52]⟩, ⟨#[48, 49, 46, 50, 46, 51]⟩, ⟨#[49, 46, 46, 51]⟩, ⟨#[49, 46, 50, 46, 50, 49]⟩, ⟨#[45, 49, 46, 50, 46, 51]⟩, ⟨#[49, 48, 48, 48, 48, 48, 48, 48, 48, 49, 46, 48, 46, 48]⟩, ⟨#[57, 57, 57, 57, 57, 57, 57, 57, 57, 57, 57, 46, 48, 46, 48]⟩] 100 (by decide) j hj
    generalize ([⟨#[]⟩, ⟨#[49]⟩, ⟨#[49, 46, 50]⟩, ⟨#[49, 46, 50, 46, 51, 46, 52]⟩, ⟨#[48, 49, 46, 50, 46, 51]⟩, ⟨#[49, 46, 46, 51]⟩, ⟨#[49, 46, 50, 46, 50, 49]⟩, ⟨#[45, 49, 46, 50, 46, 51]⟩, ⟨#[49, 48, 48, 48, 48, 48, 48, 48, 48, 49, 46, 48, 46, 48]⟩, ⟨#[57, 57, 57, 57, 57, 57, 57, 57, 57, 57, 57, 46, 48, 46, 48]⟩] : List ByteArray)[j] = s at hy
    clear hX hj
    go_wp2
    go_ret
    exact ⟨s, rfl, hy, belowOf (behind hB2 hb2) hg3 (Nat.le_refl _)⟩
  | false =>
    go_wp2_with fail
    refine (l2Draw w.heap.size l _ hc2).mono ?_
    rintro e w3 ⟨t, q, n, rfl, ht, hq, hn, hc3, hg3⟩
    have hB3 := belowOf hB2 hg3 (Nat.le_refl _)
    obtain ⟨t, rfl⟩ := Int.eq_ofNat_of_zero_le ht.1
    obtain ⟨q, rfl⟩ := Int.eq_ofNat_of_zero_le hq.1
    obtain ⟨n, rfl⟩ := Int.eq_ofNat_of_zero_le hn.1
    have hD := dot_size t q n (by omega) (by omega) (by omega)
    have cT := specText t q n (Sm.ok_mk ⟨⟨by omega, by omega⟩, ⟨by omega, by omega⟩, by omega, by omega⟩)
    generalize dotted t q n = D at hD cT
    go_wp2_with fail
    refine (cT _).mono ?_
    rintro e w4 ⟨rfl, hb4⟩
    go_wp2
    go_ret
    exact ⟨D, rfl, hD, behind hB3 hb4⟩
end Go.Proofs.YtekjnfkmjmmcmabDoor.Wk
