/- What DrawParseDevs comes to: a short text. -/
import Derived.Test.YtekjnfkmjmmcmabDoorDr4
import Derived.Test.YtekjnfkmjmmcmabDoorDrX
import Derived.Test.YtekjnfkmjmmcmabDoorTxS
namespace Go.Proofs.YtekjnfkmjmmcmabDoor.Wk
set_option linter.unusedVariables false
open Go.ChangeShapes Go.WideShapes Go.ChangeAt Go.RowKit

theorem belowOwn {w w' : World} {C : Nat} {l : List UInt8} (hc : Cur w C l) (hb : Below w.heap.size w w') : Cur w' C l := hc.below hb
/-- the text of devices, of whatever devices -/
theorem specDTextAny (a : Option Addr) (cap : Nat) (X : List Sm.St) (w : World) (hX : X.length ≤ 6) (hr : RdS w a X) :
    Calls Tryd.prog 34 #[.slice a X.length cap] w fun e w' => ∃ s : ByteArray, e = .returned (.string s) ∧ s.size ≤ 800 ∧ Below w.heap.size w w' := by
  cases hk : Dv.devs X with
  | true =>
    refine (specDText a cap X w hk hr).mono ?_
    rintro e w1 ⟨rfl, hb⟩
    refine ⟨_, rfl, ?_, hb⟩
    obtain ⟨-, hdev⟩ := Dv.devs_dev hk
    have h9 := Dv.dtext_len X (fun d hd => Dv.wtext_len (hdev d hd))
    rw [szL]
    omega
  | false =>
    refine (specDTextNo a cap X w (by omega) hk hr).mono ?_
    rintro e w1 ⟨rfl, hb⟩
    exact ⟨_, rfl, by decide, hb⟩

set_option maxHeartbeats 1000000 in
set_option maxRecDepth 100000 in
theorem drawParseD (a : Option Addr) (cap : Nat) (l : List UInt8) (w : World) (hl : l.length ≤ 1048576) (hr : RdA w a l) :
    Calls Tryd.prog 16 #[.slice a l.length cap] w fun e w' => ∃ s : ByteArray, e = .returned (.string s) ∧ s.size ≤ 800 ∧ Below w.heap.size w w' := by
  go_enter Tryd.func16, Tryd.ntmps16
  go_wp2_with fail
  refine (l1New a cap l _ hl hr).mono ?_
  rintro e w1 ⟨rfl, hc1, hb1⟩
  go_wp2_with fail
  refine (l4Draw w.heap.size l _ hc1).mono ?_
  rintro e w2 ⟨X, g, cp, rfl, hX2, hX6, hfew, hg, hown, hc2, hg2⟩
  have hB2 := belowOf hb1 hg2 (Nat.le_refl _)
  obtain ⟨a', cap', e', hrS⟩ := Ss_rd hown
  cases e'
  go_wp2_with fail
  refine (specDTextAny _ _ X _ hX6 hrS).mono ?_
  rintro e w3 ⟨s, rfl, hs, hb3⟩
  have hc3 := hc2.below hb3
  have hB3 := behind hB2 hb3
  clear hown hrS hfew
  go_wp2_with fail
  refine (l1Below w.heap.size l 5 _ hc3 (by omega)).mono ?_
  rintro e w4 ⟨x, rfl, hx0, hx1, -, hc4, hg4⟩
  have hx5 := hx1 (by omega)
  have hB4 := belowOf hB3 hg4 (Nat.le_refl _)
  clear hx1
  by_cases h0 : x = 0
  · subst h0
    have hX := rdxNew (w := w4) (t := 9) (ss := [⟨#[]⟩, ⟨#[49]⟩, ⟨#[49, 58, 50]⟩, ⟨#[49, 58, 50, 58, 51, 58, 52]⟩, ⟨#[49, 58, 50, 58, 51, 32, 49, 58, 50, 58, 51]⟩, ⟨#[48, 49, 58, 50, 58, 51]⟩, ⟨#[49, 58, 50, 58, 48]⟩, ⟨#[32]⟩, ⟨#[49, 58, 50, 58, 51, 32]⟩]) (cs := #[.string ⟨#[]⟩, .string ⟨#[49]⟩, .string ⟨#[49, 58, 50]⟩, .string ⟨#[49, 58, 50, 58, 51, 58, 52]⟩, .string ⟨#[49, 58, 50, 58, 51, 32, 49, 58, 50, 58, 51]⟩, .string ⟨#[48, 49, 58, 50, 58, 51]⟩, .string ⟨#[49, 58, 50, 58, 48]⟩, .string ⟨#[32]⟩, .string ⟨#[49, 58, 50, 58, 51, 32]⟩]) rfl
    have hb5 := bel1 w4 (.cells #[.string ⟨#[]⟩, .string ⟨#[49]⟩, .string ⟨#[49, 58, 50]⟩, .string ⟨#[49, 58, 50, 58, 51, 58, 52]⟩, .string ⟨#[49, 58, 50, 58, 51, 32, 49, 58, 50, 58, 51]⟩, .string ⟨#[48, 49, 58, 50, 58, 51]⟩, .string ⟨#[49, 58, 50, 58, 48]⟩, .string ⟨#[32]⟩, .string ⟨#[49, 58, 50, 58, 51, 32]⟩] 9)
    have hz4 := hc4.lt
    go_wp2_with fail
    refine (l1Str w.heap.size w4.heap.size 0 _ 9 l [⟨#[]⟩, ⟨#[49]⟩, ⟨#[49, 58, 50]⟩, ⟨#[49, 58, 50, 58, 51, 58, 52]⟩, ⟨#[49, 58, 50, 58, 51, 32, 49, 58, 50, 58, 51]⟩, ⟨#[48, 49, 58, 50, 58, 51]⟩, ⟨#[49, 58, 50, 58, 48]⟩, ⟨#[32]⟩, ⟨#[49, 58, 50, 58, 51, 32]⟩] _ rfl (hc4.below hb5) (by simp) (by simp) hX (by omega)).mono ?_
    rintro e w5 ⟨j, hj, rfl, hc5, hg5⟩
    have hy := inX [⟨#[]⟩, ⟨#[49]⟩, ⟨#[49, 58, 50]⟩, ⟨#[49, 58, 50, 58, 51, 58, 52]⟩, ⟨#[49, 58, 50, 58, 51, 32, 49, 58, 50, 58, 51]⟩, ⟨#[48, 49, 58, 50, 58, 51]⟩, ⟨#[49, 58, 50, 58, 48]⟩, ⟨#[32]⟩, ⟨#[49, 58, 50, 58, 51, 32]⟩] 800 (by decide) j hj
    generalize ([⟨#[]⟩, ⟨#[49]⟩, ⟨#[49, 58, 50]⟩, ⟨#[49, 58, 50, 58, 51, 58, 52]⟩, ⟨#[49, 58, 50, 58, 51, 32, 49, 58, 50, 58, 51]⟩, ⟨#[48, 49, 58, 50, 58, 51]⟩, ⟨#[49, 58, 50, 58, 48]⟩, ⟨#[32]⟩, ⟨#[49, 58, 50, 58, 51, 32]⟩] : List ByteArray)[j] = t at hy
    clear hX hj
    go_wp2
    go_ret
    exact ⟨t, rfl, hy, belowOf (behind hB4 hb5) hg5 (Nat.le_refl _)⟩
  · by_cases h1 : x = 1
    · subst h1
      go_wp2_with fail
      refine (l1Below w.heap.size l (s.size : Int) _ hc4 (by omega)).mono ?_
      rintro e w5 ⟨y, rfl, hy0, hy1, hy2, hc5, hg5⟩
      have hB5 := belowOf hB4 hg5 (Nat.le_refl _)
      have hys : y ≤ s.size := by
        by_cases hp : 0 < (s.size : Int)
        · have := hy1 hp; omega
        · have := hy2 (by omega); omega
      obtain ⟨y, rfl⟩ := Int.eq_ofNat_of_zero_le hy0
      clear hy1 hy2
      go_wp2
      go_ret
      exact ⟨_, rfl, by simp [ByteArray.size_extract]; omega, hB5⟩
    · go_wp2
      go_ret
      exact ⟨s, rfl, hs, hB4⟩
end Go.Proofs.YtekjnfkmjmmcmabDoor.Wk
