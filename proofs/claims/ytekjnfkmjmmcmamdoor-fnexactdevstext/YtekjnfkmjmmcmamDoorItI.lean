/- What strconv.Itoa comes to, where the library's table of powers of ten reads as it was laid. -/
import Derived.Test.YtekjnfkmjmmcmamDoorDot
import Derived.Test.YtekjnfkmjmmcmamDoorShelf
import Derived.Lib.AppendIntMem
import Derived.WalkSmall
namespace Go.Proofs.YtekjnfkmjmmcmamDoor.Wk
set_option linter.unusedVariables false
open Go.ChangeShapes Go.WideShapes Go.ChangeAt Go.RowKit

/-- the table of powers of ten is as the library lays it -/
def Tab (w : World) : Prop := Lib.TabIs Tryd.prog w "internal/strconv.uint64pow10" .u64 Lib.pow10Tab
theorem gTab : ∃ g, Tryd.prog.globalNamed "internal/strconv.uint64pow10" = some g := by
  cases h : Tryd.prog.globalNamed "internal/strconv.uint64pow10" with
  | some g => exact ⟨g, rfl⟩
  | none => exact absurd h (fun e => Bool.noConfusion ((show (Tryd.prog.globalNamed "internal/strconv.uint64pow10").isSome = true by kernel_rfl).symm.trans (congrArg Option.isSome e)))
theorem Tab.on {w w' : World} (h : Tab w) (hb : Below w.heap.size w w') : Tab w' := by
  obtain ⟨g, hg⟩ := gTab
  have hl : g < w.heap.size := World.block_lt_of_cell? w _ (h.cell hg 0 (by rw [Lib.pow10Tab_length]; decide))
  exact var?_below hb hg hl h
theorem itoaC (n : Nat) (hn : n ≤ 1000000000) (w : World) (ht : Tab w) :
    Calls Tryd.prog 18 #[.int .i64 (n : Int)] w fun e w' => e = .returned (.string ⟨(Lib.decDigits n).toArray⟩) ∧ Below w.heap.size w w' := by
  refine (Tryd.strconv_Itoa (n : Int) (by omega) (by omega) w ht).mono ?_
  rintro e w' ⟨rfl, k, os, rfl⟩
  rw [Lib.itoa_nonneg]
  exact ⟨rfl, Lib.below_grow _ w (Nat.le_refl _) k os⟩
end Go.Proofs.YtekjnfkmjmmcmamDoor.Wk
