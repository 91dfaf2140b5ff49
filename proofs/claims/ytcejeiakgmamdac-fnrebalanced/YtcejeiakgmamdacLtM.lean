/- Rows of pointers to devices in memory. -/
import Derived.Test.YtcejeiakgmamdacStL
import Derived.Test.YtcejeiakgmamdacRgB
import Derived.Deep.RegionHeld3
namespace Go.Proofs.Ytcejeiakgmamdac.Wk
set_option linter.unusedVariables false
open Go.ChangeShapes Go.WideShapes Go.ChangeAt Go.RowKit

/-- pointers to devices of one block, as cells -/
def Pv (b : Nat) (L : List (Nat × Sm.St)) : List Value := L.map fun x => .pointer (some ⟨b, x.1, none⟩)
/-- the address a leads to these pointers -/
def RdPt (w : World) (a : Option Addr) (b : Nat) (L : List (Nat × Sm.St)) : Prop := ∀ i (h : i < L.length), ∃ g off, a = some ⟨g, off, none⟩ ∧ w.cell? ⟨g, off + i, none⟩ = some (.pointer (some ⟨b, L[i].1, none⟩))
theorem RdPt.below {w w' : World} {a : Option Addr} {b : Nat} {L : List (Nat × Sm.St)} (h : RdPt w a b L) (hb : Below w.heap.size w w') : RdPt w' a b L := by
  intro i hi
  obtain ⟨g, off, ha, hc⟩ := h i hi
  exact ⟨g, off, ha, cellOn hc hb⟩
/-- what the pointers lead to -/
def Led (w : World) (b : Nat) (L : List (Nat × Sm.St)) : Prop := ∀ x ∈ L, StAt w b x.1 x.2
theorem Led.below {w w' : World} {b : Nat} {L : List (Nat × Sm.St)} (h : Led w b L) (hb : Below w.heap.size w w') : Led w' b L := fun x hx => (h x hx).below hb
end Go.Proofs.Ytcejeiakgmamdac.Wk
