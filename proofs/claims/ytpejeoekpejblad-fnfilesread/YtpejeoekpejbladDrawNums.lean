/- What DrawPutNum, DrawPutText and DrawCrc come to: bytes of the call's own, at most nine, and a number or a text. -/
import Derived.Test.YtpejeoekpejbladDrawW
import Derived.Deep.RegionWith
namespace Go.Proofs.Ytpejeoekpejblad.Wk
set_option linter.unusedVariables false
open Go.ChangeShapes Go.WideShapes Go.ChangeAt Go.RowKit

theorem OwnS.kept {w w' : World} {base C : Nat} {v : Value} {l : List UInt8} (h : OwnS w base v l) (hg : w.grownBy w' (some C)) (hC : C < base) : OwnS w' base v l :=
  ⟨World.ownsRow.kept h.1 hg (.inr (fun e => by have := (World.ownsRow.lt h.1 C e).1; omega)), h.2⟩
theorem OwnS.below {w w' : World} {base : Nat} {v : Value} {l : List UInt8} (h : OwnS w base v l) (hb : Below w.heap.size w w') : OwnS w' base v l := ⟨ownBelow h.1 hb, h.2⟩
theorem OwnS.base {w : World} {base base' : Nat} {v : Value} {l : List UInt8} (h : OwnS w base v l) (hb : base' ≤ base) : OwnS w base' v l := ⟨ownBase h.1 hb, h.2⟩

theorem convOwn {w : World} {a : Option Addr} {cp : Nat} {r : List UInt8} (hr : RdA w a r) (ha : a ≠ none) : (convert 22 9 (.slice a r.length cp)).run Try.prog w = .ok (.string ⟨r.toArray⟩) w := by
  cases a with
  | none => exact absurd rfl ha
  | some x =>
    refine run_convert_bytes_back (P := Try.prog) w 22 9 5 x cp r Try.underlying22 Try.underlying5 Try.underlying9 ?_
    intro j hj
    obtain ⟨b, off, e, hc⟩ := hr j hj
    cases e
    rw [Go.WideShapes.add_plain]; exact hc

end Go.Proofs.Ytpejeoekpejblad.Wk
