/- The text of a stamp; what is kept of three cells behind a call. -/
import Derived.Test.YtcejeiakgmamdacStB
import Derived.Lib.ItoaNum
import Derived.Lib.ItoaMem
import Derived.Lib.ItoaLen
import Derived.Deep.RegionHeld3
import Derived.Deep.Cut
namespace Go.Proofs.Ytcejeiakgmamdac.Wk
set_option linter.unusedVariables false
open Go.ChangeShapes Go.WideShapes Go.ChangeAt Go.RowKit

/-- the text of three numbers -/
def dotted (t q n : Nat) : ByteArray := (((⟨(Lib.decDigits t).toArray⟩ ++ ⟨#[46]⟩) ++ ⟨(Lib.decDigits q).toArray⟩) ++ ⟨#[46]⟩) ++ ⟨(Lib.decDigits n).toArray⟩
theorem dec_len (u : Nat) (h : u ≤ 9223372036854775807) : (Lib.decDigits u).length ≤ 21 := by
  have := Lib.itoa_length_le (u : Int) (by omega) (by omega)
  rw [Lib.itoa_nonneg] at this
  exact this
theorem ret_str {a b : ByteArray} (h : a = b) : Ending.returned (.string a) = .returned (.string b) := by rw [h]
theorem keep3 {w w' : World} {a1 a2 a3 : Addr} {v1 v2 v3 : Value} (h : w.cell? a1 = some v1 ∧ w.cell? a2 = some v2 ∧ w.cell? a3 = some v3) (hb : Below w.heap.size w w') :
    w'.cell? a1 = some v1 ∧ w'.cell? a2 = some v2 ∧ w'.cell? a3 = some v3 := by
  have one : ∀ {a : Addr} {v : Value}, w.cell? a = some v → w'.cell? a = some v := fun {a v} h => by rw [hb.cell (World.block_lt_of_cell? w _ h)]; exact h
  exact ⟨one h.1, one h.2.1, one h.2.2⟩
/-- two texts in one, at the operation itself -/
theorem addS (a b : ByteArray) (h : a.size + b.size ≤ 1000) : binOp .add 9 (.string a) (.string b) = pure (.string (a ++ b)) := by
  rw [binOp_string_add]
  simp only [Op.stringOp]
  rw [if_neg (by show ¬ (((a.size + b.size : Nat) : Int) > 9223372036854775807); omega)]
theorem szL (l : List UInt8) : (⟨l.toArray⟩ : ByteArray).size = l.length := by simp [ByteArray.size]
theorem sz1 : (⟨#[46]⟩ : ByteArray).size = 1 := rfl
end Go.Proofs.Ytcejeiakgmamdac.Wk
