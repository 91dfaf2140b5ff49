/- Draws of one out of a list of texts. -/
import Derived.Test.YtpejeoekpejbladDrawB
namespace Go.Proofs.Ytpejeoekpejblad.Wk
set_option linter.unusedVariables false
open Go.ChangeShapes Go.WideShapes Go.ChangeAt Go.RowKit

theorem belN (w : World) (o : Obj) : Below w.heap.size w (w.alloc o) := (Below.refl _ _).alloc (Nat.le_refl _) _
theorem behindN {w w1 w2 : World} (h : Below w.heap.size w w1) (k : Below w1.heap.size w1 w2) : Below w.heap.size w w2 := h.trans (k.mono h.size)
theorem grownOf {w w1 : World} {r : Option Nat} (hb : Below w.heap.size w w1) : w.grownBy w1 r := ⟨hb.os, hb.tape, hb.output, hb.size, fun k hk _ => hb.block k hk⟩

set_option maxHeartbeats 1000000 in
set_option maxRecDepth 100000 in
theorem l1Once (C : Nat) (l : List UInt8) (n : Int) (w : World) (hc : Cur w C l) (hn : n ≤ 2147483648) :
    Calls Try.prog 37 #[.pointer (some ⟨C, 0, none⟩), .int .i64 n] w fun e w' => ∃ B : Bool, e = .returned (.bool B) ∧ Cur w' C l ∧ w.grownBy w' (some C) := by
  go_enter Try.func37, Try.ntmps37
  go_wp2_with fail
  refine (l1Below C l n _ hc hn).mono ?_
  rintro e w1 ⟨x, rfl, hx0, -, -, hc1, hg1⟩
  go_wp2
  go_ret
  exact ⟨_, rfl, hc1, hg1⟩

/-- the address a leads to the texts ss -/
def RdX (w : World) (a : Option Addr) (ss : List ByteArray) : Prop := ∀ i (h : i < ss.length), ∃ b off, a = some ⟨b, off, none⟩ ∧ w.cell? ⟨b, off + i, none⟩ = some (.string ss[i])
theorem rdxNew {w : World} {t : TypeId} {ss : List ByteArray} {cs : Array Value} (h : cs = (ss.map Value.string).toArray) : RdX (w.alloc (.cells cs t)) (some ⟨w.heap.size, 0, none⟩) ss := by
  intro i hi
  refine ⟨w.heap.size, 0, rfl, ?_⟩
  rw [World.cell?_alloc_at _ _ _ _ rfl, h]
  simp [hi]

theorem inX (ss : List ByteArray) (k : Nat) (h : ∀ x ∈ ss, x.size ≤ k) (j : Nat) (hj : j < ss.length) : ss[j].size ≤ k := h _ (List.getElem_mem hj)
end Go.Proofs.Ytpejeoekpejblad.Wk
