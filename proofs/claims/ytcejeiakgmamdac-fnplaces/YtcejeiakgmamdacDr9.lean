/- What DrawRingOk of the specification comes to: some ring, some devices, as they read. -/
import Derived.Test.YtcejeiakgmamdacDr8
import Derived.Test.YtcejeiakgmamdacRgZ
namespace Go.Proofs.Ytcejeiakgmamdac.Wk
set_option linter.unusedVariables false
open Go.ChangeShapes Go.WideShapes Go.ChangeAt Go.RowKit

theorem few_wf9 {d : Sm.St} (h : Few d) : (Lit.int .i64 d.2.1).wf = true := by
  obtain ⟨-, ⟨h0, h1⟩, -⟩ := h
  have e1 : IntKind.i64.min = -9223372036854775808 := by decide
  have e2 : IntKind.i64.max = 9223372036854775807 := by decide
  simp only [Lit.wf, Bool.and_eq_true, decide_eq_true_eq, e1, e2]
  omega
theorem tot4 : ∀ (Q : List (List Int)), (∀ q ∈ Q, q.length ≤ 4) → tot Q ≤ 4 * Q.length
  | [], _ => by simp [tot]
  | q :: r, h => by
    have h1 := h q (by simp)
    have h2 := tot4 r (fun x hx => h x (by simp [hx]))
    have e : tot (q :: r) = q.length + tot r := by simp [tot]
    rw [e, List.length_cons]
    omega
theorem Slot1.grown {w w' : World} {b : Nat} {v : Value} {r : Option Nat} (h : Slot1 w b v) (hg : w.grownBy w' r) (hne : some b ≠ r) : Slot1 w' b v :=
  ⟨hg.cell h.1 hne, by rw [World.frozen?_of_block (w := w) (hg.block b h.lt hne)]; exact h.2⟩
theorem RdU.grown {lo C : Nat} {w w' : World} {a : Option Addr} {ps : List (List Int)} (h : RdU lo w a ps) (hg : w.grownBy w' (some C)) (hC : C < lo) : RdU lo w' a ps := by
  intro i hi
  obtain ⟨b, off, ai, ci, h1, h2, h3, h4, h5, h6⟩ := h i hi
  refine ⟨b, off, ai, ci, h1, h2, hg.cell h3 (fun e => by simp only [Option.some.injEq] at e; omega), fun j hj => ?_, h5, h6⟩
  obtain ⟨b', off', ha, hc⟩ := h4 j hj
  have h7 := h5 _ ha
  exact ⟨b', off', ha, hg.cell hc (fun e => by simp only [Option.some.injEq] at e; simp only at h7; omega)⟩

end Go.Proofs.Ytcejeiakgmamdac.Wk
