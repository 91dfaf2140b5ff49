/- A ring in memory of its own: one part of it read, turned, grown, written into. -/
import Derived.Test.YtcejeiakgmamdacBuM
namespace Go.Proofs.Ytcejeiakgmamdac.Wk
set_option linter.unusedVariables false
open Go.ChangeShapes Go.WideShapes Go.ChangeAt Go.RowKit

/-- a part of a ring of its own, as its cell has it -/
theorem OwnP.at_ {w : World} {base g n cap k : Nat} {Q : List (List Int)} (h : OwnP w base (.slice (some ⟨g, 0, none⟩) n cap) Q) (hk : k < Q.length) :
    ∃ a c, w.cell? ⟨g, k, none⟩ = some (.slice a Q[k].length c) ∧ w.ownsRow base 3 1 (.slice a Q[k].length c) Q[k].length (Zv Q[k]) ∧ w.frozen? ⟨g, k, none⟩ = false ∧ base ≤ g ∧ g < w.heap.size ∧
      ((Value.slice a Q[k].length c).ownBlock = none ∨ (Value.slice a Q[k].length c).ownBlock ≠ some g) := by
  obtain ⟨vs, h1, h2⟩ := h
  obtain ⟨u, e1, e2, e3⟩ := h2.1 k hk hk
  obtain ⟨a, c, rfl⟩ := Zv_shape e2
  have hl := World.ownsRow.lt h1 g rfl
  have h1' := h1
  rcases h1.2 with ⟨e, h0⟩ | ⟨g', cap', cur, e, _⟩
  · omega
  · simp only [Value.slice.injEq] at e
    obtain ⟨-, rfl, rfl⟩ := e
    exact ⟨a, c, by rw [h1'.cellAt k (by omega)]; exact e1, e2, h1'.frozenAt k, hl.1, hl.2, e3⟩
/-- one part turned: its cell leads to another list of its own -/
theorem OwnP.turned {w w' : World} {base g n cap k : Nat} {Q : List (List Int)} {u u' : Value} {p' : List Int} (h : OwnP w base (.slice (some ⟨g, 0, none⟩) n cap) Q) (hk : k < Q.length) (hc : w.cell? ⟨g, k, none⟩ = some u) (hg : w.grownBy w' u.ownBlock)
    (hn : w'.ownsRow base 3 1 u' p'.length (Zv p')) (hat : u'.ownBlock = u.ownBlock ∨ u'.ownBlock = some w.heap.size) : OwnP (w'.setCell ⟨g, k, none⟩ u') base (.slice (some ⟨g, 0, none⟩) n cap) (Q.set k p') := by
  obtain ⟨vs, h1, h2⟩ := h
  obtain ⟨u0, e1, e2, e3⟩ := h2.1 k hk hk
  have hl := World.ownsRow.lt h1 g rfl
  have hn' : n = Q.length := by
    rcases h1.2 with ⟨e, h0⟩ | ⟨g', cap', cur, e, _⟩
    · simp at e
    · simp only [Value.slice.injEq] at e
      exact e.2.1
  subst hn'
  have h9 := h1.cellAt k (by omega)
  rw [hc] at h9
  rw [← h9] at e1
  have := Option.some.inj e1
  subst this
  have hmore := OwnE.more (w := w) (w' := w') (g := g) (k := k) (u := u) (u' := u') (vs := vs) (ps := Q) (p' := p') h1.1 h2 hk h9.symm hg hn hat hl.2
  have hrow := h1.kept hg (.inr (fun e => by
    rcases e3 with h8 | h8
    · rw [h8] at e; cases e
    · exact h8 e.symm))
  refine ⟨vs.set k u', ?_, hmore⟩
  rw [List.length_set]
  exact (hrow.stored k u').1
/-- one part written into, its cell as it was -/
theorem OwnP.inner {w w' : World} {base g n cap k : Nat} {Q : List (List Int)} {u : Value} {p' : List Int} (h : OwnP w base (.slice (some ⟨g, 0, none⟩) n cap) Q) (hk : k < Q.length) (hc : w.cell? ⟨g, k, none⟩ = some u) (hg : w.grownBy w' u.ownBlock)
    (hn : w'.ownsRow base 3 1 u p'.length (Zv p')) : OwnP w' base (.slice (some ⟨g, 0, none⟩) n cap) (Q.set k p') := by
  obtain ⟨vs, h1, h2⟩ := h
  obtain ⟨u0, e1, e2, e3⟩ := h2.1 k hk hk
  have hl := World.ownsRow.lt h1 g rfl
  have hn' : n = Q.length := by
    rcases h1.2 with ⟨e, h0⟩ | ⟨g', cap', cur, e, _⟩
    · simp at e
    · simp only [Value.slice.injEq] at e
      exact e.2.1
  subst hn'
  have h9 := h1.cellAt k (by omega)
  rw [hc] at h9
  rw [← h9] at e1
  have := Option.some.inj e1
  subst this
  have hrow := h1.kept hg (.inr (fun e => by
    rcases e3 with h8 | h8
    · rw [h8] at e; cases e
    · exact h8 e.symm))
  refine ⟨vs, by rw [List.length_set]; exact hrow, fun i hi _ => ?_, fun i j ui uj hi hj hij f1 f2 => ?_⟩
  · rw [List.length_set] at hi
    by_cases e : i = k
    · subst e
      refine ⟨u, h9.symm, ?_, e3⟩
      rw [List.getElem_set_self]
      exact hn
    · obtain ⟨x, x1, x2, x3⟩ := h2.1 i hi hi
      refine ⟨x, x1, ?_, x3⟩
      rw [List.getElem_set_ne (by omega)]
      exact x2.kept hg (h2.2 i k x u hi hk e x1 h9.symm)
  · rw [List.length_set] at hi hj
    exact h2.2 i j ui uj hi hj hij f1 f2
end Go.Proofs.Ytcejeiakgmamdac.Wk
