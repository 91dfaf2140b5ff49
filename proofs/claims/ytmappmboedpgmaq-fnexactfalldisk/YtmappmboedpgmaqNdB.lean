/- Lists of named bytes in memory: what is read. -/
import Derived.Test.YtmappmboedpgmaqNdM
import Derived.Test.YtmappmboedpgmaqBy
import Derived.Test.YtmappmboedpgmaqStB
namespace Go.Proofs.Ytmappmboedpgmaq.Wk
set_option linter.unusedVariables false
open Go.ChangeShapes Go.WideShapes Go.ChangeAt Go.RowKit

/-- the address a leads to these named bytes: two cells each -/
def RdNd (w : World) (a : Option Addr) (l : List Nd) : Prop := ∀ i (h : i < l.length), ∃ b off ai ci, a = some ⟨b, off, none⟩ ∧ w.cell? ⟨b, off + i * 2, none⟩ = some (.string l[i].1) ∧ w.cell? ⟨b, off + i * 2 + 1, none⟩ = some (.slice ai l[i].2.length ci) ∧
  RdA w ai l[i].2 ∧ l[i].2.length ≤ ci ∧ (ai = none → ci = 0)
theorem cellNd {w w' : World} {p : Addr} {v : Value} (h : w.cell? p = some v) (hb : Below w.heap.size w w') : w'.cell? p = some v := by rw [hb.cell (World.block_lt_of_cell? w _ h)]; exact h
theorem RdNd.below {w w' : World} {a : Option Addr} {l : List Nd} (h : RdNd w a l) (hb : Below w.heap.size w w') : RdNd w' a l := by
  intro i hi
  obtain ⟨b, off, ai, ci, ha, h1, h2, h3, h4, h5⟩ := h i hi
  exact ⟨b, off, ai, ci, ha, cellNd h1 hb, cellNd h2 hb, h3.below hb, h4, h5⟩
theorem RdNd.nil (w : World) (a : Option Addr) : RdNd w a [] := fun i hi => by simp at hi
theorem RdNd.drewN {w : World} {a : Option Addr} {l : List Nd} (h : RdNd w a l) (n : Nat) : RdNd (w.drewN n) a l := h
/-- what all lists come with: short names and bytes -/
def NdSz (l : List Nd) : Prop := l.length ≤ 1048576 ∧ ∀ x ∈ l, x.1.size ≤ 9223372036854775807 ∧ x.2.length ≤ 1048576
end Go.Proofs.Ytmappmboedpgmaq.Wk
