/- append of one row of a name and its bytes to a list of one's own. -/
import Derived.Test.YtmappmboedpgmaqRwO
import Derived.Test.YtmappmboedpgmaqDmS
import Derived.Deep.AppendLies
namespace Go.Proofs.Ytmappmboedpgmaq.Wk
set_option linter.unusedVariables false
open Go.ChangeShapes Go.WideShapes Go.ChangeAt Go.RowKit

theorem wpList_appR (w : World) {ops : Array Oper} {rest : List Oper} {o : Oper} {a : Act} {Q : Exit → Act → World → Prop} (hgd : o.guard = none) (s x : Operand)
    (ho : o.op = .call { callee := .builtin .append, args := #[s, x], argTypes := #[26, 26] })
    (base : Nat) (v : Value) (rs : List Rw) (hs : a.eval s = v) (hown : w.ownsRow base 57 2 v rs.length (csR rs)) (ad : Addr) (c : Nat) (r : Rw) (hx : a.eval x = .slice (some ad) 1 c)
    (hnews : ∀ j u, [Value.string r.1, r.2.1][j]? = some u → w.cell? (ad.add j) = some u) (hone : ∃ a n c, r.2.1 = .slice a n c) (hl : rs.length ≤ 4194304) (hbase : base ≤ w.heap.size) (H : Nat) (hH : w.heap.size = H)
    (h : ∀ g cap w', w'.ownsRow base 57 2 (.slice (some ⟨g, 0, none⟩) (rs.length + 1) cap) (rs ++ [r]).length (csR (rs ++ [r])) → w.grownBy w' v.ownBlock → (v.ownBlock = some g ∨ g = H) →
      wpList Try.prog ops Q rest (a.put o.dst (.slice (some ⟨g, 0, none⟩) (rs.length + 1) cap)) w') : wpList Try.prog ops Q (o :: rest) a w := by
  obtain ⟨i0, hi0, hz0, hz1, hz2⟩ := info_parts infoNd
  obtain ⟨a1, n1, c1, e1⟩ := hone
  refine wpList_append_lies w hgd s x 26 ho base 57 i0 _ 2 40 Try.underlying26 hi0 hz0 hz1 hz2 rfl (by decide) v rs.length (csR rs) hs hown ad 1 c [.string r.1, r.2.1] hx rfl hnews (by rw [e1]; exact two_one _ _ _ _) (by omega) (by unfold maxLen; omega) (by omega) hbase H hH ?_
  intro g cap w' h1 h2 h3 h4
  refine h g cap w' ?_ h2 h3
  rw [csR_snoc, List.length_append]
  exact h1
theorem rdV_shape {w : World} {u : Value} {p : List UInt8} (h : RdV w u p) : ∃ a n c, u = .slice a n c := let ⟨a, c, e, _⟩ := h; ⟨a, _, c, e⟩

/-- a list in the making: its rows are its own, apart from the box g and from the bytes of x -/
def PInv (w : World) (x : Rw) (g : Nat) (q : Value) (o : List Rw) (wr : World) : Prop :=
  wr.ownsRow w.heap.size 57 2 q o.length (csR o) ∧ Apart q x.2.1 ∧ q.ownBlock ≠ some g ∧ OwnB wr w.heap.size x.2.1 x.2.2 ∧ (wr.cell? ⟨g, 0, none⟩ = some (.string x.1) ∧ wr.cell? ⟨g, 1, none⟩ = some x.2.1) ∧ Below w.heap.size w wr
theorem PInv.app {w wr w' : World} {x r : Rw} {g g' n cap : Nat} {q : Value} {o : List Rw} {ob : Obj} (h : PInv w x g q o wr) (hg : (wr.alloc ob).grownBy w' q.ownBlock) (hat : q.ownBlock = some g' ∨ g' = wr.heap.size + 1)
    (hown : w'.ownsRow w.heap.size 57 2 (.slice (some ⟨g', 0, none⟩) n cap) (o ++ [r]).length (csR (o ++ [r]))) : PInv w x g (.slice (some ⟨g', 0, none⟩) n cap) (o ++ [r]) w' := by
  obtain ⟨h1, h2, h3, h4, ⟨h5, h6⟩, h7⟩ := h
  have hb := bel1 wr ob
  have lq := World.ownsRow.lt h1
  have lu := World.ownsRow.lt h4
  have lg := World.block_lt_of_cell? wr _ h5
  have hs : (wr.alloc ob).heap.size = wr.heap.size + 1 := World.size_alloc _ _
  refine ⟨hown, ?_, ?_, World.ownsRow.kept (ownBelow h4 hb) hg h2.symm, ⟨hg.cell (cellNd h5 hb) (fun e => h3 e.symm), hg.cell (cellNd h6 hb) (fun e => h3 e.symm)⟩, ?_⟩
  · rcases hat with e | e
    · have : (Value.slice (some ⟨g', 0, none⟩) n cap).ownBlock = q.ownBlock := e.symm
      unfold Apart at *
      rw [this]
      exact h2
    · refine .inr (fun e' => ?_)
      have : some g' = x.2.1.ownBlock := e'
      have := (lu g' this.symm).2
      omega
  · rcases hat with e | e
    · rw [← show q.ownBlock = (Value.slice (some ⟨g', 0, none⟩) n cap).ownBlock from e]; exact h3
    · intro e'
      have : g' = g := by simpa [Value.ownBlock] using e'
      have : g < wr.heap.size := lg
      omega
  · exact (behind h7 hb).grown hg (by rw [hs]; have := h7.size; omega) (fun j e => (lq j e).1)
end Go.Proofs.Ytmappmboedpgmaq.Wk
