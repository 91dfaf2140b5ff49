/- Small facts for the walks over stamps: endings, new memory. -/
import Derived.Test.YtmappmboedpgmaqRows
import Derived.Test.YtmappmboedpgmaqStM
import Derived.WalkKit
import Derived.ProofKit
import Derived.Below
import Derived.BigQuiet
import Derived.Deep.QuietTactic
import Derived.Deep.RegionWith
import Derived.WalkLawsBesides
import Derived.Outline
namespace Go.Proofs.Ytmappmboedpgmaq.Wk
set_option linter.unusedVariables false
open Go.ChangeShapes Go.WideShapes Go.ChangeAt Go.RowKit

theorem ret_bool {a b : Bool} (h : a = b) : Ending.returned (.bool a) = .returned (.bool b) := by rw [h]
theorem bel1 (w : World) (o : Obj) : Below w.heap.size w (w.alloc o) := (Below.refl _ _).alloc (Nat.le_refl _) _
theorem bel2 (w : World) (o p : Obj) : Below w.heap.size w ((w.alloc o).alloc p) := (bel1 w o).alloc (by simp) _

theorem bel3 (w : World) (o p r : Obj) : Below w.heap.size w (((w.alloc o).alloc p).alloc r) := (bel2 w o p).alloc (by simp; omega) _
theorem after1 {w w1 : World} {o : Obj} (hb : Below (w.alloc o).drew.heap.size (w.alloc o).drew w1) : Below w.heap.size w w1 :=
  (bel1 w o).drew.trans (hb.mono (show w.heap.size ≤ (w.alloc o).heap.size by simp))
theorem set3 {w w1 : World} {b o : Nat} {u v x : Value} (h : Below w.heap.size w w1) (hb : w.heap.size ≤ b) : Below w.heap.size w (((w1.setCell ⟨b, o, none⟩ u).setCell ⟨b, o + 1, none⟩ v).setCell ⟨b, o + 2, none⟩ x) :=
  ((h.setCell hb _).setCell hb _).setCell hb _
theorem behind {w w1 w2 : World} (h : Below w.heap.size w w1) (k : Below w1.heap.size w1 w2) : Below w.heap.size w w2 := h.trans (k.mono h.size)
theorem bcell {W w1 : World} (hb : Below W.heap.size W w1) : (∀ b o, b < W.heap.size → w1.cell? ⟨b, o, none⟩ = W.cell? ⟨b, o, none⟩) ∧ (∀ b o, b < W.heap.size → w1.frozen? ⟨b, o, none⟩ = W.frozen? ⟨b, o, none⟩) :=
  ⟨fun b o h => hb.cell (p := ⟨b, o, none⟩) h, fun b o h => hb.frozen (p := ⟨b, o, none⟩) h⟩

/-- block b holds these three numbers -/
def Box (w : World) (b : Nat) (t q n : Int) : Prop := w.cell? ⟨b, 0, none⟩ = some (.int .i64 t) ∧ w.cell? ⟨b, 1, none⟩ = some (.int .i64 q) ∧ w.cell? ⟨b, 2, none⟩ = some (.int .i64 n)
theorem Box.lt {w : World} {b : Nat} {t q n : Int} (h : Box w b t q n) : b < w.heap.size := World.block_lt_of_cell? w _ h.1
theorem Box.below {w w' : World} {b : Nat} {t q n : Int} (h : Box w b t q n) (hb : Below w.heap.size w w') : Box w' b t q n := by
  have hl := h.lt
  exact ⟨by rw [hb.cell (p := ⟨b, 0, none⟩) hl]; exact h.1, by rw [hb.cell (p := ⟨b, 1, none⟩) hl]; exact h.2.1, by rw [hb.cell (p := ⟨b, 2, none⟩) hl]; exact h.2.2⟩
theorem Box.drew {w : World} {b : Nat} {t q n : Int} (h : Box w b t q n) : Box w.drew b t q n := h
theorem boxNew (w : World) (t q n : Int) (T : TypeId) : Box (w.alloc (.cells #[.int .i64 t, .int .i64 q, .int .i64 n] T)) w.heap.size t q n :=
  ⟨by rw [World.cell?_alloc_at _ _ _ _ rfl]; rfl, by rw [World.cell?_alloc_at _ _ _ _ rfl]; rfl, by rw [World.cell?_alloc_at _ _ _ _ rfl]; rfl⟩
/-- what is in a box is there behind a new block, too -/
theorem Box.on {w : World} {b : Nat} {t q n : Int} (h : Box w b t q n) : (∀ o, (w.alloc o).cell? ⟨b, 0, none⟩ = some (.int .i64 t)) ∧ (∀ o, (w.alloc o).cell? ⟨b, 1, none⟩ = some (.int .i64 q)) ∧ (∀ o, (w.alloc o).cell? ⟨b, 2, none⟩ = some (.int .i64 n)) :=
  ⟨fun o => (h.below (bel1 w o)).1, fun o => (h.below (bel1 w o)).2.1, fun o => (h.below (bel1 w o)).2.2⟩
end Go.Proofs.Ytmappmboedpgmaq.Wk
