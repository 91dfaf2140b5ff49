/- Stamps in memory: in a slice, in a slot of the call's own. -/
import Derived.Test.YtpejeoekpejbladStB
namespace Go.Proofs.Ytpejeoekpejblad.Wk
set_option linter.unusedVariables false
open Go.ChangeShapes Go.WideShapes Go.ChangeAt Go.RowKit

/-- from this cell on lie the three numbers of s -/
def StAt (w : World) (b o : Nat) (s : Sm.St) : Prop := w.cell? ⟨b, o, none⟩ = some (.int .i64 s.1) ∧ w.cell? ⟨b, o + 1, none⟩ = some (.int .i64 s.2.1) ∧ w.cell? ⟨b, o + 2, none⟩ = some (.int .i64 s.2.2)
theorem StAt.lt {w : World} {b o : Nat} {s : Sm.St} (h : StAt w b o s) : b < w.heap.size := World.block_lt_of_cell? w _ h.1
theorem StAt.below {w w' : World} {b o : Nat} {s : Sm.St} (h : StAt w b o s) (hb : Below w.heap.size w w') : StAt w' b o s := by
  have hl := h.lt
  exact ⟨by rw [hb.cell (p := ⟨b, o, none⟩) hl]; exact h.1, by rw [hb.cell (p := ⟨b, o + 1, none⟩) hl]; exact h.2.1, by rw [hb.cell (p := ⟨b, o + 2, none⟩) hl]; exact h.2.2⟩
theorem StAt.drew {w : World} {b o : Nat} {s : Sm.St} (h : StAt w b o s) : StAt w.drew b o s := h
/-- the address a leads to the stamps l -/
def RdS (w : World) (a : Option Addr) (l : List Sm.St) : Prop := ∀ i (h : i < l.length), ∃ b off, a = some ⟨b, off, none⟩ ∧ StAt w b (off + i * 3) l[i]
theorem RdS.below {w w' : World} {a : Option Addr} {l : List Sm.St} (h : RdS w a l) (hb : Below w.heap.size w w') : RdS w' a l := by
  intro i hi
  obtain ⟨b, off, ha, hc⟩ := h i hi
  exact ⟨b, off, ha, hc.below hb⟩
theorem ownOn {w w' : World} {base e size n : Nat} {v : Value} {xs : List Value} (h : w.ownsRow base e size v n xs) (hb : Below w.heap.size w w') : w'.ownsRow base e size v n xs :=
  h.kept ⟨hb.os, hb.tape, hb.output, hb.size, fun k hk _ => hb.block k hk⟩ (row := none) (by cases v.ownBlock <;> simp)
theorem StAt.on {w : World} {b o : Nat} {s : Sm.St} (h : StAt w b o s) : (∀ p, (w.alloc p).cell? ⟨b, o, none⟩ = some (.int .i64 s.1)) ∧ (∀ p, (w.alloc p).cell? ⟨b, o + 1, none⟩ = some (.int .i64 s.2.1)) ∧ (∀ p, (w.alloc p).cell? ⟨b, o + 2, none⟩ = some (.int .i64 s.2.2)) :=
  ⟨fun p => (h.below (bel1 w p)).1, fun p => (h.below (bel1 w p)).2.1, fun p => (h.below (bel1 w p)).2.2⟩

/-- block b holds these three numbers, and may be written -/
def Slot (w : World) (b : Nat) (t q n : Int) : Prop := Box w b t q n ∧ w.frozen? ⟨b, 0, none⟩ = false ∧ w.frozen? ⟨b, 1, none⟩ = false ∧ w.frozen? ⟨b, 2, none⟩ = false
theorem Slot.below {w w' : World} {b : Nat} {t q n : Int} (h : Slot w b t q n) (hb : Below w.heap.size w w') : Slot w' b t q n := by
  have hl := h.1.lt
  exact ⟨h.1.below hb, by rw [hb.frozen (p := ⟨b, 0, none⟩) hl]; exact h.2.1, by rw [hb.frozen (p := ⟨b, 1, none⟩) hl]; exact h.2.2.1, by rw [hb.frozen (p := ⟨b, 2, none⟩) hl]; exact h.2.2.2⟩
theorem slotNew (w : World) (t q n : Int) (T : TypeId) : Slot (w.alloc (.cells #[.int .i64 t, .int .i64 q, .int .i64 n] T)) w.heap.size t q n :=
  ⟨boxNew w t q n T, World.frozen?_alloc_at _ _ _ _ rfl, World.frozen?_alloc_at _ _ _ _ rfl, World.frozen?_alloc_at _ _ _ _ rfl⟩
theorem Slot.drew {w : World} {b : Nat} {t q n : Int} (h : Slot w b t q n) : Slot w.drew b t q n := h
theorem Slot.drewN {w : World} {b : Nat} {t q n : Int} (h : Slot w b t q n) (m : Nat) : Slot (w.drewN m) b t q n := h
theorem Slot.set {w : World} {b : Nat} {t q n : Int} (h : Slot w b t q n) (t' q' n' : Int) :
    Slot (((w.setCell ⟨b, 0, none⟩ (.int .i64 t')).setCell ⟨b, 1, none⟩ (.int .i64 q')).setCell ⟨b, 2, none⟩ (.int .i64 n')) b t' q' n' := by
  obtain ⟨⟨a, c, d⟩, f0, f1, f2⟩ := h
  refine ⟨⟨?_, ?_, ?_⟩, ?_, ?_, ?_⟩
  · rw [World.cell?_setCell_other _ _ _ _ (by simp), World.cell?_setCell_other _ _ _ _ (by simp)]; exact World.cell?_setCell_same' _ _ _ (by rw [a]; rfl)
  · rw [World.cell?_setCell_other _ _ _ _ (by simp)]; exact World.cell?_setCell_same' _ _ _ (by rw [World.cell?_setCell_other _ _ _ _ (by simp), c]; rfl)
  · exact World.cell?_setCell_same' _ _ _ (by rw [World.cell?_setCell_other _ _ _ _ (by simp), World.cell?_setCell_other _ _ _ _ (by simp), d]; rfl)
  · rw [World.frozen?_setCell, World.frozen?_setCell, World.frozen?_setCell]; exact f0
  · rw [World.frozen?_setCell, World.frozen?_setCell, World.frozen?_setCell]; exact f1
  · rw [World.frozen?_setCell, World.frozen?_setCell, World.frozen?_setCell]; exact f2
theorem Slot.other {w : World} {b b' : Nat} {t q n : Int} (h : Slot w b t q n) (hne : b' ≠ b) (u v x : Value) :
    Slot (((w.setCell ⟨b', 0, none⟩ u).setCell ⟨b', 1, none⟩ v).setCell ⟨b', 2, none⟩ x) b t q n := by
  obtain ⟨⟨a, c, d⟩, f0, f1, f2⟩ := h
  have ne : ∀ i j, (⟨b', i, none⟩ : Addr) ≠ ⟨b, j, none⟩ := fun i j e => hne (congrArg Addr.block e)
  refine ⟨⟨?_, ?_, ?_⟩, ?_, ?_, ?_⟩
  · rw [World.cell?_setCell_other _ _ _ _ (ne _ _), World.cell?_setCell_other _ _ _ _ (ne _ _), World.cell?_setCell_other _ _ _ _ (ne _ _)]; exact a
  · rw [World.cell?_setCell_other _ _ _ _ (ne _ _), World.cell?_setCell_other _ _ _ _ (ne _ _), World.cell?_setCell_other _ _ _ _ (ne _ _)]; exact c
  · rw [World.cell?_setCell_other _ _ _ _ (ne _ _), World.cell?_setCell_other _ _ _ _ (ne _ _), World.cell?_setCell_other _ _ _ _ (ne _ _)]; exact d
  · rw [World.frozen?_setCell, World.frozen?_setCell, World.frozen?_setCell]; exact f0
  · rw [World.frozen?_setCell, World.frozen?_setCell, World.frozen?_setCell]; exact f1
  · rw [World.frozen?_setCell, World.frozen?_setCell, World.frozen?_setCell]; exact f2
end Go.Proofs.Ytpejeoekpejblad.Wk
