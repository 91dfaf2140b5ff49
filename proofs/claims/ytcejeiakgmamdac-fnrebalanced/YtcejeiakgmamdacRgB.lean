/- Lists of lists of numbers in memory: the parts of a ring. -/
import Derived.Test.YtcejeiakgmamdacZnM
import Derived.Test.YtcejeiakgmamdacStB
import Derived.Laws.OwnMore
namespace Go.Proofs.Ytcejeiakgmamdac.Wk
set_option linter.unusedVariables false
open Go.ChangeShapes Go.WideShapes Go.ChangeAt Go.RowKit

theorem infoPt : (Try.prog.info? 36).map (fun i => (i.zero, i.size, i.bytes)) = some (some (.agg #[.slice none 0 0]), 1, 24) := by kernel_rfl
/-- the address a leads to these lists of numbers -/
def RdP (w : World) (a : Option Addr) (ps : List (List Int)) : Prop := ∀ i (h : i < ps.length), ∃ b off ai ci, a = some ⟨b, off, none⟩ ∧ w.cell? ⟨b, off + i, none⟩ = some (.slice ai ps[i].length ci) ∧ RdZ w ai ps[i] ∧ ps[i].length ≤ ci
theorem cellOn {w w' : World} {b o : Nat} {v : Value} (h : w.cell? ⟨b, o, none⟩ = some v) (hb : Below w.heap.size w w') : w'.cell? ⟨b, o, none⟩ = some v := by
  rw [hb.cell (p := ⟨b, o, none⟩) (World.block_lt_of_cell? w _ h)]; exact h
theorem keepR2 {w w' : World} {a1 a2 : Addr} {v1 v2 : Value} (h : w.cell? a1 = some v1 ∧ w.cell? a2 = some v2) (hb : Below w.heap.size w w') : w'.cell? a1 = some v1 ∧ w'.cell? a2 = some v2 :=
  ⟨by rw [hb.cell (World.block_lt_of_cell? w _ h.1)]; exact h.1, by rw [hb.cell (World.block_lt_of_cell? w _ h.2)]; exact h.2⟩
theorem keepR3 {w w' : World} {a1 a2 a3 : Addr} {v1 v2 v3 : Value} (h : w.cell? a1 = some v1 ∧ w.cell? a2 = some v2 ∧ w.cell? a3 = some v3) (hb : Below w.heap.size w w') : w'.cell? a1 = some v1 ∧ w'.cell? a2 = some v2 ∧ w'.cell? a3 = some v3 :=
  ⟨by rw [hb.cell (World.block_lt_of_cell? w _ h.1)]; exact h.1, keepR2 h.2 hb⟩
theorem keepR4 {w w' : World} {a1 a2 a3 a4 : Addr} {v1 v2 v3 v4 : Value} (h : w.cell? a1 = some v1 ∧ w.cell? a2 = some v2 ∧ w.cell? a3 = some v3 ∧ w.cell? a4 = some v4) (hb : Below w.heap.size w w') :
    w'.cell? a1 = some v1 ∧ w'.cell? a2 = some v2 ∧ w'.cell? a3 = some v3 ∧ w'.cell? a4 = some v4 :=
  ⟨by rw [hb.cell (World.block_lt_of_cell? w _ h.1)]; exact h.1, by rw [hb.cell (World.block_lt_of_cell? w _ h.2.1)]; exact h.2.1, keepR2 h.2.2 hb⟩
theorem RdP.below {w w' : World} {a : Option Addr} {ps : List (List Int)} (h : RdP w a ps) (hb : Below w.heap.size w w') : RdP w' a ps := by
  intro i hi
  obtain ⟨b, off, ai, ci, ha, hc, hr, hci⟩ := h i hi
  exact ⟨b, off, ai, ci, ha, cellOn hc hb, hr.below hb, hci⟩
theorem RdP.drew {w : World} {a : Option Addr} {ps : List (List Int)} (h : RdP w a ps) : RdP w.drew a ps := h
theorem RdP.drewN {w : World} {a : Option Addr} {ps : List (List Int)} (h : RdP w a ps) (n : Nat) : RdP (w.drewN n) a ps := h
theorem RdZ.take {w : World} {a : Option Addr} {l : List Int} (h : RdZ w a l) (k : Nat) : RdZ w a (l.take k) := by
  intro i hi
  rw [List.length_take] at hi
  obtain ⟨b, off, ha, hc⟩ := h i (by omega)
  exact ⟨b, off, ha, by rw [List.getElem_take]; exact hc⟩
theorem RdZ.far {w : World} {a : Option Addr} {l : List Int} {b o : Nat} {u : Value} (h : RdZ w a l) (hb : ∀ x, a = some x → x.block ≠ b) : RdZ (w.setCell ⟨b, o, none⟩ u) a l := by
  intro i hi
  obtain ⟨b', off, ha, hc⟩ := h i hi
  exact ⟨b', off, ha, by rw [World.cell?_setCell_other _ _ _ _ (fun e => hb _ ha (congrArg Addr.block e).symm)]; exact hc⟩
/-- one cell that may be written -/
def Slot1 (w : World) (b : Nat) (v : Value) : Prop := w.cell? ⟨b, 0, none⟩ = some v ∧ w.frozen? ⟨b, 0, none⟩ = false
theorem Slot1.lt {w : World} {b : Nat} {v : Value} (h : Slot1 w b v) : b < w.heap.size := World.block_lt_of_cell? w _ h.1
theorem Slot1.below {w w' : World} {b : Nat} {v : Value} (h : Slot1 w b v) (hb : Below w.heap.size w w') : Slot1 w' b v :=
  ⟨cellOn h.1 hb, by rw [hb.frozen (p := ⟨b, 0, none⟩) h.lt]; exact h.2⟩
theorem slot1New (w : World) (v : Value) (T : TypeId) : Slot1 (w.alloc (.cells #[v] T)) w.heap.size v :=
  ⟨by rw [World.cell?_alloc_at _ _ _ _ rfl]; rfl, World.frozen?_alloc_at _ _ _ _ rfl⟩
/-- two cells that may be written: a ring's -/
def Slot2 (w : World) (b : Nat) (u v : Value) : Prop := (w.cell? ⟨b, 0, none⟩ = some u ∧ w.cell? ⟨b, 1, none⟩ = some v) ∧ w.frozen? ⟨b, 0, none⟩ = false ∧ w.frozen? ⟨b, 1, none⟩ = false
theorem Slot2.lt {w : World} {b : Nat} {u v : Value} (h : Slot2 w b u v) : b < w.heap.size := World.block_lt_of_cell? w _ h.1.1
theorem Slot2.below {w w' : World} {b : Nat} {u v : Value} (h : Slot2 w b u v) (hb : Below w.heap.size w w') : Slot2 w' b u v :=
  ⟨⟨cellOn h.1.1 hb, cellOn h.1.2 hb⟩, by rw [hb.frozen (p := ⟨b, 0, none⟩) h.lt]; exact h.2.1, by rw [hb.frozen (p := ⟨b, 1, none⟩) h.lt]; exact h.2.2⟩
theorem slot2New (w : World) (u v : Value) (T : TypeId) : Slot2 (w.alloc (.cells #[u, v] T)) w.heap.size u v :=
  ⟨⟨by rw [World.cell?_alloc_at _ _ _ _ rfl]; rfl, by rw [World.cell?_alloc_at _ _ _ _ rfl]; rfl⟩, World.frozen?_alloc_at _ _ _ _ rfl, World.frozen?_alloc_at _ _ _ _ rfl⟩
theorem Slot2.on {w : World} {b : Nat} {u v : Value} (h : Slot2 w b u v) : (∀ p, (w.alloc p).cell? ⟨b, 0, none⟩ = some u) ∧ (∀ p, (w.alloc p).cell? ⟨b, 1, none⟩ = some v) :=
  ⟨fun p => (h.below (bel1 w p)).1.1, fun p => (h.below (bel1 w p)).1.2⟩
end Go.Proofs.Ytcejeiakgmamdac.Wk
