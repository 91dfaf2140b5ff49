/- Orders of a region that makes an empty list, a list of one number and a variable, and appends twice: the facts of each. -/
import Derived.Test.YtcejeiakgmamdacApZ
import Derived.Test.YtcejeiakgmamdacRbW
namespace Go.Proofs.Ytcejeiakgmamdac.Wk
set_option linter.unusedVariables false
open Go.ChangeShapes Go.WideShapes Go.ChangeAt Go.RowKit

theorem emp1 (w : World) : (w.alloc (.cells #[] 3)).drew.ownsRow w.heap.size 3 1 (.slice (some ⟨w.heap.size, 0, none⟩) 0 0) ([] : List Int).length (Zv []) := emptyB w _ (Nat.le_refl _)
theorem emp2a (w : World) (o : Obj) : ((w.alloc o).alloc (.cells #[] 3)).drew.ownsRow w.heap.size 3 1 (.slice (some ⟨w.heap.size + 1, 0, none⟩) 0 0) ([] : List Int).length (Zv []) := by
  have h := emptyB (w.alloc o) w.heap.size (by simp)
  rw [World.size_alloc] at h
  exact h
theorem emp2b (w : World) (o : Obj) : ((w.alloc (.cells #[] 3)).alloc o).drew.ownsRow w.heap.size 3 1 (.slice (some ⟨w.heap.size, 0, none⟩) 0 0) ([] : List Int).length (Zv []) := World.ownsRow.alloc (emptyB w _ (Nat.le_refl _)) o
theorem emp3a (w : World) (o o' : Obj) : (((w.alloc o).alloc o').alloc (.cells #[] 3)).drew.ownsRow w.heap.size 3 1 (.slice (some ⟨w.heap.size + 1 + 1, 0, none⟩) 0 0) ([] : List Int).length (Zv []) := by
  have h := emptyB ((w.alloc o).alloc o') w.heap.size (by simp; omega)
  rw [World.size_alloc, World.size_alloc] at h
  exact h
theorem emp3b (w : World) (o o' : Obj) : (((w.alloc o).alloc (.cells #[] 3)).alloc o').drew.ownsRow w.heap.size 3 1 (.slice (some ⟨w.heap.size + 1, 0, none⟩) 0 0) ([] : List Int).length (Zv []) := World.ownsRow.alloc (show ((w.alloc o).alloc (.cells #[] 3)).ownsRow w.heap.size 3 1 (.slice (some ⟨w.heap.size + 1, 0, none⟩) 0 0) ([] : List Int).length (Zv []) from emp2a w o) o'
theorem emp3c (w : World) (o o' : Obj) : (((w.alloc (.cells #[] 3)).alloc o).alloc o').drew.ownsRow w.heap.size 3 1 (.slice (some ⟨w.heap.size, 0, none⟩) 0 0) ([] : List Int).length (Zv []) := World.ownsRow.alloc (World.ownsRow.alloc (emptyB w _ (Nat.le_refl _)) o) o'
theorem nc0 (w : World) (z : Value) (T : TypeId) : (w.alloc (.cells #[z] T)).cell? ⟨w.heap.size, 0, none⟩ = some z ∧ (w.alloc (.cells #[z] T)).frozen? ⟨w.heap.size, 0, none⟩ = false := slot1New w z T
/-- one cell that lies at this block -/
theorem sx1 (w : World) (z : Value) (T : TypeId) : Slot1 (w.alloc (.cells #[z] T)) w.heap.size z := slot1New w z T
theorem sx2 (w : World) (o : Obj) (z : Value) (T : TypeId) : Slot1 ((w.alloc o).alloc (.cells #[z] T)) (w.heap.size + 1) z := by
  have h := slot1New (w.alloc o) z T
  rw [World.size_alloc] at h
  exact h
theorem sx3 (w : World) (o o' : Obj) (z : Value) (T : TypeId) : Slot1 (((w.alloc o).alloc o').alloc (.cells #[z] T)) (w.heap.size + 1 + 1) z := by
  have h := slot1New ((w.alloc o).alloc o') z T
  rw [World.size_alloc, World.size_alloc] at h
  exact h
theorem Slot1.al {w : World} {b : Nat} {v : Value} (h : Slot1 w b v) (o : Obj) : Slot1 (w.alloc o) b v := h.below (bel1 w o)
/-- a cell with a number is a list of one -/
theorem Slot1.rd {w : World} {b : Nat} {z : Int} (h : Slot1 w b (.int .i64 z)) : RdZ w (some ⟨b, 0, none⟩) [z] := by
  intro i hi
  have e : i = 0 := by simp at hi; omega
  subst e
  exact ⟨b, 0, rfl, h.1⟩
theorem own_farF {w : World} {base n c H : Nat} {a : Option Addr} {l : List Int} {u : Value} (ho : w.ownsRow base 3 1 (.slice a n c) n (Zv l)) (hl : l.length = n) (hk : w.cell? ⟨H, 0, none⟩ = some (.slice none 0 0)) : RdZ (w.setCell ⟨H, 0, none⟩ u) a l := by
  subst hl
  have hr := Zv_rd ho
  intro i hi
  obtain ⟨b, off, rfl, hc⟩ := hr i hi
  have hbH : b ≠ H := by
    rintro rfl
    obtain ⟨b', off', e, hc0⟩ := hr 0 (by omega)
    have h9 : off' = 0 := by
      rcases ho.2 with ⟨e9, _⟩ | ⟨g', cap', cur, e9, _⟩
      · simp at e9
      · simp only [Value.slice.injEq] at e9
        rw [e9.1] at e
        cases e
        rfl
    subst h9
    cases e
    rw [Nat.add_zero, hk] at hc0
    cases hc0
  exact ⟨b, off, rfl, by rw [World.cell?_setCell_other _ _ _ _ (fun e => hbH (congrArg Addr.block e).symm)]; exact hc⟩
end Go.Proofs.Ytcejeiakgmamdac.Wk
