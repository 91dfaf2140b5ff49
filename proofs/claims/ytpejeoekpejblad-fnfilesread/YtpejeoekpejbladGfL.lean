/- The region of GetFile of the specification in which the file is put together: what is behind it, whatever its order. -/
import Derived.Test.YtpejeoekpejbladGfS
namespace Go.Proofs.Ytpejeoekpejblad.Wk
set_option linter.unusedVariables false
open Go.ChangeShapes Go.WideShapes Go.ChangeAt Go.RowKit

/-- what is behind the region in which the file is put together: where it lies, its data in memory of its own, the result's place as it was -/
def GfR (w W : World) (T Q N : Int) (db : Bool) (data : List UInt8) (v : Value) (wx : World) : Prop := ∃ X g6 c6 : Nat, v = .pointer (some ⟨X, 0, none⟩) ∧ OwnB wx W.heap.size (.slice (some ⟨g6, 0, none⟩) data.length c6) data ∧
  Slot5f wx X (.int .i64 T) (.int .i64 Q) (.int .i64 N) (.bool db) (.slice (some ⟨g6, 0, none⟩) data.length c6) ∧ Slot5f wx w.heap.size (.int .i64 0) (.int .i64 0) (.int .i64 0) (.bool false) (.slice none 0 0) ∧ Below w.heap.size w wx

theorem gfA {w W w6 : World} {T Q N : Int} {db : Bool} {data : List UInt8} {g6 c6 : Nat} (hs : Slot5f W w.heap.size (.int .i64 0) (.int .i64 0) (.int .i64 0) (.bool false) (.slice none 0 0)) (hB : Below w.heap.size w W)
    (ho : OwnB w6 W.heap.size (.slice (some ⟨g6, 0, none⟩) data.length c6) data) (hg : (W.alloc (.cells #[] 5)).drew.grownBy w6 (some W.heap.size)) :
    GfR w W T Q N db data (.pointer (some ⟨w6.heap.size, 0, none⟩)) (w6.alloc (.cells #[.int .i64 T, .int .i64 Q, .int .i64 N, .bool db, .slice (some ⟨g6, 0, none⟩) data.length c6] 27)) := by
  have h1 := (hs.below (bel1 W (.cells #[] 5)))
  have h2 : Slot5f (W.alloc (.cells #[] 5)).drew w.heap.size (.int .i64 0) (.int .i64 0) (.int .i64 0) (.bool false) (.slice none 0 0) := h1
  have hlt := hs.lt
  have h3 := h2.grown hg (by omega)
  have k1 := (behind hB (bel1 W (.cells #[] 5))).drew
  have k2 := belowGrown k1 hg (by omega) k1.size
  exact ⟨_, g6, c6, rfl, World.ownsRow.alloc ho _, slot5fNew w6 _ _ _ _ _ _, h3.below (bel1 _ _), behind k2 (bel1 _ _)⟩
theorem gfB {w W w6 : World} {T Q N : Int} {db : Bool} {data : List UInt8} {g6 c6 : Nat} (hs : Slot5f W w.heap.size (.int .i64 0) (.int .i64 0) (.int .i64 0) (.bool false) (.slice none 0 0)) (hB : Below w.heap.size w W)
    (ho : OwnB w6 W.heap.size (.slice (some ⟨g6, 0, none⟩) data.length c6) data) (hX : Slot5f w6 (W.heap.size + 1) (.int .i64 0) (.int .i64 0) (.int .i64 0) (.bool false) (.slice none 0 0))
    (hg : ((W.alloc (.cells #[] 5)).alloc (.cells #[.int .i64 0, .int .i64 0, .int .i64 0, .bool false, .slice none 0 0] 27)).drew.grownBy w6 (some W.heap.size)) :
    GfR w W T Q N db data (.pointer (some ⟨W.heap.size + 1, 0, none⟩)) (((((w6.setCell ⟨W.heap.size + 1, 0, none⟩ (.int .i64 T)).setCell ⟨W.heap.size + 1, 1, none⟩ (.int .i64 Q)).setCell ⟨W.heap.size + 1, 2, none⟩ (.int .i64 N)).setCell ⟨W.heap.size + 1, 3, none⟩ (.bool db)).setCell ⟨W.heap.size + 1, 4, none⟩ (.slice (some ⟨g6, 0, none⟩) data.length c6)) := by
  have h1 := (hs.below (bel1 W (.cells #[] 5))).below (bel1 _ (.cells #[.int .i64 0, .int .i64 0, .int .i64 0, .bool false, .slice none 0 0] 27))
  have h2 : Slot5f ((W.alloc (.cells #[] 5)).alloc (.cells #[.int .i64 0, .int .i64 0, .int .i64 0, .bool false, .slice none 0 0] 27)).drew w.heap.size (.int .i64 0) (.int .i64 0) (.int .i64 0) (.bool false) (.slice none 0 0) := h1
  have hlt := hs.lt
  have h3 := h2.grown hg (by omega)
  have k1 := (behind (behind hB (bel1 W (.cells #[] 5))) (bel1 _ (.cells #[.int .i64 0, .int .i64 0, .int .i64 0, .bool false, .slice none 0 0] 27))).drew
  have k2 := belowGrown k1 hg (by omega) k1.size
  have hne : g6 ≠ W.heap.size + 1 := by
    intro he
    subst he
    rcases ho.2 with ⟨e1, -⟩ | ⟨g, cap, cur, e1, -, hh, -⟩
    · cases e1
    · simp only [Value.slice.injEq, Option.some.injEq, Addr.mk.injEq, and_true] at e1
      rw [← e1.1] at hh
      have e2 : (W.alloc (.cells #[] 5)).heap.size = W.heap.size + 1 := by simp
      have hb := hg.block (W.heap.size + 1) (by show W.heap.size + 1 < ((W.alloc (.cells #[] 5)).alloc _).heap.size; simp) (by simp)
      have hn : ((W.alloc (.cells #[] 5)).alloc (.cells #[.int .i64 0, .int .i64 0, .int .i64 0, .bool false, .slice none 0 0] 27)).drew.heap[W.heap.size + 1]? = some (.cells #[.int .i64 0, .int .i64 0, .int .i64 0, .bool false, .slice none 0 0] 27) := by
        rw [← e2]
        exact heap_alloc_new (W.alloc (.cells #[] 5)) _
      rw [hb, hn] at hh
      simp at hh
  have q : ∀ (w' : World) (o : Nat) (u : Value), OwnB w' W.heap.size (.slice (some ⟨g6, 0, none⟩) data.length c6) data → OwnB (w'.setCell ⟨W.heap.size + 1, o, none⟩ u) W.heap.size (.slice (some ⟨g6, 0, none⟩) data.length c6) data := fun w' o u h => ownsRow_setCell_other h (by simp [Value.ownBlock]; exact hne) u
  refine ⟨W.heap.size + 1, g6, c6, rfl, q _ _ _ (q _ _ _ (q _ _ _ (q _ _ _ (q _ _ _ ho)))), hX.set _ _ _ _ _, ?_, ?_⟩
  · exact ((((h3.other (by omega)).other (by omega)).other (by omega)).other (by omega)).other (by omega)
  · exact set5 k2 (by omega) _ _ _ _ _
theorem gfC {w W w6 : World} {T Q N : Int} {db : Bool} {data : List UInt8} {g6 c6 : Nat} (hs : Slot5f W w.heap.size (.int .i64 0) (.int .i64 0) (.int .i64 0) (.bool false) (.slice none 0 0)) (hB : Below w.heap.size w W)
    (ho : OwnB w6 (W.heap.size + 1) (.slice (some ⟨g6, 0, none⟩) data.length c6) data) (hX : Slot5f w6 W.heap.size (.int .i64 0) (.int .i64 0) (.int .i64 0) (.bool false) (.slice none 0 0))
    (hg : ((W.alloc (.cells #[.int .i64 0, .int .i64 0, .int .i64 0, .bool false, .slice none 0 0] 27)).alloc (.cells #[] 5)).drew.grownBy w6 (some (W.heap.size + 1))) :
    GfR w W T Q N db data (.pointer (some ⟨W.heap.size, 0, none⟩)) (((((w6.setCell ⟨W.heap.size, 0, none⟩ (.int .i64 T)).setCell ⟨W.heap.size, 1, none⟩ (.int .i64 Q)).setCell ⟨W.heap.size, 2, none⟩ (.int .i64 N)).setCell ⟨W.heap.size, 3, none⟩ (.bool db)).setCell ⟨W.heap.size, 4, none⟩ (.slice (some ⟨g6, 0, none⟩) data.length c6)) := by
  have h1 := (hs.below (bel1 W (.cells #[.int .i64 0, .int .i64 0, .int .i64 0, .bool false, .slice none 0 0] 27))).below (bel1 _ (.cells #[] 5))
  have h2 : Slot5f ((W.alloc (.cells #[.int .i64 0, .int .i64 0, .int .i64 0, .bool false, .slice none 0 0] 27)).alloc (.cells #[] 5)).drew w.heap.size (.int .i64 0) (.int .i64 0) (.int .i64 0) (.bool false) (.slice none 0 0) := h1
  have hlt := hs.lt
  have h3 := h2.grown hg (by omega)
  have k1 := (behind (behind hB (bel1 W (.cells #[.int .i64 0, .int .i64 0, .int .i64 0, .bool false, .slice none 0 0] 27))) (bel1 _ (.cells #[] 5))).drew
  have k2 := belowGrown k1 hg (by omega) k1.size
  have q : ∀ (w' : World) (o : Nat) (u : Value), OwnB w' (W.heap.size + 1) (.slice (some ⟨g6, 0, none⟩) data.length c6) data → OwnB (w'.setCell ⟨W.heap.size, o, none⟩ u) (W.heap.size + 1) (.slice (some ⟨g6, 0, none⟩) data.length c6) data := fun w' o u h => ownsRow_setCell_below h (by show W.heap.size < W.heap.size + 1; omega) u
  refine ⟨W.heap.size, g6, c6, rfl, World.ownsRow.mono (q _ _ _ (q _ _ _ (q _ _ _ (q _ _ _ (q _ _ _ ho))))) (by omega), hX.set _ _ _ _ _, ?_, ?_⟩
  · exact ((((h3.other (by omega)).other (by omega)).other (by omega)).other (by omega)).other (by omega)
  · exact set5 k2 (by omega) _ _ _ _ _

end Go.Proofs.Ytpejeoekpejblad.Wk
