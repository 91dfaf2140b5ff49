/- What changed of the program comes to: the next disk, copied, if it has not too many names, else the one that was. -/
import Derived.Test.YtmappmboedpgmaqCdI
import Derived.Test.YtmappmboedpgmaqNeS
namespace Go.Proofs.Ytmappmboedpgmaq.Wk
set_option linter.unusedVariables false
open Go.ChangeShapes Go.WideShapes Go.ChangeAt Go.RowKit

theorem Slot2d.grown {w w' : World} {b : Nat} {u v : Value} {row : Option Nat} (h : Slot2d w b u v) (hg : w.grownBy w' row) (hne : some b ≠ row) : Slot2d w' b u v :=
  ⟨⟨hg.cell h.1.1 hne, hg.cell h.1.2 hne⟩, by rw [World.frozen?_of_block (hg.block b h.lt hne)]; exact h.2.1, by rw [World.frozen?_of_block (hg.block b h.lt hne)]; exact h.2.2⟩
set_option maxHeartbeats 4000000 in
set_option maxRecDepth 100000 in
theorem implChanged (a1 a2 b1 b2 : Option Addr) (c1 c2 d1 d2 : Nat) (l1 l2 o1 o2 : List Nd) (w : World) (h1 : l1.length ≤ 1048576) (h2 : l2.length ≤ 1048576) (h3 : o1.length ≤ 2097152) (h4 : o2.length ≤ 2097152) (z1 : ∀ x ∈ l1, x.2.length ≤ 1048576) (z2 : ∀ x ∈ l2, x.2.length ≤ 1048576)
    (z3 : ∀ x ∈ o1, x.2.length ≤ 1048576) (z4 : ∀ x ∈ o2, x.2.length ≤ 1048576) (r1 : RdNd w a1 l1) (r2 : RdNd w a2 l2) (q1 : RdNd w b1 o1) (q2 : RdNd w b2 o2) :
    Calls Try.prog 33 #[.agg #[.slice a1 l1.length c1, .slice a2 l2.length c2], .agg #[.slice b1 o1.length d1, .slice b2 o2.length d2]] w fun e w' =>
      if decide (o1.length ≤ 60) && decide (o2.length ≤ 60) then DkAns w true o1 o2 e w' else DkAns w false l1 l2 e w' := by
  have b0 := bel3 w (.cells #[.slice a1 l1.length c1, .slice a2 l2.length c2] 28) (.cells #[.slice b1 o1.length d1, .slice b2 o2.length d2] 28) (.cells #[.slice none 0 0, .slice none 0 0] 28)
  have s0 := ((slot2dNew w (.slice a1 l1.length c1) (.slice a2 l2.length c2) 28).below (bel1 _ (.cells #[.slice b1 o1.length d1, .slice b2 o2.length d2] 28))).below (bel1 _ (.cells #[.slice none 0 0, .slice none 0 0] 28))
  have s1 := (slot2dNew (w.alloc (.cells #[.slice a1 l1.length c1, .slice a2 l2.length c2] 28)) (.slice b1 o1.length d1) (.slice b2 o2.length d2) 28).below (bel1 _ (.cells #[.slice none 0 0, .slice none 0 0] 28))
  have s2 := slot2dNew ((w.alloc (.cells #[.slice a1 l1.length c1, .slice a2 l2.length c2] 28)).alloc (.cells #[.slice b1 o1.length d1, .slice b2 o2.length d2] 28)) (.slice none 0 0) (.slice none 0 0) 28
  have hsz : (((w.alloc (.cells #[.slice a1 l1.length c1, .slice a2 l2.length c2] 28)).alloc (.cells #[.slice b1 o1.length d1, .slice b2 o2.length d2] 28)).alloc (.cells #[.slice none 0 0, .slice none 0 0] 28)).heap.size = w.heap.size + 3 := by simp
  rw [World.size_alloc] at s1
  rw [World.size_alloc, World.size_alloc] at s2
  by_cases hA : o1.length ≤ 60
  · have hA1 : ¬ ((o1.length : Int) > 60) := by omega
    have hA2 : ¬ 60 < o1.length := by omega
    by_cases hB : o2.length ≤ 60
    · have hB1 : ¬ ((o2.length : Int) > 60) := by omega
      have hB2 : ¬ 60 < o2.length := by omega
      simp only [decide_eq_true hA, decide_eq_true hB, Bool.and_true, if_true]
      have cC := implCopyDk b1 b2 d1 d2 o1 o2 _ (by omega) (by omega) z3 z4 (q1.below b0) (q2.below b0)
      obtain ⟨⟨x0, x1⟩, -⟩ := id s1
      clear r1 r2 q1 q2 z1 z2 z3 z4 h1 h2
      go_enter Try.func33, Try.ntmps33
      go_wp2_with fail
      generalize ((w.alloc (.cells #[.slice a1 l1.length c1, .slice a2 l2.length c2] 28)).alloc (.cells #[.slice b1 o1.length d1, .slice b2 o2.length d2] 28)).alloc (.cells #[.slice none 0 0, .slice none 0 0] 28) = wA at *
      go_at_call 31
      refine cC.mono ?_
      rintro e w4 ⟨p1, p2, e1, e2, rfl, OD, hb4⟩
      have B4 := behind b0 hb4
      obtain ⟨⟨y0, y1⟩, y2, y3⟩ := s2.below hb4
      have DA := DkAns.mk' (w := w) (ok := true) ((OD.far (b := w.heap.size + 2) (o := 0) (u := .slice p1 o1.length e1) (by omega)).far (b := w.heap.size + 2) (o := 1) (u := .slice p2 o2.length e2) (by omega)) rfl rfl (setBelow B4 (by omega) _ _) (by omega)
      obtain ⟨z0, z1⟩ := boxSet (v1 := .slice p1 o1.length e1) (v2 := .slice p2 o2.length e2) y0 y1
      go_wp2
      exact bodyPost_ret (v := .tuple #[.agg #[.slice p1 o1.length e1, .slice p2 o2.length e2], .bool true]) (by simp [results, Try.results33, go_sem, z0, z1]) rfl DA
    · have hB1 : ((o2.length : Int) > 60) := by omega
      have hB2 : 60 < o2.length := by omega
      simp only [decide_eq_false hB, Bool.and_false, Bool.false_eq_true, if_false]
      have cC := implCopyDk a1 a2 c1 c2 l1 l2 _ h1 h2 z1 z2 (r1.below b0) (r2.below b0)
      obtain ⟨⟨x0, x1⟩, -⟩ := id s1
      obtain ⟨⟨x2, x3⟩, -⟩ := id s0
      clear r1 r2 q1 q2 z1 z2 z3 z4 h1 h2
      go_enter Try.func33, Try.ntmps33
      go_wp2_with fail
      generalize ((w.alloc (.cells #[.slice a1 l1.length c1, .slice a2 l2.length c2] 28)).alloc (.cells #[.slice b1 o1.length d1, .slice b2 o2.length d2] 28)).alloc (.cells #[.slice none 0 0, .slice none 0 0] 28) = wA at *
      go_at_call 31
      refine cC.mono ?_
      rintro e w4 ⟨p1, p2, e1, e2, rfl, OD, hb4⟩
      have B4 := behind b0 hb4
      obtain ⟨⟨y0, y1⟩, y2, y3⟩ := s2.below hb4
      have DA := DkAns.mk' (w := w) (ok := false) ((OD.far (b := w.heap.size + 2) (o := 0) (u := .slice p1 l1.length e1) (by omega)).far (b := w.heap.size + 2) (o := 1) (u := .slice p2 l2.length e2) (by omega)) rfl rfl (setBelow B4 (by omega) _ _) (by omega)
      obtain ⟨z0, z1⟩ := boxSet (v1 := .slice p1 l1.length e1) (v2 := .slice p2 l2.length e2) y0 y1
      go_wp2
      exact bodyPost_ret (v := .tuple #[.agg #[.slice p1 l1.length e1, .slice p2 l2.length e2], .bool false]) (by simp [results, Try.results33, go_sem, z0, z1]) rfl DA
  · have hA1 : ((o1.length : Int) > 60) := by omega
    have hA2 : 60 < o1.length := by omega
    simp only [decide_eq_false hA, Bool.false_and, Bool.false_eq_true, if_false]
    have cC := implCopyDk a1 a2 c1 c2 l1 l2 _ h1 h2 z1 z2 (r1.below b0) (r2.below b0)
    obtain ⟨⟨x0, x1⟩, -⟩ := id s1
    obtain ⟨⟨x2, x3⟩, -⟩ := id s0
    clear r1 r2 q1 q2 z1 z2 z3 z4 h1 h2
    go_enter Try.func33, Try.ntmps33
    go_wp2_with fail
    generalize ((w.alloc (.cells #[.slice a1 l1.length c1, .slice a2 l2.length c2] 28)).alloc (.cells #[.slice b1 o1.length d1, .slice b2 o2.length d2] 28)).alloc (.cells #[.slice none 0 0, .slice none 0 0] 28) = wA at *
    go_at_call 31
    refine cC.mono ?_
    rintro e w4 ⟨p1, p2, e1, e2, rfl, OD, hb4⟩
    have B4 := behind b0 hb4
    obtain ⟨⟨y0, y1⟩, y2, y3⟩ := s2.below hb4
    have DA := DkAns.mk' (w := w) (ok := false) ((OD.far (b := w.heap.size + 2) (o := 0) (u := .slice p1 l1.length e1) (by omega)).far (b := w.heap.size + 2) (o := 1) (u := .slice p2 l2.length e2) (by omega)) rfl rfl (setBelow B4 (by omega) _ _) (by omega)
    obtain ⟨z0, z1⟩ := boxSet (v1 := .slice p1 l1.length e1) (v2 := .slice p2 l2.length e2) y0 y1
    go_wp2
    exact bodyPost_ret (v := .tuple #[.agg #[.slice p1 l1.length e1, .slice p2 l2.length e2], .bool false]) (by simp [results, Try.results33, go_sem, z0, z1]) rfl DA
end Go.Proofs.Ytmappmboedpgmaq.Wk
