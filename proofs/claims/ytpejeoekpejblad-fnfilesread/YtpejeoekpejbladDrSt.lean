/- What the helpers that draw stamps come to (l2Draw, l2Any): three numbers in their ranges; only the cursor is written. -/
import Derived.Test.YtpejeoekpejbladStL
import Derived.Test.YtpejeoekpejbladDrawB
namespace Go.Proofs.Ytpejeoekpejblad.Wk
set_option linter.unusedVariables false
open Go.ChangeShapes Go.WideShapes Go.ChangeAt Go.RowKit

theorem Slot.grown {w w' : World} {b C : Nat} {t q n : Int} (h : Slot w b t q n) (hg : w.grownBy w' (some C)) (hne : b ≠ C) : Slot w' b t q n := by
  have hl := h.1.lt
  obtain ⟨⟨a, c, d⟩, f0, f1, f2⟩ := h
  have hn : some b ≠ some C := by simpa using hne
  refine ⟨⟨hg.cell a (by simpa using hne), hg.cell c (by simpa using hne), hg.cell d (by simpa using hne)⟩, ?_, ?_, ?_⟩
  · rw [World.frozen?_of_block (w := w) (hg.block b hl hn)]; exact f0
  · rw [World.frozen?_of_block (w := w) (hg.block b hl hn)]; exact f1
  · rw [World.frozen?_of_block (w := w) (hg.block b hl hn)]; exact f2
theorem grownNew {w w1 : World} {r : Option Nat} {b o : Nat} (h : w.grownBy w1 r) (hb : w.heap.size ≤ b) (u : Value) : w.grownBy (w1.setCell ⟨b, o, none⟩ u) r :=
  ⟨h.os, h.tape, h.output, by simpa using h.size, fun k hk hn => (heap_setCell_other w1 ⟨b, o, none⟩ k u (fun e => by have e2 : k = b := e; omega)).trans (h.block k hk hn)⟩
theorem grownSet3 {w w1 : World} {r : Option Nat} {b : Nat} (h : w.grownBy w1 r) (hb : w.heap.size ≤ b) (u v x : Value) : w.grownBy (((w1.setCell ⟨b, 0, none⟩ u).setCell ⟨b, 1, none⟩ v).setCell ⟨b, 2, none⟩ x) r :=
  grownNew (grownNew (grownNew h hb u) hb v) hb x

theorem Cur.set {w : World} {C b o : Nat} {l : List UInt8} (hc : Cur w C l) (h : C < b) (u : Value) : Cur (w.setCell ⟨b, o, none⟩ u) C l := hc.keep (grownSet w b o u) (fun k e => by cases e; exact h)
theorem Cur.set3 {w : World} {C b : Nat} {l : List UInt8} (hc : Cur w C l) (h : C < b) (u v x : Value) : Cur (((w.setCell ⟨b, 0, none⟩ u).setCell ⟨b, 1, none⟩ v).setCell ⟨b, 2, none⟩ x) C l :=
  ((hc.set h u).set h v).set h x
theorem Slot.set0 {w : World} {b : Nat} {t q n : Int} (h : Slot w b t q n) (t' : Int) : Slot (w.setCell ⟨b, 0, none⟩ (.int .i64 t')) b t' q n := by
  obtain ⟨⟨a, c, d⟩, f0, f1, f2⟩ := h
  refine ⟨⟨World.cell?_setCell_same' _ _ _ (by rw [a]; rfl), ?_, ?_⟩, ?_, ?_, ?_⟩
  · rw [World.cell?_setCell_other _ _ _ _ (by simp)]; exact c
  · rw [World.cell?_setCell_other _ _ _ _ (by simp)]; exact d
  · rw [World.frozen?_setCell]; exact f0
  · rw [World.frozen?_setCell]; exact f1
  · rw [World.frozen?_setCell]; exact f2
theorem Slot.set1 {w : World} {b : Nat} {t q n : Int} (h : Slot w b t q n) (q' : Int) : Slot (w.setCell ⟨b, 1, none⟩ (.int .i64 q')) b t q' n := by
  obtain ⟨⟨a, c, d⟩, f0, f1, f2⟩ := h
  refine ⟨⟨?_, World.cell?_setCell_same' _ _ _ (by rw [c]; rfl), ?_⟩, ?_, ?_, ?_⟩
  · rw [World.cell?_setCell_other _ _ _ _ (by simp)]; exact a
  · rw [World.cell?_setCell_other _ _ _ _ (by simp)]; exact d
  · rw [World.frozen?_setCell]; exact f0
  · rw [World.frozen?_setCell]; exact f1
  · rw [World.frozen?_setCell]; exact f2
theorem Slot.set2 {w : World} {b : Nat} {t q n : Int} (h : Slot w b t q n) (n' : Int) : Slot (w.setCell ⟨b, 2, none⟩ (.int .i64 n')) b t q n' := by
  obtain ⟨⟨a, c, d⟩, f0, f1, f2⟩ := h
  refine ⟨⟨?_, ?_, World.cell?_setCell_same' _ _ _ (by rw [d]; rfl)⟩, ?_, ?_, ?_⟩
  · rw [World.cell?_setCell_other _ _ _ _ (by simp)]; exact a
  · rw [World.cell?_setCell_other _ _ _ _ (by simp)]; exact c
  · rw [World.frozen?_setCell]; exact f0
  · rw [World.frozen?_setCell]; exact f1
  · rw [World.frozen?_setCell]; exact f2
theorem Slot.one {w : World} {b b' o : Nat} {t q n : Int} (h : Slot w b t q n) (hne : b' ≠ b) (u : Value) : Slot (w.setCell ⟨b', o, none⟩ u) b t q n := by
  obtain ⟨⟨a, c, d⟩, f0, f1, f2⟩ := h
  have ne : ∀ j, (⟨b', o, none⟩ : Addr) ≠ ⟨b, j, none⟩ := fun j e => hne (congrArg Addr.block e)
  refine ⟨⟨?_, ?_, ?_⟩, ?_, ?_, ?_⟩
  · rw [World.cell?_setCell_other _ _ _ _ (ne _)]; exact a
  · rw [World.cell?_setCell_other _ _ _ _ (ne _)]; exact c
  · rw [World.cell?_setCell_other _ _ _ _ (ne _)]; exact d
  · rw [World.frozen?_setCell]; exact f0
  · rw [World.frozen?_setCell]; exact f1
  · rw [World.frozen?_setCell]; exact f2
theorem inL (ns : List Int) (lo hi : Int) (h : ∀ x ∈ ns, lo ≤ x ∧ x ≤ hi) (j : Nat) (hj : j < ns.length) : lo ≤ ns[j] ∧ ns[j] ≤ hi := h _ (List.getElem_mem hj)

set_option maxHeartbeats 1000000 in
set_option maxRecDepth 100000 in
theorem l2Draw (C : Nat) (l : List UInt8) (w : World) (hc : Cur w C l) :
    Calls Try.prog 48 #[.pointer (some ⟨C, 0, none⟩)] w fun e w' => ∃ t q n : Int, e = .returned (.agg #[.int .i64 t, .int .i64 q, .int .i64 n]) ∧ (0 ≤ t ∧ t ≤ 1000000000) ∧ (0 ≤ q ∧ q ≤ 2) ∧ (0 ≤ n ∧ n ≤ 2) ∧ Cur w' C l ∧ w.grownBy w' (some C) := by
  have hC := hc.lt
  have hI : RdI ((w.alloc (.cells #[.int .i64 0, .int .i64 0, .int .i64 0] 25)).alloc (.cells #[.int .i64 0, .int .i64 1, .int .i64 2, .int .i64 3, .int .i64 1000000000] 3)) (some ⟨w.heap.size + 1, 0, none⟩) [0, 1, 2, 3, 1000000000] := by
    have := rdiNew (w := w.alloc (.cells #[.int .i64 0, .int .i64 0, .int .i64 0] 25)) (t := 3) (ns := [0, 1, 2, 3, 1000000000]) (cs := #[.int .i64 0, .int .i64 1, .int .i64 2, .int .i64 3, .int .i64 1000000000]) rfl
    simpa using this
  have hc0 := hc.below (bel2 w (.cells #[.int .i64 0, .int .i64 0, .int .i64 0] 25) (.cells #[.int .i64 0, .int .i64 1, .int .i64 2, .int .i64 3, .int .i64 1000000000] 3))
  have s0 := (slotNew w 0 0 0 25).below (bel1 _ (.cells #[.int .i64 0, .int .i64 1, .int .i64 2, .int .i64 3, .int .i64 1000000000] 3))
  have hg0 : w.grownBy ((w.alloc (.cells #[.int .i64 0, .int .i64 0, .int .i64 0] 25)).alloc (.cells #[.int .i64 0, .int .i64 1, .int .i64 2, .int .i64 3, .int .i64 1000000000] 3)) (some C) := grownTrans (World.grownBy_alloc _ _ _) (World.grownBy_alloc _ _ _)
  go_enter Try.func48, Try.ntmps48
  go_wp2_with fail
  refine (l1Int C (w.heap.size + 1) 0 _ 5 l [0, 1, 2, 3, 1000000000] _ rfl hc0 (by simp) (by simp) hI (by omega)).mono ?_
  rintro e w1 ⟨j, hj, rfl, hc1, hg1⟩
  have ht := inL _ 0 1000000000 (by decide) j hj
  generalize ([0, 1, 2, 3, 1000000000] : List Int)[j] = t at ht
  clear hI hj
  have s1 := s0.grown hg1 (by omega)
  go_wp2_with fail
  refine (l1Below C l 3 _ hc1 (by omega)).mono ?_
  rintro e w2 ⟨q, rfl, hq0, hq1, -, hc2, hg2⟩
  have hq2 := hq1 (by omega)
  have s2 := s1.grown hg2 (by omega)
  clear hq1
  go_wp2_with fail
  refine (l1Below C l 3 _ hc2 (by omega)).mono ?_
  rintro e w3 ⟨n, rfl, hn0, hn1, -, hc3, hg3⟩
  have hn2 := hn1 (by omega)
  have s3 := s2.grown hg3 (by omega)
  clear hn1
  obtain ⟨⟨q0, q1, q2⟩, -⟩ := s3.set t q n
  obtain ⟨⟨d0, d1, d2⟩, g0, g1, g2⟩ := s3
  go_wp2
  have hg := grownSet3 (grownTrans (grownTrans (grownTrans hg0 hg1) hg2) hg3) (Nat.le_refl _) (.int .i64 t) (.int .i64 q) (.int .i64 n)
  have hc4 := hc3.set3 hC (.int .i64 t) (.int .i64 q) (.int .i64 n)
  exact bodyPost_ret (v := .agg #[.int .i64 t, .int .i64 q, .int .i64 n]) (by simp [results, Try.results48, go_sem, q0, q1, q2]) rfl ⟨_, _, _, rfl, ht, ⟨hq0, by omega⟩, ⟨hn0, by omega⟩, hc4, hg⟩

set_option maxHeartbeats 2000000 in
set_option maxRecDepth 100000 in
theorem l2Any (C : Nat) (l : List UInt8) (w : World) (hc : Cur w C l) :
    Calls Try.prog 38 #[.pointer (some ⟨C, 0, none⟩)] w fun e w' => ∃ t q n : Int, e = .returned (.agg #[.int .i64 t, .int .i64 q, .int .i64 n]) ∧ (-1 ≤ t ∧ t ≤ 1000000001) ∧ (-1 ≤ q ∧ q ≤ 1000001) ∧ (-1 ≤ n ∧ n ≤ 21) ∧ Cur w' C l ∧ w.grownBy w' (some C) := by
  have hC := hc.lt
  have r0 := slotNew w 0 0 0 25
  have hg0 : w.grownBy (w.alloc (.cells #[.int .i64 0, .int .i64 0, .int .i64 0] 25)) (some C) := World.grownBy_alloc _ _ _
  go_enter Try.func38, Try.ntmps38
  go_wp2_with fail
  refine (l2Draw C l _ (hc.below (bel1 _ _))).mono ?_
  rintro e w1 ⟨t, q, n, rfl, ht, hq, hn, hc1, hg1⟩
  have hz1 := hg1.size
  simp only [World.size_alloc] at hz1
  have r1 := r0.grown hg1 (by omega)
  have r2 := r1.below (bel1 _ (.cells #[.int .i64 t, .int .i64 q, .int .i64 n] 25))
  have s2 := slotNew w1 t q n 25
  have hc2 := hc1.below (bel1 _ (.cells #[.int .i64 t, .int .i64 q, .int .i64 n] 25))
  have hg2 : w1.grownBy (w1.alloc (.cells #[.int .i64 t, .int .i64 q, .int .i64 n] 25)) (some C) := World.grownBy_alloc _ _ _
  go_wp2_with fail
  refine (l1Below C l 10 _ hc2 (by omega)).mono ?_
  rintro e w3 ⟨x, rfl, hx0, hx1, -, hc3, hg3⟩
  have hx2 := hx1 (by omega)
  clear hx1
  have hz3 := hg3.size
  simp only [World.size_alloc] at hz3
  have s3 := s2.grown hg3 (by omega)
  have r3 := r2.grown hg3 (by omega)
  have hgA := grownTrans (grownTrans (grownTrans hg0 hg1) hg2) hg3
  clear hg0 hg1 hg2 hg3 r0 r1 r2 s2 hc hc1 hc2
  by_cases hk : x = 0
  · subst hk
    have hI := rdiNew (w := w3) (t := 3) (ns := [-1, 1000000001]) (cs := #[.int .i64 (-1), .int .i64 1000000001]) rfl
    have hb3 := bel1 w3 (.cells #[.int .i64 (-1), .int .i64 1000000001] 3)
    have hg3 : w3.grownBy (w3.alloc (.cells #[.int .i64 (-1), .int .i64 1000000001] 3)) (some C) := World.grownBy_alloc _ _ _
    go_wp2_with fail
    refine (l1Int C w3.heap.size 0 _ 2 l [-1, 1000000001] _ rfl (hc3.below hb3) (by simp) (by simp) hI (by omega)).mono ?_
    rintro e w4 ⟨j, hj, rfl, hc4, hg4⟩
    have hy := inL [-1, 1000000001] (-1) 1000000001 (by decide) j hj
    generalize ([-1, 1000000001] : List Int)[j] = y at hy
    clear hI hj
    have s4 := (s3.below hb3).grown hg4 (by omega)
    have r4 := (r3.below hb3).grown hg4 (by omega)
    have s5 := s4.set0 y
    have r5 := r4.one (b' := w1.heap.size) (o := 0) (by omega) (.int .i64 y)
    have hc5 := hc4.set (b := w1.heap.size) (o := 0) (by omega) (.int .i64 y)
    have hg5 := grownNew (b := w1.heap.size) (o := 0) (grownTrans (grownTrans hgA hg3) hg4) (by omega) (.int .i64 y)
    obtain ⟨⟨c0, c1, c2⟩, f0, f1, f2⟩ := id s4
    obtain ⟨⟨e0, e1, e2⟩, g0, g1, g2⟩ := id s5
    obtain ⟨⟨p0, p1, p2⟩, m0, m1, m2⟩ := id r5
    obtain ⟨⟨q0, q1, q2⟩, -⟩ := r5.set y q n
    go_wp2
    exact bodyPost_ret (v := .agg #[.int .i64 y, .int .i64 q, .int .i64 n]) (by simp [results, Try.results38, go_sem, q0, q1, q2]) rfl ⟨_, _, _, rfl, by omega, by omega, by omega, hc5.set3 hC _ _ _, grownSet3 hg5 (Nat.le_refl _) _ _ _⟩
  · by_cases hk1 : x = 1
    · subst hk1
      have hI := rdiNew (w := w3) (t := 3) (ns := [-1, 1000000, 1000001]) (cs := #[.int .i64 (-1), .int .i64 1000000, .int .i64 1000001]) rfl
      have hb3 := bel1 w3 (.cells #[.int .i64 (-1), .int .i64 1000000, .int .i64 1000001] 3)
      have hg3 : w3.grownBy (w3.alloc (.cells #[.int .i64 (-1), .int .i64 1000000, .int .i64 1000001] 3)) (some C) := World.grownBy_alloc _ _ _
      go_wp2_with fail
      refine (l1Int C w3.heap.size 0 _ 3 l [-1, 1000000, 1000001] _ rfl (hc3.below hb3) (by simp) (by simp) hI (by omega)).mono ?_
      rintro e w4 ⟨j, hj, rfl, hc4, hg4⟩
      have hy := inL [-1, 1000000, 1000001] (-1) 1000001 (by decide) j hj
      generalize ([-1, 1000000, 1000001] : List Int)[j] = y at hy
      clear hI hj
      have s4 := (s3.below hb3).grown hg4 (by omega)
      have r4 := (r3.below hb3).grown hg4 (by omega)
      have s5 := s4.set1 y
      have r5 := r4.one (b' := w1.heap.size) (o := 1) (by omega) (.int .i64 y)
      have hc5 := hc4.set (b := w1.heap.size) (o := 1) (by omega) (.int .i64 y)
      have hg5 := grownNew (b := w1.heap.size) (o := 1) (grownTrans (grownTrans hgA hg3) hg4) (by omega) (.int .i64 y)
      obtain ⟨⟨c0, c1, c2⟩, f0, f1, f2⟩ := id s4
      obtain ⟨⟨e0, e1, e2⟩, g0, g1, g2⟩ := id s5
      obtain ⟨⟨p0, p1, p2⟩, m0, m1, m2⟩ := id r5
      obtain ⟨⟨q0, q1, q2⟩, -⟩ := r5.set t y n
      go_wp2
      exact bodyPost_ret (v := .agg #[.int .i64 t, .int .i64 y, .int .i64 n]) (by simp [results, Try.results38, go_sem, q0, q1, q2]) rfl ⟨_, _, _, rfl, by omega, by omega, by omega, hc5.set3 hC _ _ _, grownSet3 hg5 (Nat.le_refl _) _ _ _⟩
    · by_cases hk2 : x = 2
      · subst hk2
        have hI := rdiNew (w := w3) (t := 3) (ns := [-1, 20, 21]) (cs := #[.int .i64 (-1), .int .i64 20, .int .i64 21]) rfl
        have hb3 := bel1 w3 (.cells #[.int .i64 (-1), .int .i64 20, .int .i64 21] 3)
        have hg3 : w3.grownBy (w3.alloc (.cells #[.int .i64 (-1), .int .i64 20, .int .i64 21] 3)) (some C) := World.grownBy_alloc _ _ _
        go_wp2_with fail
        refine (l1Int C w3.heap.size 0 _ 3 l [-1, 20, 21] _ rfl (hc3.below hb3) (by simp) (by simp) hI (by omega)).mono ?_
        rintro e w4 ⟨j, hj, rfl, hc4, hg4⟩
        have hy := inL [-1, 20, 21] (-1) 21 (by decide) j hj
        generalize ([-1, 20, 21] : List Int)[j] = y at hy
        clear hI hj
        have s4 := (s3.below hb3).grown hg4 (by omega)
        have r4 := (r3.below hb3).grown hg4 (by omega)
        have s5 := s4.set2 y
        have r5 := r4.one (b' := w1.heap.size) (o := 2) (by omega) (.int .i64 y)
        have hc5 := hc4.set (b := w1.heap.size) (o := 2) (by omega) (.int .i64 y)
        have hg5 := grownNew (b := w1.heap.size) (o := 2) (grownTrans (grownTrans hgA hg3) hg4) (by omega) (.int .i64 y)
        obtain ⟨⟨c0, c1, c2⟩, f0, f1, f2⟩ := id s4
        obtain ⟨⟨e0, e1, e2⟩, g0, g1, g2⟩ := id s5
        obtain ⟨⟨p0, p1, p2⟩, m0, m1, m2⟩ := id r5
        obtain ⟨⟨q0, q1, q2⟩, -⟩ := r5.set t q y
        go_wp2
        exact bodyPost_ret (v := .agg #[.int .i64 t, .int .i64 q, .int .i64 y]) (by simp [results, Try.results38, go_sem, q0, q1, q2]) rfl ⟨_, _, _, rfl, by omega, by omega, by omega, hc5.set3 hC _ _ _, grownSet3 hg5 (Nat.le_refl _) _ _ _⟩
      · obtain ⟨⟨c0, c1, c2⟩, f0, f1, f2⟩ := id s3
        obtain ⟨⟨p0, p1, p2⟩, m0, m1, m2⟩ := id r3
        obtain ⟨⟨q0, q1, q2⟩, -⟩ := r3.set t q n
        go_wp2
        exact bodyPost_ret (v := .agg #[.int .i64 t, .int .i64 q, .int .i64 n]) (by simp [results, Try.results38, go_sem, q0, q1, q2]) rfl ⟨_, _, _, rfl, by omega, by omega, by omega, hc3.set3 hC _ _ _, grownSet3 hgA (Nat.le_refl _) _ _ _⟩
end Go.Proofs.Ytpejeoekpejblad.Wk
