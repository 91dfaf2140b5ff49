/- What copyDisk of the program comes to. -/
import Derived.Test.YtmappmboedpgmaqCfI
import Derived.Test.YtmappmboedpgmaqDnS
import Derived.BigRegion
import Derived.Deep.RegionHeld3
namespace Go.Proofs.Ytmappmboedpgmaq.Wk
set_option linter.unusedVariables false
open Go.ChangeShapes Go.WideShapes Go.ChangeAt Go.RowKit

set_option maxHeartbeats 4000000 in
set_option maxRecDepth 100000 in
theorem implCopyDk (a1 a2 : Option Addr) (c1 c2 : Nat) (l1 l2 : List Nd) (w : World) (h1 : l1.length ≤ 1048576) (h2 : l2.length ≤ 1048576) (z1 : ∀ x ∈ l1, x.2.length ≤ 1048576) (z2 : ∀ x ∈ l2, x.2.length ≤ 1048576) (r1 : RdNd w a1 l1) (r2 : RdNd w a2 l2) :
    Calls Try.prog 31 #[.agg #[.slice a1 l1.length c1, .slice a2 l2.length c2]] w fun e w' => ∃ (b1 b2 : Option Addr) (d1 d2 : Nat), e = .returned (.agg #[.slice b1 l1.length d1, .slice b2 l2.length d2]) ∧
      OwnDk w' w.heap.size (.slice b1 l1.length d1) (.slice b2 l2.length d2) l1 l2 ∧ Below w.heap.size w w' := by
  have b0 := bel2 w (.cells #[.slice a1 l1.length c1, .slice a2 l2.length c2] 28) (.cells #[.slice none 0 0, .slice none 0 0] 28)
  have s0 := (slot2dNew w (.slice a1 l1.length c1) (.slice a2 l2.length c2) 28).below (bel1 _ (.cells #[.slice none 0 0, .slice none 0 0] 28))
  have r0 := slot2dNew (w.alloc (.cells #[.slice a1 l1.length c1, .slice a2 l2.length c2] 28)) (.slice none 0 0) (.slice none 0 0) 28
  have hsz : ((w.alloc (.cells #[.slice a1 l1.length c1, .slice a2 l2.length c2] 28)).alloc (.cells #[.slice none 0 0, .slice none 0 0] 28)).heap.size = w.heap.size + 2 := by simp
  rw [World.size_alloc] at r0
  have rA1 := r1.below b0
  have rA2 := r2.below b0
  go_enter Try.func31, Try.ntmps31
  go_wp2_with fail
  generalize (w.alloc (.cells #[.slice a1 l1.length c1, .slice a2 l2.length c2] 28)).alloc (.cells #[.slice none 0 0, .slice none 0 0] 28) = wA at *
  have cA1 := implCopyFiles a1 c1 l1 wA.drew h1 z1 rA1
  have cB2 : ∀ w3, Below wA.drew.heap.size wA.drew w3 → _ := fun w3 hb => implCopyFiles a2 c2 l2 w3 h2 z2 (RdNd.below (show RdNd wA.drew a2 l2 from rA2) hb)
  obtain ⟨⟨x0, x1⟩, -⟩ := id s0
  have rB : ∀ w3, Below wA.drew.heap.size wA.drew w3 → Slot2d w3 (w.heap.size + 1) (.slice none 0 0) (.slice none 0 0) := fun w3 hb => Slot2d.below (show Slot2d wA.drew _ _ _ from r0) hb
  have bD : Below w.heap.size w wA.drew := b0.drew
  have hsd : w.heap.size + 2 ≤ wA.drew.heap.size := Nat.le_of_eq hsz.symm
  clear s0 r0 rA1 rA2 r1 r2 b0 z1 z2 hsz
  have FIN : Hid (∀ (w4 : World) (p1 p2 : Option Addr) (q1 q2 : Nat), w4.cell? ⟨w.heap.size + 1, 0, none⟩ = some (.slice none 0 0) → w4.cell? ⟨w.heap.size + 1, 1, none⟩ = some (.slice none 0 0) → OwnDk w4 wA.drew.heap.size (.slice p1 l1.length q1) (.slice p2 l2.length q2) l1 l2 → Below w.heap.size w w4 →
      (let W := (w4.setCell ⟨w.heap.size + 1, 0, none⟩ (.slice p1 l1.length q1)).setCell ⟨w.heap.size + 1, 1, none⟩ (.slice p2 l2.length q2)
       W.cell? ⟨w.heap.size + 1, 0, none⟩ = some (.slice p1 l1.length q1) ∧ W.cell? ⟨w.heap.size + 1, 1, none⟩ = some (.slice p2 l2.length q2) ∧ OwnDk W w.heap.size (.slice p1 l1.length q1) (.slice p2 l2.length q2) l1 l2 ∧ Below w.heap.size w W)) := by
    intro w4 p1 p2 q1 q2 t0 t1 DK HF
    refine ⟨?_, ?_, ((DK.far (by omega)).far (by omega)).base (by omega), (HF.setCell (by show w.heap.size ≤ w.heap.size + 1; omega) _).setCell (by show w.heap.size ≤ w.heap.size + 1; omega) _⟩
    · rw [World.cell?_setCell_other _ _ _ _ (by simp)]
      exact World.cell?_setCell_same' _ _ _ (by rw [t0]; rfl)
    · exact World.cell?_setCell_same' _ _ _ (by rw [World.cell?_setCell_other _ _ _ _ (by simp), t1]; rfl)
  refine wp_region_held_drew (S := fun wy => wy.cell? ⟨w.heap.size, 0, none⟩ = some (.slice a1 l1.length c1) ∧ wy.cell? ⟨w.heap.size, 1, none⟩ = some (.slice a2 l2.length c2)) (by kernel_rfl) ⟨x0, x1⟩ (fun hHeld => ?_)
  refine wpAnyH_take (i := 0) (oi := ?_) (v := ?_) ?_ ?_ ?_ ?_ ?_ ?_ (by assumption) ?_
  rotate_left 2
  · simp only [List.getElem?_toArray, List.getElem?_cons_zero]
    rfl
  · kernel_rfl
  · kernel_rfl
  · kernel_rfl
  · exact fun _ _ _ h => h
  · refine Or.inl ⟨by kernel_rfl, ?_⟩
    intro wS hSw
    try dsimp only at hSw
    go_simp
    try with_reducible rfl
  simp only [Act.put, List.setIfInBounds_toArray, List.set_cons_zero, List.set_cons_succ]
  refine wpAnyH_take (i := 1) (oi := ?_) (v := ?_) ?_ ?_ ?_ ?_ ?_ ?_ (by assumption) ?_
  rotate_left 2
  · simp only [List.getElem?_toArray, List.getElem?_cons_succ, List.getElem?_cons_zero]
    rfl
  · kernel_rfl
  · kernel_rfl
  · kernel_rfl
  · exact fun _ _ _ h => h
  · refine Or.inl ⟨by kernel_rfl, ?_⟩
    intro wS hSw
    try dsimp only at hSw
    go_simp
    try with_reducible rfl
  simp only [Act.put, List.setIfInBounds_toArray, List.set_cons_zero, List.set_cons_succ]
  refine wpAnyH_take (i := 3) (oi := ?_) (v := ?_) ?_ ?_ ?_ ?_ ?_ ?_ (by assumption) ?_
  rotate_left 2
  · simp only [List.getElem?_toArray, List.getElem?_cons_succ, List.getElem?_cons_zero]
    rfl
  · kernel_rfl
  · kernel_rfl
  · kernel_rfl
  · exact fun _ _ _ h => h
  · refine Or.inl ⟨by kernel_rfl, ?_⟩
    intro wS hSw
    try dsimp only at hSw
    go_simp
    try with_reducible rfl
  simp only [Act.put, List.setIfInBounds_toArray, List.set_cons_zero, List.set_cons_succ]
  refine wpAnyH_take (i := 4) (oi := ?_) (v := ?_) ?_ ?_ ?_ ?_ ?_ ?_ (by assumption) ?_
  rotate_left 2
  · simp only [List.getElem?_toArray, List.getElem?_cons_succ, List.getElem?_cons_zero]
    rfl
  · kernel_rfl
  · kernel_rfl
  · kernel_rfl
  · exact fun _ _ _ h => h
  · refine Or.inl ⟨by kernel_rfl, ?_⟩
    intro wS hSw
    try dsimp only at hSw
    go_simp
    try with_reducible rfl
  simp only [Act.put, List.setIfInBounds_toArray, List.set_cons_zero, List.set_cons_succ]
  refine wpAnyH_ready (rs := [2]) (by kernel_rfl) (by simp) ?_
  refine AllReadyH.cons rfl (fun K hK => ?_) ?_
  rotate_left
  · exact AllReadyH.nil
  go_simp
  refine cA1.mono ?_
  rintro e w3 ⟨p1, q1, rfl, o1, hb3⟩
  go_wp2_with fail
  refine hK.out _ _ ?_ (fun hHeld => ?_)
  · exact ⟨keepC hHeld.1 hb3, keepC hHeld.2 hb3⟩
  clear hK K
  try simp only [Act.put, List.setIfInBounds_toArray, List.set_cons_zero, List.set_cons_succ]
  have cC := cB2 w3 hb3
  refine wpAnyH_ready (rs := [5]) (by kernel_rfl) (by simp) ?_
  refine AllReadyH.cons rfl (fun K hK => ?_) ?_
  rotate_left
  · exact AllReadyH.nil
  go_simp
  refine cC.mono ?_
  rintro e w4 ⟨p2, q2, rfl, o2, hb4⟩
  go_wp2_with fail
  refine hK.out _ _ ?_ (fun hHeld => ?_)
  · exact ⟨keepC hHeld.1 hb4, keepC hHeld.2 hb4⟩
  clear hK K
  try simp only [Act.put, List.setIfInBounds_toArray, List.set_cons_zero, List.set_cons_succ]
  refine wpAnyH_take (i := 6) (oi := ?_) (v := ?_) ?_ ?_ ?_ ?_ ?_ ?_ (by assumption) ?_
  rotate_left 2
  · simp only [List.getElem?_toArray, List.getElem?_cons_succ, List.getElem?_cons_zero]
    rfl
  · kernel_rfl
  · kernel_rfl
  · kernel_rfl
  · exact fun _ _ _ h => h
  · refine Or.inl ⟨by kernel_rfl, ?_⟩
    intro wS hSw
    try dsimp only at hSw
    go_simp
    try with_reducible rfl
  simp only [Act.put, List.setIfInBounds_toArray, List.set_cons_zero, List.set_cons_succ]
  have hb5 := behind hb3 hb4
  have DK := OwnDk.join o1 hb4 o2 hb3.size
  obtain ⟨⟨t0, t1⟩, f0, f1⟩ := rB w4 hb5
  clear cA1 cB2 cC rB
  refine wpAnyH_ready (rs := [7]) (by kernel_rfl) (by simp) ?_
  refine AllReadyH.cons rfl (fun K hK => ?_) ?_
  rotate_left
  · exact AllReadyH.nil
  go_simp
  refine hK.out _ _ ?_ (fun hHeld => ?_)
  · exact ⟨keepS hHeld.1 _ _ (by omega), keepS hHeld.2 _ _ (by omega)⟩
  clear hK K
  try simp only [Act.put, List.setIfInBounds_toArray, List.set_cons_zero, List.set_cons_succ]
  refine wpAnyH_done (by kernel_rfl) ?_ _
  have HF := behind bD hb5
  obtain ⟨e0, e1, O, B⟩ := FIN.out w4 p1 p2 q1 q2 t0 t1 DK HF
  go_wp2
  refine bodyPost_ret (v := .agg #[.slice p1 l1.length q1, .slice p2 l2.length q2]) (by simp [results, Try.results31, go_sem, e0, e1]) rfl ⟨p1, p2, q1, q2, rfl, O, B⟩
end Go.Proofs.Ytmappmboedpgmaq.Wk
