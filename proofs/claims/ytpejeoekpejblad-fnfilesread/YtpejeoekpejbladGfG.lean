/- What GetFile of the specification comes to where all parts are read (unfinished). -/
import Derived.Test.YtpejeoekpejbladGfL
import Derived.Test.YtpejeoekpejbladAkT
import Derived.Deep.RegionLaw
import Derived.Deep.DeepCutAuto
namespace Go.Proofs.Ytpejeoekpejblad.Wk
set_option linter.unusedVariables false
open Go.ChangeShapes Go.WideShapes Go.ChangeAt Go.RowKit

set_option maxHeartbeats 16000000 in
set_option maxRecDepth 100000 in
theorem specGetFile_good (a : Option Addr) (cap : Nat) (l : List UInt8) (w : World) (hl : l.length ≤ 1048576) (hcap : l.length ≤ cap) (hcm : cap ≤ maxLen) (hr : RdA w a l) (hc : a = none → cap = 0) (hG : gGood l = true) :
    Calls Try.prog 15 #[.slice a l.length cap] w fun e w' => FileRet w (getF l) e w' ∧ Below w.heap.size w w' := by
  have b0 := bel1 w (.cells #[.int .i64 0, .int .i64 0, .int .i64 0, .bool false, .slice none 0 0] 27)
  have hr0 := hr.below b0
  have s0 := slot5fNew w (.int .i64 0) (.int .i64 0) (.int .i64 0) (.bool false) (.slice none 0 0) 27
  have cS := specGetStamp a cap l 0 (w.alloc (.cells #[.int .i64 0, .int .i64 0, .int .i64 0, .bool false, .slice none 0 0] 27)) hl hr0
  have cD := fun w hr => specGetNum a cap l (np (gS3 l)) w hl hr
  have cX := fun w hr => specGetText a cap l (np (gD l)) w hl hcap hcm hr
  have hX := tp_le l (np (gD l))
  have hR : getF l = if gRight l then some (nv (gS1 l), nv (gS2 l), nv (gS3 l), gDead l, tv (gX l)) else none := by unfold getF; rw [hG]; rfl
  unfold getStampV at cS
  change Calls _ _ _ _ fun e w' => e = .returned (.tuple #[.agg #[.int .i64 (nv (gS1 l)), .int .i64 (nv (gS2 l)), .int .i64 (nv (gS3 l))], .int .i64 (np (gS3 l)), .bool (gOk l)]) ∧ _ at cS
  change ∀ w hr, Calls _ _ _ _ fun e w' => e = .returned (numV (gD l)) ∧ _ at cD
  change ∀ w hr, Calls _ _ _ _ fun e w' => e = .returned (textV (gX l)) ∧ _ at cX
  simp only [numV_eq] at cD
  simp only [textV_eq] at cX
  change 0 ≤ tp (gX l) ∧ tp (gX l) ≤ l.length ∧ (tv (gX l)).length ≤ l.length at hX
  unfold gGood at hG
  rw [hR]
  clear hR
  have hDd : gDead l = decide (nv (gD l) = 1) := rfl
  have hRt : gRight l = (fileB (nv (gS1 l)) (nv (gS2 l)) (nv (gS3 l)) (gDead l) (tv (gX l)).length && decide (fileBytes (nv (gS1 l)) (nv (gS2 l)) (nv (gS3 l)) (gDead l) (tv (gX l)) = l)) := rfl
  generalize gRight l = Rt at hRt ⊢
  generalize gDead l = Dd at hDd hRt ⊢
  generalize nv (gS1 l) = T at cS hRt ⊢
  generalize nv (gS2 l) = Q at cS hRt ⊢
  generalize nv (gS3 l) = N at cS hRt ⊢
  generalize np (gS3 l) = P at cS cD
  generalize gOk l = k1 at cS hG
  generalize nv (gD l) = dn at cD hG hDd
  generalize np (gD l) = q at cD cX
  generalize (gD l).isSome = k2 at cD hG
  generalize tv (gX l) = data at cX hX hRt ⊢
  generalize tp (gX l) = r at cX hX hG
  generalize (gX l).isSome = k3 at cX hG
  have hr1 : ∀ w1, Below (w.alloc (.cells #[.int .i64 0, .int .i64 0, .int .i64 0, .bool false, .slice none 0 0] 27)).heap.size (w.alloc (.cells #[.int .i64 0, .int .i64 0, .int .i64 0, .bool false, .slice none 0 0] 27)) w1 → RdA (w1.alloc (.cells #[.int .i64 T, .int .i64 Q, .int .i64 N] 25)) a l ∧ Slot5f (w1.alloc (.cells #[.int .i64 T, .int .i64 Q, .int .i64 N] 25)) w.heap.size (.int .i64 0) (.int .i64 0) (.int .i64 0) (.bool false) (.slice none 0 0) ∧ Below w.heap.size w (w1.alloc (.cells #[.int .i64 T, .int .i64 Q, .int .i64 N] 25)) := fun w1 hb =>
    ⟨(hr0.below hb).below (bel1 _ _), (s0.below hb).below (bel1 _ _), behind (behind b0 hb) (bel1 _ _)⟩
  simp only [Bool.and_eq_true, decide_eq_true_eq] at hG
  obtain ⟨rfl, rfl, rfl, h1, h2⟩ := hG
  have HRt : Hid (Rt = (fileB T Q N Dd data.length && decide (fileBytes T Q N Dd data = l))) := hRt
  clear hRt
  have hdn : ¬ 1 < dn := by omega
  have hk2 : data.length ≤ 1048576 := by omega
  go_enter Try.func15, Try.ntmps15
  go_wp2_with fail
  refine cS.mono ?_
  rintro e w1 ⟨rfl, hb1⟩
  obtain ⟨hr2, hs2, hB2⟩ := hr1 w1 hb1
  obtain ⟨⟨c0, c1, c2, c3, c4⟩, f0, f1, f2, f3, f4⟩ := (show _ from hs2)
  go_wp2_with fail
  refine (cD _ hr2).mono ?_
  rintro e w2 ⟨rfl, hw2⟩
  subst hw2
  go_wp2_with fail
  refine (cX _ hr2).mono ?_
  rintro e w3 ⟨rfl, hw3⟩
  subst hw3
  clear cS cD cX hr1
  go_upto_region 6 with fail
  have sS := slotNew w1 T Q N 25
  have hBW : w1.heap.size < (w1.alloc (.cells #[.int .i64 T, .int .i64 Q, .int .i64 N] 25)).heap.size := sS.1.lt
  have hwB : w.heap.size ≤ w1.heap.size := by have := hb1.size; simp at this; omega
  clear c0 c1 c2 c3 c4 f0 f1 f2 f3 f4 hb1
  generalize w1.alloc (.cells #[.int .i64 T, .int .i64 Q, .int .i64 N] 25) = W at hr2 hs2 hB2 sS hBW ⊢
  generalize w1.heap.size = B at sS hBW hwB ⊢
  have u1 : OwnB (W.alloc (.cells #[] 5)) W.heap.size (.slice (some ⟨W.heap.size, 0, none⟩) 0 0) [] := World.ownsRow_made W #[] 0 (Nat.le_refl _) (Nat.zero_le _) rfl
  have u2 : OwnB ((W.alloc (.cells #[] 5)).alloc (.cells #[.int .i64 0, .int .i64 0, .int .i64 0, .bool false, .slice none 0 0] 27)) W.heap.size (.slice (some ⟨W.heap.size, 0, none⟩) 0 0) [] := World.ownsRow.alloc u1 _
  have u3 : OwnB ((W.alloc (.cells #[.int .i64 0, .int .i64 0, .int .i64 0, .bool false, .slice none 0 0] 27)).alloc (.cells #[] 5)) (W.heap.size + 1) (.slice (some ⟨W.heap.size + 1, 0, none⟩) 0 0) [] := by
    have hz : (W.alloc (.cells #[.int .i64 0, .int .i64 0, .int .i64 0, .bool false, .slice none 0 0] 27)).heap.size = W.heap.size + 1 := by simp
    have := World.ownsRow_made (W.alloc (.cells #[.int .i64 0, .int .i64 0, .int .i64 0, .bool false, .slice none 0 0] 27)) (base := (W.alloc (.cells #[.int .i64 0, .int .i64 0, .int .i64 0, .bool false, .slice none 0 0] 27)).heap.size) (e := 5) (size := 1) #[] 0 (Nat.le_refl _) (Nat.zero_le _) rfl
    rw [hz] at this
    exact this
  have sS1 : Slot (W.drew.alloc (.cells #[] 5)) B T Q N := Slot.below (w := W.drew) sS.drew (bel1 W.drew _)
  have sS2 : Slot ((W.drew.alloc (.cells #[] 5)).alloc (.cells #[.int .i64 0, .int .i64 0, .int .i64 0, .bool false, .slice none 0 0] 27)) B T Q N := sS1.below (bel1 _ _)
  have sS3 : Slot ((W.drew.alloc (.cells #[.int .i64 0, .int .i64 0, .int .i64 0, .bool false, .slice none 0 0] 27)).alloc (.cells #[] 5)) B T Q N := (Slot.below (w := W.drew) sS.drew (bel1 W.drew (.cells #[.int .i64 0, .int .i64 0, .int .i64 0, .bool false, .slice none 0 0] 27))).below (bel1 _ _)
  have sX2 : Slot5f ((W.drew.alloc (.cells #[] 5)).alloc (.cells #[.int .i64 0, .int .i64 0, .int .i64 0, .bool false, .slice none 0 0] 27)) (W.heap.size + 1) (.int .i64 0) (.int .i64 0) (.int .i64 0) (.bool false) (.slice none 0 0) := by
    have hz : (W.drew.alloc (.cells #[] 5)).heap.size = W.drew.heap.size + 1 := by simp
    have := slot5fNew (W.drew.alloc (.cells #[] 5)) (.int .i64 0) (.int .i64 0) (.int .i64 0) (.bool false) (.slice none 0 0) 27
    rw [hz] at this
    exact this
  have sX3 : Slot5f ((W.drew.alloc (.cells #[.int .i64 0, .int .i64 0, .int .i64 0, .bool false, .slice none 0 0] 27)).alloc (.cells #[] 5)) W.heap.size (.int .i64 0) (.int .i64 0) (.int .i64 0) (.bool false) (.slice none 0 0) := (slot5fNew W.drew (.int .i64 0) (.int .i64 0) (.int .i64 0) (.bool false) (.slice none 0 0) 27).below (bel1 _ _)
  have n5 := hs2.lt
  have n1 : B ≠ W.heap.size := by omega
  have n2 : B ≠ W.heap.size + 1 := by omega
  have n3 : W.heap.size + 1 ≠ W.heap.size := by omega
  have n4 : W.heap.size ≠ W.heap.size + 1 := by omega
  obtain ⟨⟨p0, p1, p2⟩, -⟩ := id sS
  go_cut [13] (fun v wx => GfR w W T Q N (dn == 1) data v wx)
  case first =>
    go_region_law (first | (refine step_appStr _ (by rfl) (.tmp 59) (.tmp 60) (by rfl) W.heap.size (by rfl) (by exact u1) data (by rfl) hk2 ?_; intro g6 c6 w6 ho6 hl6 hg6; have tS := Slot.grownT sS1 hg6 n1; obtain ⟨⟨t0, t1, t2⟩, -⟩ := id tS; obtain ⟨⟨t3, t4, t5⟩, -⟩ := Slot.below tS (bel1 w6 (.cells #[.int .i64 0, .int .i64 0, .int .i64 0, .bool false, .slice none 0 0] 27))) | (refine step_appStr _ (by rfl) (.tmp 59) (.tmp 60) (by rfl) W.heap.size (by rfl) (by exact u2) data (by rfl) hk2 ?_; intro g6 c6 w6 ho6 hl6 hg6; have tS := Slot.grownT sS2 hg6 n1; obtain ⟨⟨t0, t1, t2⟩, -⟩ := id tS; have tX := Slot5f.grown sX2 hg6 n3; obtain ⟨⟨x0, x1, x2, x3, x4⟩, y0, y1, y2, y3, y4⟩ := (show _ from tX)) | (refine step_appStr _ (by rfl) (.tmp 59) (.tmp 60) (by rfl) (W.heap.size + 1) (by rfl) (by exact u3) data (by rfl) hk2 ?_; intro g6 c6 w6 ho6 hl6 hg6; have tS := Slot.grownT sS3 hg6 n2; obtain ⟨⟨t0, t1, t2⟩, -⟩ := id tS; have tX := Slot5f.grown sX3 hg6 n4; obtain ⟨⟨x0, x1, x2, x3, x4⟩, y0, y1, y2, y3, y4⟩ := (show _ from tX)))
    all_goals
      go_wp2_with fail
      go_meet
      first | with_reducible exact gfA hs2 hB2 ho6 hg6 | with_reducible exact gfB hs2 hB2 ho6 tX hg6 | with_reducible exact gfC hs2 hB2 ho6 tX hg6
  case rest =>
    obtain ⟨X, g6, c6, rfl, ho, hX, hR, hB⟩ := hcut
    have eD : (dn == 1) = Dd := by rw [hDd]; rfl
    rw [eD] at hX
    have hwW := hs2.lt
    clear u1 u2 u3 sS1 sS2 sS3 sX2 sX3 n1 n2 n3 n4 n5 p0 p1 p2 hr2 hs2 hB2 sS eD hDd b0 hr0 s0
    have hro := RdA.own ho
    have hrl := hr.below hB
    have cF := fun w => specFile T Q N Dd (some ⟨g6, 0, none⟩) data.length c6 w hk2
    have cP := fun (wx : World) (h : Below wc.drew.heap.size wc.drew wx) => specPut T Q N Dd (some ⟨g6, 0, none⟩) c6 data wx hk2 (RdA.below (w := wc.drew) hro h) (fun h => by cases h)
    have hcv := convBack a cap l hc
    obtain ⟨hS5, -⟩ := id hX
    have hS := And.intro hS5 hrl
    clear hS5
    cases hK : fileB T Q N Dd data.length with
    | false =>
      have hR0 : Rt = false := by rw [HRt.out, hK]; rfl
      subst hR0
      rw [hK] at cF
      clear HRt cP hK
      go_upto_region 7 with fail
      refine wp_region_held_drew (S := fun wy => (wy.cell? ⟨X, 0, none⟩ = some (.int .i64 T) ∧ wy.cell? ⟨X, 1, none⟩ = some (.int .i64 Q) ∧ wy.cell? ⟨X, 2, none⟩ = some (.int .i64 N) ∧ wy.cell? ⟨X, 3, none⟩ = some (.bool Dd) ∧ wy.cell? ⟨X, 4, none⟩ = some (.slice (some ⟨g6, 0, none⟩) data.length c6)) ∧ RdA wy a l) (by kernel_rfl) hS (fun hHeld => ?_)
      refine wpAnyH_take (i := 0) (oi := ?_) (v := ?_) ?_ ?_ ?_ ?_ ?_ ?_ (by assumption) ?_
      rotate_left 2
      · simp only [List.getElem?_toArray, List.getElem?_cons_zero]
        rfl
      · kernel_rfl
      · kernel_rfl
      · kernel_rfl
      · exact fun _ _ _ h => h
      · refine Or.inl ⟨by kernel_rfl, ?_⟩
        intro wS hSw
        try dsimp only at hSw
        go_simp
        try with_reducible rfl
      simp only [Act.put, List.setIfInBounds_toArray, List.set_cons_zero, List.set_cons_succ]
      refine wpAnyH_ready (rs := [1]) (by kernel_rfl) (by simp) ?_
      refine AllReadyH.cons rfl (fun K hK => ?_) ?_
      rotate_left
      · exact AllReadyH.nil
      go_simp
      refine (cF _).mono ?_
      rintro e w4 ⟨rfl, hb4⟩
      go_wp2_with fail
      refine hK.out _ _ ?_ (fun hHeld => ?_)
      · exact keepPut hHeld hb4
      clear hK K
      try simp only [Act.put, List.setIfInBounds_toArray, List.set_cons_zero, List.set_cons_succ]
      refine wpAnyH_take (i := 2) (oi := ?_) (v := ?_) ?_ ?_ ?_ ?_ ?_ ?_ (by assumption) ?_
      rotate_left 2
      · simp only [List.getElem?_toArray, List.getElem?_cons_succ, List.getElem?_cons_zero]
        rfl
      · kernel_rfl
      · kernel_rfl
      · kernel_rfl
      · exact fun _ _ _ h => h
      · refine Or.inl ⟨by kernel_rfl, ?_⟩
        intro wS hSw
        try dsimp only at hSw
        go_simp
        try with_reducible rfl
      simp only [Act.put, List.setIfInBounds_toArray, List.set_cons_zero, List.set_cons_succ]
      refine wpAnyH_take (i := 3) (oi := ?_) (v := ?_) ?_ ?_ ?_ ?_ ?_ ?_ (by assumption) ?_
      rotate_left 2
      · simp only [List.getElem?_toArray, List.getElem?_cons_succ, List.getElem?_cons_zero]
        rfl
      · kernel_rfl
      · kernel_rfl
      · kernel_rfl
      · exact fun _ _ _ h => h
      · refine Or.inl ⟨by kernel_rfl, ?_⟩
        intro wS hSw
        try dsimp only at hSw
        go_simp
        try with_reducible rfl
      simp only [Act.put, List.setIfInBounds_toArray, List.set_cons_zero, List.set_cons_succ]
      refine wpAnyH_take (i := 4) (oi := ?_) (v := undef) ?_ ?_ ?_ ?_ ?_ ?_ (by assumption) ?_
      rotate_left 1
      · simp only [List.getElem?_toArray, List.getElem?_cons_succ, List.getElem?_cons_zero]
        rfl
      · kernel_rfl
      · kernel_rfl
      · kernel_rfl
      · exact fun _ _ _ h => h
      · exact Or.inr ⟨by kernel_rfl, rfl⟩
      simp only [Act.put, List.setIfInBounds_toArray, List.set_cons_zero, List.set_cons_succ]
      refine wpAnyH_take (i := 5) (oi := ?_) (v := undef) ?_ ?_ ?_ ?_ ?_ ?_ (by assumption) ?_
      rotate_left 1
      · simp only [List.getElem?_toArray, List.getElem?_cons_succ, List.getElem?_cons_zero]
        rfl
      · kernel_rfl
      · kernel_rfl
      · kernel_rfl
      · exact fun _ _ _ h => h
      · exact Or.inr ⟨by kernel_rfl, rfl⟩
      simp only [Act.put, List.setIfInBounds_toArray, List.set_cons_zero, List.set_cons_succ]
      refine wpAnyH_take (i := 6) (oi := ?_) (v := undef) ?_ ?_ ?_ ?_ ?_ ?_ (by assumption) ?_
      rotate_left 1
      · simp only [List.getElem?_toArray, List.getElem?_cons_succ, List.getElem?_cons_zero]
        rfl
      · kernel_rfl
      · kernel_rfl
      · kernel_rfl
      · exact fun _ _ _ h => h
      · exact Or.inr ⟨by kernel_rfl, rfl⟩
      simp only [Act.put, List.setIfInBounds_toArray, List.set_cons_zero, List.set_cons_succ]
      refine wpAnyH_take (i := 7) (oi := ?_) (v := undef) ?_ ?_ ?_ ?_ ?_ ?_ (by assumption) ?_
      rotate_left 1
      · simp only [List.getElem?_toArray, List.getElem?_cons_succ, List.getElem?_cons_zero]
        rfl
      · kernel_rfl
      · kernel_rfl
      · kernel_rfl
      · exact fun _ _ _ h => h
      · exact Or.inr ⟨by kernel_rfl, rfl⟩
      simp only [Act.put, List.setIfInBounds_toArray, List.set_cons_zero, List.set_cons_succ]
      refine wpAnyH_take (i := 8) (oi := ?_) (v := undef) ?_ ?_ ?_ ?_ ?_ ?_ (by assumption) ?_
      rotate_left 1
      · simp only [List.getElem?_toArray, List.getElem?_cons_succ, List.getElem?_cons_zero]
        rfl
      · kernel_rfl
      · kernel_rfl
      · kernel_rfl
      · exact fun _ _ _ h => h
      · exact Or.inr ⟨by kernel_rfl, rfl⟩
      simp only [Act.put, List.setIfInBounds_toArray, List.set_cons_zero, List.set_cons_succ]
      refine wpAnyH_take (i := 9) (oi := ?_) (v := undef) ?_ ?_ ?_ ?_ ?_ ?_ (by assumption) ?_
      rotate_left 1
      · simp only [List.getElem?_toArray, List.getElem?_cons_succ, List.getElem?_cons_zero]
        rfl
      · kernel_rfl
      · kernel_rfl
      · kernel_rfl
      · exact fun _ _ _ h => h
      · exact Or.inr ⟨by kernel_rfl, rfl⟩
      simp only [Act.put, List.setIfInBounds_toArray, List.set_cons_zero, List.set_cons_succ]
      refine wpAnyH_take (i := 10) (oi := ?_) (v := ?_) ?_ ?_ ?_ ?_ ?_ ?_ (by assumption) ?_
      rotate_left 2
      · simp only [List.getElem?_toArray, List.getElem?_cons_succ, List.getElem?_cons_zero]
        rfl
      · kernel_rfl
      · kernel_rfl
      · kernel_rfl
      · exact fun _ _ _ h => h
      · refine Or.inl ⟨by kernel_rfl, ?_⟩
        intro wS hSw
        try dsimp only at hSw
        go_simp
        try with_reducible rfl
      simp only [Act.put, List.setIfInBounds_toArray, List.set_cons_zero, List.set_cons_succ]
      refine wpAnyH_done (by kernel_rfl) ?_ _
      have hR4 := (hR.below (w := wc.drew) hb4)
      obtain ⟨⟨r0, r1, r2, r3, r4⟩, f0, f1, f2, f3, f4⟩ := (show _ from hR4)
      have hB4 := behind hB.drew (hb4)
      go_wp2
      obtain ⟨z0, z1, z2, z3, z4⟩ := (hR4.set (.int .i64 0) (.int .i64 0) (.int .i64 0) (.bool false) (.slice none 0 0)).1
      exact bodyPost_ret (v := .tuple #[.agg #[.int .i64 0, .int .i64 0, .int .i64 0, .bool false, .slice none 0 0], .bool false]) (by simp [results, Try.results15, go_sem, z0, z1, z2, z3, z4]) rfl ⟨rfl, set5 hB4 (Nat.le_refl _) _ _ _ _ _⟩
    | true =>
      rw [hK] at cF
      by_cases hE : fileBytes T Q N Dd data = l
      · have hR1 : Rt = true := by rw [HRt.out, hK, hE]; simp
        subst hR1
        rw [hE] at cP
        clear HRt hK
        go_upto_region 7 with fail
        refine wp_region_held_drew (S := fun wy => (wy.cell? ⟨X, 0, none⟩ = some (.int .i64 T) ∧ wy.cell? ⟨X, 1, none⟩ = some (.int .i64 Q) ∧ wy.cell? ⟨X, 2, none⟩ = some (.int .i64 N) ∧ wy.cell? ⟨X, 3, none⟩ = some (.bool Dd) ∧ wy.cell? ⟨X, 4, none⟩ = some (.slice (some ⟨g6, 0, none⟩) data.length c6)) ∧ RdA wy a l) (by kernel_rfl) hS (fun hHeld => ?_)
        refine wpAnyH_take (i := 0) (oi := ?_) (v := ?_) ?_ ?_ ?_ ?_ ?_ ?_ (by assumption) ?_
        rotate_left 2
        · simp only [List.getElem?_toArray, List.getElem?_cons_zero]
          rfl
        · kernel_rfl
        · kernel_rfl
        · kernel_rfl
        · exact fun _ _ _ h => h
        · refine Or.inl ⟨by kernel_rfl, ?_⟩
          intro wS hSw
          try dsimp only at hSw
          go_simp
          try with_reducible rfl
        simp only [Act.put, List.setIfInBounds_toArray, List.set_cons_zero, List.set_cons_succ]
        refine wpAnyH_ready (rs := [1]) (by kernel_rfl) (by simp) ?_
        refine AllReadyH.cons rfl (fun K hK => ?_) ?_
        rotate_left
        · exact AllReadyH.nil
        go_simp
        refine (cF _).mono ?_
        rintro e w4 ⟨rfl, hb4⟩
        go_wp2_with fail
        refine hK.out _ _ ?_ (fun hHeld => ?_)
        · exact keepPut hHeld hb4
        clear hK K
        try simp only [Act.put, List.setIfInBounds_toArray, List.set_cons_zero, List.set_cons_succ]
        refine wpAnyH_take (i := 2) (oi := ?_) (v := ?_) ?_ ?_ ?_ ?_ ?_ ?_ (by assumption) ?_
        rotate_left 2
        · simp only [List.getElem?_toArray, List.getElem?_cons_succ, List.getElem?_cons_zero]
          rfl
        · kernel_rfl
        · kernel_rfl
        · kernel_rfl
        · exact fun _ _ _ h => h
        · refine Or.inl ⟨by kernel_rfl, ?_⟩
          intro wS hSw
          try dsimp only at hSw
          go_simp
          try with_reducible rfl
        simp only [Act.put, List.setIfInBounds_toArray, List.set_cons_zero, List.set_cons_succ]
        refine wpAnyH_take (i := 3) (oi := ?_) (v := ?_) ?_ ?_ ?_ ?_ ?_ ?_ (by assumption) ?_
        rotate_left 2
        · simp only [List.getElem?_toArray, List.getElem?_cons_succ, List.getElem?_cons_zero]
          rfl
        · kernel_rfl
        · kernel_rfl
        · kernel_rfl
        · exact fun _ _ _ h => h
        · refine Or.inl ⟨by kernel_rfl, ?_⟩
          intro wS hSw
          try dsimp only at hSw
          go_simp
          try with_reducible rfl
        simp only [Act.put, List.setIfInBounds_toArray, List.set_cons_zero, List.set_cons_succ]
        refine wpAnyH_take (i := 4) (oi := ?_) (v := ?_) ?_ ?_ ?_ ?_ ?_ ?_ (by assumption) ?_
        rotate_left 2
        · simp only [List.getElem?_toArray, List.getElem?_cons_succ, List.getElem?_cons_zero]
          rfl
        · kernel_rfl
        · kernel_rfl
        · kernel_rfl
        · exact fun _ _ _ h => h
        · refine Or.inl ⟨by kernel_rfl, ?_⟩
          intro wS hSw
          try dsimp only at hSw
          go_simp
          try with_reducible rfl
        simp only [Act.put, List.setIfInBounds_toArray, List.set_cons_zero, List.set_cons_succ]
        refine wpAnyH_take (i := 7) (oi := ?_) (v := ?_) ?_ ?_ ?_ ?_ ?_ ?_ (by assumption) ?_
        rotate_left 2
        · simp only [List.getElem?_toArray, List.getElem?_cons_succ, List.getElem?_cons_zero]
          rfl
        · kernel_rfl
        · kernel_rfl
        · kernel_rfl
        · exact fun _ _ _ h => h
        · refine Or.inl ⟨by kernel_rfl, ?_⟩
          intro wS hSw
          try dsimp only at hSw
          go_simp
          try with_reducible rfl
        simp only [Act.put, List.setIfInBounds_toArray, List.set_cons_zero, List.set_cons_succ]
        refine wpAnyH_take (i := 8) (oi := ?_) (v := ?_) ?_ ?_ ?_ ?_ ?_ ?_ (by assumption) ?_
        rotate_left 2
        · simp only [List.getElem?_toArray, List.getElem?_cons_succ, List.getElem?_cons_zero]
          rfl
        · kernel_rfl
        · kernel_rfl
        · kernel_rfl
        · exact fun _ _ _ h => h
        · refine Or.inl ⟨by kernel_rfl, ?_⟩
          intro wS hSw
          try dsimp only at hSw
          have hFact := hcv wS hSw.2
          go_simp
          try with_reducible rfl
        simp only [Act.put, List.setIfInBounds_toArray, List.set_cons_zero, List.set_cons_succ]
        refine wpAnyH_ready (rs := [5]) (by kernel_rfl) (by simp) ?_
        refine AllReadyH.cons rfl (fun K hK => ?_) ?_
        rotate_left
        · exact AllReadyH.nil
        go_simp
        refine (cP _ hb4).mono ?_
        rintro e w5 ⟨g5, p5, rfl, ho5, hb5⟩
        have hcv5 := convBack (some ⟨g5, 0, none⟩) p5 _ (fun h => by cases h) w5 (RdA.own ho5)
        go_wp2_with fail
        refine hK.out _ _ ?_ (fun hHeld => ?_)
        · exact keepPut hHeld hb5
        clear hK K
        try simp only [Act.put, List.setIfInBounds_toArray, List.set_cons_zero, List.set_cons_succ]
        refine wpAnyH_ready (rs := [6]) (by kernel_rfl) (by simp) ?_
        refine AllReadyH.cons rfl (fun K hK => ?_) ?_
        rotate_left
        · exact AllReadyH.nil
        go_simp
        refine hK.out _ _ ?_ (fun hHeld => ?_)
        · exact hHeld
        clear hK K
        try simp only [Act.put, List.setIfInBounds_toArray, List.set_cons_zero, List.set_cons_succ]
        refine wpAnyH_take (i := 9) (oi := ?_) (v := ?_) ?_ ?_ ?_ ?_ ?_ ?_ (by assumption) ?_
        rotate_left 2
        · simp only [List.getElem?_toArray, List.getElem?_cons_succ, List.getElem?_cons_zero]
          rfl
        · kernel_rfl
        · kernel_rfl
        · kernel_rfl
        · exact fun _ _ _ h => h
        · refine Or.inl ⟨by kernel_rfl, ?_⟩
          intro wS hSw
          try dsimp only at hSw
          go_simp
          try with_reducible rfl
        simp only [Act.put, List.setIfInBounds_toArray, List.set_cons_zero, List.set_cons_succ]
        refine wpAnyH_take (i := 10) (oi := ?_) (v := ?_) ?_ ?_ ?_ ?_ ?_ ?_ (by assumption) ?_
        rotate_left 2
        · simp only [List.getElem?_toArray, List.getElem?_cons_succ, List.getElem?_cons_zero]
          rfl
        · kernel_rfl
        · kernel_rfl
        · kernel_rfl
        · exact fun _ _ _ h => h
        · refine Or.inl ⟨by kernel_rfl, ?_⟩
          intro wS hSw
          try dsimp only at hSw
          go_simp
          try with_reducible rfl
        simp only [Act.put, List.setIfInBounds_toArray, List.set_cons_zero, List.set_cons_succ]
        refine wpAnyH_done (by kernel_rfl) ?_ _
        have hb45 := behind hb4 hb5
        have hR4 := (hR.below (w := wc.drew) hb45)
        have hX4 := (hX.below (w := wc.drew) hb45)
        have ho4 := ownBelow (w := wc.drew) ho hb45
        obtain ⟨⟨r0, r1, r2, r3, r4⟩, f0, f1, f2, f3, f4⟩ := (show _ from hR4)
        obtain ⟨⟨x0, x1, x2, x3, x4⟩, -⟩ := (show _ from hX4)
        have hB4 := behind hB.drew hb45
        go_wp2
        obtain ⟨z0, z1, z2, z3, z4⟩ := (hR4.set (.int .i64 T) (.int .i64 Q) (.int .i64 N) (.bool Dd) (.slice (some ⟨g6, 0, none⟩) data.length c6)).1
        refine bodyPost_ret (v := .tuple #[.agg #[.int .i64 T, .int .i64 Q, .int .i64 N, .bool Dd, .slice (some ⟨g6, 0, none⟩) data.length c6], .bool true]) (by simp [results, Try.results15, go_sem, z0, z1, z2, z3, z4]) rfl ⟨⟨g6, c6, rfl, ?_⟩, set5 hB4 (Nat.le_refl _) _ _ _ _ _⟩
        exact ownBase (ownsRow_setCell_below (ownsRow_setCell_below (ownsRow_setCell_below (ownsRow_setCell_below (ownsRow_setCell_below ho4 (a := ⟨w.heap.size, 0, none⟩) hwW _) (a := ⟨w.heap.size, 1, none⟩) hwW _) (a := ⟨w.heap.size, 2, none⟩) hwW _) (a := ⟨w.heap.size, 3, none⟩) hwW _) (a := ⟨w.heap.size, 4, none⟩) hwW _) (Nat.le_of_lt hwW)
      · have hR0 : Rt = false := by rw [HRt.out, hK]; simp [hE]
        subst hR0
        generalize fileBytes T Q N Dd data = FB at cP hE
        have hneb : (FB == l) = false := beq_eq_false_iff_ne.2 hE
        clear HRt hK hE
        go_upto_region 7 with fail
        refine wp_region_held_drew (S := fun wy => (wy.cell? ⟨X, 0, none⟩ = some (.int .i64 T) ∧ wy.cell? ⟨X, 1, none⟩ = some (.int .i64 Q) ∧ wy.cell? ⟨X, 2, none⟩ = some (.int .i64 N) ∧ wy.cell? ⟨X, 3, none⟩ = some (.bool Dd) ∧ wy.cell? ⟨X, 4, none⟩ = some (.slice (some ⟨g6, 0, none⟩) data.length c6)) ∧ RdA wy a l) (by kernel_rfl) hS (fun hHeld => ?_)
        refine wpAnyH_take (i := 0) (oi := ?_) (v := ?_) ?_ ?_ ?_ ?_ ?_ ?_ (by assumption) ?_
        rotate_left 2
        · simp only [List.getElem?_toArray, List.getElem?_cons_zero]
          rfl
        · kernel_rfl
        · kernel_rfl
        · kernel_rfl
        · exact fun _ _ _ h => h
        · refine Or.inl ⟨by kernel_rfl, ?_⟩
          intro wS hSw
          try dsimp only at hSw
          go_simp
          try with_reducible rfl
        simp only [Act.put, List.setIfInBounds_toArray, List.set_cons_zero, List.set_cons_succ]
        refine wpAnyH_ready (rs := [1]) (by kernel_rfl) (by simp) ?_
        refine AllReadyH.cons rfl (fun K hK => ?_) ?_
        rotate_left
        · exact AllReadyH.nil
        go_simp
        refine (cF _).mono ?_
        rintro e w4 ⟨rfl, hb4⟩
        go_wp2_with fail
        refine hK.out _ _ ?_ (fun hHeld => ?_)
        · exact keepPut hHeld hb4
        clear hK K
        try simp only [Act.put, List.setIfInBounds_toArray, List.set_cons_zero, List.set_cons_succ]
        refine wpAnyH_take (i := 2) (oi := ?_) (v := ?_) ?_ ?_ ?_ ?_ ?_ ?_ (by assumption) ?_
        rotate_left 2
        · simp only [List.getElem?_toArray, List.getElem?_cons_succ, List.getElem?_cons_zero]
          rfl
        · kernel_rfl
        · kernel_rfl
        · kernel_rfl
        · exact fun _ _ _ h => h
        · refine Or.inl ⟨by kernel_rfl, ?_⟩
          intro wS hSw
          try dsimp only at hSw
          go_simp
          try with_reducible rfl
        simp only [Act.put, List.setIfInBounds_toArray, List.set_cons_zero, List.set_cons_succ]
        refine wpAnyH_take (i := 3) (oi := ?_) (v := ?_) ?_ ?_ ?_ ?_ ?_ ?_ (by assumption) ?_
        rotate_left 2
        · simp only [List.getElem?_toArray, List.getElem?_cons_succ, List.getElem?_cons_zero]
          rfl
        · kernel_rfl
        · kernel_rfl
        · kernel_rfl
        · exact fun _ _ _ h => h
        · refine Or.inl ⟨by kernel_rfl, ?_⟩
          intro wS hSw
          try dsimp only at hSw
          go_simp
          try with_reducible rfl
        simp only [Act.put, List.setIfInBounds_toArray, List.set_cons_zero, List.set_cons_succ]
        refine wpAnyH_take (i := 4) (oi := ?_) (v := ?_) ?_ ?_ ?_ ?_ ?_ ?_ (by assumption) ?_
        rotate_left 2
        · simp only [List.getElem?_toArray, List.getElem?_cons_succ, List.getElem?_cons_zero]
          rfl
        · kernel_rfl
        · kernel_rfl
        · kernel_rfl
        · exact fun _ _ _ h => h
        · refine Or.inl ⟨by kernel_rfl, ?_⟩
          intro wS hSw
          try dsimp only at hSw
          go_simp
          try with_reducible rfl
        simp only [Act.put, List.setIfInBounds_toArray, List.set_cons_zero, List.set_cons_succ]
        refine wpAnyH_take (i := 7) (oi := ?_) (v := ?_) ?_ ?_ ?_ ?_ ?_ ?_ (by assumption) ?_
        rotate_left 2
        · simp only [List.getElem?_toArray, List.getElem?_cons_succ, List.getElem?_cons_zero]
          rfl
        · kernel_rfl
        · kernel_rfl
        · kernel_rfl
        · exact fun _ _ _ h => h
        · refine Or.inl ⟨by kernel_rfl, ?_⟩
          intro wS hSw
          try dsimp only at hSw
          go_simp
          try with_reducible rfl
        simp only [Act.put, List.setIfInBounds_toArray, List.set_cons_zero, List.set_cons_succ]
        refine wpAnyH_take (i := 8) (oi := ?_) (v := ?_) ?_ ?_ ?_ ?_ ?_ ?_ (by assumption) ?_
        rotate_left 2
        · simp only [List.getElem?_toArray, List.getElem?_cons_succ, List.getElem?_cons_zero]
          rfl
        · kernel_rfl
        · kernel_rfl
        · kernel_rfl
        · exact fun _ _ _ h => h
        · refine Or.inl ⟨by kernel_rfl, ?_⟩
          intro wS hSw
          try dsimp only at hSw
          have hFact := hcv wS hSw.2
          go_simp
          try with_reducible rfl
        simp only [Act.put, List.setIfInBounds_toArray, List.set_cons_zero, List.set_cons_succ]
        refine wpAnyH_ready (rs := [5]) (by kernel_rfl) (by simp) ?_
        refine AllReadyH.cons rfl (fun K hK => ?_) ?_
        rotate_left
        · exact AllReadyH.nil
        go_simp
        refine (cP _ hb4).mono ?_
        rintro e w5 ⟨g5, p5, rfl, ho5, hb5⟩
        have hcv5 := convBack (some ⟨g5, 0, none⟩) p5 _ (fun h => by cases h) w5 (RdA.own ho5)
        go_wp2_with fail
        refine hK.out _ _ ?_ (fun hHeld => ?_)
        · exact keepPut hHeld hb5
        clear hK K
        try simp only [Act.put, List.setIfInBounds_toArray, List.set_cons_zero, List.set_cons_succ]
        refine wpAnyH_ready (rs := [6]) (by kernel_rfl) (by simp) ?_
        refine AllReadyH.cons rfl (fun K hK => ?_) ?_
        rotate_left
        · exact AllReadyH.nil
        go_simp
        refine hK.out _ _ ?_ (fun hHeld => ?_)
        · exact hHeld
        clear hK K
        try simp only [Act.put, List.setIfInBounds_toArray, List.set_cons_zero, List.set_cons_succ]
        refine wpAnyH_take (i := 9) (oi := ?_) (v := ?_) ?_ ?_ ?_ ?_ ?_ ?_ (by assumption) ?_
        rotate_left 2
        · simp only [List.getElem?_toArray, List.getElem?_cons_succ, List.getElem?_cons_zero]
          rfl
        · kernel_rfl
        · kernel_rfl
        · kernel_rfl
        · exact fun _ _ _ h => h
        · refine Or.inl ⟨by kernel_rfl, ?_⟩
          intro wS hSw
          try dsimp only at hSw
          go_simp
          try with_reducible rfl
        simp only [Act.put, List.setIfInBounds_toArray, List.set_cons_zero, List.set_cons_succ]
        refine wpAnyH_take (i := 10) (oi := ?_) (v := ?_) ?_ ?_ ?_ ?_ ?_ ?_ (by assumption) ?_
        rotate_left 2
        · simp only [List.getElem?_toArray, List.getElem?_cons_succ, List.getElem?_cons_zero]
          rfl
        · kernel_rfl
        · kernel_rfl
        · kernel_rfl
        · exact fun _ _ _ h => h
        · refine Or.inl ⟨by kernel_rfl, ?_⟩
          intro wS hSw
          try dsimp only at hSw
          go_simp
          try with_reducible rfl
        simp only [Act.put, List.setIfInBounds_toArray, List.set_cons_zero, List.set_cons_succ]
        refine wpAnyH_done (by kernel_rfl) ?_ _
        have hb45 := behind hb4 hb5
        have hR4 := (hR.below (w := wc.drew) hb45)
        obtain ⟨⟨r0, r1, r2, r3, r4⟩, f0, f1, f2, f3, f4⟩ := (show _ from hR4)
        have hB4 := behind hB.drew (hb45)
        go_wp2
        obtain ⟨z0, z1, z2, z3, z4⟩ := (hR4.set (.int .i64 0) (.int .i64 0) (.int .i64 0) (.bool false) (.slice none 0 0)).1
        exact bodyPost_ret (v := .tuple #[.agg #[.int .i64 0, .int .i64 0, .int .i64 0, .bool false, .slice none 0 0], .bool false]) (by simp [results, Try.results15, go_sem, z0, z1, z2, z3, z4]) rfl ⟨rfl, set5 hB4 (Nat.le_refl _) _ _ _ _ _⟩
end Go.Proofs.Ytpejeoekpejblad.Wk
