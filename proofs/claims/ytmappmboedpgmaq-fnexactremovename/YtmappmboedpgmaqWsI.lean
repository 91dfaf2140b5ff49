/- What RemoveName of the program comes to. -/
import Derived.Test.YtmappmboedpgmaqChI
import Derived.Test.YtmappmboedpgmaqFnI
import Derived.Test.YtmappmboedpgmaqFoI
import Derived.Test.YtmappmboedpgmaqPoI
import Derived.Test.YtmappmboedpgmaqNwC
namespace Go.Proofs.Ytmappmboedpgmaq.Wk
set_option linter.unusedVariables false
open Go.ChangeShapes Go.WideShapes Go.ChangeAt Go.RowKit Go.Maps Go.Sort Go.Shelf

/-- whether RemoveName removes -/
noncomputable def rmOk (l1 l2 : List Nd) (s : ByteArray) : Bool := (listOk l1 && listOk l2) && (ndAt l1 s).isSome && (decide ((cutR l1 s).length ≤ 60) && decide (l2.length ≤ 60))
set_option maxHeartbeats 4000000 in
set_option maxRecDepth 100000 in
theorem implRemove (a1 a2 : Option Addr) (c1 c2 : Nat) (l1 l2 : List Nd) (s : ByteArray) (w : World) (z1 : NdZ l1) (z2 : NdZ l2) (hs : s.size ≤ 1048576)
    (r1 : RdNd w a1 l1) (r2 : RdNd w a2 l2) :
    Calls Try.prog 10 #[.agg #[.slice a1 l1.length c1, .slice a2 l2.length c2], .string s] w (DkAns w (rmOk l1 l2 s) (if rmOk l1 l2 s then cutR l1 s else l1) l2) := by
  obtain ⟨L, HL⟩ : ∃ L, Hid ((if rmOk l1 l2 s then cutR l1 s else l1) = L) := ⟨_, rfl⟩
  rw [HL.out]
  obtain ⟨V, HV⟩ : ∃ V, Hid (rmOk l1 l2 s = V) := ⟨_, rfl⟩
  rw [HV.out]
  have b0 := bel2 w (.cells #[.slice a1 l1.length c1, .slice a2 l2.length c2] 28) (.cells #[.slice none 0 0, .slice none 0 0] 28)
  have s0 := (slot2dNew w (.slice a1 l1.length c1) (.slice a2 l2.length c2) 28).below (bel1 _ (.cells #[.slice none 0 0, .slice none 0 0] 28))
  have s1 := slot2dNew (w.alloc (.cells #[.slice a1 l1.length c1, .slice a2 l2.length c2] 28)) (.slice none 0 0) (.slice none 0 0) 28
  have hsz : ((w.alloc (.cells #[.slice a1 l1.length c1, .slice a2 l2.length c2] 28)).alloc (.cells #[.slice none 0 0, .slice none 0 0] 28)).heap.size = w.heap.size + 2 := by simp
  rw [World.size_alloc] at s1
  have t0 := s0
  have t1 := s1
  have B0 := b0
  have hsX : w.heap.size + 2 ≤ ((w.alloc (.cells #[.slice a1 l1.length c1, .slice a2 l2.length c2] 28)).alloc (.cells #[.slice none 0 0, .slice none 0 0] 28)).heap.size := Nat.le_of_eq hsz.symm
  have cC := fun (W : World) (h : Below w.heap.size w W) => implCopyDk a1 a2 c1 c2 l1 l2 W z1.1 z2.1 (fun x hx => (z1.2 x hx).2) (fun x hx => (z2.2 x hx).2) (r1.below h) (r2.below h)
  have cD := fun (W : World) (h : Below w.heap.size w W) => implDiskOk a1 a2 c1 c2 l1 l2 W z1.1 z2.1 z1.2 z2.2 (r1.below h) (r2.below h)
  have cN := fun (W : World) (h : Below w.heap.size w W) => implPlace a1 c1 l1 s W z1.1 (r1.below h)
  clear s0 s1 b0 hsz
  go_enter Try.func10, Try.ntmps10
  go_upto_region 1 with fail
  generalize (w.alloc (.cells #[.slice a1 l1.length c1, .slice a2 l2.length c2] 28)).alloc (.cells #[.slice none 0 0, .slice none 0 0] 28) = wA at *
  obtain ⟨⟨x0, x1⟩, -⟩ := id t0
  go_wp2_with fail
  go_at_call 29
  refine (cD _ B0).mono ?_
  rintro e w2 ⟨rfl, hb2⟩
  have B2 := behind B0 hb2
  have T0 := t0.below hb2
  have T1 := t1.below hb2
  have hs2 := hb2.size
  have HVd := HV.out
  have HLd := HL.out
  unfold rmOk at HVd HLd
  clear cD HV HL t0 t1 B0 x0 x1
  cases hA : (listOk l1 && listOk l2) with
  | false =>
    rw [hA] at HVd HLd
    simp only [Bool.false_and, Bool.false_eq_true, if_false] at HVd HLd
    subst HVd HLd
    obtain ⟨⟨x0, x1⟩, -⟩ := id T0
    go_wp2_with fail
    go_at_call 31
    refine (cC _ B2).mono ?_
    rintro e w4 ⟨p1, p2, e1, e2, rfl, OD, hb4⟩
    have B4 := behind B2 hb4
    have hm4 := hb4.size
    obtain ⟨⟨y0, y1⟩, y2, y3⟩ := T1.below hb4
    have DA := DkAns.mk' (w := w) (ok := false) ((OD.far (b := w.heap.size + 1) (o := 0) (u := .slice p1 l1.length e1) (by omega)).far (b := w.heap.size + 1) (o := 1) (u := .slice p2 l2.length e2) (by omega)) rfl rfl (setBelow B4 (by omega) _ _) (by omega)
    obtain ⟨z0, z1⟩ := boxSet (v1 := .slice p1 l1.length e1) (v2 := .slice p2 l2.length e2) y0 y1
    go_wp2
    exact bodyPost_ret (v := .tuple #[.agg #[.slice p1 l1.length e1, .slice p2 l2.length e2], .bool false]) (by simp [results, Try.results10, go_sem, z0, z1]) rfl DA
  | true =>
    have hK1 : listOk l1 = true := by simp at hA; exact hA.1
    have hK2 : listOk l2 = true := by simp at hA; exact hA.2
    rw [hA] at HVd HLd
    simp only [Bool.true_and] at HVd HLd
    clear hA
    obtain ⟨⟨x0, x1⟩, -⟩ := id T0
    go_wp2_with fail
    go_at_call 30
    refine (cN _ B2).mono ?_
    rintro e w3 ⟨rfl, hb3⟩
    have B3 := behind B2 hb3
    have T0' := T0.below hb3
    have T1' := T1.below hb3
    have hs3 := hb3.size
    clear cN T0 T1 x0 x1
    cases hN : ndAt l1 s with
    | none =>
      rw [hN] at HVd HLd
      simp only [atN]
      simp only [Option.isSome_none, Bool.false_and, Bool.false_eq_true, if_false] at HVd HLd
      subst HVd HLd
      obtain ⟨⟨x0, x1⟩, -⟩ := id T0'
      go_wp2_with fail
      go_at_call 31
      refine (cC _ B3).mono ?_
      rintro e w4 ⟨p1, p2, e1, e2, rfl, OD, hb4⟩
      have B4 := behind B3 hb4
      have hm4 := hb4.size
      obtain ⟨⟨y0, y1⟩, y2, y3⟩ := T1'.below hb4
      have DA := DkAns.mk' (w := w) (ok := false) ((OD.far (b := w.heap.size + 1) (o := 0) (u := .slice p1 l1.length e1) (by omega)).far (b := w.heap.size + 1) (o := 1) (u := .slice p2 l2.length e2) (by omega)) rfl rfl (setBelow B4 (by omega) _ _) (by omega)
      obtain ⟨z0, z1⟩ := boxSet (v1 := .slice p1 l1.length e1) (v2 := .slice p2 l2.length e2) y0 y1
      go_wp2
      exact bodyPost_ret (v := .tuple #[.agg #[.slice p1 l1.length e1, .slice p2 l2.length e2], .bool false]) (by simp [results, Try.results10, go_sem, z0, z1]) rfl DA
    | some kN =>
      have hkN : ¬ ((kN : Int) < 0) := by omega
      rw [hN] at HVd HLd
      simp only [atN]
      simp only [Option.isSome_some, Bool.true_and] at HVd HLd
      have hd2 : decide (l2.length ≤ 60) = true := by simpa using ((listOk_iff l2).1 hK2).2.2
      obtain ⟨rs, ers, hR, hY⟩ := rdR_ex r1
      have hri : rise rs := rise_rows ers hK1
      have hll : rs.length = l1.length := by rw [← ers, nds_len]
      have h60 := ((listOk_iff l1).1 hK1).2.2
      have hsz1 : ∀ r ∈ rs, r.1.size ≤ 1048576 := fun r hr => (z1.2 (r.1, r.2.2) (by rw [← ers]; exact nds_mem hr)).1
      have cF := implFilesOf a1 c1 rs w3 (by omega) hsz1 (hR.below B3) (hY.below B3)
      rw [hll, putAll_rise hri] at cF
      have HO : Hid (nds (cutR rs s) = cutR l1 s) := by show nds _ = _; rw [nds_cut, ers]
      have hOl : (cutR rs s).length = (cutR l1 s).length := by rw [← HO.out, nds_len]
      have HYO : Hid (BysR w (cutR rs s)) := fun r hr => hY r (mem_cut.1 hr).2
      have hOs : ∀ r ∈ cutR rs s, r.1.size ≤ 1048576 := by
        intro r hr
        exact hsz1 r (mem_cut.1 hr).2
      have hOr := rise_cut hri s
      have hOb : (cutR l1 s).length ≤ 2097152 := Nat.le_trans (List.length_filter_le _ _) (by omega)
      have hOz : ∀ x ∈ cutR l1 s, x.2.length ≤ 1048576 := fun x hx => ((cut_bounds z1).2 x hx).2
      clear hN ers
      obtain ⟨⟨x0, x1⟩, -⟩ := id T0'
      go_wp2_with (first
        | (go_at_call 32; refine cF.mono ?_; rintro e w5 ⟨rfl, hM5, hb5⟩; have T05 := T0'.below hb5; have T15 := T1'.below hb5; have B5 := behind B3 hb5; have hs5 := hb5.size; clear T0' T1')
        | (at_delete; refine wpList_delete_own _ rfl _ _ 51 9 rfl 57 lawN Try.underlying51 heldR w3.heap.size l1.length (Dof (agR rs)) (by rfl) hM5 (.string s) (keyL s) (by rfl) (keyN hs) ?_; intro wM hownM hgM'; have hgM := hgM'.grown)
        | fail)
      rw [← Dof_del, ← agR_cut] at hownM
      have BM : Below w.heap.size w wM := B5.grown hgM B5.size (fun j e => by cases e; exact B3.size)
      have T0 : Slot2d wM w.heap.size (.slice a1 l1.length c1) (.slice a2 l2.length c2) := T05.grown hgM (fun e => by have := Option.some.inj e; omega)
      have T1 : Slot2d wM (w.heap.size + 1) (.slice none 0 0) (.slice none 0 0) := T15.grown hgM (fun e => by have := Option.some.inj e; omega)
      have hMs : w.heap.size + 2 ≤ wM.heap.size := by have := hgM.size; omega
      have cL := implList w3.heap.size l1.length _ wM.drew hOr (by rw [hOl]; exact hOb) hOs (fun r hr => rdV_shape (HYO.out r hr)) (show Mp wM.drew _ _ _ from hownM)
      rw [hOl] at cL
      generalize cutR rs s = rO at *
      generalize cutR l1 s = O at *
      obtain ⟨⟨x0, x1⟩, -⟩ := id T0
      clear cF hownM hM5 T05 T15 hOr hOs hOl hgM hgM'
      rw [hd2, Bool.and_true] at HVd HLd
      cases V with
      | false =>
        rw [HVd] at HLd
        simp only [Bool.false_eq_true, if_false] at HLd
        subst HLd
        have HVD : Hid ((decide (O.length ≤ 60) && decide (l2.length ≤ 60)) = false) := by show _ = _; rw [HVd]; rfl
        clear HVd hd2
        go_upto_region 5 with fail
        refine wp_region_held_drew (S := fun wy => wy.cell? ⟨w.heap.size, 0, none⟩ = some (.slice a1 l1.length c1) ∧ wy.cell? ⟨w.heap.size, 1, none⟩ = some (.slice a2 l2.length c2)) (by kernel_rfl) ⟨x0, x1⟩ (fun hHeld => ?_)
        refine wpAnyH_take (i := 0) (oi := ?_) (v := ?_) ?_ ?_ ?_ ?_ ?_ ?_ (by assumption) ?_
        rotate_left 2
        · simp only [List.getElem?_toArray, List.getElem?_cons_zero]
          rfl
        · kernel_rfl
        · kernel_rfl
        · kernel_rfl
        · exact fun _ _ _ h => h
        · refine Or.inl ⟨by kernel_rfl, ?_⟩
          intro wS hSw
          try dsimp only at hSw
          go_simp
          try with_reducible rfl
        simp only [Act.put, List.setIfInBounds_toArray, List.set_cons_zero, List.set_cons_succ]
        refine wpAnyH_take (i := 1) (oi := ?_) (v := ?_) ?_ ?_ ?_ ?_ ?_ ?_ (by assumption) ?_
        rotate_left 2
        · simp only [List.getElem?_toArray, List.getElem?_cons_succ, List.getElem?_cons_zero]
          rfl
        · kernel_rfl
        · kernel_rfl
        · kernel_rfl
        · exact fun _ _ _ h => h
        · refine Or.inl ⟨by kernel_rfl, ?_⟩
          intro wS hSw
          try dsimp only at hSw
          go_simp
          try with_reducible rfl
        simp only [Act.put, List.setIfInBounds_toArray, List.set_cons_zero, List.set_cons_succ]
        refine wpAnyH_take (i := 3) (oi := ?_) (v := ?_) ?_ ?_ ?_ ?_ ?_ ?_ (by assumption) ?_
        rotate_left 2
        · simp only [List.getElem?_toArray, List.getElem?_cons_succ, List.getElem?_cons_zero]
          rfl
        · kernel_rfl
        · kernel_rfl
        · kernel_rfl
        · exact fun _ _ _ h => h
        · refine Or.inl ⟨by kernel_rfl, ?_⟩
          intro wS hSw
          try dsimp only at hSw
          go_simp
          try with_reducible rfl
        simp only [Act.put, List.setIfInBounds_toArray, List.set_cons_zero, List.set_cons_succ]
        refine wpAnyH_take (i := 4) (oi := ?_) (v := ?_) ?_ ?_ ?_ ?_ ?_ ?_ (by assumption) ?_
        rotate_left 2
        · simp only [List.getElem?_toArray, List.getElem?_cons_succ, List.getElem?_cons_zero]
          rfl
        · kernel_rfl
        · kernel_rfl
        · kernel_rfl
        · exact fun _ _ _ h => h
        · refine Or.inl ⟨by kernel_rfl, ?_⟩
          intro wS hSw
          try dsimp only at hSw
          go_simp
          try with_reducible rfl
        simp only [Act.put, List.setIfInBounds_toArray, List.set_cons_zero, List.set_cons_succ]
        refine wpAnyH_ready (rs := [2]) (by kernel_rfl) (by simp) ?_
        refine AllReadyH.cons rfl (fun K hK => ?_) ?_
        rotate_left
        · exact AllReadyH.nil
        go_simp
        refine cL.mono ?_
        rintro e w4 ⟨a', c', rfl, hrow, hb4⟩
        go_wp2_with fail
        refine hK.out _ _ ?_ (fun hHeld => ?_)
        · exact ⟨keepC hHeld.1 hb4, keepC hHeld.2 hb4⟩
        clear hK K
        try simp only [Act.put, List.setIfInBounds_toArray, List.set_cons_zero, List.set_cons_succ]
        refine wpAnyH_take (i := 5) (oi := ?_) (v := ?_) ?_ ?_ ?_ ?_ ?_ ?_ (by assumption) ?_
        rotate_left 2
        · simp only [List.getElem?_toArray, List.getElem?_cons_succ, List.getElem?_cons_zero]
          rfl
        · kernel_rfl
        · kernel_rfl
        · kernel_rfl
        · exact fun _ _ _ h => h
        · refine Or.inl ⟨by kernel_rfl, ?_⟩
          intro wS hSw
          try dsimp only at hSw
          go_simp
          try with_reducible rfl
        simp only [Act.put, List.setIfInBounds_toArray, List.set_cons_zero, List.set_cons_succ]
        have B4 : Below w.heap.size w w4 := behind BM.drew hb4
        have qO : RdNd w4 a' O := by
          rw [← HO.out]
          exact rdNd_of (RdR.own hrow) (HYO.out.below B4)
        have cH := implChanged a1 a2 a' a2 c1 c2 c' c2 l1 l2 O l2 w4 z1.1 z2.1 hOb (by have := z2.1; omega) (fun y hy => (z1.2 y hy).2) (fun y hy => (z2.2 y hy).2) hOz (fun y hy => (z2.2 y hy).2) (r1.below B4) (r2.below B4) qO (r2.below B4)
        rw [HVD.out] at cH
        simp only [Bool.false_eq_true, if_false] at cH
        refine wpAnyH_ready (rs := [6]) (by kernel_rfl) (by simp) ?_
        refine AllReadyH.cons rfl (fun K hK => ?_) ?_
        rotate_left
        · exact AllReadyH.nil
        go_simp
        refine cH.mono ?_
        rintro e w6 ⟨k1, k2, m1, m2, ra, rb, rfl, OD, ea, eb, hb6⟩
        go_wp2_with fail
        refine hK.out _ _ ?_ (fun hHeld => ?_)
        · exact ⟨keepC hHeld.1 hb6, keepC hHeld.2 hb6⟩
        clear hK K
        try simp only [Act.put, List.setIfInBounds_toArray, List.set_cons_zero, List.set_cons_succ]
        refine wpAnyH_take (i := 7) (oi := ?_) (v := ?_) ?_ ?_ ?_ ?_ ?_ ?_ (by assumption) ?_
        rotate_left 2
        · simp only [List.getElem?_toArray, List.getElem?_cons_succ, List.getElem?_cons_zero]
          rfl
        · kernel_rfl
        · kernel_rfl
        · kernel_rfl
        · exact fun _ _ _ h => h
        · refine Or.inl ⟨by kernel_rfl, ?_⟩
          intro wS hSw
          try dsimp only at hSw
          go_simp
          try with_reducible rfl
        simp only [Act.put, List.setIfInBounds_toArray, List.set_cons_zero, List.set_cons_succ]
        refine wpAnyH_take (i := 8) (oi := ?_) (v := ?_) ?_ ?_ ?_ ?_ ?_ ?_ (by assumption) ?_
        rotate_left 2
        · simp only [List.getElem?_toArray, List.getElem?_cons_succ, List.getElem?_cons_zero]
          rfl
        · kernel_rfl
        · kernel_rfl
        · kernel_rfl
        · exact fun _ _ _ h => h
        · refine Or.inl ⟨by kernel_rfl, ?_⟩
          intro wS hSw
          try dsimp only at hSw
          go_simp
          try with_reducible rfl
        simp only [Act.put, List.setIfInBounds_toArray, List.set_cons_zero, List.set_cons_succ]
        have T6 : Slot2d w6 (w.heap.size + 1) (.slice none 0 0) (.slice none 0 0) := Slot2d.below (Slot2d.below (show Slot2d wM.drew _ _ _ from T1) hb4) hb6
        obtain ⟨⟨t2, t3⟩, t4, t5⟩ := id T6
        have hm4 := hb4.size
        have hmM : w.heap.size + 2 ≤ wM.drew.heap.size := hMs
        have FA := DkAns.set (w := w) (wE := w4) (ok := false) (b := w.heap.size + 1) (behind B4 hb6) OD ea eb (by omega) (by omega) (by omega)
        obtain ⟨n0, n1⟩ := boxSet (v1 := .slice k1 l1.length m1) (v2 := .slice k2 l2.length m2) t2 t3
        clear OD ea eb cH cL
        refine wpAnyH_ready (rs := [9]) (by kernel_rfl) (by simp) ?_
        refine AllReadyH.cons rfl (fun K hK => ?_) ?_
        rotate_left
        · exact AllReadyH.nil
        go_simp
        refine hK.out _ _ ?_ (fun hHeld => ?_)
        · exact ⟨keepS hHeld.1 _ _ (by omega), keepS hHeld.2 _ _ (by omega)⟩
        clear hK K
        try simp only [Act.put, List.setIfInBounds_toArray, List.set_cons_zero, List.set_cons_succ]
        refine wpAnyH_take (i := 10) (oi := ?_) (v := ?_) ?_ ?_ ?_ ?_ ?_ ?_ (by assumption) ?_
        rotate_left 2
        · simp only [List.getElem?_toArray, List.getElem?_cons_succ, List.getElem?_cons_zero]
          rfl
        · kernel_rfl
        · kernel_rfl
        · kernel_rfl
        · exact fun _ _ _ h => h
        · refine Or.inl ⟨by kernel_rfl, ?_⟩
          intro wS hSw
          try dsimp only at hSw
          go_simp
          try with_reducible rfl
        simp only [Act.put, List.setIfInBounds_toArray, List.set_cons_zero, List.set_cons_succ]
        refine wpAnyH_done (by kernel_rfl) ?_ _
        go_wp2
        exact bodyPost_ret (v := .tuple #[.agg #[.slice k1 l1.length m1, .slice k2 l2.length m2], .bool false]) (by simp [results, Try.results10, go_sem, n0, n1]) rfl FA
      | true =>
        rw [HVd] at HLd
        simp only [if_true] at HLd
        subst HLd
        have HVD : Hid ((decide (O.length ≤ 60) && decide (l2.length ≤ 60)) = true) := by show _ = _; rw [HVd, hd2]; rfl
        clear HVd hd2
        go_upto_region 5 with fail
        refine wp_region_held_drew (S := fun wy => wy.cell? ⟨w.heap.size, 0, none⟩ = some (.slice a1 l1.length c1) ∧ wy.cell? ⟨w.heap.size, 1, none⟩ = some (.slice a2 l2.length c2)) (by kernel_rfl) ⟨x0, x1⟩ (fun hHeld => ?_)
        refine wpAnyH_take (i := 0) (oi := ?_) (v := ?_) ?_ ?_ ?_ ?_ ?_ ?_ (by assumption) ?_
        rotate_left 2
        · simp only [List.getElem?_toArray, List.getElem?_cons_zero]
          rfl
        · kernel_rfl
        · kernel_rfl
        · kernel_rfl
        · exact fun _ _ _ h => h
        · refine Or.inl ⟨by kernel_rfl, ?_⟩
          intro wS hSw
          try dsimp only at hSw
          go_simp
          try with_reducible rfl
        simp only [Act.put, List.setIfInBounds_toArray, List.set_cons_zero, List.set_cons_succ]
        refine wpAnyH_take (i := 1) (oi := ?_) (v := ?_) ?_ ?_ ?_ ?_ ?_ ?_ (by assumption) ?_
        rotate_left 2
        · simp only [List.getElem?_toArray, List.getElem?_cons_succ, List.getElem?_cons_zero]
          rfl
        · kernel_rfl
        · kernel_rfl
        · kernel_rfl
        · exact fun _ _ _ h => h
        · refine Or.inl ⟨by kernel_rfl, ?_⟩
          intro wS hSw
          try dsimp only at hSw
          go_simp
          try with_reducible rfl
        simp only [Act.put, List.setIfInBounds_toArray, List.set_cons_zero, List.set_cons_succ]
        refine wpAnyH_take (i := 3) (oi := ?_) (v := ?_) ?_ ?_ ?_ ?_ ?_ ?_ (by assumption) ?_
        rotate_left 2
        · simp only [List.getElem?_toArray, List.getElem?_cons_succ, List.getElem?_cons_zero]
          rfl
        · kernel_rfl
        · kernel_rfl
        · kernel_rfl
        · exact fun _ _ _ h => h
        · refine Or.inl ⟨by kernel_rfl, ?_⟩
          intro wS hSw
          try dsimp only at hSw
          go_simp
          try with_reducible rfl
        simp only [Act.put, List.setIfInBounds_toArray, List.set_cons_zero, List.set_cons_succ]
        refine wpAnyH_take (i := 4) (oi := ?_) (v := ?_) ?_ ?_ ?_ ?_ ?_ ?_ (by assumption) ?_
        rotate_left 2
        · simp only [List.getElem?_toArray, List.getElem?_cons_succ, List.getElem?_cons_zero]
          rfl
        · kernel_rfl
        · kernel_rfl
        · kernel_rfl
        · exact fun _ _ _ h => h
        · refine Or.inl ⟨by kernel_rfl, ?_⟩
          intro wS hSw
          try dsimp only at hSw
          go_simp
          try with_reducible rfl
        simp only [Act.put, List.setIfInBounds_toArray, List.set_cons_zero, List.set_cons_succ]
        refine wpAnyH_ready (rs := [2]) (by kernel_rfl) (by simp) ?_
        refine AllReadyH.cons rfl (fun K hK => ?_) ?_
        rotate_left
        · exact AllReadyH.nil
        go_simp
        refine cL.mono ?_
        rintro e w4 ⟨a', c', rfl, hrow, hb4⟩
        go_wp2_with fail
        refine hK.out _ _ ?_ (fun hHeld => ?_)
        · exact ⟨keepC hHeld.1 hb4, keepC hHeld.2 hb4⟩
        clear hK K
        try simp only [Act.put, List.setIfInBounds_toArray, List.set_cons_zero, List.set_cons_succ]
        refine wpAnyH_take (i := 5) (oi := ?_) (v := ?_) ?_ ?_ ?_ ?_ ?_ ?_ (by assumption) ?_
        rotate_left 2
        · simp only [List.getElem?_toArray, List.getElem?_cons_succ, List.getElem?_cons_zero]
          rfl
        · kernel_rfl
        · kernel_rfl
        · kernel_rfl
        · exact fun _ _ _ h => h
        · refine Or.inl ⟨by kernel_rfl, ?_⟩
          intro wS hSw
          try dsimp only at hSw
          go_simp
          try with_reducible rfl
        simp only [Act.put, List.setIfInBounds_toArray, List.set_cons_zero, List.set_cons_succ]
        have B4 : Below w.heap.size w w4 := behind BM.drew hb4
        have qO : RdNd w4 a' O := by
          rw [← HO.out]
          exact rdNd_of (RdR.own hrow) (HYO.out.below B4)
        have cH := implChanged a1 a2 a' a2 c1 c2 c' c2 l1 l2 O l2 w4 z1.1 z2.1 hOb (by have := z2.1; omega) (fun y hy => (z1.2 y hy).2) (fun y hy => (z2.2 y hy).2) hOz (fun y hy => (z2.2 y hy).2) (r1.below B4) (r2.below B4) qO (r2.below B4)
        rw [HVD.out] at cH
        simp only [if_true] at cH
        refine wpAnyH_ready (rs := [6]) (by kernel_rfl) (by simp) ?_
        refine AllReadyH.cons rfl (fun K hK => ?_) ?_
        rotate_left
        · exact AllReadyH.nil
        go_simp
        refine cH.mono ?_
        rintro e w6 ⟨k1, k2, m1, m2, ra, rb, rfl, OD, ea, eb, hb6⟩
        go_wp2_with fail
        refine hK.out _ _ ?_ (fun hHeld => ?_)
        · exact ⟨keepC hHeld.1 hb6, keepC hHeld.2 hb6⟩
        clear hK K
        try simp only [Act.put, List.setIfInBounds_toArray, List.set_cons_zero, List.set_cons_succ]
        refine wpAnyH_take (i := 7) (oi := ?_) (v := ?_) ?_ ?_ ?_ ?_ ?_ ?_ (by assumption) ?_
        rotate_left 2
        · simp only [List.getElem?_toArray, List.getElem?_cons_succ, List.getElem?_cons_zero]
          rfl
        · kernel_rfl
        · kernel_rfl
        · kernel_rfl
        · exact fun _ _ _ h => h
        · refine Or.inl ⟨by kernel_rfl, ?_⟩
          intro wS hSw
          try dsimp only at hSw
          go_simp
          try with_reducible rfl
        simp only [Act.put, List.setIfInBounds_toArray, List.set_cons_zero, List.set_cons_succ]
        refine wpAnyH_take (i := 8) (oi := ?_) (v := ?_) ?_ ?_ ?_ ?_ ?_ ?_ (by assumption) ?_
        rotate_left 2
        · simp only [List.getElem?_toArray, List.getElem?_cons_succ, List.getElem?_cons_zero]
          rfl
        · kernel_rfl
        · kernel_rfl
        · kernel_rfl
        · exact fun _ _ _ h => h
        · refine Or.inl ⟨by kernel_rfl, ?_⟩
          intro wS hSw
          try dsimp only at hSw
          go_simp
          try with_reducible rfl
        simp only [Act.put, List.setIfInBounds_toArray, List.set_cons_zero, List.set_cons_succ]
        have T6 : Slot2d w6 (w.heap.size + 1) (.slice none 0 0) (.slice none 0 0) := Slot2d.below (Slot2d.below (show Slot2d wM.drew _ _ _ from T1) hb4) hb6
        obtain ⟨⟨t2, t3⟩, t4, t5⟩ := id T6
        have hm4 := hb4.size
        have hmM : w.heap.size + 2 ≤ wM.drew.heap.size := hMs
        have FA := DkAns.set (w := w) (wE := w4) (ok := true) (b := w.heap.size + 1) (behind B4 hb6) OD ea eb (by omega) (by omega) (by omega)
        obtain ⟨n0, n1⟩ := boxSet (v1 := .slice k1 O.length m1) (v2 := .slice k2 l2.length m2) t2 t3
        clear OD ea eb cH cL
        refine wpAnyH_ready (rs := [9]) (by kernel_rfl) (by simp) ?_
        refine AllReadyH.cons rfl (fun K hK => ?_) ?_
        rotate_left
        · exact AllReadyH.nil
        go_simp
        refine hK.out _ _ ?_ (fun hHeld => ?_)
        · exact ⟨keepS hHeld.1 _ _ (by omega), keepS hHeld.2 _ _ (by omega)⟩
        clear hK K
        try simp only [Act.put, List.setIfInBounds_toArray, List.set_cons_zero, List.set_cons_succ]
        refine wpAnyH_take (i := 10) (oi := ?_) (v := ?_) ?_ ?_ ?_ ?_ ?_ ?_ (by assumption) ?_
        rotate_left 2
        · simp only [List.getElem?_toArray, List.getElem?_cons_succ, List.getElem?_cons_zero]
          rfl
        · kernel_rfl
        · kernel_rfl
        · kernel_rfl
        · exact fun _ _ _ h => h
        · refine Or.inl ⟨by kernel_rfl, ?_⟩
          intro wS hSw
          try dsimp only at hSw
          go_simp
          try with_reducible rfl
        simp only [Act.put, List.setIfInBounds_toArray, List.set_cons_zero, List.set_cons_succ]
        refine wpAnyH_done (by kernel_rfl) ?_ _
        go_wp2
        exact bodyPost_ret (v := .tuple #[.agg #[.slice k1 O.length m1, .slice k2 l2.length m2], .bool true]) (by simp [results, Try.results10, go_sem, n0, n1]) rfl FA
end Go.Proofs.Ytmappmboedpgmaq.Wk
