/- What SyncName of the program comes to. -/
import Derived.Test.YtmappmboedpgmaqChI
import Derived.Test.YtmappmboedpgmaqFnI
import Derived.Test.YtmappmboedpgmaqFoI
import Derived.Test.YtmappmboedpgmaqNwC
namespace Go.Proofs.Ytmappmboedpgmaq.Wk
set_option linter.unusedVariables false
open Go.ChangeShapes Go.WideShapes Go.ChangeAt Go.RowKit Go.Maps Go.Sort Go.Shelf

/-- the name brought to where l1 has it -/
def folL (l2 l1 : List Nd) (s : ByteArray) : List Nd := match rfind l1 s with
  | some b => putR l2 (s, b)
  | none => cutR l2 s
theorem nds_fol (rb ra : List Rw) (s : ByteArray) : nds (folR rb ra s) = folL (nds rb) (nds ra) s := by
  unfold folR folL
  rw [show rfind (nds ra) s = (rfind ra s).map (fun x => x.2) from rfind_map (fun _ (x : Value × List UInt8) => x.2) ra s]
  cases rfind ra s with
  | none => exact nds_cut rb s
  | some x => exact nds_put rb s x.1 x.2
theorem mem_fol {rb ra : List Rw} {s : ByteArray} {r : Rw} (h : r ∈ folR rb ra s) : r ∈ rb ∨ r ∈ ra := by
  unfold folR at h
  split at h
  · rename_i x hx
    rcases mem_put_any h with rfl | h
    · exact .inr (rfind_some hx)
    · exact .inl h
  · exact .inl (mem_cut.1 h).2
theorem fol_len (rb ra : List Rw) (s : ByteArray) : (folR rb ra s).length ≤ rb.length + 1 := by
  unfold folR
  split
  · exact putR_len _ _
  · exact Nat.le_succ_of_le (List.length_filter_le _ _)
/-- whether SyncName makes sure -/
noncomputable def syOk (l1 l2 : List Nd) (s : ByteArray) : Bool := (listOk l1 && listOk l2) && Nm.name s.data.toList && (decide (l1.length ≤ 60) && decide ((folL l2 l1 s).length ≤ 60))
set_option maxHeartbeats 4000000 in
set_option maxRecDepth 100000 in
theorem implSync (a1 a2 : Option Addr) (c1 c2 : Nat) (l1 l2 : List Nd) (s : ByteArray) (w : World) (z1 : NdZ l1) (z2 : NdZ l2) (hs : s.size ≤ 1048576)
    (r1 : RdNd w a1 l1) (r2 : RdNd w a2 l2) :
    Calls Try.prog 15 #[.agg #[.slice a1 l1.length c1, .slice a2 l2.length c2], .string s] w (DkAns w (syOk l1 l2 s) l1 (if syOk l1 l2 s then folL l2 l1 s else l2)) := by
  obtain ⟨L, HL⟩ : ∃ L, Hid ((if syOk l1 l2 s then folL l2 l1 s else l2) = L) := ⟨_, rfl⟩
  rw [HL.out]
  obtain ⟨V, HV⟩ : ∃ V, Hid (syOk l1 l2 s = V) := ⟨_, rfl⟩
  rw [HV.out]
  have b0 := bel2 w (.cells #[.slice a1 l1.length c1, .slice a2 l2.length c2] 28) (.cells #[.slice none 0 0, .slice none 0 0] 28)
  have s0 := (slot2dNew w (.slice a1 l1.length c1) (.slice a2 l2.length c2) 28).below (bel1 _ (.cells #[.slice none 0 0, .slice none 0 0] 28))
  have s1 := slot2dNew (w.alloc (.cells #[.slice a1 l1.length c1, .slice a2 l2.length c2] 28)) (.slice none 0 0) (.slice none 0 0) 28
  have hsz : ((w.alloc (.cells #[.slice a1 l1.length c1, .slice a2 l2.length c2] 28)).alloc (.cells #[.slice none 0 0, .slice none 0 0] 28)).heap.size = w.heap.size + 2 := by simp
  rw [World.size_alloc] at s1
  have t0 := s0
  have t1 := s1
  have B0 := b0
  have hsX : w.heap.size + 2 ≤ ((w.alloc (.cells #[.slice a1 l1.length c1, .slice a2 l2.length c2] 28)).alloc (.cells #[.slice none 0 0, .slice none 0 0] 28)).heap.size := Nat.le_of_eq hsz.symm
  have cC := fun (W : World) (h : Below w.heap.size w W) => implCopyDk a1 a2 c1 c2 l1 l2 W z1.1 z2.1 (fun x hx => (z1.2 x hx).2) (fun x hx => (z2.2 x hx).2) (r1.below h) (r2.below h)
  have cD := fun (W : World) (h : Below w.heap.size w W) => implDiskOk a1 a2 c1 c2 l1 l2 W z1.1 z2.1 z1.2 z2.2 (r1.below h) (r2.below h)
  have cN := fun (W : World) => implName s W hs
  clear s0 s1 b0 hsz
  go_enter Try.func15, Try.ntmps15
  go_upto_region 1 with fail
  generalize (w.alloc (.cells #[.slice a1 l1.length c1, .slice a2 l2.length c2] 28)).alloc (.cells #[.slice none 0 0, .slice none 0 0] 28) = wA at *
  obtain ⟨⟨x0, x1⟩, -⟩ := id t0
  go_wp2_with fail
  go_at_call 29
  refine (cD _ B0).mono ?_
  rintro e w2 ⟨rfl, hb2⟩
  have B2 := behind B0 hb2
  have T0 := t0.below hb2
  have T1 := t1.below hb2
  have hs2 := hb2.size
  have HVd := HV.out
  have HLd := HL.out
  unfold syOk at HVd HLd
  clear cD HV HL t0 t1 B0 x0 x1
  cases hA : (listOk l1 && listOk l2) with
  | false =>
    rw [hA] at HVd HLd
    simp only [Bool.false_and, Bool.false_eq_true, if_false] at HVd HLd
    subst HVd HLd
    obtain ⟨⟨x0, x1⟩, -⟩ := id T0
    go_wp2_with fail
    go_at_call 31
    refine (cC _ B2).mono ?_
    rintro e w4 ⟨p1, p2, e1, e2, rfl, OD, hb4⟩
    have B4 := behind B2 hb4
    have hm4 := hb4.size
    obtain ⟨⟨y0, y1⟩, y2, y3⟩ := T1.below hb4
    have DA := DkAns.mk' (w := w) (ok := false) ((OD.far (b := w.heap.size + 1) (o := 0) (u := .slice p1 l1.length e1) (by omega)).far (b := w.heap.size + 1) (o := 1) (u := .slice p2 l2.length e2) (by omega)) rfl rfl (setBelow B4 (by omega) _ _) (by omega)
    obtain ⟨z0, z1⟩ := boxSet (v1 := .slice p1 l1.length e1) (v2 := .slice p2 l2.length e2) y0 y1
    go_wp2
    exact bodyPost_ret (v := .tuple #[.agg #[.slice p1 l1.length e1, .slice p2 l2.length e2], .bool false]) (by simp [results, Try.results15, go_sem, z0, z1]) rfl DA
  | true =>
    have hK1 : listOk l1 = true := by simp at hA; exact hA.1
    have hK2 : listOk l2 = true := by simp at hA; exact hA.2
    rw [hA] at HVd HLd
    simp only [Bool.true_and] at HVd HLd
    clear hA
    obtain ⟨⟨x0, x1⟩, -⟩ := id T0
    go_wp2_with fail
    go_at_call 40
    refine (cN _).mono ?_
    rintro e w3 ⟨rfl, hb3⟩
    have B3 := behind B2 hb3
    have T0' := T0.below hb3
    have T1' := T1.below hb3
    have hs3 := hb3.size
    clear cN T0 T1 x0 x1
    cases hN : Nm.name s.data.toList with
    | false =>
      rw [hN] at HVd HLd
      simp only [Bool.false_and, Bool.false_eq_true, if_false] at HVd HLd
      subst HVd HLd
      obtain ⟨⟨x0, x1⟩, -⟩ := id T0'
      go_wp2_with fail
      go_at_call 31
      refine (cC _ B3).mono ?_
      rintro e w4 ⟨p1, p2, e1, e2, rfl, OD, hb4⟩
      have B4 := behind B3 hb4
      have hm4 := hb4.size
      obtain ⟨⟨y0, y1⟩, y2, y3⟩ := T1'.below hb4
      have DA := DkAns.mk' (w := w) (ok := false) ((OD.far (b := w.heap.size + 1) (o := 0) (u := .slice p1 l1.length e1) (by omega)).far (b := w.heap.size + 1) (o := 1) (u := .slice p2 l2.length e2) (by omega)) rfl rfl (setBelow B4 (by omega) _ _) (by omega)
      obtain ⟨z0, z1⟩ := boxSet (v1 := .slice p1 l1.length e1) (v2 := .slice p2 l2.length e2) y0 y1
      go_wp2
      exact bodyPost_ret (v := .tuple #[.agg #[.slice p1 l1.length e1, .slice p2 l2.length e2], .bool false]) (by simp [results, Try.results15, go_sem, z0, z1]) rfl DA
    | true =>
      rw [hN] at HVd HLd
      simp only [Bool.true_and] at HVd HLd
      have hd1 : decide (l1.length ≤ 60) = true := by simpa using ((listOk_iff l1).1 hK1).2.2
      obtain ⟨ra, era, hRa, hYa⟩ := rdR_ex r1
      obtain ⟨rb, erb, hRb, hYb⟩ := rdR_ex r2
      have hria : rise ra := rise_rows era hK1
      have hrib : rise rb := rise_rows erb hK2
      have hla : ra.length = l1.length := by rw [← era, nds_len]
      have hlb : rb.length = l2.length := by rw [← erb, nds_len]
      have h60a := ((listOk_iff l1).1 hK1).2.2
      have h60b := ((listOk_iff l2).1 hK2).2.2
      have hsza : ∀ r ∈ ra, r.1.size ≤ 1048576 := fun r hr => (z1.2 (r.1, r.2.2) (by rw [← era]; exact nds_mem hr)).1
      have hszb : ∀ r ∈ rb, r.1.size ≤ 1048576 := fun r hr => (z2.2 (r.1, r.2.2) (by rw [← erb]; exact nds_mem hr)).1
      have cF := implFilesOf a2 c2 rb w3 (by omega) hszb (hRb.below B3) (hYb.below B3)
      rw [hlb, putAll_rise hrib] at cF
      have cF1 := fun (W : World) (h : Below w.heap.size w W) => implFilesOf a1 c1 ra W (by omega) hsza (hRa.below h) (hYa.below h)
      rw [hla, putAll_rise hria] at cF1
      have HO : Hid (nds (folR rb ra s) = folL l2 l1 s) := by show nds _ = _; rw [nds_fol, era, erb]
      have hOl : (folR rb ra s).length = (folL l2 l1 s).length := by rw [← HO.out, nds_len]
      have HYO : Hid (BysR w (folR rb ra s)) := fun r hr => by
        rcases mem_fol hr with hr | hr
        · exact hYb r hr
        · exact hYa r hr
      have hOs : ∀ r ∈ folR rb ra s, r.1.size ≤ 1048576 := by
        intro r hr
        rcases mem_fol hr with hr | hr
        · exact hszb r hr
        · exact hsza r hr
      have hOr := rise_fol hrib ra s
      have hOb : (folL l2 l1 s).length ≤ 2097152 := by rw [← hOl]; exact Nat.le_trans (fol_len _ _ _) (by omega)
      have hOz : ∀ x ∈ folL l2 l1 s, x.2.length ≤ 1048576 := by
        intro x hx
        rw [← HO.out] at hx
        obtain ⟨r, hr, rfl⟩ := List.mem_map.1 hx
        rcases mem_fol hr with hr | hr
        · exact (z2.2 (r.1, r.2.2) (by rw [← erb]; exact nds_mem hr)).2
        · exact (z1.2 (r.1, r.2.2) (by rw [← era]; exact nds_mem hr)).2
      have hsha : ∀ r ∈ ra, ∃ a n c, r.2.1 = .slice a n c := fun r hr => rdV_shape (hYa r hr)
      have cG := fun (b1 b2 : Nat) (W : World) => implFollow b1 l2.length b2 l1.length rb ra s W (by omega) hrib hs hsha
      clear hN era erb hla hlb
      obtain ⟨⟨x0, x1⟩, -⟩ := id T0'
      go_wp2_with fail
      go_at_call 32
      refine cF.mono ?_
      rintro e w5 ⟨rfl, hM5, hb5⟩
      have T05 := T0'.below hb5
      have T15 := T1'.below hb5
      have B5 := behind B3 hb5
      have hs5 := hb5.size
      clear T0' T1' x0 x1
      obtain ⟨⟨x0, x1⟩, -⟩ := id T05
      go_wp2_with fail
      go_at_call 32
      refine (cF1 _ B5).mono ?_
      rintro e w7 ⟨rfl, hM7, hb7⟩
      have T07 := T05.below hb7
      have T17 := T15.below hb7
      have B7 := behind B5 hb7
      have hs7 := hb7.size
      have hM57 := mapOnN hM5 hb7
      have hl5 := World.ownsMap.lt hM5
      clear T05 T15 x0 x1
      go_wp2_with fail
      go_at_call 41
      refine (cG w3.heap.size w5.heap.size w7 hM57 hM7).mono ?_
      rintro e wM ⟨rfl, hownM, hgM⟩
      have BM : Below w.heap.size w wM := B7.grown hgM B7.size (fun j e => by cases e; exact B3.size)
      have T0 : Slot2d wM w.heap.size (.slice a1 l1.length c1) (.slice a2 l2.length c2) := T07.grown hgM (fun e => by have := Option.some.inj e; omega)
      have T1 : Slot2d wM (w.heap.size + 1) (.slice none 0 0) (.slice none 0 0) := T17.grown hgM (fun e => by have := Option.some.inj e; omega)
      have hMs : w.heap.size + 2 ≤ wM.heap.size := by have := hgM.size; omega
      have cL := implList w3.heap.size (l2.length + 1) _ wM.drew hOr (by rw [hOl]; exact hOb) hOs (fun r hr => rdV_shape (HYO.out r hr)) (show Mp wM.drew _ _ _ from hownM)
      rw [hOl] at cL
      generalize folR rb ra s = rO at *
      generalize folL l2 l1 s = O at *
      obtain ⟨⟨x0, x1⟩, -⟩ := id T0
      clear cF cF1 cG hownM hM5 hM7 hM57 T07 T17 hOr hOs hOl hgM hsha hsza hszb hRa hRb hYa hYb
      rw [hd1, Bool.true_and] at HVd HLd
      cases V with
      | false =>
        rw [HVd] at HLd
        simp only [Bool.false_eq_true, if_false] at HLd
        subst HLd
        have HVD : Hid ((decide (l1.length ≤ 60) && decide (O.length ≤ 60)) = false) := by show _ = _; rw [HVd, hd1]; rfl
        clear HVd hd1
        go_upto_region 5 with fail
        refine wp_region_held_drew (S := fun wy => wy.cell? ⟨w.heap.size, 0, none⟩ = some (.slice a1 l1.length c1) ∧ wy.cell? ⟨w.heap.size, 1, none⟩ = some (.slice a2 l2.length c2)) (by kernel_rfl) ⟨x0, x1⟩ (fun hHeld => ?_)
        refine wpAnyH_take (i := 0) (oi := ?_) (v := ?_) ?_ ?_ ?_ ?_ ?_ ?_ (by assumption) ?_
        rotate_left 2
        · simp only [List.getElem?_toArray, List.getElem?_cons_zero]
          rfl
        · kernel_rfl
        · kernel_rfl
        · kernel_rfl
        · exact fun _ _ _ h => h
        · refine Or.inl ⟨by kernel_rfl, ?_⟩
          intro wS hSw
          try dsimp only at hSw
          go_simp
          try with_reducible rfl
        simp only [Act.put, List.setIfInBounds_toArray, List.set_cons_zero, List.set_cons_succ]
        refine wpAnyH_take (i := 1) (oi := ?_) (v := ?_) ?_ ?_ ?_ ?_ ?_ ?_ (by assumption) ?_
        rotate_left 2
        · simp only [List.getElem?_toArray, List.getElem?_cons_succ, List.getElem?_cons_zero]
          rfl
        · kernel_rfl
        · kernel_rfl
        · kernel_rfl
        · exact fun _ _ _ h => h
        · refine Or.inl ⟨by kernel_rfl, ?_⟩
          intro wS hSw
          try dsimp only at hSw
          go_simp
          try with_reducible rfl
        simp only [Act.put, List.setIfInBounds_toArray, List.set_cons_zero, List.set_cons_succ]
        refine wpAnyH_take (i := 2) (oi := ?_) (v := ?_) ?_ ?_ ?_ ?_ ?_ ?_ (by assumption) ?_
        rotate_left 2
        · simp only [List.getElem?_toArray, List.getElem?_cons_succ, List.getElem?_cons_zero]
          rfl
        · kernel_rfl
        · kernel_rfl
        · kernel_rfl
        · exact fun _ _ _ h => h
        · refine Or.inl ⟨by kernel_rfl, ?_⟩
          intro wS hSw
          try dsimp only at hSw
          go_simp
          try with_reducible rfl
        simp only [Act.put, List.setIfInBounds_toArray, List.set_cons_zero, List.set_cons_succ]
        refine wpAnyH_take (i := 3) (oi := ?_) (v := ?_) ?_ ?_ ?_ ?_ ?_ ?_ (by assumption) ?_
        rotate_left 2
        · simp only [List.getElem?_toArray, List.getElem?_cons_succ, List.getElem?_cons_zero]
          rfl
        · kernel_rfl
        · kernel_rfl
        · kernel_rfl
        · exact fun _ _ _ h => h
        · refine Or.inl ⟨by kernel_rfl, ?_⟩
          intro wS hSw
          try dsimp only at hSw
          go_simp
          try with_reducible rfl
        simp only [Act.put, List.setIfInBounds_toArray, List.set_cons_zero, List.set_cons_succ]
        refine wpAnyH_ready (rs := [4]) (by kernel_rfl) (by simp) ?_
        refine AllReadyH.cons rfl (fun K hK => ?_) ?_
        rotate_left
        · exact AllReadyH.nil
        go_simp
        refine cL.mono ?_
        rintro e w4 ⟨a', c', rfl, hrow, hb4⟩
        go_wp2_with fail
        refine hK.out _ _ ?_ (fun hHeld => ?_)
        · exact ⟨keepC hHeld.1 hb4, keepC hHeld.2 hb4⟩
        clear hK K
        try simp only [Act.put, List.setIfInBounds_toArray, List.set_cons_zero, List.set_cons_succ]
        refine wpAnyH_take (i := 5) (oi := ?_) (v := ?_) ?_ ?_ ?_ ?_ ?_ ?_ (by assumption) ?_
        rotate_left 2
        · simp only [List.getElem?_toArray, List.getElem?_cons_succ, List.getElem?_cons_zero]
          rfl
        · kernel_rfl
        · kernel_rfl
        · kernel_rfl
        · exact fun _ _ _ h => h
        · refine Or.inl ⟨by kernel_rfl, ?_⟩
          intro wS hSw
          try dsimp only at hSw
          go_simp
          try with_reducible rfl
        simp only [Act.put, List.setIfInBounds_toArray, List.set_cons_zero, List.set_cons_succ]
        have B4 : Below w.heap.size w w4 := behind BM.drew hb4
        have qO : RdNd w4 a' O := by
          rw [← HO.out]
          exact rdNd_of (RdR.own hrow) (HYO.out.below B4)
        have cH := implChanged a1 a2 a1 a' c1 c2 c1 c' l1 l2 l1 O w4 z1.1 z2.1 (by have := z1.1; omega) hOb (fun y hy => (z1.2 y hy).2) (fun y hy => (z2.2 y hy).2) (fun y hy => (z1.2 y hy).2) hOz (r1.below B4) (r2.below B4) (r1.below B4) qO
        rw [HVD.out] at cH
        simp only [Bool.false_eq_true, if_false] at cH
        refine wpAnyH_ready (rs := [6]) (by kernel_rfl) (by simp) ?_
        refine AllReadyH.cons rfl (fun K hK => ?_) ?_
        rotate_left
        · exact AllReadyH.nil
        go_simp
        refine cH.mono ?_
        rintro e w6 ⟨k1, k2, m1, m2, ra, rb, rfl, OD, ea, eb, hb6⟩
        go_wp2_with fail
        refine hK.out _ _ ?_ (fun hHeld => ?_)
        · exact ⟨keepC hHeld.1 hb6, keepC hHeld.2 hb6⟩
        clear hK K
        try simp only [Act.put, List.setIfInBounds_toArray, List.set_cons_zero, List.set_cons_succ]
        refine wpAnyH_take (i := 7) (oi := ?_) (v := ?_) ?_ ?_ ?_ ?_ ?_ ?_ (by assumption) ?_
        rotate_left 2
        · simp only [List.getElem?_toArray, List.getElem?_cons_succ, List.getElem?_cons_zero]
          rfl
        · kernel_rfl
        · kernel_rfl
        · kernel_rfl
        · exact fun _ _ _ h => h
        · refine Or.inl ⟨by kernel_rfl, ?_⟩
          intro wS hSw
          try dsimp only at hSw
          go_simp
          try with_reducible rfl
        simp only [Act.put, List.setIfInBounds_toArray, List.set_cons_zero, List.set_cons_succ]
        refine wpAnyH_take (i := 8) (oi := ?_) (v := ?_) ?_ ?_ ?_ ?_ ?_ ?_ (by assumption) ?_
        rotate_left 2
        · simp only [List.getElem?_toArray, List.getElem?_cons_succ, List.getElem?_cons_zero]
          rfl
        · kernel_rfl
        · kernel_rfl
        · kernel_rfl
        · exact fun _ _ _ h => h
        · refine Or.inl ⟨by kernel_rfl, ?_⟩
          intro wS hSw
          try dsimp only at hSw
          go_simp
          try with_reducible rfl
        simp only [Act.put, List.setIfInBounds_toArray, List.set_cons_zero, List.set_cons_succ]
        have T6 : Slot2d w6 (w.heap.size + 1) (.slice none 0 0) (.slice none 0 0) := Slot2d.below (Slot2d.below (show Slot2d wM.drew _ _ _ from T1) hb4) hb6
        obtain ⟨⟨t2, t3⟩, t4, t5⟩ := id T6
        have hm4 := hb4.size
        have hmM : w.heap.size + 2 ≤ wM.drew.heap.size := hMs
        have FA := DkAns.set (w := w) (wE := w4) (ok := false) (b := w.heap.size + 1) (behind B4 hb6) OD ea eb (by omega) (by omega) (by omega)
        obtain ⟨n0, n1⟩ := boxSet (v1 := .slice k1 l1.length m1) (v2 := .slice k2 l2.length m2) t2 t3
        clear OD ea eb cH cL
        refine wpAnyH_ready (rs := [9]) (by kernel_rfl) (by simp) ?_
        refine AllReadyH.cons rfl (fun K hK => ?_) ?_
        rotate_left
        · exact AllReadyH.nil
        go_simp
        refine hK.out _ _ ?_ (fun hHeld => ?_)
        · exact ⟨keepS hHeld.1 _ _ (by omega), keepS hHeld.2 _ _ (by omega)⟩
        clear hK K
        try simp only [Act.put, List.setIfInBounds_toArray, List.set_cons_zero, List.set_cons_succ]
        refine wpAnyH_take (i := 10) (oi := ?_) (v := ?_) ?_ ?_ ?_ ?_ ?_ ?_ (by assumption) ?_
        rotate_left 2
        · simp only [List.getElem?_toArray, List.getElem?_cons_succ, List.getElem?_cons_zero]
          rfl
        · kernel_rfl
        · kernel_rfl
        · kernel_rfl
        · exact fun _ _ _ h => h
        · refine Or.inl ⟨by kernel_rfl, ?_⟩
          intro wS hSw
          try dsimp only at hSw
          go_simp
          try with_reducible rfl
        simp only [Act.put, List.setIfInBounds_toArray, List.set_cons_zero, List.set_cons_succ]
        refine wpAnyH_done (by kernel_rfl) ?_ _
        go_wp2
        exact bodyPost_ret (v := .tuple #[.agg #[.slice k1 l1.length m1, .slice k2 l2.length m2], .bool false]) (by simp [results, Try.results15, go_sem, n0, n1]) rfl FA
      | true =>
        rw [HVd] at HLd
        simp only [if_true] at HLd
        subst HLd
        have HVD : Hid ((decide (l1.length ≤ 60) && decide (O.length ≤ 60)) = true) := by show _ = _; rw [HVd, hd1]; rfl
        clear HVd hd1
        go_upto_region 5 with fail
        refine wp_region_held_drew (S := fun wy => wy.cell? ⟨w.heap.size, 0, none⟩ = some (.slice a1 l1.length c1) ∧ wy.cell? ⟨w.heap.size, 1, none⟩ = some (.slice a2 l2.length c2)) (by kernel_rfl) ⟨x0, x1⟩ (fun hHeld => ?_)
        refine wpAnyH_take (i := 0) (oi := ?_) (v := ?_) ?_ ?_ ?_ ?_ ?_ ?_ (by assumption) ?_
        rotate_left 2
        · simp only [List.getElem?_toArray, List.getElem?_cons_zero]
          rfl
        · kernel_rfl
        · kernel_rfl
        · kernel_rfl
        · exact fun _ _ _ h => h
        · refine Or.inl ⟨by kernel_rfl, ?_⟩
          intro wS hSw
          try dsimp only at hSw
          go_simp
          try with_reducible rfl
        simp only [Act.put, List.setIfInBounds_toArray, List.set_cons_zero, List.set_cons_succ]
        refine wpAnyH_take (i := 1) (oi := ?_) (v := ?_) ?_ ?_ ?_ ?_ ?_ ?_ (by assumption) ?_
        rotate_left 2
        · simp only [List.getElem?_toArray, List.getElem?_cons_succ, List.getElem?_cons_zero]
          rfl
        · kernel_rfl
        · kernel_rfl
        · kernel_rfl
        · exact fun _ _ _ h => h
        · refine Or.inl ⟨by kernel_rfl, ?_⟩
          intro wS hSw
          try dsimp only at hSw
          go_simp
          try with_reducible rfl
        simp only [Act.put, List.setIfInBounds_toArray, List.set_cons_zero, List.set_cons_succ]
        refine wpAnyH_take (i := 2) (oi := ?_) (v := ?_) ?_ ?_ ?_ ?_ ?_ ?_ (by assumption) ?_
        rotate_left 2
        · simp only [List.getElem?_toArray, List.getElem?_cons_succ, List.getElem?_cons_zero]
          rfl
        · kernel_rfl
        · kernel_rfl
        · kernel_rfl
        · exact fun _ _ _ h => h
        · refine Or.inl ⟨by kernel_rfl, ?_⟩
          intro wS hSw
          try dsimp only at hSw
          go_simp
          try with_reducible rfl
        simp only [Act.put, List.setIfInBounds_toArray, List.set_cons_zero, List.set_cons_succ]
        refine wpAnyH_take (i := 3) (oi := ?_) (v := ?_) ?_ ?_ ?_ ?_ ?_ ?_ (by assumption) ?_
        rotate_left 2
        · simp only [List.getElem?_toArray, List.getElem?_cons_succ, List.getElem?_cons_zero]
          rfl
        · kernel_rfl
        · kernel_rfl
        · kernel_rfl
        · exact fun _ _ _ h => h
        · refine Or.inl ⟨by kernel_rfl, ?_⟩
          intro wS hSw
          try dsimp only at hSw
          go_simp
          try with_reducible rfl
        simp only [Act.put, List.setIfInBounds_toArray, List.set_cons_zero, List.set_cons_succ]
        refine wpAnyH_ready (rs := [4]) (by kernel_rfl) (by simp) ?_
        refine AllReadyH.cons rfl (fun K hK => ?_) ?_
        rotate_left
        · exact AllReadyH.nil
        go_simp
        refine cL.mono ?_
        rintro e w4 ⟨a', c', rfl, hrow, hb4⟩
        go_wp2_with fail
        refine hK.out _ _ ?_ (fun hHeld => ?_)
        · exact ⟨keepC hHeld.1 hb4, keepC hHeld.2 hb4⟩
        clear hK K
        try simp only [Act.put, List.setIfInBounds_toArray, List.set_cons_zero, List.set_cons_succ]
        refine wpAnyH_take (i := 5) (oi := ?_) (v := ?_) ?_ ?_ ?_ ?_ ?_ ?_ (by assumption) ?_
        rotate_left 2
        · simp only [List.getElem?_toArray, List.getElem?_cons_succ, List.getElem?_cons_zero]
          rfl
        · kernel_rfl
        · kernel_rfl
        · kernel_rfl
        · exact fun _ _ _ h => h
        · refine Or.inl ⟨by kernel_rfl, ?_⟩
          intro wS hSw
          try dsimp only at hSw
          go_simp
          try with_reducible rfl
        simp only [Act.put, List.setIfInBounds_toArray, List.set_cons_zero, List.set_cons_succ]
        have B4 : Below w.heap.size w w4 := behind BM.drew hb4
        have qO : RdNd w4 a' O := by
          rw [← HO.out]
          exact rdNd_of (RdR.own hrow) (HYO.out.below B4)
        have cH := implChanged a1 a2 a1 a' c1 c2 c1 c' l1 l2 l1 O w4 z1.1 z2.1 (by have := z1.1; omega) hOb (fun y hy => (z1.2 y hy).2) (fun y hy => (z2.2 y hy).2) (fun y hy => (z1.2 y hy).2) hOz (r1.below B4) (r2.below B4) (r1.below B4) qO
        rw [HVD.out] at cH
        simp only [if_true] at cH
        refine wpAnyH_ready (rs := [6]) (by kernel_rfl) (by simp) ?_
        refine AllReadyH.cons rfl (fun K hK => ?_) ?_
        rotate_left
        · exact AllReadyH.nil
        go_simp
        refine cH.mono ?_
        rintro e w6 ⟨k1, k2, m1, m2, ra, rb, rfl, OD, ea, eb, hb6⟩
        go_wp2_with fail
        refine hK.out _ _ ?_ (fun hHeld => ?_)
        · exact ⟨keepC hHeld.1 hb6, keepC hHeld.2 hb6⟩
        clear hK K
        try simp only [Act.put, List.setIfInBounds_toArray, List.set_cons_zero, List.set_cons_succ]
        refine wpAnyH_take (i := 7) (oi := ?_) (v := ?_) ?_ ?_ ?_ ?_ ?_ ?_ (by assumption) ?_
        rotate_left 2
        · simp only [List.getElem?_toArray, List.getElem?_cons_succ, List.getElem?_cons_zero]
          rfl
        · kernel_rfl
        · kernel_rfl
        · kernel_rfl
        · exact fun _ _ _ h => h
        · refine Or.inl ⟨by kernel_rfl, ?_⟩
          intro wS hSw
          try dsimp only at hSw
          go_simp
          try with_reducible rfl
        simp only [Act.put, List.setIfInBounds_toArray, List.set_cons_zero, List.set_cons_succ]
        refine wpAnyH_take (i := 8) (oi := ?_) (v := ?_) ?_ ?_ ?_ ?_ ?_ ?_ (by assumption) ?_
        rotate_left 2
        · simp only [List.getElem?_toArray, List.getElem?_cons_succ, List.getElem?_cons_zero]
          rfl
        · kernel_rfl
        · kernel_rfl
        · kernel_rfl
        · exact fun _ _ _ h => h
        · refine Or.inl ⟨by kernel_rfl, ?_⟩
          intro wS hSw
          try dsimp only at hSw
          go_simp
          try with_reducible rfl
        simp only [Act.put, List.setIfInBounds_toArray, List.set_cons_zero, List.set_cons_succ]
        have T6 : Slot2d w6 (w.heap.size + 1) (.slice none 0 0) (.slice none 0 0) := Slot2d.below (Slot2d.below (show Slot2d wM.drew _ _ _ from T1) hb4) hb6
        obtain ⟨⟨t2, t3⟩, t4, t5⟩ := id T6
        have hm4 := hb4.size
        have hmM : w.heap.size + 2 ≤ wM.drew.heap.size := hMs
        have FA := DkAns.set (w := w) (wE := w4) (ok := true) (b := w.heap.size + 1) (behind B4 hb6) OD ea eb (by omega) (by omega) (by omega)
        obtain ⟨n0, n1⟩ := boxSet (v1 := .slice k1 l1.length m1) (v2 := .slice k2 O.length m2) t2 t3
        clear OD ea eb cH cL
        refine wpAnyH_ready (rs := [9]) (by kernel_rfl) (by simp) ?_
        refine AllReadyH.cons rfl (fun K hK => ?_) ?_
        rotate_left
        · exact AllReadyH.nil
        go_simp
        refine hK.out _ _ ?_ (fun hHeld => ?_)
        · exact ⟨keepS hHeld.1 _ _ (by omega), keepS hHeld.2 _ _ (by omega)⟩
        clear hK K
        try simp only [Act.put, List.setIfInBounds_toArray, List.set_cons_zero, List.set_cons_succ]
        refine wpAnyH_take (i := 10) (oi := ?_) (v := ?_) ?_ ?_ ?_ ?_ ?_ ?_ (by assumption) ?_
        rotate_left 2
        · simp only [List.getElem?_toArray, List.getElem?_cons_succ, List.getElem?_cons_zero]
          rfl
        · kernel_rfl
        · kernel_rfl
        · kernel_rfl
        · exact fun _ _ _ h => h
        · refine Or.inl ⟨by kernel_rfl, ?_⟩
          intro wS hSw
          try dsimp only at hSw
          go_simp
          try with_reducible rfl
        simp only [Act.put, List.setIfInBounds_toArray, List.set_cons_zero, List.set_cons_succ]
        refine wpAnyH_done (by kernel_rfl) ?_ _
        go_wp2
        exact bodyPost_ret (v := .tuple #[.agg #[.slice k1 l1.length m1, .slice k2 O.length m2], .bool true]) (by simp [results, Try.results15, go_sem, n0, n1]) rfl FA
end Go.Proofs.Ytmappmboedpgmaq.Wk
