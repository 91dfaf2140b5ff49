/- What FallDisk of the program comes to. -/
import Derived.Test.YtmappmboedpgmaqCnI
import Derived.Test.YtmappmboedpgmaqChI
import Derived.Test.YtmappmboedpgmaqFnI
import Derived.Test.YtmappmboedpgmaqFoI
import Derived.Test.YtmappmboedpgmaqCdI
import Derived.Test.YtmappmboedpgmaqFaM
import Derived.Deep.RegionHeld3
namespace Go.Proofs.Ytmappmboedpgmaq.Wk
set_option linter.unusedVariables false
open Go.ChangeShapes Go.WideShapes Go.ChangeAt Go.RowKit Go.Maps Go.Sort Go.Shelf

/-- the first k names followed where keep says so -/
def folRs (rb ra : List Rw) (keep : List Bool) (ps : List Rw) : Nat → List Rw
  | 0 => rb
  | k + 1 => if keep.getD k false = true then folR (folRs rb ra keep ps k) ra (ps.map (·.1))[k]! else folRs rb ra keep ps k
theorem rise_folRs {rb : List Rw} (h : rise rb) (ra : List Rw) (keep : List Bool) (ps : List Rw) (k : Nat) : rise (folRs rb ra keep ps k) := by
  induction k with
  | zero => exact h
  | succ k ih =>
    unfold folRs
    split
    · exact rise_fol ih _ _
    · exact ih
theorem mem_folRs {rb ra : List Rw} {keep : List Bool} {ps : List Rw} {k : Nat} {r : Rw} (h : r ∈ folRs rb ra keep ps k) : r ∈ rb ∨ r ∈ ra := by
  induction k with
  | zero => exact .inl h
  | succ k ih =>
    unfold folRs at h
    split at h
    · unfold folR at h
      split at h
      · rename_i x hx
        rcases mem_put_any h with rfl | h
        · exact .inr (rfind_some hx)
        · exact ih h
      · exact ih (mem_cut.1 h).2
    · exact ih h
theorem len_folRs (rb ra : List Rw) (keep : List Bool) (ps : List Rw) (k : Nat) : (folRs rb ra keep ps k).length ≤ rb.length + k := by
  induction k with
  | zero => exact Nat.le_refl _
  | succ k ih =>
    unfold folRs
    split
    · unfold folR
      split
      · exact Nat.le_trans (putR_len _ _) (by omega)
      · exact Nat.le_trans (List.length_filter_le _ _) (by omega)
    · omega

theorem mem_putAll {l : List Rw} {r : Rw} (h : r ∈ putAll l) : r ∈ l := by
  suffices H : ∀ (l o : List Rw), r ∈ l.foldl putR o → r ∈ o ∨ r ∈ l from by
    rcases H l [] h with h | h
    · cases h
    · exact h
  intro l
  induction l with
  | nil => exact fun o h => .inl h
  | cons x t ih =>
    intro o h
    rcases ih (putR o x) h with h | h
    · rcases mem_put_any h with rfl | h
      · exact .inr (List.mem_cons_self ..)
      · exact .inl h
    · exact .inr (List.mem_cons_of_mem _ h)
set_option maxHeartbeats 4000000 in
set_option maxRecDepth 100000 in
theorem implFall (a1 a2 ak : Option Addr) (c1 c2 ck : Nat) (l1 l2 : List Nd) (ra rb : List Rw) (keep : List Bool) (w : World) (z1 : NdZ l1) (z2 : NdZ l2) (hkp : keep.length ≤ 1048576) (ea : nds ra = l1) (eb : nds rb = l2) (hRa : RdR w a1 ra) (hYa : BysR w ra) (hRb : RdR w a2 rb) (hYb : BysR w rb)
    (n1 : a1 = none → c1 = 0) (n2 : a2 = none → c2 = 0) (rk : RdK w ak keep) (L : List Nd × List Nd)
    (hL : L = if (listOk l1 && listOk l2) = true then (if (decide ((folRs rb ra keep (putAll (ra ++ rb)) (min (putAll (ra ++ rb)).length keep.length)).length ≤ 60) && decide ((folRs rb ra keep (putAll (ra ++ rb)) (min (putAll (ra ++ rb)).length keep.length)).length ≤ 60)) = true then (nds (folRs rb ra keep (putAll (ra ++ rb)) (min (putAll (ra ++ rb)).length keep.length)), nds (folRs rb ra keep (putAll (ra ++ rb)) (min (putAll (ra ++ rb)).length keep.length))) else (l1, l2)) else (l1, l2)) :
    Calls Try.prog 18 #[.agg #[.slice a1 l1.length c1, .slice a2 l2.length c2], .slice ak keep.length ck] w (DkAns1 w L.1 L.2) := by
  have HL : Hid (L = _) := hL
  clear hL
  have r1 : RdNd w a1 l1 := by rw [← ea]; exact rdNd_of hRa hYa
  have r2 : RdNd w a2 l2 := by rw [← eb]; exact rdNd_of hRb hYb
  have b0 := bel2 w (.cells #[.slice a1 l1.length c1, .slice a2 l2.length c2] 28) (.cells #[.slice none 0 0, .slice none 0 0] 28)
  have s0 := (slot2dNew w (.slice a1 l1.length c1) (.slice a2 l2.length c2) 28).below (bel1 _ (.cells #[.slice none 0 0, .slice none 0 0] 28))
  have s1 := slot2dNew (w.alloc (.cells #[.slice a1 l1.length c1, .slice a2 l2.length c2] 28)) (.slice none 0 0) (.slice none 0 0) 28
  have hsz : ((w.alloc (.cells #[.slice a1 l1.length c1, .slice a2 l2.length c2] 28)).alloc (.cells #[.slice none 0 0, .slice none 0 0] 28)).heap.size = w.heap.size + 2 := by simp
  rw [World.size_alloc] at s1
  obtain ⟨V, HV⟩ : ∃ V, Hid ((listOk l1 && listOk l2) = V) := ⟨_, rfl⟩
  go_enter Try.func18, Try.ntmps18
  go_wp2_with fail
  generalize (w.alloc (.cells #[.slice a1 l1.length c1, .slice a2 l2.length c2] 28)).alloc (.cells #[.slice none 0 0, .slice none 0 0] 28) = wA at *
  have cD := implDiskOk a1 a2 c1 c2 l1 l2 wA z1.1 z2.1 z1.2 z2.2 (r1.below b0) (r2.below b0)
  rw [HV.out] at cD
  go_at_call 29
  refine cD.mono ?_
  rintro e wD ⟨rfl, hbD⟩
  have BD := behind b0 hbD
  have T0 := s0.below hbD
  have T1 := s1.below hbD
  have mD := hbD.size
  clear cD s0 s1 b0 hbD
  obtain ⟨⟨y0, y1⟩, -, -⟩ := id T0
  cases V with
  | false =>
    have HRc : L = (l1, l2) := by
      rw [HL.out, HV.out]
      rfl
    clear HL
    subst HRc
    go_wp2_with fail
    go_at_call 31
    refine (implCopyDk a1 a2 c1 c2 l1 l2 wD z1.1 z2.1 (fun x hx => (z1.2 x hx).2) (fun x hx => (z2.2 x hx).2) (r1.below BD) (r2.below BD)).mono ?_
    rintro e w3 ⟨p1, p2, e1, e2, rfl, OK3, hb3⟩
    obtain ⟨sa, sb, ea3, eb3, OD3⟩ := OK3.rows
    obtain ⟨⟨t2, t3⟩, t4, t5⟩ := T1.below hb3
    have FA := DkAns1.set (w := w) (wE := wD) (b := w.heap.size + 1) (behind BD hb3) OD3 ea3 eb3 (by omega) (by omega) (by omega)
    obtain ⟨n0, n1'⟩ := boxSet (v1 := .slice p1 l1.length e1) (v2 := .slice p2 l2.length e2) t2 t3
    clear OD3 OK3 ea3 eb3 y0 y1
    go_wp2
    exact bodyPost_ret (v := .agg #[.slice p1 l1.length e1, .slice p2 l2.length e2]) (by simp [results, Try.results18, go_sem, n0, n1']) rfl FA
  | true =>
    have hA : (listOk l1 && listOk l2) = true := HV.out
    have hK1 : listOk l1 = true := by simp at hA; exact hA.1
    have hK2 : listOk l2 = true := by simp at hA; exact hA.2
    have h60a := ((listOk_iff l1).1 hK1).2.2
    have h60b := ((listOk_iff l2).1 hK2).2.2
    have hria : rise ra := rise_rows ea hK1
    have hrib : rise rb := rise_rows eb hK2
    have hla : ra.length = l1.length := by rw [← ea, nds_len]
    have hlb : rb.length = l2.length := by rw [← eb, nds_len]
    have hsza : ∀ r ∈ ra, r.1.size ≤ 1048576 := fun r hr => (z1.2 (r.1, r.2.2) (by rw [← ea]; exact nds_mem hr)).1
    have hszb : ∀ r ∈ rb, r.1.size ≤ 1048576 := fun r hr => (z2.2 (r.1, r.2.2) (by rw [← eb]; exact nds_mem hr)).1
    have hsha : ∀ r ∈ ra, ∃ a n c, r.2.1 = .slice a n c := fun r hr => rdV_shape (hYa r hr)
    have hshb : ∀ r ∈ rb, ∃ a n c, r.2.1 = .slice a n c := fun r hr => rdV_shape (hYb r hr)
    have cF1 := implFilesOf a1 c1 ra wD.drew (by omega) hsza (hRa.below BD.drew) (hYa.below BD.drew)
    rw [hla, putAll_rise hria] at cF1
    have cF2 := fun (W : World) (h : Below wD.drew.heap.size wD.drew W) => implFilesOf a2 c2 rb W (by omega) hszb (hRb.below (behind BD.drew h)) (hYb.below (behind BD.drew h))
    rw [hlb, putAll_rise hrib] at cF2
    go_upto_region 3 with fail
    refine wp_region_held_drew (S := fun wy => wy.cell? ⟨w.heap.size, 0, none⟩ = some (.slice a1 l1.length c1) ∧ wy.cell? ⟨w.heap.size, 1, none⟩ = some (.slice a2 l2.length c2)) (by kernel_rfl) ⟨y0, y1⟩ (fun hHeld => ?_)
    refine wpAnyH_take (i := 0) (oi := ?_) (v := ?_) ?_ ?_ ?_ ?_ ?_ ?_ (by assumption) ?_
    rotate_left 2
    · simp only [List.getElem?_toArray, List.getElem?_cons_zero]
      rfl
    · kernel_rfl
    · kernel_rfl
    · kernel_rfl
    · exact fun _ _ _ h => h
    · refine Or.inl ⟨by kernel_rfl, ?_⟩
      intro wS hSw
      try dsimp only at hSw
      go_simp
      try with_reducible rfl
    simp only [Act.put, List.setIfInBounds_toArray, List.set_cons_zero, List.set_cons_succ]
    refine wpAnyH_take (i := 1) (oi := ?_) (v := ?_) ?_ ?_ ?_ ?_ ?_ ?_ (by assumption) ?_
    rotate_left 2
    · simp only [List.getElem?_toArray, List.getElem?_cons_succ, List.getElem?_cons_zero]
      rfl
    · kernel_rfl
    · kernel_rfl
    · kernel_rfl
    · exact fun _ _ _ h => h
    · refine Or.inl ⟨by kernel_rfl, ?_⟩
      intro wS hSw
      try dsimp only at hSw
      go_simp
      try with_reducible rfl
    simp only [Act.put, List.setIfInBounds_toArray, List.set_cons_zero, List.set_cons_succ]
    refine wpAnyH_take (i := 3) (oi := ?_) (v := ?_) ?_ ?_ ?_ ?_ ?_ ?_ (by assumption) ?_
    rotate_left 2
    · simp only [List.getElem?_toArray, List.getElem?_cons_succ, List.getElem?_cons_zero]
      rfl
    · kernel_rfl
    · kernel_rfl
    · kernel_rfl
    · exact fun _ _ _ h => h
    · refine Or.inl ⟨by kernel_rfl, ?_⟩
      intro wS hSw
      try dsimp only at hSw
      go_simp
      try with_reducible rfl
    simp only [Act.put, List.setIfInBounds_toArray, List.set_cons_zero, List.set_cons_succ]
    refine wpAnyH_take (i := 4) (oi := ?_) (v := ?_) ?_ ?_ ?_ ?_ ?_ ?_ (by assumption) ?_
    rotate_left 2
    · simp only [List.getElem?_toArray, List.getElem?_cons_succ, List.getElem?_cons_zero]
      rfl
    · kernel_rfl
    · kernel_rfl
    · kernel_rfl
    · exact fun _ _ _ h => h
    · refine Or.inl ⟨by kernel_rfl, ?_⟩
      intro wS hSw
      try dsimp only at hSw
      go_simp
      try with_reducible rfl
    simp only [Act.put, List.setIfInBounds_toArray, List.set_cons_zero, List.set_cons_succ]
    refine wpAnyH_ready (rs := [2]) (by kernel_rfl) (by simp) ?_
    refine AllReadyH.cons rfl (fun K hK => ?_) ?_
    rotate_left
    · exact AllReadyH.nil
    go_simp
    refine cF1.mono ?_
    rintro e w5 ⟨rfl, hM5, hb5⟩
    go_wp2_with fail
    refine hK.out _ _ ?_ (fun hHeld => ?_)
    · exact ⟨keepC hHeld.1 hb5, keepC hHeld.2 hb5⟩
    clear hK K
    try simp only [Act.put, List.setIfInBounds_toArray, List.set_cons_zero, List.set_cons_succ]
    refine wpAnyH_ready (rs := [5]) (by kernel_rfl) (by simp) ?_
    refine AllReadyH.cons rfl (fun K hK => ?_) ?_
    rotate_left
    · exact AllReadyH.nil
    go_simp
    refine (cF2 w5 hb5).mono ?_
    rintro e w7 ⟨rfl, hM7, hb7⟩
    go_wp2_with fail
    refine hK.out _ _ ?_ (fun hHeld => ?_)
    · exact ⟨keepC hHeld.1 hb7, keepC hHeld.2 hb7⟩
    clear hK K
    try simp only [Act.put, List.setIfInBounds_toArray, List.set_cons_zero, List.set_cons_succ]
    refine wpAnyH_take (i := 6) (oi := ?_) (v := ?_) ?_ ?_ ?_ ?_ ?_ ?_ (by assumption) ?_
    rotate_left 2
    · simp only [List.getElem?_toArray, List.getElem?_cons_succ, List.getElem?_cons_zero]
      rfl
    · kernel_rfl
    · kernel_rfl
    · kernel_rfl
    · exact fun _ _ _ h => h
    · refine Or.inl ⟨by kernel_rfl, ?_⟩
      intro wS hSw
      try dsimp only at hSw
      go_simp
      try with_reducible rfl
    simp only [Act.put, List.setIfInBounds_toArray, List.set_cons_zero, List.set_cons_succ]
    refine wpAnyH_take (i := 7) (oi := ?_) (v := ?_) ?_ ?_ ?_ ?_ ?_ ?_ (by assumption) ?_
    rotate_left 2
    · simp only [List.getElem?_toArray, List.getElem?_cons_succ, List.getElem?_cons_zero]
      rfl
    · kernel_rfl
    · kernel_rfl
    · kernel_rfl
    · exact fun _ _ _ h => h
    · refine Or.inl ⟨by kernel_rfl, ?_⟩
      intro wS hSw
      try dsimp only at hSw
      go_simp
      try with_reducible rfl
    simp only [Act.put, List.setIfInBounds_toArray, List.set_cons_zero, List.set_cons_succ]
    refine wpAnyH_done (by kernel_rfl) ?_ _
    have B5 := behind BD.drew hb5
    have B7 := behind B5 hb7
    have T07 := (T0.below (show Below wD.heap.size wD wD.drew from ⟨rfl, rfl, rfl, Nat.le_refl _, fun _ _ => rfl⟩) |>.below hb5).below hb7
    have T17 := (T1.below (show Below wD.heap.size wD wD.drew from ⟨rfl, rfl, rfl, Nat.le_refl _, fun _ _ => rfl⟩) |>.below hb5).below hb7
    have m5 : wD.heap.size ≤ w5.heap.size := hb5.size
    have m7 := hb7.size
    have hM57 := mapOnN hM5 hb7
    have lm5 := World.ownsMap.lt hM5
    have lm7 := World.ownsMap.lt hM7
    have H1e : wD.drew.heap.size = wD.heap.size := rfl
    clear hHeld cF1 cF2 T0 T1 hM5
    have hyab : ∀ (W : World), Below w.heap.size w W → BysR W (ra ++ rb) := fun W h r hr => by
      rcases List.mem_append.1 hr with hr | hr
      · exact (hYa.below h) r hr
      · exact (hYb.below h) r hr
    have hszab : ∀ r ∈ ra ++ rb, r.1.size ≤ 1048576 := fun r hr => by
      rcases List.mem_append.1 hr with hr | hr
      · exact hsza r hr
      · exact hszb r hr
    obtain ⟨⟨y0', y1'⟩, -, -⟩ := id T07
    have bS := bel1 w7 (.cells #[.slice a1 l1.length c1, .slice a2 l2.length c2] 26)
    have sS := slot2dNew w7 (.slice a1 l1.length c1) (.slice a2 l2.length c2) 26
    have BS := behind B7 bS
    have cC := concatN w7.heap.size 2 c1 c2 a1 a2 ra rb (w7.alloc (.cells #[.slice a1 l1.length c1, .slice a2 l2.length c2] 26)) (by omega) (by omega) (by rw [hla]; exact sS.1.1) (by rw [hlb]; exact sS.1.2) (hRa.below BS) (hRb.below BS) n1 n2 hsha hshb
    have HLA : Hid (ra.length = l1.length) := hla
    have HLB : Hid (rb.length = l2.length) := hlb
    clear hla hlb
    go_wp2_with fail
    go_at_call 45
    refine cC.mono ?_
    rintro e w9 ⟨pa, pc, rfl, hrow, hb9⟩
    have B9 := behind BS hb9
    have hl2' : ra.length + rb.length ≤ 120 := by rw [HLA.out, HLB.out]; omega
    have cG := implFilesOf pa pc (ra ++ rb) w9 (by rw [List.length_append]; omega) hszab (RdR.own hrow) (hyab w9 B9)
    rw [List.length_append] at cG
    go_wp2_with fail
    go_at_call 32
    refine cG.mono ?_
    rintro e w11 ⟨rfl, hM11, hb11⟩
    have B11 := behind B9 hb11
    have hPr := rise_putAll (ra ++ rb)
    have hPl := putAll_len (ra ++ rb)
    rw [List.length_append] at hPl
    have hPz : ∀ r ∈ putAll (ra ++ rb), r.1.size ≤ 1048576 := fun r hr => hszab r (mem_putAll hr)
    generalize putAll (ra ++ rb) = P at *
    have cNm := implNames w9.heap.size (ra.length + rb.length) P w11 hPr (by omega) hM11
    go_wp2_with fail
    go_at_call 46
    refine cNm.mono ?_
    rintro e w13 ⟨na, nc, rfl, hnrow, hb13⟩
    have B13 := behind B11 hb13
    have b713 := behind (behind (behind bS hb9) hb11) hb13
    have T0 := T07.below b713
    have T1 := T17.below b713
    have hM1 := mapOnN hM57 b713
    have hM2 := mapOnN hM7 b713
    have m713 := b713.size
    have hname : ∀ k (h : k < P.length), ∃ g, na = some ⟨g, 0, none⟩ ∧ w13.cell? ⟨g, k, none⟩ = some (.string P[k].1) ∧ w11.heap.size ≤ g := fun k h => by
      obtain ⟨g, cg, eg, hg, -⟩ := World.ownsRow.form hnrow (by omega)
      cases eg
      refine ⟨g, rfl, ?_, hg⟩
      rw [World.ownsRow.cellAt hnrow k (by omega)]
      simp [h]
    have m11 : w7.heap.size ≤ w11.heap.size := (behind (behind bS hb9) hb11).size
    clear cC cG cNm hrow hM11 hnrow sS y0' y1' y0 y1 T07 T17 hM57 hM7 bS BS B9 B11 hb9 hb11 hb13 hPr
    obtain ⟨M, hM⟩ : ∃ M, min P.length keep.length = M := ⟨_, rfl⟩
    have hMI : min (P.length : Int) (keep.length : Int) = (M : Int) := by rw [← hM]; omega
    have hM1P : M ≤ P.length := by omega
    have hM1K : M ≤ keep.length := by omega
    rw [hM] at HL
    clear hM
    go_upto_region 6 with fail
    clear hMI
    go_loopw [8, 36] (fun j i wr => ∃ (k n : Nat), k ≤ M ∧ i = .int .i64 k ∧ n ≤ l2.length + k ∧ Mp wr w5.heap.size n (folRs rb ra keep P k) ∧ w13.grownBy wr (some w5.heap.size)) (fun _ i _ => M - (intOf i).toNat)
    case atStart => exact ⟨0, l2.length, Nat.zero_le _, rfl, Nat.le_refl _, hM2, World.grownBy.refl _ _⟩
    case round =>
      obtain ⟨k, n, hk, rfl, hnl, hMp, hg⟩ := hrel
      have hBr : Below w.heap.size w wr := B13.grown hg B13.size (fun j e => by cases e; exact B5.size)
      have T0r := T0.grown hg (fun e => by have := Option.some.inj e; omega)
      have T1r := T1.grown hg (fun e => by have := Option.some.inj e; omega)
      have hM1r : Mp wr wD.heap.size l1.length ra := World.ownsMap.kept hM1 hg (fun e => by have := Option.some.inj e; omega)
      by_cases hlt : k < M
      · obtain ⟨gn, rfl, x1, x2⟩ := hname k (by omega)
        have x1' : wr.cell? ⟨gn, k, none⟩ = some (.string P[k].1) := hg.cell x1 (fun e => by have := Option.some.inj e; simp at this; omega)
        have hPk := hPz _ (List.getElem_mem (show k < P.length by omega))
        have hkk : (P.map (·.1))[k]! = P[k].1 := by
          rw [List.getElem!_eq_getElem?_getD, List.getElem?_map, List.getElem?_eq_getElem (show k < P.length by omega)]
          rfl
        obtain ⟨bk, ok, rfl, ck1⟩ := (rk.below hBr) k (by omega)
        cases hkv : keep[k] with
        | true =>
          rw [hkv] at ck1
          have HF : Hid (folRs rb ra keep P (k + 1) = folR (folRs rb ra keep P k) ra P[k].1) := by
            show _ = _
            rw [folRs, if_pos (by simp [show k < keep.length by omega, hkv]), hkk]
          have cW := implFollow w5.heap.size n wD.heap.size l1.length (folRs rb ra keep P k) ra P[k].1 wr (by omega) (rise_folRs hrib ra keep P k) hPk hsha hMp hM1r
          generalize P[k].1 = x at *
          have hkP : k < P.length := by omega
          have hkK : k < keep.length := by omega
          go_wp2_with fail
          go_at_call 41
          refine cW.mono ?_
          rintro e wq ⟨rfl, hMq, hgq⟩
          rw [← HF.out] at hMq
          go_wp2
          go_roundw
          case rel => exact ⟨k + 1, n + 1, by omega, by go_num, by omega, hMq, hg.trans hgq⟩
          case measure => simp [intOf]; omega
        | false =>
          rw [hkv] at ck1
          have HF : Hid (folRs rb ra keep P (k + 1) = folRs rb ra keep P k) := by
            show _ = _
            rw [folRs, if_neg (by simp [show k < keep.length by omega, hkv])]
          have hkK : k < keep.length := by omega
          rw [← HF.out] at hMp
          go_wp2
          go_roundw
          case rel => exact ⟨k + 1, n, by omega, by go_num, by omega, hMp, hg⟩
          case measure => simp [intOf]; omega
      · have hke : k = M := by omega
        subst hke
        have hSr := rise_folRs hrib ra keep P k
        have hSl := len_folRs rb ra keep P k
        have hSm : ∀ r ∈ folRs rb ra keep P k, r ∈ rb ∨ r ∈ ra := fun r hr => mem_folRs hr
        generalize folRs rb ra keep P k = S at *
        have hSz : ∀ r ∈ S, r.1.size ≤ 1048576 := fun r hr => (hSm r hr).elim (hszb r) (hsza r)
        have hSs : ∀ r ∈ S, ∃ a n c, r.2.1 = .slice a n c := fun r hr => (hSm r hr).elim (hshb r) (hsha r)
        have hSy : BysR w S := fun r hr => (hSm r hr).elim (hYb r) (hYa r)
        have hSb : S.length ≤ 2000000 := by have := HLB.out; omega
        have cL := implList w5.heap.size n S wr hSr (by omega) hSz hSs hMp
        go_wp2_with fail
        go_at_call 34
        refine cL.mono ?_
        rintro e w15 ⟨la, lc, rfl, hlrow, hb15⟩
        have B15 := behind hBr hb15
        have T0F := T0r.below hb15
        have T1F := T1r.below hb15
        have hNS : (nds S).length = S.length := nds_len S
        have qS : RdNd w15 la (nds S) := rdNd_of (RdR.own hlrow) (hSy.below B15)
        have hzS : ∀ x ∈ nds S, x.2.length ≤ 1048576 := fun x hx => by
          obtain ⟨r, hr, rfl⟩ := List.mem_map.1 hx
          rcases hSm r hr with h | h
          · exact (z2.2 (r.1, r.2.2) (by rw [← eb]; exact nds_mem h)).2
          · exact (z1.2 (r.1, r.2.2) (by rw [← ea]; exact nds_mem h)).2
        have cH := implChanged a1 a2 la la c1 c2 lc lc l1 l2 (nds S) (nds S) w15 z1.1 z2.1 (by omega) (by omega) (fun y hy => (z1.2 y hy).2) (fun y hy => (z2.2 y hy).2) hzS hzS (r1.below B15) (r2.below B15) qS qS
        obtain ⟨⟨u0, u1⟩, -, -⟩ := id T0F
        have hL2 := HL.out
        rw [HV.out, if_pos rfl] at hL2
        rw [hNS] at cH
        have hs15 : w.heap.size + 2 ≤ w15.heap.size := by have := B15.size; have := hb15.size; have := hg.size; omega
        cases hd : (decide (S.length ≤ 60) && decide (S.length ≤ 60)) with
        | false =>
          rw [hd] at cH hL2
          simp only [Bool.false_eq_true, if_false] at cH hL2
          clear HL
          subst hL2
          go_wp2_with fail
          go_at_call 33
          refine cH.mono ?_
          rintro e w17 ⟨k1, k2, m1, m2, sa, sb, rfl, OD, ea', eb', hb17⟩
          have bG := bel1 w17 (.cells #[.slice k1 (l1).length m1, .slice k2 (l2).length m2] 28)
          have g0 := slot2dNew w17 (.slice k1 (l1).length m1) (.slice k2 (l2).length m2) 28
          obtain ⟨⟨t2, t3⟩, t4, t5⟩ := (T1F.below hb17).below bG
          obtain ⟨⟨x2, x3⟩, -, -⟩ := id g0
          have FA := DkAns1.set (w := w) (wE := w15) (b := w.heap.size + 1) (behind (behind B15 hb17) bG) (OD.below bG) ea' eb' (by omega) (by omega) (by omega)
          obtain ⟨n0, n1'⟩ := boxSet (v1 := .slice k1 (l1).length m1) (v2 := .slice k2 (l2).length m2) t2 t3
          clear OD ea' eb' cH u0 u1 hname hNS
          go_wp2
          exact bodyPost_ret (v := .agg #[.slice k1 (l1).length m1, .slice k2 (l2).length m2]) (by simp [results, Try.results18, go_sem, n0, n1']) rfl FA
        | true =>
          rw [hd] at cH hL2
          simp only [if_true] at cH hL2
          clear HL
          subst hL2
          go_wp2_with fail
          go_at_call 33
          refine cH.mono ?_
          rintro e w17 ⟨k1, k2, m1, m2, sa, sb, rfl, OD, ea', eb', hb17⟩
          have bG := bel1 w17 (.cells #[.slice k1 (nds S).length m1, .slice k2 (nds S).length m2] 28)
          have g0 := slot2dNew w17 (.slice k1 (nds S).length m1) (.slice k2 (nds S).length m2) 28
          obtain ⟨⟨t2, t3⟩, t4, t5⟩ := (T1F.below hb17).below bG
          obtain ⟨⟨x2, x3⟩, -, -⟩ := id g0
          have FA := DkAns1.set (w := w) (wE := w15) (b := w.heap.size + 1) (behind (behind B15 hb17) bG) (OD.below bG) ea' eb' (by omega) (by omega) (by omega)
          obtain ⟨n0, n1'⟩ := boxSet (v1 := .slice k1 (nds S).length m1) (v2 := .slice k2 (nds S).length m2) t2 t3
          clear OD ea' eb' cH u0 u1 hname hNS
          go_wp2
          exact bodyPost_ret (v := .agg #[.slice k1 (nds S).length m1, .slice k2 (nds S).length m2]) (by simp [results, Try.results18, go_sem, n0, n1']) rfl FA
end Go.Proofs.Ytmappmboedpgmaq.Wk
