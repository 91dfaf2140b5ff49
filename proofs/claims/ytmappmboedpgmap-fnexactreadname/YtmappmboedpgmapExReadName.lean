/- ReadName of the program answers as the specification does, at every disk and every name; the disk reads behind the call as ahead of it; the bytes that are answered lie in memory of their own: marks in the disk do not change them, and marks in them stay behind a second call. Where the name has more than 2^20 bytes, or the disk more than 2^20 names and bytes together, the law itself answers true. -/
import Derived.Test.YtmappmboedpgmapRows
import Derived.Test.YtmappmboedpgmapIrI
import Derived.Test.YtmappmboedpgmapDlS
import Derived.Test.YtmappmboedpgmapTpDk
import Derived.Test.YtmappmboedpgmapSzDk
import Derived.Test.YtmappmboedpgmapEqDk
import Derived.Test.YtmappmboedpgmapHkDk
import Derived.Test.YtmappmboedpgmapOpDk
import Derived.Test.YtmappmboedpgmapNwB
import Derived.WalkKit
import Derived.ProofKit
import Derived.OpenShut
import Derived.ShutString
import Derived.ChangeOld
import Derived.Below
namespace Go.Proofs.Ytmappmboedpgmap.fnExactReadName
open Go.ChangeShapes Go.WideShapes Go.ChangeAt Go.RowKit
open Go.ChangeMaps (open_string shut_string)
set_option linter.unusedVariables false

theorem own : ownKnob Try.prog.godebug = none := by kernel_rfl
theorem laidOut : laidOutB Try.prog = true := by kernel_rfl

open Wk

theorem wt_mem {l : List Nd} {x : Nd} (h : x ∈ l) : x.1.size + x.2.length ≤ wtN l := by
  obtain ⟨i, hi, rfl⟩ := List.mem_iff_getElem.1 h
  have h1 := wtN_take hi
  have h2 := wtN_le l (i + 1)
  omega
theorem tot_nds (rs : List Rw) : totR rs = rs.length + ((nds rs).map fun x => x.2.length).sum := by
  induction rs with
  | nil => rfl
  | cons r t ih => simp [totR, nds, mapN] at ih ⊢; omega
theorem wt_sum (l : List Nd) : l.length + (l.map fun x => x.2.length).sum ≤ l.length + wtN l := by
  suffices h : (l.map fun x => x.2.length).sum ≤ wtN l by omega
  unfold wtN
  induction l with
  | nil => simp
  | cons x t ih => simp at ih ⊢; omega
set_option maxHeartbeats 8000000 in
set_option maxRecDepth 100000 in
theorem walk (a1 a2 : Option Addr) (n1 n2 c1 c2 : Nat) (l1 l2 : List Nd) (s : ByteArray) (w : World) (i1 : IsNds w a1 n1 c1 l1) (i2 : IsNds w a2 n2 c2 l2) (ws : s.size ≤ maxLen) :
    Calls Try.prog 7 #[.agg #[.slice a1 n1 c1, .slice a2 n2 c2], .string s] w fun e w' => e = .returned (.bool true) ∧ Below w.heap.size w w' := by
  obtain ⟨rfl, hlm1, hzm1, hr1⟩ := i1
  obtain ⟨rfl, hlm2, hzm2, hr2⟩ := i2
  have b0 := bel1 w (.cells #[.slice a1 l1.length c1, .slice a2 l2.length c2] 45)
  have s0 := slot2dNew w (.slice a1 l1.length c1) (.slice a2 l2.length c2) 45
  have cZ := fun (W : World) (h : Below w.heap.size w W) => szDk a1 a2 c1 c2 1048576 l1 l2 W (Nat.le_refl _) ⟨rfl, hlm1, hzm1, hr1.below h⟩ ⟨rfl, hlm2, hzm2, hr2.below h⟩
  have e20 : ((1048576 : Nat) : Int) = 1048576 := rfl
  rw [e20] at cZ
  clear e20
  by_cases hs : s.size ≤ 1048576
  rotate_left 1
  · have hsI : (s.size : Int) > 1048576 := by omega
    have hsN : 1048576 < s.size := by omega
    go_enter Try.func7, Try.ntmps7
    go_wp2
    go_ret
    exact ⟨rfl, b0⟩
  have hsI : ¬ ((s.size : Int) > 1048576) := by omega
  have hsN : ¬ 1048576 < s.size := by omega
  by_cases hW : (l1.length + wtN l1) + (l2.length + wtN l2) ≤ 1048576
  rotate_left 1
  · rw [lf_no hW] at cZ
    obtain ⟨⟨x0, x1⟩, -⟩ := id s0
    go_enter Try.func7, Try.ntmps7
    go_wp2_with fail
    go_at_call 23
    refine (cZ _ b0).mono ?_
    rintro e w1 ⟨rfl, hb1⟩
    go_wp2
    go_ret
    exact ⟨rfl, behind b0 hb1⟩
  rw [lf_yes hW] at cZ
  have z1 : NdZ l1 := ⟨by omega, fun x hx => by have := wt_mem hx; omega⟩
  have z2 : NdZ l2 := ⟨by omega, fun x hx => by have := wt_mem hx; omega⟩
  generalize 1048576 - ((l1.length + wtN l1) + (l2.length + wtN l2)) = M at cZ
  have cT := fun (W : World) (h : Below w.heap.size w W) => toDisk a1 a2 c1 c2 l1 l2 W z1.1 z2.1 (fun x hx => (z1.2 x hx).2) (fun x hx => (z2.2 x hx).2) (hr1.below h) (hr2.below h)
  have cEx := fun (b1 b2 d1 d2 : Option Addr) (e1 e2 f1 f2 : Nat) (W : World) (h1 : RdNd W b1 l1) (h2 : RdNd W b2 l2) (h3 : RdNd W d1 l1) (h4 : RdNd W d2 l2) => eqDisk b1 b2 d1 d2 e1 e2 f1 f2 l1 l2 W (by have := z1.1; omega) (by have := z2.1; omega) (fun x hx => (z1.2 x hx).2) (fun x hx => (z2.2 x hx).2) h1 h2 h3 h4
  have cS := fun (p1 p2 : Option Addr) (q1 q2 : Nat) (W : World) (h1 : RdNd W p1 l1) => specReadName p1 p2 q1 q2 l1 l2 s W z1.1 (fun x hx => (z1.2 x hx).2) h1
  have cI := fun (p1 p2 : Option Addr) (q1 q2 : Nat) (W : World) (h1 : RdNd W p1 l1) => implReadName p1 p2 q1 q2 l1 l2 s W z1.1 (fun x hx => (z1.2 x hx).2) h1
  have hbl : (ndRead l1 s).length ≤ 1048576 := by
    unfold ndRead
    cases ndAt l1 s with
    | none => simp
    | some k =>
      dsimp only
      by_cases hk : k < l1.length
      · simp [hk]; exact (z1.2 _ (List.getElem_mem hk)).2
      · simp [hk]
  generalize ndRead l1 s = bs at cS cI hbl
  generalize (ndAt l1 s).isSome = K at cS cI
  obtain ⟨⟨x0, x1⟩, -⟩ := id s0
  go_enter Try.func7, Try.ntmps7
  go_wp2_with fail
  go_at_call 23
  refine (cZ _ b0).mono ?_
  rintro e w1 ⟨rfl, hb1⟩
  have B1 := behind b0 hb1
  have A1 := s0.below hb1
  have hn1 : w.heap.size + 1 ≤ w1.heap.size := by have := hb1.size; simpa using this
  clear cZ s0 x0 x1 b0 hb1
  obtain ⟨⟨x0, x1⟩, -⟩ := id A1
  go_wp2_with fail
  go_at_call 25
  refine (cT w1 B1).mono ?_
  rintro e w2 ⟨p1, p2, q1, q2, rfl, D2, hb2⟩
  have B2 := behind B1 hb2
  have A2 := A1.below hb2
  have m2 := hb2.size
  obtain ⟨ra, rb, ea, eb, O2⟩ := D2.rows
  have R2 := O2.rd
  rw [ea, eb] at R2
  clear x0 x1 O2 D2 A1
  go_wp2_with fail
  go_at_call 28
  refine (cS p1 p2 q1 q2 w2 R2.1).mono ?_
  rintro e w5 ⟨u1, v1, rfl, hS5, hb5⟩
  have B5 := behind B2 hb5
  have A5 := A2.below hb5
  have m5 := hb5.size
  have lS := World.ownsRow.lt hS5
  obtain ⟨⟨x0, x1⟩, -⟩ := id A5
  clear R2 A2 cS
  go_wp2_with fail
  go_at_call 25
  refine (cT w5 B5).mono ?_
  rintro e w6 ⟨p1', p2', q1', q2', rfl, D6, hb6⟩
  obtain ⟨xa, xb, ex1, ex2, OX6⟩ := D6.rows
  have B6 := behind B5 hb6
  have m6 := hb6.size
  have bX := bel1 w6 (.cells #[.slice p1' l1.length q1', .slice p2' l2.length q2'] 50)
  have X7 := slot2dNew w6 (.slice p1' l1.length q1') (.slice p2' l2.length q2') 50
  have A7 := (A5.below hb6).below bX
  have OX7 := OX6.below bX
  have B7 := behind B6 bX
  have hn7 : w6.heap.size + 1 ≤ (w6.alloc (.cells #[.slice p1' l1.length q1', .slice p2' l2.length q2'] 50)).heap.size := by rw [World.size_alloc]; exact Nat.le_refl _
  have hblkX := OX6.blk
  have hS7 := ownBelow (ownBelow hS5 hb6) bX
  clear hS5
  obtain ⟨⟨x2, x3⟩, -⟩ := id X7
  clear A5 OX6 D6 x0 x1
  go_wp2_with fail
  generalize w6.alloc (.cells #[.slice p1' l1.length q1', .slice p2' l2.length q2'] 50) = w7 at *
  have R8 := OX7.rd
  rw [ex1, ex2] at R8
  go_at_call 29
  refine (cI p1' p2' q1' q2' w7 R8.1).mono ?_
  rintro e w9 ⟨g1, h1, rfl, hG9, hb9⟩
  have B9 := behind B7 hb9
  have m9 := hb9.size
  have lG := World.ownsRow.lt hG9
  have A9 := A7.below hb9
  have X9 := X7.below hb9
  have OX9 := OX7.below hb9
  have hS9 := ownBelow hS7 hb9
  clear A7 X7 OX7 R8 x2 x3 hS7
  go_wp2_with fail
  go_at_call 13
  refine (eqByteS _ _ _ _ bs w9 (by omega) (RdA.own hG9) (RdA.own hS9)).mono ?_
  rintro e w11 ⟨rfl, n11, e11⟩
  have hb11 : Below w9.heap.size w9 w11 := by rw [e11]; exact belowDrewN (Below.refl _ _) n11
  clear e11
  have B11 := behind B9 hb11
  have m11 := hb11.size
  have A11 := A9.below hb11
  have X11 := X9.below hb11
  have OX11 := OX9.below hb11
  have hS11 := ownBelow hS9 hb11
  have hG11 := ownBelow hG9 hb11
  clear A9 X9 OX9 hS9 hG9
  obtain ⟨⟨y0, y1⟩, -⟩ := id X11
  obtain ⟨⟨y2, y3⟩, -⟩ := id A11
  have cT11 := cT w11.drew B11.drew
  go_upto_region 12 with fail
  refine wp_region_held_drew (S := fun wy => wy.cell? ⟨w6.heap.size, 0, none⟩ = some (.slice p1' l1.length q1') ∧ wy.cell? ⟨w6.heap.size, 1, none⟩ = some (.slice p2' l2.length q2') ∧ wy.cell? ⟨w.heap.size, 0, none⟩ = some (.slice a1 l1.length c1) ∧ wy.cell? ⟨w.heap.size, 1, none⟩ = some (.slice a2 l2.length c2)) (by kernel_rfl) ⟨y0, y1, y2, y3⟩ (fun hHeld => ?_)
  refine wpAnyH_take (i := 0) (oi := ?_) (v := ?_) ?_ ?_ ?_ ?_ ?_ ?_ (by assumption) ?_
  rotate_left 2
  · simp only [List.getElem?_toArray, List.getElem?_cons_zero]
    rfl
  · kernel_rfl
  · kernel_rfl
  · kernel_rfl
  · exact fun _ _ _ h => h
  · refine Or.inl ⟨by kernel_rfl, ?_⟩
    intro wS hSw
    try dsimp only at hSw
    go_simp
    try with_reducible rfl
  simp only [Act.put, List.setIfInBounds_toArray, List.set_cons_zero, List.set_cons_succ]
  refine wpAnyH_take (i := 1) (oi := ?_) (v := ?_) ?_ ?_ ?_ ?_ ?_ ?_ (by assumption) ?_
  rotate_left 2
  · simp only [List.getElem?_toArray, List.getElem?_cons_succ, List.getElem?_cons_zero]
    rfl
  · kernel_rfl
  · kernel_rfl
  · kernel_rfl
  · exact fun _ _ _ h => h
  · refine Or.inl ⟨by kernel_rfl, ?_⟩
    intro wS hSw
    try dsimp only at hSw
    go_simp
    try with_reducible rfl
  simp only [Act.put, List.setIfInBounds_toArray, List.set_cons_zero, List.set_cons_succ]
  refine wpAnyH_ready (rs := [2]) (by kernel_rfl) (by simp) ?_
  refine AllReadyH.cons rfl (fun K hK => ?_) ?_
  rotate_left
  · exact AllReadyH.nil
  go_simp
  refine cT11.mono ?_
  rintro e w12 ⟨t1, t2, t3, t4, rfl, D12, hb12⟩
  go_wp2_with fail
  refine hK.out _ _ ?_ (fun hHeld => ?_)
  · exact ⟨cellNd hHeld.1 hb12, cellNd hHeld.2.1 hb12, cellNd hHeld.2.2.1 hb12, cellNd hHeld.2.2.2 hb12⟩
  clear hK K
  try simp only [Act.put, List.setIfInBounds_toArray, List.set_cons_zero, List.set_cons_succ]
  have OX12 : OwnD w12 _ _ _ _ _ := OwnD.below (w := w11.drew) OX11 hb12
  have RX := OX12.rd
  rw [ex1, ex2] at RX
  obtain ⟨ta, tb, et1, et2, OT12⟩ := D12.rows
  have RT := OT12.rd
  rw [et1, et2] at RT
  have cE12 := cEx p1' p2' t1 t2 q1' q2' t3 t4 w12 RX.1 RX.2 RT.1 RT.2
  refine wpAnyH_ready (rs := [3]) (by kernel_rfl) (by simp) ?_
  refine AllReadyH.cons rfl (fun K hK => ?_) ?_
  rotate_left
  · exact AllReadyH.nil
  go_simp
  refine cE12.mono ?_
  rintro e w13 ⟨rfl, hb13⟩
  go_wp2_with fail
  refine hK.out _ _ ?_ (fun hHeld => ?_)
  · exact ⟨cellNd hHeld.1 hb13, cellNd hHeld.2.1 hb13, cellNd hHeld.2.2.1 hb13, cellNd hHeld.2.2.2 hb13⟩
  clear hK K
  try simp only [Act.put, List.setIfInBounds_toArray, List.set_cons_zero, List.set_cons_succ]
  refine wpAnyH_take (i := 4) (oi := ?_) (v := ?_) ?_ ?_ ?_ ?_ ?_ ?_ (by assumption) ?_
  rotate_left 2
  · simp only [List.getElem?_toArray, List.getElem?_cons_succ, List.getElem?_cons_zero]
    rfl
  · kernel_rfl
  · kernel_rfl
  · kernel_rfl
  · exact fun _ _ _ h => h
  · refine Or.inl ⟨by kernel_rfl, ?_⟩
    intro wS hSw
    try dsimp only at hSw
    go_simp
    try with_reducible rfl
  simp only [Act.put, List.setIfInBounds_toArray, List.set_cons_zero, List.set_cons_succ]
  refine wpAnyH_done (by kernel_rfl) ?_ _
  have hb113 : Below w11.heap.size w11 w13 := (show Below w11.heap.size w11 w11.drew from (Below.refl _ _).drew).trans (behind hb12 hb13)
  have B13 := behind B11 hb113
  have m13 := hb113.size
  clear OX12 RX D12 OT12 RT cE12 cT11 hb12 hb13 y0 y1 y2 y3 cEx
  have A13 := A11.below hb113
  have X13 := X11.below hb113
  have OX13 := OX11.below hb113
  have hS13 := ownBelow hS11 hb113
  have hG13 := ownBelow hG11 hb113
  clear A11 X11 OX11 hS11 hG11
  obtain ⟨⟨y0, y1⟩, -⟩ := id X13
  have hlx : xa.length ≤ 2097152 ∧ xb.length ≤ 2097152 := by
    rw [← nds_len xa, ← nds_len xb, ex1, ex2]
    have := z1.1
    have := z2.1
    omega
  have htx : totR xa + totR xb ≤ 1048576 := by
    rw [tot_nds, tot_nds, ← nds_len xa, ← nds_len xb, ex1, ex2]
    have := wt_sum l1
    have := wt_sum l2
    omega
  go_wp2_with fail
  go_at_call 30
  refine (markDk _ 1 _ _ _ _ _ _ xa xb w13 (by omega) (by omega) hlx.1 hlx.2 OX13).mono ?_
  rintro e w16 ⟨rfl, -, K16⟩
  have m16 := K16.2.2.2.1
  have B16 : Below w.heap.size w w16 := KeptS.toBelow B13 K16 (fun b x => by have := hblkX b x; omega) B13.size
  have A16 := K16.slot A13 (fun x => by have := hblkX _ x; omega)
  have hS16 := K16.own hS13 (fun j e y => by have := hblkX j y; have := lS j e; omega)
  have hG16 := K16.own hG13 (fun j e y => by have := hblkX j y; have := lG j e; omega)
  clear A13 X13 OX13 hS13 hG13 K16 y0 y1
  generalize totR xa = tx at *
  generalize totR xb = ty at *
  have hp1 : ¬ (((1 + tx + ty : Nat) : Int) < 0) := by omega
  go_wp2_with fail
  go_at_call 13
  refine (eqByteS _ _ _ _ bs w16 (by omega) (RdA.own hG16) (RdA.own hS16)).mono ?_
  rintro e w18 ⟨rfl, n18, e18⟩
  have hb18 : Below w16.heap.size w16 w18 := by rw [e18]; exact belowDrewN (Below.refl _ _) n18
  clear e18
  have B18 := behind B16 hb18
  have m18 := hb18.size
  have A18 := A16.below hb18
  have hS18 := ownBelow hS16 hb18
  have hG18 := ownBelow hG16 hb18
  clear A16 hS16 hG16
  have cM := markBs _ bs.length 1 _ _ w18 (by omega) (by omega) hG18
  go_wp2_with fail
  go_at_call 14
  refine cM.mono ?_
  rintro e w19 ⟨rfl, hM19, hg19⟩
  have K19 : KeptS (fun b => (Value.slice g1 bs.length h1).ownBlock = some b) w18 w19 := (KeptS.refl _ _).grown hg19 (fun j e => e)
  have m19 := K19.2.2.2.1
  have B19 : Below w.heap.size w w19 := KeptS.toBelow B18 K19 (fun b x => by have := lG b x; omega) B18.size
  have A19 := K19.slot A18 (fun x => by have := lG _ x; omega)
  have hS19 := K19.own hS18 (fun j e y => by have := lG j y; have := lS j e; omega)
  clear A18 hS18 hG18 hg19 K19 cM
  have cH := fun (W : World) (h : W.ownsRow w7.heap.size 5 1 (.slice g1 bs.length h1) bs.length (mks 1 bs.length)) => heldBs _ bs.length 1 _ W (by omega) (by omega) h
  have hp2 : ¬ (((1 : Nat) : Int) + (bs.length : Int) < 0) := by omega
  go_wp2_with fail
  go_at_call 31
  refine (cH w19 hM19).mono ?_
  rintro e w20 ⟨rfl, rfl⟩
  obtain ⟨⟨y0, y1⟩, -⟩ := id A19
  go_wp2_with fail
  go_at_call 25
  refine (cT w20 B19).mono ?_
  rintro e w21 ⟨t1, t2, t3, t4, rfl, D21, hb21⟩
  have B21 := behind B19 hb21
  obtain ⟨ta, tb, et1, et2, OT21⟩ := D21.rows
  have RT := OT21.rd
  rw [et1, et2] at RT
  have hS21 := ownBelow hS19 hb21
  have hM21 := ownBelow hM19 hb21
  clear hS19 hM19 y0 y1 A19
  go_wp2_with fail
  go_at_call 29
  refine (cI t1 t2 t3 t4 w21 RT.1).mono ?_
  rintro e w23 ⟨k1, j1, rfl, hK23, hb23⟩
  have B23 := behind B21 hb23
  have hS23 := ownBelow hS21 hb23
  have hM23 := ownBelow hM21 hb23
  clear hS21 hM21 D21 OT21 RT
  go_wp2_with fail
  go_at_call 13
  refine (eqByteS _ _ _ _ bs w23 (by omega) (RdA.own hK23) (RdA.own hS23)).mono ?_
  rintro e w25 ⟨rfl, n25, e25⟩
  have hb25 : Below w23.heap.size w23 w25 := by rw [e25]; exact belowDrewN (Below.refl _ _) n25
  clear e25
  have B25 := behind B23 hb25
  have hM25 := ownBelow hM23 hb25
  clear hS23 hM23 hK23
  go_wp2_with fail
  go_at_call 31
  refine (cH w25 hM25).mono ?_
  rintro e w26 ⟨rfl, rfl⟩
  go_wp2
  go_ret
  exact ⟨rfl, B25⟩

set_option maxRecDepth 100000 in
theorem lifted (os : Os) (started : os.Started) (H : Type) (enc : TypeId × Value → H) :
    ReturnsInHanded {} Try.checked os 7 .any (Rows.fnExactReadNameSpec.pre6 enc Try.prog Try.f7 Rows.fnExactReadNameRow.domain false) (Rows.fnExactReadNameSpec.post enc Try.prog Try.f7 false true false false) := by
  refine returnsInHanded_of_change (C := Try.checked) own started (by kernel_rfl) Try.func7
    (ChangeSpec.witness6 (enc := enc) (C := Try.checked) false ⟨#[], #[.agg #[.slice none 0 0, .slice none 0 0], .string ByteArray.empty], []⟩ 8 (by kernel_rfl) (by kernel_rfl) (by kernel_rfl) (by kernel_rfl)) ?_
  intro W base args ds gs before hval0 hW hcnd _
  have hval : ∀ (j : Nat) t v, Try.f7.params[j]? = some t → args[j]? = some v → Value.okWide Try.prog W .any base t v := hval0
  have hW' := hW
  obtain ⟨p, q, hA0, hV, rfl, hfz, hnd⟩ := hW
  have hA : DataW.TrodAll enc Try.prog W 0 (fun _ => true) true Try.f7.params.toList args.toList ds p := hA0
  rw [Try.params7] at hA hval
  obtain ⟨v0, vs0, d0, ds0, p0, q0, hargs, rfl, rfl, h0, r0⟩ := trodAll_cons hA
  obtain ⟨v1, vs1, d1, ds1, p1, q1, rfl, rfl, rfl, h1, r1⟩ := trodAll_cons r0
  obtain ⟨rfl, rfl, rfl⟩ := trodAll_nil r1
  obtain rfl : args = #[v0, v1] := by cases args; simp_all
  obtain ⟨rfl, rfl⟩ := trodVars_none hV
  have kk0 := h0
  have lt0 : ∀ x ∈ p0, x.block < W.heap.size := by obtain ⟨m, hm⟩ := kk0; exact DataW.trod_lt m _ _ _ hm
  obtain ⟨a0, b0, n0, m0, c0, d0, l0, k0, rfl, w0, u0⟩ := openDkV (hval 0 45 v0 rfl rfl) h0
  have k1 := h1
  have lt1 : ∀ x ∈ p1, x.block < W.heap.size := by obtain ⟨m, hm⟩ := k1; exact DataW.trod_lt m _ _ _ hm
  obtain ⟨a1, rfl, rfl, rfl, w1⟩ := open_string Try.underlying9 (hval 1 9 v1 rfl rfl) h1
  clear hA0 hval0
  refine (walk a0 b0 n0 m0 c0 d0 l0 k0 a1 W w0 u0 w1).mono fun e W' ⟨he, bel⟩ => ?_
  subst he
  exact ⟨_, rfl, _, _, _, [], _, [], hW', trodAll_mk1 (shut_bool Try.underlying4 _), (trodAll_cons_mk (Below.trod laidOut (by kernel_rfl) (of_decide_eq_true (by kernel_rfl)) kk0 bel lt0) (trodAll_cons_mk (Below.trod laidOut (by kernel_rfl) (of_decide_eq_true (by kernel_rfl)) k1 bel lt1) trodAll_mk0)), rfl, bel.frame _, fun h => by cases h⟩

theorem over : Rows.fnExactReadNameRow.holds Try.pinned (OpenSpec.ofChange Rows.fnExactReadNameSpec) :=
  OpenClaim.holds_of_wide 7 Try.f7 rfl rfl rfl rfl rfl rfl rfl ⟨rfl, rfl, rfl, rfl, rfl⟩ rfl rfl rfl rfl rfl (by kernel_rfl) Try.func7 (by kernel_rfl)
    (of_decide_eq_true (by kernel_rfl)) (by unfold Func.isWrapper; first | (rw [if_pos (by decide +kernel)]; kernel_rfl) | (rw [if_neg (by decide +kernel)]; exact ⟨rfl, rfl⟩))
    (fun os started H enc _ => lifted os started H enc)

end Go.Proofs.Ytmappmboedpgmap.fnExactReadName
namespace Go.Proofs.Ytmappmboedpgmap
theorem fnExactReadName_holds : Rows.FnExactReadNameSaid := fnExactReadName.over
#print axioms fnExactReadName_holds
end Go.Proofs.Ytmappmboedpgmap
