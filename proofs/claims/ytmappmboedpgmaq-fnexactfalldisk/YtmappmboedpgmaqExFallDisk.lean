/- FallDisk of the program answers as the specification does, at every disk and every flags; disk and flags read behind the call as ahead of it; the disk that is answered lies in memory of its own: marks in the arguments do not change it, and marks in it stay behind a second call. Where there are more than 2^20 flags, or the disk has more than 2^20 names and bytes together, the law itself answers true. -/
import Derived.Test.YtmappmboedpgmaqRows
import Derived.Test.YtmappmboedpgmaqFdX
import Derived.Test.YtmappmboedpgmaqFbS
import Derived.Test.YtmappmboedpgmaqBlW
import Derived.Test.YtmappmboedpgmaqTpDk
import Derived.Test.YtmappmboedpgmaqSzDk
import Derived.Test.YtmappmboedpgmaqEqDk
import Derived.Test.YtmappmboedpgmaqHkDk
import Derived.Test.YtmappmboedpgmaqOpDk
import Derived.Test.YtmappmboedpgmaqOpBl
import Derived.WalkKit
import Derived.ProofKit
import Derived.OpenShut
import Derived.ShutString
import Derived.ChangeOld
import Derived.Below
namespace Go.Proofs.Ytmappmboedpgmaq.fnExactFallDisk
open Go.ChangeShapes Go.WideShapes Go.ChangeAt Go.RowKit
open Go.ChangeMaps (open_string shut_string)
set_option linter.unusedVariables false

theorem own : ownKnob Try.prog.godebug = none := by kernel_rfl
theorem laidOut : laidOutB Try.prog = true := by kernel_rfl

open Wk

theorem wt_mem {l : List Nd} {x : Nd} (h : x ∈ l) : x.1.size + x.2.length ≤ wtN l := by
  obtain ⟨i, hi, rfl⟩ := List.mem_iff_getElem.1 h
  have h1 := wtN_take hi
  have h2 := wtN_le l (i + 1)
  omega
theorem tot_nds (rs : List Rw) : totR rs = rs.length + ((nds rs).map fun x => x.2.length).sum := by
  induction rs with
  | nil => rfl
  | cons r t ih => simp [totR, nds, mapN] at ih ⊢; omega
theorem wt_sum (l : List Nd) : l.length + (l.map fun x => x.2.length).sum ≤ l.length + wtN l := by
  suffices h : (l.map fun x => x.2.length).sum ≤ wtN l by omega
  unfold wtN
  induction l with
  | nil => simp
  | cons x t ih => simp at ih ⊢; omega
theorem sum_few (l : List Nd) (h : ∀ x ∈ l, x.2.length ≤ 400) : (l.map fun x => x.2.length).sum ≤ l.length * 400 := by
  induction l with
  | nil => simp
  | cons x t ih =>
    have h1 := h x (List.mem_cons_self ..)
    have h2 := ih fun y hy => h y (List.mem_cons_of_mem _ hy)
    simp only [List.map_cons, List.sum_cons, List.length_cons]
    omega
theorem ans_same (l1 l2 : List Nd) (bs : List Bool) (z1 : NdZ l1) (z2 : NdZ l2) (hW : (l1.length + wtN l1) + (l2.length + wtN l2) ≤ 1048576) :
    ∃ (L1 L2 : List Nd), fallS l1 l2 bs = (L1, L2) ∧
      (L1.length ≤ 2097152 ∧ ∀ x ∈ L1, x.2.length ≤ 1048576) ∧ (L2.length ≤ 2097152 ∧ ∀ x ∈ L2, x.2.length ≤ 1048576) ∧ (L1.length + (L1.map fun x => x.2.length).sum) + (L2.length + (L2.map fun x => x.2.length).sum) ≤ 4194304 := by
  have w1 := wt_sum l1
  have w2 := wt_sum l2
  have g1 := z1.1
  have g2 := z2.1
  have self : ∃ (L1 L2 : List Nd), (l1, l2) = (L1, L2) ∧
      (L1.length ≤ 2097152 ∧ ∀ x ∈ L1, x.2.length ≤ 1048576) ∧ (L2.length ≤ 2097152 ∧ ∀ x ∈ L2, x.2.length ≤ 1048576) ∧ (L1.length + (L1.map fun x => x.2.length).sum) + (L2.length + (L2.map fun x => x.2.length).sum) ≤ 4194304 :=
    ⟨l1, l2, rfl, ⟨by omega, fun x hx => (z1.2 x hx).2⟩, ⟨by omega, fun x hx => (z2.2 x hx).2⟩, by omega⟩
  unfold fallS
  by_cases hA : (listOk l1 && listOk l2) = true
  · rw [if_pos hA]
    have hK1 := (listOk_iff l1).1 (by simp at hA; exact hA.1)
    have hK2 := (listOk_iff l2).1 (by simp at hA; exact hA.2)
    by_cases h : 60 < (fallF l1 l2 bs (nmsL l1 l2) (nmsL l1 l2).length).length
    · rw [if_pos h]
      exact self
    · rw [if_neg h]
      have hb : ∀ x ∈ fallF l1 l2 bs (nmsL l1 l2) (nmsL l1 l2).length, x.2.length ≤ 400 := fun x hx => by
        rcases fallF_mem hx with hx | hx
        · exact (hK1.2.1 x hx).2
        · exact (hK2.2.1 x hx).2
      have hs := sum_few _ hb
      exact ⟨_, _, rfl, ⟨by omega, fun x hx => Nat.le_trans (hb x hx) (by omega)⟩, ⟨by omega, fun x hx => Nat.le_trans (hb x hx) (by omega)⟩, by omega⟩
  · rw [if_neg hA]
    exact self

set_option maxHeartbeats 8000000 in
set_option maxRecDepth 100000 in
theorem walk (a1 a2 : Option Addr) (n1 n2 c1 c2 : Nat) (l1 l2 : List Nd) (a : Option Addr) (len cap : Nat) (bs : List Bool) (w : World) (i1 : IsNds w a1 n1 c1 l1) (i2 : IsNds w a2 n2 c2 l2) (wb : IsBls w a len cap bs) :
    Calls Try.prog 5 #[.agg #[.slice a1 n1 c1, .slice a2 n2 c2], .slice a len cap] w fun e w' => e = .returned (.bool true) ∧ Below w.heap.size w w' := by
  obtain ⟨rfl, hlm1, hzm1, hr1⟩ := i1
  obtain ⟨rfl, hlm2, hzm2, hr2⟩ := i2
  obtain ⟨rfl, hlc, hrb⟩ := wb
  have b0 := bel1 w (.cells #[.slice a1 l1.length c1, .slice a2 l2.length c2] 24)
  have s0 := slot2dNew w (.slice a1 l1.length c1) (.slice a2 l2.length c2) 24
  have cZ := fun (W : World) (h : Below w.heap.size w W) => szDk a1 a2 c1 c2 1048576 l1 l2 W (Nat.le_refl _) ⟨rfl, hlm1, hzm1, hr1.below h⟩ ⟨rfl, hlm2, hzm2, hr2.below h⟩
  have e20 : ((1048576 : Nat) : Int) = 1048576 := rfl
  rw [e20] at cZ
  clear e20
  by_cases hbl : bs.length ≤ 1048576
  rotate_left 1
  · have hbI : (bs.length : Int) > 1048576 := by omega
    have hbN : 1048576 < bs.length := by omega
    go_enter Try.func5, Try.ntmps5
    go_wp2
    go_ret
    exact ⟨rfl, b0⟩
  have hbI : ¬ ((bs.length : Int) > 1048576) := by omega
  have hbN : ¬ 1048576 < bs.length := by omega
  by_cases hW : (l1.length + wtN l1) + (l2.length + wtN l2) ≤ 1048576
  rotate_left 1
  · rw [lf_no hW] at cZ
    obtain ⟨⟨x0, x1⟩, -⟩ := id s0
    go_enter Try.func5, Try.ntmps5
    go_wp2_with fail
    go_at_call 7
    refine (cZ _ b0).mono ?_
    rintro e w1 ⟨rfl, hb1⟩
    go_wp2
    go_ret
    exact ⟨rfl, behind b0 hb1⟩
  rw [lf_yes hW] at cZ
  have z1 : NdZ l1 := ⟨by omega, fun x hx => by have := wt_mem hx; omega⟩
  have z2 : NdZ l2 := ⟨by omega, fun x hx => by have := wt_mem hx; omega⟩
  generalize 1048576 - ((l1.length + wtN l1) + (l2.length + wtN l2)) = M at cZ
  have hans := ans_same l1 l2 bs z1 z2 hW
  have cS := fun (p1 p2 p3 : Option Addr) (q1 q2 q3 : Nat) (W : World) (h1 : RdNd W p1 l1) (h2 : RdNd W p2 l2) (h3 : RdK W p3 bs) => specFall p1 p2 p3 q1 q2 q3 l1 l2 bs W z1 z2 hbl h1 h2 h3
  have cI := fun (p1 p2 p3 : Option Addr) (q1 q2 q3 : Nat) (W : World) (h1 : RdNd W p1 l1) (h2 : RdNd W p2 l2) (h3 : RdK W p3 bs ∧ (p1 = none → q1 = 0) ∧ (p2 = none → q2 = 0)) => implFall' p1 p2 p3 q1 q2 q3 l1 l2 bs W z1 z2 hbl h1 h2 h3
  obtain ⟨L1, L2, eL, hL1, hL2, hT⟩ := hans
  simp only [eL] at cS cI
  clear eL
  have cT := fun (W : World) (h : Below w.heap.size w W) => toDisk a1 a2 c1 c2 l1 l2 W z1.1 z2.1 (fun x hx => (z1.2 x hx).2) (fun x hx => (z2.2 x hx).2) (hr1.below h) (hr2.below h)
  have cB := fun (W : World) (h : Below w.heap.size w W) => toBoolS a cap bs W hbl (hrb.below h)
  have cEx := fun (b1 b2 d1 d2 : Option Addr) (e1 e2 f1 f2 : Nat) (W : World) (h1 : RdNd W b1 l1) (h2 : RdNd W b2 l2) (h3 : RdNd W d1 l1) (h4 : RdNd W d2 l2) => eqDisk b1 b2 d1 d2 e1 e2 f1 f2 l1 l2 W (by have := z1.1; omega) (by have := z2.1; omega) (fun x hx => (z1.2 x hx).2) (fun x hx => (z2.2 x hx).2) h1 h2 h3 h4
  have cEa := fun (b1 b2 d1 d2 : Option Addr) (e1 e2 f1 f2 : Nat) (W : World) (h1 : RdNd W b1 L1) (h2 : RdNd W b2 L2) (h3 : RdNd W d1 L1) (h4 : RdNd W d2 L2) => eqDisk b1 b2 d1 d2 e1 e2 f1 f2 L1 L2 W hL1.1 hL2.1 hL1.2 hL2.2 h1 h2 h3 h4
  obtain ⟨⟨x0, x1⟩, -⟩ := id s0
  go_enter Try.func5, Try.ntmps5
  go_wp2_with fail
  go_at_call 7
  refine (cZ _ b0).mono ?_
  rintro e w1 ⟨rfl, hb1⟩
  have B1 := behind b0 hb1
  have A1 := s0.below hb1
  have hn1 : w.heap.size + 1 ≤ w1.heap.size := by have := hb1.size; simpa using this
  clear cZ s0 x0 x1 b0 hb1
  obtain ⟨⟨x0, x1⟩, -⟩ := id A1
  go_wp2_with fail
  go_at_call 9
  refine (cT w1 B1).mono ?_
  rintro e w2 ⟨p1, p2, q1, q2, rfl, D2, hb2⟩
  have B2 := behind B1 hb2
  have A2 := A1.below hb2
  have m2 := hb2.size
  obtain ⟨ra, rb, ea, eb, O2⟩ := D2.rows
  have R2 := O2.rd
  rw [ea, eb] at R2
  clear x0 x1
  go_wp2_with fail
  go_at_call 17
  refine (cB w2 B2).mono ?_
  rintro e w3 ⟨rfl, hp3, hb3⟩
  have B3 := behind B2 hb3
  have A3 := A2.below hb3
  have m3 := hb3.size
  have cS3 := cS p1 p2 _ q1 q2 bs.length w3 (R2.1.below hb3) (R2.2.below hb3) (RdK.own hp3)
  clear cS R2 O2 D2
  go_wp2_with fail
  go_at_call 16
  refine cS3.mono ?_
  rintro e w4 ⟨u1, u2, v1, v2, sa, sb, rfl, OS4, es1, es2, hb4⟩
  have B4 := behind B3 hb4
  have A4 := A3.below hb4
  have m4 := hb4.size
  have bW := bel1 w4 (.cells #[.slice u1 L1.length v1, .slice u2 L2.length v2] 28)
  have W5 := slot2dNew w4 (.slice u1 L1.length v1) (.slice u2 L2.length v2) 28
  have A5 := A4.below bW
  have B5 := behind B4 bW
  have OS5 := OS4.below bW
  have hn5 : w4.heap.size + 1 ≤ (w4.alloc (.cells #[.slice u1 L1.length v1, .slice u2 L2.length v2] 28)).heap.size := by rw [World.size_alloc]; exact Nat.le_refl _
  obtain ⟨⟨x0, x1⟩, -⟩ := id A5
  have hblkS := OS4.blk
  clear cS3 A3 A4 OS4 A1 A2
  go_wp2_with fail
  generalize w4.alloc (.cells #[.slice u1 L1.length v1, .slice u2 L2.length v2] 28) = w5 at *
  go_at_call 9
  refine (cT w5 B5).mono ?_
  rintro e w6 ⟨p1', p2', q1', q2', rfl, D6, hb6⟩
  obtain ⟨xa, xb, ex1, ex2, OX6⟩ := D6.rows
  have B6 := behind B5 hb6
  have m6 := hb6.size
  have bX := bel1 w6 (.cells #[.slice p1' l1.length q1', .slice p2' l2.length q2'] 28)
  have X7 := slot2dNew w6 (.slice p1' l1.length q1') (.slice p2' l2.length q2') 28
  have A7 := (A5.below hb6).below bX
  have W7 := (W5.below hb6).below bX
  have OS7 := (OS5.below hb6).below bX
  have OX7 := OX6.below bX
  have B7 := behind B6 bX
  have hn7 : w6.heap.size + 1 ≤ (w6.alloc (.cells #[.slice p1' l1.length q1', .slice p2' l2.length q2'] 28)).heap.size := by rw [World.size_alloc]; exact Nat.le_refl _
  have hblkX := OX6.blk
  obtain ⟨⟨x2, x3⟩, -⟩ := id X7
  clear A5 W5 OS5 OX6 D6 x0 x1
  go_wp2_with fail
  generalize w6.alloc (.cells #[.slice p1' l1.length q1', .slice p2' l2.length q2'] 28) = w7 at *
  go_at_call 17
  refine (cB w7 B7).mono ?_
  rintro e w8 ⟨rfl, hp8, hb8⟩
  have B8 := behind B7 hb8
  have m8 := hb8.size
  have A8 := A7.below hb8
  have W8 := W7.below hb8
  have X8 := X7.below hb8
  have OS8 := OS7.below hb8
  have OX8 := OX7.below hb8
  have lp8 := World.ownsRow.lt hp8 w7.heap.size rfl
  obtain ⟨⟨x2', x3'⟩, -⟩ := id X8
  clear A7 W7 X7 OS7 OX7 x2 x3
  have R8 := OX8.rd
  rw [ex1, ex2] at R8
  have cI8 := cI p1' p2' _ q1' q2' bs.length w8 R8.1 R8.2 ⟨RdK.own hp8, own_nil OX8.1, own_nil OX8.2.1⟩
  go_wp2_with fail
  go_at_call 18
  refine cI8.mono ?_
  rintro e w9 ⟨g1, g2, h1, h2, ga, gb, rfl, OG9, eg1, eg2, hb9⟩
  have B9 := behind B8 hb9
  have m9 := hb9.size
  have bG := bel1 w9 (.cells #[.slice g1 L1.length h1, .slice g2 L2.length h2] 28)
  have G10 := slot2dNew w9 (.slice g1 L1.length h1) (.slice g2 L2.length h2) 28
  have A10 := (A8.below hb9).below bG
  have W10 := (W8.below hb9).below bG
  have X10 := (X8.below hb9).below bG
  have OS10 := (OS8.below hb9).below bG
  have OX10 := (OX8.below hb9).below bG
  have OG10 := OG9.below bG
  have hp10 := ownBelow (ownBelow hp8 hb9) bG
  have B10 := behind B9 bG
  have hn10 : w9.heap.size + 1 ≤ (w9.alloc (.cells #[.slice g1 L1.length h1, .slice g2 L2.length h2] 28)).heap.size := by rw [World.size_alloc]; exact Nat.le_refl _
  have hblkG := OG9.blk
  obtain ⟨⟨y0, y1⟩, -⟩ := id W10
  obtain ⟨⟨y2, y3⟩, -⟩ := id G10
  clear cI8 A8 W8 X8 OS8 OX8 OG9 R8
  go_wp2_with fail
  generalize w9.alloc (.cells #[.slice g1 L1.length h1, .slice g2 L2.length h2] 28) = w10 at *
  have RG := OG10.rd
  have RS := OS10.rd
  rw [eg1, eg2] at RG
  rw [es1, es2] at RS
  go_at_call 11
  refine (cEa g1 g2 u1 u2 h1 h2 v1 v2 w10 RG.1 RG.2 RS.1 RS.2).mono ?_
  rintro e w11 ⟨rfl, hb11⟩
  have B11 := behind B10 hb11
  have A11 := A10.below hb11
  have W11 := W10.below hb11
  have X11 := X10.below hb11
  have G11 := G10.below hb11
  have OS11 := OS10.below hb11
  have OX11 := OX10.below hb11
  have OG11 := OG10.below hb11
  have hp11 := ownBelow hp10 hb11
  have m11 := hb11.size
  clear A10 W10 X10 G10 OS10 OX10 OG10 RG RS y0 y1 y2 y3 hb11
  obtain ⟨⟨y0, y1⟩, -⟩ := id X11
  obtain ⟨⟨y2, y3⟩, -⟩ := id A11
  have cT11 := cT w11.drew B11.drew
  go_upto_region 13 with fail
  refine wp_region_held_drew (S := fun wy => wy.cell? ⟨w6.heap.size, 0, none⟩ = some (.slice p1' l1.length q1') ∧ wy.cell? ⟨w6.heap.size, 1, none⟩ = some (.slice p2' l2.length q2') ∧ wy.cell? ⟨w.heap.size, 0, none⟩ = some (.slice a1 l1.length c1) ∧ wy.cell? ⟨w.heap.size, 1, none⟩ = some (.slice a2 l2.length c2)) (by kernel_rfl) ⟨y0, y1, y2, y3⟩ (fun hHeld => ?_)
  refine wpAnyH_take (i := 0) (oi := ?_) (v := ?_) ?_ ?_ ?_ ?_ ?_ ?_ (by assumption) ?_
  rotate_left 2
  · simp only [List.getElem?_toArray, List.getElem?_cons_zero]
    rfl
  · kernel_rfl
  · kernel_rfl
  · kernel_rfl
  · exact fun _ _ _ h => h
  · refine Or.inl ⟨by kernel_rfl, ?_⟩
    intro wS hSw
    try dsimp only at hSw
    go_simp
    try with_reducible rfl
  simp only [Act.put, List.setIfInBounds_toArray, List.set_cons_zero, List.set_cons_succ]
  refine wpAnyH_take (i := 1) (oi := ?_) (v := ?_) ?_ ?_ ?_ ?_ ?_ ?_ (by assumption) ?_
  rotate_left 2
  · simp only [List.getElem?_toArray, List.getElem?_cons_succ, List.getElem?_cons_zero]
    rfl
  · kernel_rfl
  · kernel_rfl
  · kernel_rfl
  · exact fun _ _ _ h => h
  · refine Or.inl ⟨by kernel_rfl, ?_⟩
    intro wS hSw
    try dsimp only at hSw
    go_simp
    try with_reducible rfl
  simp only [Act.put, List.setIfInBounds_toArray, List.set_cons_zero, List.set_cons_succ]
  refine wpAnyH_ready (rs := [2]) (by kernel_rfl) (by simp) ?_
  refine AllReadyH.cons rfl (fun K hK => ?_) ?_
  rotate_left
  · exact AllReadyH.nil
  go_simp
  refine cT11.mono ?_
  rintro e w12 ⟨t1, t2, t3, t4, rfl, D12, hb12⟩
  go_wp2_with fail
  refine hK.out _ _ ?_ (fun hHeld => ?_)
  · exact ⟨cellNd hHeld.1 hb12, cellNd hHeld.2.1 hb12, cellNd hHeld.2.2.1 hb12, cellNd hHeld.2.2.2 hb12⟩
  clear hK K
  try simp only [Act.put, List.setIfInBounds_toArray, List.set_cons_zero, List.set_cons_succ]
  have OX12 : OwnD w12 _ _ _ _ _ := OwnD.below (w := w11.drew) OX11 hb12
  have RX := OX12.rd
  rw [ex1, ex2] at RX
  obtain ⟨ta, tb, et1, et2, OT12⟩ := D12.rows
  have RT := OT12.rd
  rw [et1, et2] at RT
  have cE12 := cEx p1' p2' t1 t2 q1' q2' t3 t4 w12 RX.1 RX.2 RT.1 RT.2
  refine wpAnyH_ready (rs := [3]) (by kernel_rfl) (by simp) ?_
  refine AllReadyH.cons rfl (fun K hK => ?_) ?_
  rotate_left
  · exact AllReadyH.nil
  go_simp
  refine cE12.mono ?_
  rintro e w13 ⟨rfl, hb13⟩
  go_wp2_with fail
  refine hK.out _ _ ?_ (fun hHeld => ?_)
  · exact ⟨cellNd hHeld.1 hb13, cellNd hHeld.2.1 hb13, cellNd hHeld.2.2.1 hb13, cellNd hHeld.2.2.2 hb13⟩
  clear hK K
  try simp only [Act.put, List.setIfInBounds_toArray, List.set_cons_zero, List.set_cons_succ]
  refine wpAnyH_take (i := 4) (oi := ?_) (v := ?_) ?_ ?_ ?_ ?_ ?_ ?_ (by assumption) ?_
  rotate_left 2
  · simp only [List.getElem?_toArray, List.getElem?_cons_succ, List.getElem?_cons_zero]
    rfl
  · kernel_rfl
  · kernel_rfl
  · kernel_rfl
  · exact fun _ _ _ h => h
  · refine Or.inl ⟨by kernel_rfl, ?_⟩
    intro wS hSw
    try dsimp only at hSw
    go_simp
    try with_reducible rfl
  simp only [Act.put, List.setIfInBounds_toArray, List.set_cons_zero, List.set_cons_succ]
  refine wpAnyH_done (by kernel_rfl) ?_ _

  have hb113 : Below w11.heap.size w11 w13 := (show Below w11.heap.size w11 w11.drew from (Below.refl _ _).drew).trans (behind hb12 hb13)
  have B13 := behind B11 hb113
  have m13 := hb113.size
  clear OX12 RX D12 OT12 RT cE12 cT11 hb12 hb13 y0 y1 y2 y3 cEx
  have A13 := A11.below hb113
  have W13 := W11.below hb113
  have X13 := X11.below hb113
  have G13 := G11.below hb113
  have OS13 := OS11.below hb113
  have OX13 := OX11.below hb113
  have OG13 := OG11.below hb113
  have hp13 := ownBelow hp11 hb113
  clear A11 W11 X11 G11 OS11 OX11 OG11 hp11

  go_wp2_with fail
  go_at_call 17
  refine (cB w13 B13).mono ?_
  rintro e w14 ⟨rfl, hp14', hb14⟩
  have B14 := behind B13 hb14
  have m14 := hb14.size
  have A14 := A13.below hb14
  have W14 := W13.below hb14
  have X14 := X13.below hb14
  have G14 := G13.below hb14
  have OS14 := OS13.below hb14
  have OX14 := OX13.below hb14
  have OG14 := OG13.below hb14
  have hp14 := ownBelow hp13 hb14
  clear A13 W13 X13 G13 OS13 OX13 OG13 hp13
  go_wp2_with fail
  go_at_call 19
  refine (eqBoolS _ _ _ _ bs w14 hbl (RdK.own hp14) (RdK.own hp14')).mono ?_
  rintro e w15 ⟨rfl, n15, e15⟩
  have hb15 : Below w14.heap.size w14 w15 := by rw [e15]; exact belowDrewN (Below.refl _ _) n15
  clear e15 hp14'
  have B15 := behind B14 hb15
  have m15 := hb15.size
  have A15 := A14.below hb15
  have W15 := W14.below hb15
  have X15 := X14.below hb15
  have G15 := G14.below hb15
  have OS15 := OS14.below hb15
  have OX15 := OX14.below hb15
  have OG15 := OG14.below hb15
  have hp15 := ownBelow hp14 hb15
  clear A14 W14 X14 G14 OS14 OX14 OG14 hp14

  obtain ⟨⟨y0, y1⟩, -⟩ := id X15
  have hlx : xa.length ≤ 2097152 ∧ xb.length ≤ 2097152 := by
    rw [← nds_len xa, ← nds_len xb, ex1, ex2]
    have := z1.1
    have := z2.1
    omega
  have htx : totR xa + totR xb ≤ 1048576 := by
    rw [tot_nds, tot_nds, ← nds_len xa, ← nds_len xb, ex1, ex2]
    have := wt_sum l1
    have := wt_sum l2
    omega
  go_wp2_with fail
  go_at_call 12
  refine (markDk _ 1 _ _ _ _ _ _ xa xb w15 (by omega) (by omega) hlx.1 hlx.2 OX15).mono ?_
  rintro e w16 ⟨rfl, -, K16⟩
  have m16 := K16.2.2.2.1
  have B16 : Below w.heap.size w w16 := KeptS.toBelow B15 K16 (fun b x => by have := hblkX b x; omega) B15.size
  have A16 := K16.slot A15 (fun x => by have := hblkX _ x; omega)
  have W16 := K16.slot W15 (fun x => by have := hblkX _ x; omega)
  have G16 := K16.slot G15 (fun x => by have := hblkX _ x; omega)
  have OS16 := OS15.kept K16 (fun b x y => by have := hblkS b x; have := hblkX b y; omega)
  have OG16 := OG15.kept K16 (fun b x y => by have := hblkG b x; have := hblkX b y; omega)
  have hp16 := K16.own hp15 (fun j e y => by have := hblkX j y; have e2 : w7.heap.size = j := (by simpa [Value.ownBlock] using e); omega)
  clear A15 W15 X15 G15 OS15 OX15 OG15 hp15 K16 y0 y1
  generalize totR xa = tx at *
  generalize totR xb = ty at *
  go_wp2_with fail
  go_at_call 20
  refine (markBoolS _ _ _ _ (1 + tx + ty) _ w16 (by omega) (by omega) hp16).mono ?_
  rintro e w17 ⟨rfl, hg17⟩
  have B17 := belowGrown B16 hg17 (by omega) B16.size
  have m17 := hg17.size
  have A17 := A16.grown hg17 (fun e => by have := Option.some.inj e; omega)
  have W17 := W16.grown hg17 (fun e => by have := Option.some.inj e; omega)
  have G17 := G16.grown hg17 (fun e => by have := Option.some.inj e; omega)
  have k17 : KeptS (fun b => b = w7.heap.size) w16 w17 := (KeptS.refl _ _).grown hg17 (fun j e => (Option.some.inj e).symm)
  have OS17 := OS16.kept k17 (fun b x y => by have := hblkS b x; omega)
  have OG17 := OG16.kept k17 (fun b x y => by have := hblkG b x; omega)
  clear A16 W16 G16 OS16 OG16 hp16 hg17 k17
  have hp1 : ¬ ((((1 + tx + ty : Nat) : Int) + (bs.length : Int)) < 0) := by omega
  obtain ⟨⟨y0, y1⟩, -⟩ := id W17
  obtain ⟨⟨y2, y3⟩, -⟩ := id G17
  have RG := OG17.rd
  have RS := OS17.rd
  rw [eg1, eg2] at RG
  rw [es1, es2] at RS
  go_wp2_with fail
  go_at_call 11
  refine (cEa g1 g2 u1 u2 h1 h2 v1 v2 w17 RG.1 RG.2 RS.1 RS.2).mono ?_
  rintro e w18 ⟨rfl, hb18⟩
  have B18 := behind B17 hb18
  have m18 := hb18.size
  clear RG RS y0 y1 y2 y3
  have A18 := A17.below hb18
  have W18 := W17.below hb18
  have G18 := G17.below hb18
  have OS18 := OS17.below hb18
  have OG18 := OG17.below hb18
  clear A17 W17 G17 OS17 OG17

  obtain ⟨⟨y2, y3⟩, -⟩ := id G18
  have hlg : ga.length ≤ 2097152 ∧ gb.length ≤ 2097152 := by
    rw [← nds_len ga, ← nds_len gb, eg1, eg2]
    exact ⟨hL1.1, hL2.1⟩
  have htg : totR ga + totR gb ≤ 4194304 := by
    rw [tot_nds, tot_nds, ← nds_len ga, ← nds_len gb, eg1, eg2]
    exact hT
  go_wp2_with fail
  go_at_call 12
  refine (markDk _ 1 _ _ _ _ _ _ ga gb w18 (by omega) (by omega) hlg.1 hlg.2 OG18).mono ?_
  rintro e w19 ⟨rfl, MG19, K19⟩
  have m19 := K19.2.2.2.1
  have B19 : Below w.heap.size w w19 := KeptS.toBelow B18 K19 (fun b x => by have := hblkG b x; omega) B18.size
  have A19 := K19.slot A18 (fun x => by have := hblkG _ x; omega)
  have W19 := K19.slot W18 (fun x => by have := hblkG _ x; omega)
  have G19 := K19.slot G18 (fun x => by have := hblkG _ x; omega)
  have OS19 := OS18.kept K19 (fun b x y => by have := hblkS b x; have := hblkG b y; omega)
  clear A18 W18 G18 OS18 OG18 K19 y2 y3
  have HG : Hid (∀ W, MkD W w8.heap.size (.slice g1 L1.length h1) (.slice g2 L2.length h2) ga gb 1 → Calls Try.prog 13 #[.agg #[.slice g1 L1.length h1, .slice g2 L2.length h2], .int .i64 ((1 : Nat) : Int)] W fun e w' => e = .returned (.int .i64 ((1 + totR ga + totR gb : Nat) : Int)) ∧ Below W.heap.size W w') := fun W h => heldDk _ 1 _ _ _ _ _ _ ga gb W (by omega) (by omega) hlg.1 hlg.2 h
  generalize totR ga = ux at *
  generalize totR gb = uy at *
  have hp2 : ¬ (((1 + ux + uy : Nat) : Int) < 0) := by omega
  obtain ⟨⟨y2, y3⟩, -⟩ := id G19
  go_wp2_with fail
  go_at_call 13
  refine (HG.out w19 MG19).mono ?_
  rintro e w20 ⟨rfl, hb20⟩
  have B20 := behind B19 hb20
  have m20 := hb20.size
  clear y2 y3
  have A20 := A19.below hb20
  have W20 := W19.below hb20
  have G20 := G19.below hb20
  have OS20 := OS19.below hb20
  have MG20 := MG19.below hb20
  clear A19 W19 G19 OS19 MG19

  obtain ⟨⟨y0, y1⟩, -⟩ := id A20
  go_wp2_with fail
  go_at_call 9
  refine (cT w20 B20).mono ?_
  rintro e w21 ⟨t1, t2, t3, t4, rfl, D21, hb21⟩
  have B21 := behind B20 hb21
  obtain ⟨ta, tb, et1, et2, OT21⟩ := D21.rows
  have RT := OT21.rd
  rw [et1, et2] at RT
  clear y0 y1
  have A21 := A20.below hb21
  have W21 := W20.below hb21
  have G21 := G20.below hb21
  have OS21 := OS20.below hb21
  have MG21 := MG20.below hb21
  clear A20 W20 G20 OS20 MG20

  go_wp2_with fail
  go_at_call 17
  refine (cB w21 B21).mono ?_
  rintro e w22 ⟨rfl, hp22, hb22⟩
  have B22 := behind B21 hb22
  have A22 := A21.below hb22
  have W22 := W21.below hb22
  have G22 := G21.below hb22
  have OS22 := OS21.below hb22
  have MG22 := MG21.below hb22
  clear A21 W21 G21 OS21 MG21
  have cI22 := cI t1 t2 _ t3 t4 bs.length w22 (RT.1.below hb22) (RT.2.below hb22) ⟨RdK.own hp22, own_nil OT21.1, own_nil OT21.2.1⟩
  go_wp2_with fail
  go_at_call 18
  refine cI22.mono ?_
  rintro e w23 ⟨k1, k2, j1, j2, ka, kb, rfl, OK23, ek1, ek2, hb23⟩
  have B23 := behind B22 hb23
  have A23 := A22.below hb23
  have W23 := W22.below hb23
  have G23 := G22.below hb23
  have OS23 := OS22.below hb23
  have MG23 := MG22.below hb23
  clear A22 W22 G22 OS22 MG22
  have bK := bel1 w23 (.cells #[.slice k1 L1.length j1, .slice k2 L2.length j2] 28)
  have K24 := slot2dNew w23 (.slice k1 L1.length j1) (.slice k2 L2.length j2) 28
  have B24 := behind B23 bK
  have OK24 := OK23.below bK
  have A24 := A23.below bK
  have W24 := W23.below bK
  have G24 := G23.below bK
  have OS24 := OS23.below bK
  have MG24 := MG23.below bK
  clear A23 W23 G23 OS23 MG23
  obtain ⟨⟨y0, y1⟩, -⟩ := id W24
  obtain ⟨⟨y2, y3⟩, -⟩ := id K24
  clear cI22 RT D21 OT21 OK23 cT cI
  go_wp2_with fail
  generalize w23.alloc (.cells #[.slice k1 L1.length j1, .slice k2 L2.length j2] 28) = w24 at *
  have RK := OK24.rd
  have RS := OS24.rd
  rw [ek1, ek2] at RK
  rw [es1, es2] at RS
  go_at_call 11
  refine (cEa k1 k2 u1 u2 j1 j2 v1 v2 w24 RK.1 RK.2 RS.1 RS.2).mono ?_
  rintro e w25 ⟨rfl, hb25⟩
  have B25 := behind B24 hb25
  clear RK RS y0 y1 y2 y3 OK24 OS24
  have G25 := G24.below hb25
  have MG25 := MG24.below hb25
  clear G24 MG24
  obtain ⟨⟨y2, y3⟩, -⟩ := id G25
  go_wp2_with fail
  go_at_call 13
  refine (HG.out w25 MG25).mono ?_
  rintro e w26 ⟨rfl, hb26⟩
  go_wp2
  go_ret
  exact ⟨rfl, behind B25 hb26⟩

set_option maxRecDepth 100000 in
theorem lifted (os : Os) (started : os.Started) (H : Type) (enc : TypeId × Value → H) :
    ReturnsInHanded {} Try.checked os 5 .any (Rows.fnExactFallDiskSpec.pre6 enc Try.prog Try.f5 Rows.fnExactFallDiskRow.domain false) (Rows.fnExactFallDiskSpec.post enc Try.prog Try.f5 false true false false) := by
  refine returnsInHanded_of_change (C := Try.checked) own started (by kernel_rfl) Try.func5
    (ChangeSpec.witness6 (enc := enc) (C := Try.checked) false ⟨#[], #[.agg #[.slice none 0 0, .slice none 0 0], .slice none 0 0], []⟩ 8 (by kernel_rfl) (by kernel_rfl) (by kernel_rfl) (by kernel_rfl)) ?_
  intro W base args ds gs before hval0 hW hcnd _
  have hval : ∀ (j : Nat) t v, Try.f5.params[j]? = some t → args[j]? = some v → Value.okWide Try.prog W .any base t v := hval0
  have hW' := hW
  obtain ⟨p, q, hA0, hV, rfl, hfz, hnd⟩ := hW
  have hA : DataW.TrodAll enc Try.prog W 0 (fun _ => true) true Try.f5.params.toList args.toList ds p := hA0
  rw [Try.params5] at hA hval
  obtain ⟨v0, vs0, d0, ds0, p0, q0, hargs, rfl, rfl, h0, r0⟩ := trodAll_cons hA
  obtain ⟨v1, vs1, d1, ds1, p1, q1, rfl, rfl, rfl, h1, r1⟩ := trodAll_cons r0
  obtain ⟨rfl, rfl, rfl⟩ := trodAll_nil r1
  obtain rfl : args = #[v0, v1] := by cases args; simp_all
  obtain ⟨rfl, rfl⟩ := trodVars_none hV
  have kk0 := h0
  have lt0 : ∀ x ∈ p0, x.block < W.heap.size := by obtain ⟨m, hm⟩ := kk0; exact DataW.trod_lt m _ _ _ hm
  obtain ⟨a0, b0, n0, m0, c0, d0, l0, k0, rfl, w0, u0⟩ := openDkV (hval 0 24 v0 rfl rfl) h0
  have k1 := h1
  have lt1 : ∀ x ∈ p1, x.block < W.heap.size := by obtain ⟨m, hm⟩ := k1; exact DataW.trod_lt m _ _ _ hm
  obtain ⟨a1, n1, c1, l1, rfl, w1⟩ := openBlsV (hval 1 35 v1 rfl rfl) h1
  clear hA0 hval0
  refine (walk a0 b0 n0 m0 c0 d0 l0 k0 a1 n1 c1 l1 W w0 u0 w1).mono fun e W' ⟨he, bel⟩ => ?_
  subst he
  exact ⟨_, rfl, _, _, _, [], _, [], hW', trodAll_mk1 (shut_bool Try.underlying4 _), (trodAll_cons_mk (Below.trod laidOut (by kernel_rfl) (of_decide_eq_true (by kernel_rfl)) kk0 bel lt0) (trodAll_cons_mk (Below.trod laidOut (by kernel_rfl) (of_decide_eq_true (by kernel_rfl)) k1 bel lt1) trodAll_mk0)), rfl, bel.frame _, fun h => by cases h⟩

theorem over : Rows.fnExactFallDiskRow.holds Try.pinned (OpenSpec.ofChange Rows.fnExactFallDiskSpec) :=
  OpenClaim.holds_of_wide 5 Try.f5 rfl rfl rfl rfl rfl rfl rfl ⟨rfl, rfl, rfl, rfl, rfl⟩ rfl rfl rfl rfl rfl (by kernel_rfl) Try.func5 (by kernel_rfl)
    (of_decide_eq_true (by kernel_rfl)) (by unfold Func.isWrapper; first | (rw [if_pos (by decide +kernel)]; kernel_rfl) | (rw [if_neg (by decide +kernel)]; exact ⟨rfl, rfl⟩))
    (fun os started H enc _ => lifted os started H enc)

end Go.Proofs.Ytmappmboedpgmaq.fnExactFallDisk
namespace Go.Proofs.Ytmappmboedpgmaq
theorem fnExactFallDisk_holds : Rows.FnExactFallDiskSaid := fnExactFallDisk.over
#print axioms fnExactFallDisk_holds
end Go.Proofs.Ytmappmboedpgmaq
