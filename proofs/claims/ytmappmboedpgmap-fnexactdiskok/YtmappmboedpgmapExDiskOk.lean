/- DiskOk of the program answers as the specification does, at every disk; the disk reads behind the call as ahead of it. Where it has more than 2^20 names and bytes together the law itself answers true. -/
import Derived.Test.YtmappmboedpgmapRows
import Derived.Test.YtmappmboedpgmapFoI
import Derived.Test.YtmappmboedpgmapDkS
import Derived.Test.YtmappmboedpgmapTpDk
import Derived.Test.YtmappmboedpgmapSzDk
import Derived.Test.YtmappmboedpgmapEqDk
import Derived.Test.YtmappmboedpgmapOpDk
import Derived.Test.YtmappmboedpgmapNwB
import Derived.WalkKit
import Derived.ProofKit
import Derived.OpenShut
import Derived.ShutString
import Derived.ChangeOld
import Derived.Below
namespace Go.Proofs.Ytmappmboedpgmap.fnExactDiskOk
open Go.ChangeShapes Go.WideShapes Go.ChangeAt Go.RowKit
open Go.ChangeMaps (open_string shut_string)
set_option linter.unusedVariables false

theorem own : ownKnob Try.prog.godebug = none := by kernel_rfl
theorem laidOut : laidOutB Try.prog = true := by kernel_rfl

open Wk

theorem wt_mem {l : List Nd} {x : Nd} (h : x ∈ l) : x.1.size + x.2.length ≤ wtN l := by
  obtain ⟨i, hi, rfl⟩ := List.mem_iff_getElem.1 h
  have h1 := wtN_take hi
  have h2 := wtN_le l (i + 1)
  omega
set_option maxHeartbeats 8000000 in
set_option maxRecDepth 100000 in
theorem walk (a1 a2 : Option Addr) (n1 n2 c1 c2 : Nat) (l1 l2 : List Nd) (w : World) (i1 : IsNds w a1 n1 c1 l1) (i2 : IsNds w a2 n2 c2 l2) :
    Calls Try.prog 6 #[.agg #[.slice a1 n1 c1, .slice a2 n2 c2]] w fun e w' => e = .returned (.bool true) ∧ Below w.heap.size w w' := by
  obtain ⟨rfl, hlm1, hzm1, hr1⟩ := i1
  obtain ⟨rfl, hlm2, hzm2, hr2⟩ := i2
  have b0 := bel1 w (.cells #[.slice a1 l1.length c1, .slice a2 l2.length c2] 45)
  have s0 := slot2dNew w (.slice a1 l1.length c1) (.slice a2 l2.length c2) 45
  have cZ := fun (W : World) (h : Below w.heap.size w W) => szDk a1 a2 c1 c2 1048576 l1 l2 W (Nat.le_refl _) ⟨rfl, hlm1, hzm1, hr1.below h⟩ ⟨rfl, hlm2, hzm2, hr2.below h⟩
  have e20 : ((1048576 : Nat) : Int) = 1048576 := rfl
  rw [e20] at cZ
  clear e20
  by_cases hW : (l1.length + wtN l1) + (l2.length + wtN l2) ≤ 1048576
  rotate_left 1
  · rw [lf_no hW] at cZ
    obtain ⟨⟨x0, x1⟩, -⟩ := id s0
    go_enter Try.func6, Try.ntmps6
    go_wp2_with fail
    go_at_call 23
    refine (cZ _ b0).mono ?_
    rintro e w1 ⟨rfl, hb1⟩
    go_wp2
    go_ret
    exact ⟨rfl, behind b0 hb1⟩
  rw [lf_yes hW] at cZ
  have z1 : NdZ l1 := ⟨by omega, fun x hx => by have := wt_mem hx; omega⟩
  have z2 : NdZ l2 := ⟨by omega, fun x hx => by have := wt_mem hx; omega⟩
  generalize 1048576 - ((l1.length + wtN l1) + (l2.length + wtN l2)) = M at cZ
  have cT := fun (W : World) (h : Below w.heap.size w W) => toDisk a1 a2 c1 c2 l1 l2 W z1.1 z2.1 (fun x hx => (z1.2 x hx).2) (fun x hx => (z2.2 x hx).2) (hr1.below h) (hr2.below h)
  have cEx := fun (b1 b2 d1 d2 : Option Addr) (e1 e2 f1 f2 : Nat) (W : World) (h1 : RdNd W b1 l1) (h2 : RdNd W b2 l2) (h3 : RdNd W d1 l1) (h4 : RdNd W d2 l2) => eqDisk b1 b2 d1 d2 e1 e2 f1 f2 l1 l2 W (by have := z1.1; omega) (by have := z2.1; omega) (fun x hx => (z1.2 x hx).2) (fun x hx => (z2.2 x hx).2) h1 h2 h3 h4
  have cS := fun (p1 p2 : Option Addr) (q1 q2 : Nat) (W : World) (h1 : RdNd W p1 l1) (h2 : RdNd W p2 l2) => specDiskOk p1 p2 q1 q2 l1 l2 W z1.1 z2.1 z1.2 z2.2 h1 h2
  have cI := fun (p1 p2 : Option Addr) (q1 q2 : Nat) (W : World) (h1 : RdNd W p1 l1) (h2 : RdNd W p2 l2) => implDiskOk p1 p2 q1 q2 l1 l2 W z1.1 z2.1 z1.2 z2.2 h1 h2
  generalize (listOk l1 && listOk l2) = K at cS cI
  obtain ⟨⟨x0, x1⟩, -⟩ := id s0
  go_enter Try.func6, Try.ntmps6
  go_wp2_with fail
  go_at_call 23
  refine (cZ _ b0).mono ?_
  rintro e w1 ⟨rfl, hb1⟩
  have B1 := behind b0 hb1
  have A1 := s0.below hb1
  have hn1 : w.heap.size + 1 ≤ w1.heap.size := by have := hb1.size; simpa using this
  clear cZ s0 x0 x1 b0 hb1
  obtain ⟨⟨x0, x1⟩, -⟩ := id A1
  go_wp2_with fail
  go_at_call 25
  refine (cT w1 B1).mono ?_
  rintro e w2 ⟨p1, p2, q1, q2, rfl, D2, hb2⟩
  have B2 := behind B1 hb2
  have A2 := A1.below hb2
  have m2 := hb2.size
  obtain ⟨ra, rb, ea, eb, O2⟩ := D2.rows
  have R2 := O2.rd
  rw [ea, eb] at R2
  clear x0 x1 O2 D2 A1
  go_wp2_with fail
  go_at_call 24
  refine (cS p1 p2 q1 q2 w2 R2.1 R2.2).mono ?_
  rintro e w5 ⟨rfl, hb5⟩
  have B5 := behind B2 hb5
  have A5 := A2.below hb5
  have m5 := hb5.size
  obtain ⟨⟨x0, x1⟩, -⟩ := id A5
  clear R2 A2 cS
  go_wp2_with fail
  go_at_call 25
  refine (cT w5 B5).mono ?_
  rintro e w6 ⟨p1', p2', q1', q2', rfl, D6, hb6⟩
  obtain ⟨xa, xb, ex1, ex2, OX6⟩ := D6.rows
  have B6 := behind B5 hb6
  have m6 := hb6.size
  have bX := bel1 w6 (.cells #[.slice p1' l1.length q1', .slice p2' l2.length q2'] 50)
  have X7 := slot2dNew w6 (.slice p1' l1.length q1') (.slice p2' l2.length q2') 50
  have A7 := (A5.below hb6).below bX
  have OX7 := OX6.below bX
  have B7 := behind B6 bX
  have hn7 : w6.heap.size + 1 ≤ (w6.alloc (.cells #[.slice p1' l1.length q1', .slice p2' l2.length q2'] 50)).heap.size := by rw [World.size_alloc]; exact Nat.le_refl _
  obtain ⟨⟨x2, x3⟩, -⟩ := id X7
  clear A5 OX6 D6 x0 x1
  go_wp2_with fail
  generalize w6.alloc (.cells #[.slice p1' l1.length q1', .slice p2' l2.length q2'] 50) = w7 at *
  have R8 := OX7.rd
  rw [ex1, ex2] at R8
  go_at_call 26
  refine (cI p1' p2' q1' q2' w7 R8.1 R8.2).mono ?_
  rintro e w11 ⟨rfl, hb11⟩
  have B11 := behind B7 hb11
  have A11 := A7.below hb11
  have X11 := X7.below hb11
  have OX11 := OX7.below hb11
  clear A7 X7 OX7 R8 x2 x3 cI
  obtain ⟨⟨y0, y1⟩, -⟩ := id X11
  obtain ⟨⟨y2, y3⟩, -⟩ := id A11
  have cT11 := cT w11.drew B11.drew
  go_upto_region 10 with fail
  refine wp_region_held_drew (S := fun wy => wy.cell? ⟨w6.heap.size, 0, none⟩ = some (.slice p1' l1.length q1') ∧ wy.cell? ⟨w6.heap.size, 1, none⟩ = some (.slice p2' l2.length q2') ∧ wy.cell? ⟨w.heap.size, 0, none⟩ = some (.slice a1 l1.length c1) ∧ wy.cell? ⟨w.heap.size, 1, none⟩ = some (.slice a2 l2.length c2)) (by kernel_rfl) ⟨y0, y1, y2, y3⟩ (fun hHeld => ?_)
  refine wpAnyH_take (i := 0) (oi := ?_) (v := ?_) ?_ ?_ ?_ ?_ ?_ ?_ (by assumption) ?_
  rotate_left 2
  · simp only [List.getElem?_toArray, List.getElem?_cons_zero]
    rfl
  · kernel_rfl
  · kernel_rfl
  · kernel_rfl
  · exact fun _ _ _ h => h
  · refine Or.inl ⟨by kernel_rfl, ?_⟩
    intro wS hSw
    try dsimp only at hSw
    go_simp
    try with_reducible rfl
  simp only [Act.put, List.setIfInBounds_toArray, List.set_cons_zero, List.set_cons_succ]
  refine wpAnyH_take (i := 1) (oi := ?_) (v := ?_) ?_ ?_ ?_ ?_ ?_ ?_ (by assumption) ?_
  rotate_left 2
  · simp only [List.getElem?_toArray, List.getElem?_cons_succ, List.getElem?_cons_zero]
    rfl
  · kernel_rfl
  · kernel_rfl
  · kernel_rfl
  · exact fun _ _ _ h => h
  · refine Or.inl ⟨by kernel_rfl, ?_⟩
    intro wS hSw
    try dsimp only at hSw
    go_simp
    try with_reducible rfl
  simp only [Act.put, List.setIfInBounds_toArray, List.set_cons_zero, List.set_cons_succ]
  refine wpAnyH_ready (rs := [2]) (by kernel_rfl) (by simp) ?_
  refine AllReadyH.cons rfl (fun K hK => ?_) ?_
  rotate_left
  · exact AllReadyH.nil
  go_simp
  refine cT11.mono ?_
  rintro e w12 ⟨t1, t2, t3, t4, rfl, D12, hb12⟩
  go_wp2_with fail
  refine hK.out _ _ ?_ (fun hHeld => ?_)
  · exact ⟨cellNd hHeld.1 hb12, cellNd hHeld.2.1 hb12, cellNd hHeld.2.2.1 hb12, cellNd hHeld.2.2.2 hb12⟩
  clear hK K
  try simp only [Act.put, List.setIfInBounds_toArray, List.set_cons_zero, List.set_cons_succ]
  have OX12 : OwnD w12 _ _ _ _ _ := OwnD.below (w := w11.drew) OX11 hb12
  have RX := OX12.rd
  rw [ex1, ex2] at RX
  obtain ⟨ta, tb, et1, et2, OT12⟩ := D12.rows
  have RT := OT12.rd
  rw [et1, et2] at RT
  have cE12 := cEx p1' p2' t1 t2 q1' q2' t3 t4 w12 RX.1 RX.2 RT.1 RT.2
  refine wpAnyH_ready (rs := [3]) (by kernel_rfl) (by simp) ?_
  refine AllReadyH.cons rfl (fun K hK => ?_) ?_
  rotate_left
  · exact AllReadyH.nil
  go_simp
  refine cE12.mono ?_
  rintro e w13 ⟨rfl, hb13⟩
  go_wp2_with fail
  refine hK.out _ _ ?_ (fun hHeld => ?_)
  · exact ⟨cellNd hHeld.1 hb13, cellNd hHeld.2.1 hb13, cellNd hHeld.2.2.1 hb13, cellNd hHeld.2.2.2 hb13⟩
  clear hK K
  try simp only [Act.put, List.setIfInBounds_toArray, List.set_cons_zero, List.set_cons_succ]
  refine wpAnyH_take (i := 4) (oi := ?_) (v := ?_) ?_ ?_ ?_ ?_ ?_ ?_ (by assumption) ?_
  rotate_left 2
  · simp only [List.getElem?_toArray, List.getElem?_cons_succ, List.getElem?_cons_zero]
    rfl
  · kernel_rfl
  · kernel_rfl
  · kernel_rfl
  · exact fun _ _ _ h => h
  · refine Or.inl ⟨by kernel_rfl, ?_⟩
    intro wS hSw
    try dsimp only at hSw
    go_simp
    try with_reducible rfl
  simp only [Act.put, List.setIfInBounds_toArray, List.set_cons_zero, List.set_cons_succ]
  refine wpAnyH_done (by kernel_rfl) ?_ _
  have hb113 : Below w11.heap.size w11 w13 := (show Below w11.heap.size w11 w11.drew from (Below.refl _ _).drew).trans (behind hb12 hb13)
  have B13 := behind B11 hb113
  have m13 := hb113.size
  clear OX12 RX D12 OT12 RT cE12 cT11 hb12 hb13 y0 y1 y2 y3 cEx
  go_wp2
  go_ret
  exact ⟨rfl, B13⟩

set_option maxRecDepth 100000 in
theorem lifted (os : Os) (started : os.Started) (H : Type) (enc : TypeId × Value → H) :
    ReturnsInHanded {} Try.checked os 6 .any (Rows.fnExactDiskOkSpec.pre6 enc Try.prog Try.f6 Rows.fnExactDiskOkRow.domain false) (Rows.fnExactDiskOkSpec.post enc Try.prog Try.f6 false true false false) := by
  refine returnsInHanded_of_change (C := Try.checked) own started (by kernel_rfl) Try.func6
    (ChangeSpec.witness6 (enc := enc) (C := Try.checked) false ⟨#[], #[.agg #[.slice none 0 0, .slice none 0 0]], []⟩ 8 (by kernel_rfl) (by kernel_rfl) (by kernel_rfl) (by kernel_rfl)) ?_
  intro W base args ds gs before hval0 hW hcnd _
  have hval : ∀ (j : Nat) t v, Try.f6.params[j]? = some t → args[j]? = some v → Value.okWide Try.prog W .any base t v := hval0
  have hW' := hW
  obtain ⟨p, q, hA0, hV, rfl, hfz, hnd⟩ := hW
  have hA : DataW.TrodAll enc Try.prog W 0 (fun _ => true) true Try.f6.params.toList args.toList ds p := hA0
  rw [Try.params6] at hA hval
  obtain ⟨v0, vs0, d0, ds0, p0, q0, hargs, rfl, rfl, h0, r0⟩ := trodAll_cons hA
  obtain ⟨rfl, rfl, rfl⟩ := trodAll_nil r0
  obtain rfl : args = #[v0] := by cases args; simp_all
  obtain ⟨rfl, rfl⟩ := trodVars_none hV
  have kk0 := h0
  have lt0 : ∀ x ∈ p0, x.block < W.heap.size := by obtain ⟨m, hm⟩ := kk0; exact DataW.trod_lt m _ _ _ hm
  obtain ⟨a0, b0, n0, m0, c0, d0, l0, k0, rfl, w0, u0⟩ := openDkV (hval 0 45 v0 rfl rfl) h0
  clear hA0 hval0
  refine (walk a0 b0 n0 m0 c0 d0 l0 k0 W w0 u0).mono fun e W' ⟨he, bel⟩ => ?_
  subst he
  exact ⟨_, rfl, _, _, _, [], _, [], hW', trodAll_mk1 (shut_bool Try.underlying4 _), (trodAll_cons_mk (Below.trod laidOut (by kernel_rfl) (of_decide_eq_true (by kernel_rfl)) kk0 bel lt0) trodAll_mk0), rfl, bel.frame _, fun h => by cases h⟩

theorem over : Rows.fnExactDiskOkRow.holds Try.pinned (OpenSpec.ofChange Rows.fnExactDiskOkSpec) :=
  OpenClaim.holds_of_wide 6 Try.f6 rfl rfl rfl rfl rfl rfl rfl ⟨rfl, rfl, rfl, rfl, rfl⟩ rfl rfl rfl rfl rfl (by kernel_rfl) Try.func6 (by kernel_rfl)
    (of_decide_eq_true (by kernel_rfl)) (by unfold Func.isWrapper; first | (rw [if_pos (by decide +kernel)]; kernel_rfl) | (rw [if_neg (by decide +kernel)]; exact ⟨rfl, rfl⟩))
    (fun os started H enc _ => lifted os started H enc)

end Go.Proofs.Ytmappmboedpgmap.fnExactDiskOk
namespace Go.Proofs.Ytmappmboedpgmap
theorem fnExactDiskOk_holds : Rows.FnExactDiskOkSaid := fnExactDiskOk.over
#print axioms fnExactDiskOk_holds
end Go.Proofs.Ytmappmboedpgmap
