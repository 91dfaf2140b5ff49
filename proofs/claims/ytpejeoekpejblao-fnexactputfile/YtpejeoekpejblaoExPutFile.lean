/- PutFile of the program answers as the specification does, at every file; the file reads behind the call as ahead of it; the answer lies in memory of its own: marks in the file's data do not change it, and marks in it stay behind a second call. Where the data have more than 2^20 bytes the law itself answers true. -/
import Derived.Test.YtpejeoekpejblaoRows
import Derived.Test.YtpejeoekpejblaoFqI
import Derived.Test.YtpejeoekpejblaoFpS
import Derived.Test.YtpejeoekpejblaoToFl
import Derived.Test.YtpejeoekpejblaoOpFl
import Derived.WalkKit
import Derived.ProofKit
import Derived.OpenShut
import Derived.ShutString
import Derived.ChangeOld
import Derived.Below
namespace Go.Proofs.Ytpejeoekpejblao.fnExactPutFile
open Go.ChangeShapes Go.WideShapes Go.ChangeAt Go.RowKit
open Go.ChangeMaps (open_string shut_string)
set_option linter.unusedVariables false

theorem own : ownKnob Try.prog.godebug = none := by kernel_rfl
theorem laidOut : laidOutB Try.prog = true := by kernel_rfl

open Wk

set_option maxHeartbeats 8000000 in
set_option maxRecDepth 100000 in
theorem walk (t q n : Int) (d : Bool) (a : Option Addr) (len cap : Nat) (zs : List Int) (w : World) (w0 : IsRow .u8 w a len cap zs) :
    Calls Try.prog 8 #[.agg #[.int .i64 t, .int .i64 q, .int .i64 n, .bool d, .slice a len cap]] w fun e w' => e = .returned (.bool true) ∧ Below w.heap.size w w' := by
  obtain ⟨l, rfl, hlc, hcm, hr⟩ := w0.rd
  clear w0
  have hlm : l.length ≤ maxLen := Nat.le_trans hlc hcm
  have b0 := bel1 w (.cells #[.int .i64 t, .int .i64 q, .int .i64 n, .bool d, .slice a l.length cap] 53)
  have s0 := slot5fNew w (.int .i64 t) (.int .i64 q) (.int .i64 n) (.bool d) (.slice a l.length cap) 53
  have cZ := fun w => szFl t q n d a l.length cap 1048576 w hlm (Nat.le_refl _)
  have e20 : ((1048576 : Nat) : Int) = 1048576 := rfl
  rw [e20] at cZ
  clear e20
  by_cases hs : l.length ≤ 1048576
  · have eL : left 1048576 l.length = ((1048576 - l.length : Nat) : Int) := by unfold left; rw [if_pos hs]; omega
    rw [eL] at cZ
    generalize 1048576 - l.length = M at cZ
    clear eL hlc hcm hlm
    have cS := fun (g : Addr) (c : Nat) w (h : RdA w (some g) l) => specPut t q n d (some g) c l w hs h (fun h => by cases h)
    have cI := fun (g : Addr) (c : Nat) w (h : RdA w (some g) l) => implPut t q n d (some g) c l w hs h (fun h => by cases h)
    have hL := fileBytes_len t q n d l
    generalize fileBytes t q n d l = L at cS cI hL
    go_enter Try.func8, Try.ntmps8
    go_wp2_with fail
    refine (cZ _).mono ?_
    rintro e w1 ⟨rfl, hb1⟩
    have B1 := behind b0 hb1
    have t1 := s0.below hb1
    obtain ⟨⟨x0, x1, x2, x3, x4⟩, -⟩ := id t1
    clear cZ s0
    go_wp2_with fail
    refine (toFl t q n d a cap l _ hs (hr.below B1)).mono ?_
    rintro e w2 ⟨g2, rfl, ho2, hb2⟩
    have B2 := behind B1 hb2
    have t2 := t1.below hb2
    go_wp2_with fail
    refine (cS _ _ _ (RdA.own ho2)).mono ?_
    rintro e w3 ⟨g3, p3, rfl, ho3, hb3⟩
    have B3 := behind B2 hb3
    have t3 := t2.below hb3
    have n23 := (World.ownsRow.lt ho3 g3 rfl)
    have nA2 := t2.lt
    obtain ⟨⟨x0, x1, x2, x3, x4⟩, -⟩ := id t3
    clear t1 t2 ho2 cS
    go_wp2_with fail
    refine (toFl t q n d a cap l _ hs (hr.below B3)).mono ?_
    rintro e w4 ⟨g4, rfl, ho4, hb4⟩
    have n34 := (World.ownsRow.lt ho4 g4 rfl)
    have b4 := bel1 w4 (.cells #[.int .i64 t, .int .i64 q, .int .i64 n, .bool d, .slice (some ⟨g4, 0, none⟩) l.length l.length] 58)
    have B4 := behind (behind B3 hb4) b4
    have t4 := (t3.below hb4).below b4
    have y4 := slot5fNew w4 (.int .i64 t) (.int .i64 q) (.int .i64 n) (.bool d) (.slice (some ⟨g4, 0, none⟩) l.length l.length) 58
    have n44 := y4.lt
    have hX4 := ownBelow ho4 b4
    have hV4 := ownBelow (ownBelow ho3 hb4) b4
    obtain ⟨⟨z0, z1, z2, z3, z4⟩, -⟩ := id y4
    clear t3 ho4 ho3
    go_wp2_with fail
    generalize w4.alloc (.cells #[.int .i64 t, .int .i64 q, .int .i64 n, .bool d, .slice (some ⟨g4, 0, none⟩) l.length l.length] 58) = W at B4 t4 y4 hX4 hV4 n44 ⊢
    refine (cI _ _ _ (RdA.own hX4)).mono ?_
    rintro e w5 ⟨g5, p5, rfl, ho5, hb5⟩
    have n45 := (World.ownsRow.lt ho5 g5 rfl)
    have B5 := behind B4 hb5
    have t5 := t4.below hb5
    have y5 := y4.below hb5
    have hX5 := ownBelow hX4 hb5
    have hV5 := ownBelow hV4 hb5
    clear t4 y4 hX4 hV4 b4 hb4 hb5 B4 z0 z1 z2 z3 z4 x0 x1 x2 x3 x4
    have m2 := B2.size
    have m3 := B3.size
    go_wp2_with fail
    refine (eqByteS _ _ _ _ L _ (by omega) (RdA.own ho5) (RdA.own hV5)).mono ?_
    rintro e w6 ⟨rfl, n6, rfl⟩
    have B6 := belowDrewN B5 n6
    have D6 := B6.drew
    have t6 : Slot5f (w5.drewN n6) w.heap.size _ _ _ _ _ := t5
    have y6 : Slot5f (w5.drewN n6) w4.heap.size _ _ _ _ _ := y5
    have hX6 := ownDrewN hX5 n6
    have hV6 := ownDrewN hV5 n6
    have hU6 := ownDrewN ho5 n6
    have n56 : g5 < (w5.drewN n6).heap.size := n45.2
    clear t5 y5 hX5 hV5 ho5 B5
    generalize w5.drewN n6 = w6 at B6 D6 t6 y6 hX6 hV6 hU6 n56 ⊢
    obtain ⟨c5, -⟩ := id t6
    obtain ⟨d5, -⟩ := id y6
    have hc5 := (And.intro c5 d5)
    clear c5 d5
    have cA := toFl t q n d a cap l w6.drew hs (hr.below D6)
    have cE := fun (ax : Option Addr) (cx : Nat) (wx : World) (h : Below w6.drew.heap.size w6.drew wx) (hx : OwnB wx w6.drew.heap.size (.slice ax l.length cx) l) => eqFl t q n d (some ⟨g4, 0, none⟩) ax l.length cx l wx hs (RdA.below (w := w6.drew) (RdA.own hX6) h) (RdA.own hx)
    have hSa : (fun wy : World => (wy.cell? ⟨w.heap.size, 0, none⟩ = some (.int .i64 t) ∧ wy.cell? ⟨w.heap.size, 1, none⟩ = some (.int .i64 q) ∧ wy.cell? ⟨w.heap.size, 2, none⟩ = some (.int .i64 n) ∧ wy.cell? ⟨w.heap.size, 3, none⟩ = some (.bool d) ∧ wy.cell? ⟨w.heap.size, 4, none⟩ = some (.slice a l.length cap)) ∧ (wy.cell? ⟨w4.heap.size, 0, none⟩ = some (.int .i64 t) ∧ wy.cell? ⟨w4.heap.size, 1, none⟩ = some (.int .i64 q) ∧ wy.cell? ⟨w4.heap.size, 2, none⟩ = some (.int .i64 n) ∧ wy.cell? ⟨w4.heap.size, 3, none⟩ = some (.bool d) ∧ wy.cell? ⟨w4.heap.size, 4, none⟩ = some (.slice (some ⟨g4, 0, none⟩) l.length l.length))) w6.drew := hc5
    have hK := fun (wa wb : World) => keepFF (w := wa) (w' := wb) (a1 := ⟨w.heap.size, 0, none⟩) (a2 := ⟨w.heap.size, 1, none⟩) (a3 := ⟨w.heap.size, 2, none⟩) (a4 := ⟨w.heap.size, 3, none⟩) (a5 := ⟨w.heap.size, 4, none⟩) (v1 := .int .i64 t) (v2 := .int .i64 q) (v3 := .int .i64 n) (v4 := .bool d) (v5 := .slice a l.length cap) (c1 := ⟨w4.heap.size, 0, none⟩) (c2 := ⟨w4.heap.size, 1, none⟩) (c3 := ⟨w4.heap.size, 2, none⟩) (c4 := ⟨w4.heap.size, 3, none⟩) (c5 := ⟨w4.heap.size, 4, none⟩) (u1 := .int .i64 t) (u2 := .int .i64 q) (u3 := .int .i64 n) (u4 := .bool d) (u5 := .slice (some ⟨g4, 0, none⟩) l.length l.length)
    go_wp2_with fail
    go_region_held3 (fun wy => (wy.cell? ⟨w.heap.size, 0, none⟩ = some (.int .i64 t) ∧ wy.cell? ⟨w.heap.size, 1, none⟩ = some (.int .i64 q) ∧ wy.cell? ⟨w.heap.size, 2, none⟩ = some (.int .i64 n) ∧ wy.cell? ⟨w.heap.size, 3, none⟩ = some (.bool d) ∧ wy.cell? ⟨w.heap.size, 4, none⟩ = some (.slice a l.length cap)) ∧ (wy.cell? ⟨w4.heap.size, 0, none⟩ = some (.int .i64 t) ∧ wy.cell? ⟨w4.heap.size, 1, none⟩ = some (.int .i64 q) ∧ wy.cell? ⟨w4.heap.size, 2, none⟩ = some (.int .i64 n) ∧ wy.cell? ⟨w4.heap.size, 3, none⟩ = some (.bool d) ∧ wy.cell? ⟨w4.heap.size, 4, none⟩ = some (.slice (some ⟨g4, 0, none⟩) l.length l.length)))
      (first | with_reducible exact hc5 | with_reducible exact hSa | with_reducible exact hSb | with_reducible exact hSc | go_keep)
      (first | (go_at_call 30; with_reducible refine cA.mono ?_; rintro e w7 ⟨g7, rfl, hp7, hb7⟩; have hSb := hK _ _ hSa hb7) | (go_at_call 32; with_reducible refine (cE _ _ _ hb7 hp7).mono ?_; rintro e w8 ⟨rfl, hb8⟩; have hSc := hK _ _ hSb hb8))
    have hb68 := behind hb7 hb8
    have B8 := behind D6 hb68
    have t8 := Slot5f.below (w := w6.drew) t6 hb68
    have y8 := Slot5f.below (w := w6.drew) y6 hb68
    have hX8 := ownBelow (w := w6.drew) hX6 hb68
    have hV8 := ownBelow (w := w6.drew) hV6 hb68
    have hU8 := ownBelow (w := w6.drew) hU6 hb68
    have m8 : w6.heap.size ≤ w8.heap.size := hb68.size
    clear cA cE hSa hSb hK hc5 hp7 hb7 hb8 hb68 t6 y6 hX6 hV6 hU6 B6 D6
    obtain ⟨⟨z0, z1, z2, z3, z4⟩, -⟩ := id y8
    go_wp2_with fail
    refine (markFl t q n d _ _ _ _ 1 _ _ (by omega) (by omega) (by omega) hX8).mono ?_
    rintro e w9 ⟨rfl, hX9, hg9⟩
    have hV9 := World.ownsRow.kept hV8 hg9 (.inr (by simp [Value.ownBlock]; omega))
    have hU9 := World.ownsRow.kept hU8 hg9 (.inr (by simp [Value.ownBlock]; omega))
    have t9 := t8.grown hg9 (by omega)
    have B9 := belowGrown B8 hg9 (by omega) B8.size
    clear hX8 hV8 hU8 t8 y8 B8 hX9 hg9 z0 z1 z2 z3 z4
    go_wp2_with fail
    refine (eqByteS _ _ _ _ L _ (by omega) (RdA.own hU9) (RdA.own hV9)).mono ?_
    rintro e w10 ⟨rfl, n10, rfl⟩
    have hV10 := ownDrewN hV9 n10
    have hU10 := ownDrewN hU9 n10
    have t10 : Slot5f (w9.drewN n10) w.heap.size _ _ _ _ _ := t9
    have B10 := belowDrewN B9 n10
    clear hV9 hU9 t9 B9
    generalize w9.drewN n10 = w10 at hV10 hU10 t10 B10 ⊢
    go_wp2_with fail
    refine (markByteS _ _ _ _ 1 _ _ (by omega) (by omega) hU10).mono ?_
    rintro e w11 ⟨rfl, hU11, hg11⟩
    have hV11 := World.ownsRow.kept hV10 hg11 (.inr (by simp [Value.ownBlock]; omega))
    have t11 := t10.grown hg11 (by omega)
    have B11 := belowGrown B10 hg11 (by omega) B10.size
    clear hV10 hU10 t10 B10 hg11
    obtain ⟨⟨x0, x1, x2, x3, x4⟩, -⟩ := id t11
    go_wp2_with fail
    refine (heldByteS _ _ _ _ 1 _ (by omega) (by omega) hU11).mono ?_
    rintro e w12 ⟨rfl, rfl⟩
    go_wp2_with fail
    refine (toFl t q n d a cap l _ hs (hr.below B11)).mono ?_
    rintro e w13 ⟨g13, rfl, ho13, hb13⟩
    have B13 := behind B11 hb13
    go_wp2_with fail
    refine (cI _ _ _ (RdA.own ho13)).mono ?_
    rintro e w14 ⟨g14, p14, rfl, ho14, hb14⟩
    have hV14 := ownBelow (ownBelow hV11 hb13) hb14
    have hU14 := ownBelow (ownBelow hU11 hb13) hb14
    have B14 := behind B13 hb14
    clear hV11 hU11 t11 B11 x0 x1 x2 x3 x4
    go_wp2_with fail
    refine (eqByteS _ _ _ _ L _ (by omega) (RdA.own ho14) (RdA.own hV14)).mono ?_
    rintro e w15 ⟨rfl, n15, rfl⟩
    go_wp2_with fail
    refine (heldByteS _ _ _ _ 1 _ (by omega) (by omega) (ownDrewN hU14 n15)).mono ?_
    rintro e w16 ⟨rfl, rfl⟩
    go_wp2
    go_ret
    exact ⟨rfl, belowDrewN B14 n15⟩
  · have eL : left 1048576 l.length = -1 := if_neg hs
    rw [eL] at cZ
    go_enter Try.func8, Try.ntmps8
    go_wp2_with fail
    refine (cZ _).mono ?_
    rintro e w1 ⟨rfl, hb1⟩
    go_wp2
    go_ret
    exact ⟨rfl, behind b0 hb1⟩

set_option maxRecDepth 100000 in
theorem lifted (os : Os) (started : os.Started) (H : Type) (enc : TypeId × Value → H) :
    ReturnsInHanded {} Try.checked os 8 .any (Rows.fnExactPutFileSpec.pre6 enc Try.prog Try.f8 Rows.fnExactPutFileRow.domain false) (Rows.fnExactPutFileSpec.post enc Try.prog Try.f8 false true false false) := by
  refine returnsInHanded_of_change (C := Try.checked) own started (by kernel_rfl) Try.func8
    (ChangeSpec.witness6 (enc := enc) (C := Try.checked) false ⟨#[], #[.agg #[.int .i64 0, .int .i64 0, .int .i64 0, .bool false, .slice none 0 0]], []⟩ 8 (by kernel_rfl) (by kernel_rfl) (by kernel_rfl) (by kernel_rfl)) ?_
  intro W base args ds gs before hval0 hW hcnd _
  have hval : ∀ (j : Nat) t v, Try.f8.params[j]? = some t → args[j]? = some v → Value.okWide Try.prog W .any base t v := hval0
  have hW' := hW
  obtain ⟨p, q, hA0, hV, rfl, hfz, hnd⟩ := hW
  have hA : DataW.TrodAll enc Try.prog W 0 (fun _ => true) true Try.f8.params.toList args.toList ds p := hA0
  rw [Try.params8] at hA hval
  obtain ⟨v0, vs0, d0, ds0, p0, q0, hargs, rfl, rfl, h0, r0⟩ := trodAll_cons hA
  obtain ⟨rfl, rfl, rfl⟩ := trodAll_nil r0
  obtain rfl : args = #[v0] := by cases args; simp_all
  obtain ⟨rfl, rfl⟩ := trodVars_none hV
  have k0 := h0
  have lt0 : ∀ x ∈ p0, x.block < W.heap.size := by obtain ⟨m, hm⟩ := k0; exact DataW.trod_lt m _ _ _ hm
  obtain ⟨t0, q0, n0, b0, a0, len0, cap0, z0, rfl, -, -, -, w0⟩ := openFlV (hval 0 53 v0 rfl rfl) h0
  clear hA0 hval0
  refine (walk t0 q0 n0 b0 a0 len0 cap0 z0 W w0).mono fun e W' ⟨he, bel⟩ => ?_
  subst he
  exact ⟨_, rfl, _, _, _, [], _, [], hW', trodAll_mk1 (shut_bool Try.underlying4 _), (trodAll_cons_mk (Below.trod laidOut (by kernel_rfl) (of_decide_eq_true (by kernel_rfl)) k0 bel lt0) trodAll_mk0), rfl, bel.frame _, fun h => by cases h⟩

theorem over : Rows.fnExactPutFileRow.holds Try.pinned (OpenSpec.ofChange Rows.fnExactPutFileSpec) :=
  OpenClaim.holds_of_wide 8 Try.f8 rfl rfl rfl rfl rfl rfl rfl ⟨rfl, rfl, rfl, rfl, rfl⟩ rfl rfl rfl rfl rfl (by kernel_rfl) Try.func8 (by kernel_rfl)
    (of_decide_eq_true (by kernel_rfl)) (by unfold Func.isWrapper; first | (rw [if_pos (by decide +kernel)]; kernel_rfl) | (rw [if_neg (by decide +kernel)]; exact ⟨rfl, rfl⟩))
    (fun os started H enc _ => lifted os started H enc)

end Go.Proofs.Ytpejeoekpejblao.fnExactPutFile
namespace Go.Proofs.Ytpejeoekpejblao
theorem fnExactPutFile_holds : Rows.FnExactPutFileSaid := fnExactPutFile.over
#print axioms fnExactPutFile_holds
end Go.Proofs.Ytpejeoekpejblao
