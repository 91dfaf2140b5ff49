/- Newer of the program answers as the specification does, at every two files; both read behind the call as ahead of it. Where their data have more than 2^20 bytes together the law itself answers true. -/
import Derived.Test.YtpejeoekpejblapRows
import Derived.Test.YtpejeoekpejblapFlI
import Derived.Test.YtpejeoekpejblapToFl
import Derived.Test.YtpejeoekpejblapOpFl
import Derived.Test.YtpejeoekpejblapFgS
import Derived.WalkKit
import Derived.ProofKit
import Derived.OpenShut
import Derived.ShutString
import Derived.ChangeOld
import Derived.Below
namespace Go.Proofs.Ytpejeoekpejblap.fnExactNewer
open Go.ChangeShapes Go.WideShapes Go.ChangeAt Go.RowKit
open Go.ChangeMaps (open_string shut_string)
set_option linter.unusedVariables false

theorem own : ownKnob Try.prog.godebug = none := by kernel_rfl
theorem laidOut : laidOutB Try.prog = true := by kernel_rfl

open Wk

set_option maxHeartbeats 8000000 in
set_option maxRecDepth 100000 in
theorem walk (t0 q0 n0 : Int) (d0 : Bool) (a0 : Option Addr) (len0 cap0 : Nat) (zs0 : List Int) (t1 q1 n1 : Int) (d1 : Bool) (a1 : Option Addr) (len1 cap1 : Nat) (zs1 : List Int) (w : World) (w0 : IsRow .u8 w a0 len0 cap0 zs0) (w1 : IsRow .u8 w a1 len1 cap1 zs1) :
    Calls Try.prog 4 #[.agg #[.int .i64 t0, .int .i64 q0, .int .i64 n0, .bool d0, .slice a0 len0 cap0], .agg #[.int .i64 t1, .int .i64 q1, .int .i64 n1, .bool d1, .slice a1 len1 cap1]] w fun e w' => e = .returned (.bool true) ∧ Below w.heap.size w w' := by
  obtain ⟨l0, rfl, hlc0, hcm0, hr0⟩ := w0.rd
  obtain ⟨l1, rfl, hlc1, hcm1, hr1⟩ := w1.rd
  clear w0 w1
  have hlm0 : l0.length ≤ maxLen := Nat.le_trans hlc0 hcm0
  have hlm1 : l1.length ≤ maxLen := Nat.le_trans hlc1 hcm1
  clear hlc0 hcm0 hlc1 hcm1
  have p0 := bel1 w (.cells #[.int .i64 t0, .int .i64 q0, .int .i64 n0, .bool d0, .slice a0 l0.length cap0] 37)
  have s0 := slot5fNew w (.int .i64 t0) (.int .i64 q0) (.int .i64 n0) (.bool d0) (.slice a0 l0.length cap0) 37
  have e0 : (w.alloc (.cells #[.int .i64 t0, .int .i64 q0, .int .i64 n0, .bool d0, .slice a0 l0.length cap0] 37)).heap.size = w.heap.size + 1 := by simp
  have p1 := bel1 (w.alloc (.cells #[.int .i64 t0, .int .i64 q0, .int .i64 n0, .bool d0, .slice a0 l0.length cap0] 37)) (.cells #[.int .i64 t1, .int .i64 q1, .int .i64 n1, .bool d1, .slice a1 l1.length cap1] 37)
  have s1 := slot5fNew (w.alloc (.cells #[.int .i64 t0, .int .i64 q0, .int .i64 n0, .bool d0, .slice a0 l0.length cap0] 37)) (.int .i64 t1) (.int .i64 q1) (.int .i64 n1) (.bool d1) (.slice a1 l1.length cap1) 37
  rw [e0] at s1
  have s0 := s0.below p1
  have b0 := behind p0 p1
  clear p0 p1 e0
  have cZ0 := fun w => szFl t0 q0 n0 d0 a0 l0.length cap0 1048576 w hlm0 (Nat.le_refl _)
  have e20 : ((1048576 : Nat) : Int) = 1048576 := rfl
  rw [e20] at cZ0
  clear e20
  by_cases hs0 : l0.length ≤ 1048576
  · have eL : left 1048576 l0.length = ((1048576 - l0.length : Nat) : Int) := by unfold left; rw [if_pos hs0]; omega
    rw [eL] at cZ0
    have cZ1 := fun w => szFl t1 q1 n1 d1 a1 l1.length cap1 (1048576 - l0.length) w hlm1 (by omega)
    have hM : 1048576 - l0.length ≤ 1048576 := by omega
    generalize 1048576 - l0.length = M at cZ0 cZ1 hM
    clear eL hlm0
    by_cases hs1 : l1.length ≤ M
    · have eL : left M l1.length = ((M - l1.length : Nat) : Int) := by unfold left; rw [if_pos hs1]; omega
      rw [eL] at cZ1
      generalize M - l1.length = N at cZ1
      have hs1 : l1.length ≤ 1048576 := by omega
      clear eL hlm1
      have cS := fun v v' w => specNewer t0 q0 n0 d0 v t1 q1 n1 d1 v' w
      have cI := fun v v' w => implNewer t0 q0 n0 d0 v t1 q1 n1 d1 v' w
      generalize Sm.less t1 q1 n1 t0 q0 n0 = K at cS cI
      go_enter Try.func4, Try.ntmps4
      obtain ⟨⟨x0, x1, x2, x3, x4⟩, -⟩ := id s0
      go_wp2_with fail
      generalize (w.alloc (.cells #[.int .i64 t0, .int .i64 q0, .int .i64 n0, .bool d0, .slice a0 l0.length cap0] 37)).alloc (.cells #[.int .i64 t1, .int .i64 q1, .int .i64 n1, .bool d1, .slice a1 l1.length cap1] 37) = Wa at b0 s0 s1 x0 x1 x2 x3 x4 ⊢
      refine (cZ0 _).mono ?_
      rintro e w1 ⟨rfl, hb1⟩
      have B1 := behind b0 hb1
      have s0 := s0.below hb1
      have s1 := s1.below hb1
      obtain ⟨⟨z0, z1, z2, z3, z4⟩, -⟩ := id s1
      clear cZ0 hb1
      go_wp2_with fail
      refine (cZ1 _).mono ?_
      rintro e w2 ⟨rfl, hb2⟩
      have B2 := behind B1 hb2
      have D2 := B2.drew
      have s0 := s0.below hb2
      have s1 := s1.below hb2
      clear cZ1 hb2
      obtain ⟨c2, -⟩ := id s0
      obtain ⟨e2, -⟩ := id s1
      have hc2 := (And.intro c2 e2)
      obtain ⟨⟨x0, x1, x2, x3, x4⟩, ⟨z0, z1, z2, z3, z4⟩⟩ := id hc2
      go_wp2_with fail
      have cA := toFl t0 q0 n0 d0 a0 cap0 l0 w2.drew hs0 (hr0.below D2)
      have cB := fun (wa : World) (h : Below w2.drew.heap.size w2.drew wa) => toFl t1 q1 n1 d1 a1 cap1 l1 wa hs1 (hr1.below (behind D2 h))
      have hS2 : (fun wy : World => (wy.cell? ⟨w.heap.size, 0, none⟩ = some (.int .i64 t0) ∧ wy.cell? ⟨w.heap.size, 1, none⟩ = some (.int .i64 q0) ∧ wy.cell? ⟨w.heap.size, 2, none⟩ = some (.int .i64 n0) ∧ wy.cell? ⟨w.heap.size, 3, none⟩ = some (.bool d0) ∧ wy.cell? ⟨w.heap.size, 4, none⟩ = some (.slice a0 l0.length cap0)) ∧ (wy.cell? ⟨w.heap.size + 1, 0, none⟩ = some (.int .i64 t1) ∧ wy.cell? ⟨w.heap.size + 1, 1, none⟩ = some (.int .i64 q1) ∧ wy.cell? ⟨w.heap.size + 1, 2, none⟩ = some (.int .i64 n1) ∧ wy.cell? ⟨w.heap.size + 1, 3, none⟩ = some (.bool d1) ∧ wy.cell? ⟨w.heap.size + 1, 4, none⟩ = some (.slice a1 l1.length cap1))) w2.drew := hc2
      have hK := fun (wa wb : World) => keepFF (w := wa) (w' := wb) (a1 := ⟨w.heap.size, 0, none⟩) (a2 := ⟨w.heap.size, 1, none⟩) (a3 := ⟨w.heap.size, 2, none⟩) (a4 := ⟨w.heap.size, 3, none⟩) (a5 := ⟨w.heap.size, 4, none⟩) (v1 := .int .i64 t0) (v2 := .int .i64 q0) (v3 := .int .i64 n0) (v4 := .bool d0) (v5 := .slice a0 l0.length cap0) (c1 := ⟨w.heap.size + 1, 0, none⟩) (c2 := ⟨w.heap.size + 1, 1, none⟩) (c3 := ⟨w.heap.size + 1, 2, none⟩) (c4 := ⟨w.heap.size + 1, 3, none⟩) (c5 := ⟨w.heap.size + 1, 4, none⟩) (u1 := .int .i64 t1) (u2 := .int .i64 q1) (u3 := .int .i64 n1) (u4 := .bool d1) (u5 := .slice a1 l1.length cap1)
      clear x0 x1 x2 x3 x4 z0 z1 z2 z3 z4
      go_region_held3 (fun wy => (wy.cell? ⟨w.heap.size, 0, none⟩ = some (.int .i64 t0) ∧ wy.cell? ⟨w.heap.size, 1, none⟩ = some (.int .i64 q0) ∧ wy.cell? ⟨w.heap.size, 2, none⟩ = some (.int .i64 n0) ∧ wy.cell? ⟨w.heap.size, 3, none⟩ = some (.bool d0) ∧ wy.cell? ⟨w.heap.size, 4, none⟩ = some (.slice a0 l0.length cap0)) ∧ (wy.cell? ⟨w.heap.size + 1, 0, none⟩ = some (.int .i64 t1) ∧ wy.cell? ⟨w.heap.size + 1, 1, none⟩ = some (.int .i64 q1) ∧ wy.cell? ⟨w.heap.size + 1, 2, none⟩ = some (.int .i64 n1) ∧ wy.cell? ⟨w.heap.size + 1, 3, none⟩ = some (.bool d1) ∧ wy.cell? ⟨w.heap.size + 1, 4, none⟩ = some (.slice a1 l1.length cap1)))
        (first | with_reducible exact hc2 | with_reducible exact hS2 | with_reducible exact hS3 | with_reducible exact hS4 | with_reducible exact hS5 | go_keep)
        (first | (go_at_call 16; with_reducible refine cA.mono ?_; rintro e w3 ⟨g3, rfl, ho3, hb3⟩; have hS3 := hK _ _ hS2 hb3) | (go_at_call 16; with_reducible refine (cB _ hb3).mono ?_; rintro e w4 ⟨g4, rfl, ho4, hb4⟩; have hS4 := hK _ _ hS3 hb4) | (go_at_call 15; with_reducible refine (cS _ _ _).mono ?_; rintro e w5 ⟨rfl, hb5⟩; have hS5 := hK _ _ hS4 hb5))
      have hb35 := behind (behind hb3 hb4) ‹Below w4.heap.size w4 w5›
      have B5 := behind D2 hb35
      have s0 := Slot5f.below (w := w2.drew) s0 hb35
      have s1 := Slot5f.below (w := w2.drew) s1 hb35

      clear cA cB hS2 hK hS3 hS4 hc2 ho3 ho4 hb35 B2 B1 cS hb3 hb4
      obtain ⟨⟨x0, x1, x2, x3, x4⟩, -⟩ := id s0
      go_wp2_with fail
      refine (toFl t0 q0 n0 d0 a0 cap0 l0 _ hs0 (hr0.below B5)).mono ?_
      rintro e w6 ⟨g6, rfl, ho6, hb6⟩
      have b6 := bel1 w6 (.cells #[.int .i64 t0, .int .i64 q0, .int .i64 n0, .bool d0, .slice (some ⟨g6, 0, none⟩) l0.length l0.length] 26)
      have y0 := slot5fNew w6 (.int .i64 t0) (.int .i64 q0) (.int .i64 n0) (.bool d0) (.slice (some ⟨g6, 0, none⟩) l0.length l0.length) 26
      have r0 := (RdA.own ho6).below b6
      have B6 := behind (behind B5 hb6) b6
      have s0 := (s0.below hb6).below b6
      have s1 := (s1.below hb6).below b6
      obtain ⟨⟨z0, z1, z2, z3, z4⟩, -⟩ := id s1
      clear x0 x1 x2 x3 x4 ho6 hb6 B5
      go_wp2_with fail
      generalize w6.alloc (.cells #[.int .i64 t0, .int .i64 q0, .int .i64 n0, .bool d0, .slice (some ⟨g6, 0, none⟩) l0.length l0.length] 26) = W6 at b6 y0 r0 B6 s0 s1 z0 z1 z2 z3 z4 ⊢
      refine (toFl t1 q1 n1 d1 a1 cap1 l1 _ hs1 (hr1.below B6)).mono ?_
      rintro e w7 ⟨g7, rfl, ho7, hb7⟩
      have b7 := bel1 w7 (.cells #[.int .i64 t1, .int .i64 q1, .int .i64 n1, .bool d1, .slice (some ⟨g7, 0, none⟩) l1.length l1.length] 26)
      have y1 := slot5fNew w7 (.int .i64 t1) (.int .i64 q1) (.int .i64 n1) (.bool d1) (.slice (some ⟨g7, 0, none⟩) l1.length l1.length) 26
      have r1 := (RdA.own ho7).below b7
      have r0 := (r0.below hb7).below b7
      have B7 := behind (behind B6 hb7) b7
      have s0 := (s0.below hb7).below b7
      have s1 := (s1.below hb7).below b7
      have y0 := (y0.below hb7).below b7
      obtain ⟨⟨x0, x1, x2, x3, x4⟩, -⟩ := id y0
      obtain ⟨⟨z0', z1', z2', z3', z4'⟩, -⟩ := id y1
      clear z0 z1 z2 z3 z4 ho7 hb7 B6 b6
      go_wp2_with fail
      generalize w7.alloc (.cells #[.int .i64 t1, .int .i64 q1, .int .i64 n1, .bool d1, .slice (some ⟨g7, 0, none⟩) l1.length l1.length] 26) = W7 at b7 y0 y1 r0 r1 B7 s0 s1 x0 x1 x2 x3 x4 z0' z1' z2' z3' z4' ⊢
      refine (cI _ _ _).mono ?_
      rintro e w8 ⟨rfl, hb8⟩
      have B8 := behind B7 hb8
      have D8 := B8.drew
      have s0 := s0.below hb8
      have s1 := s1.below hb8
      have y0 := y0.below hb8
      have y1 := y1.below hb8
      have r0 := r0.below hb8
      have r1 := r1.below hb8
      clear x0 x1 x2 x3 x4 z0' z1' z2' z3' z4' b7 B7 hb8 cI
      obtain ⟨c8, -⟩ := id s0
      obtain ⟨e8, -⟩ := id y0
      have hc8 := And.intro c8 e8
      clear c8 e8
      cases K
      all_goals
        go_wp2_with fail
        have cA := toFl t0 q0 n0 d0 a0 cap0 l0 w8.drew hs0 (hr0.below D8)
        have cE := fun (ax : Option Addr) (cx : Nat) (wx : World) (h : Below w8.drew.heap.size w8.drew wx) (hx : OwnB wx w8.drew.heap.size (.slice ax l0.length cx) l0) => eqFl t0 q0 n0 d0 (some ⟨g6, 0, none⟩) ax l0.length cx l0 wx hs0 (RdA.below (w := w8.drew) r0 h) (RdA.own hx)
        have hSa : (fun wy : World => (wy.cell? ⟨w.heap.size, 0, none⟩ = some (.int .i64 t0) ∧ wy.cell? ⟨w.heap.size, 1, none⟩ = some (.int .i64 q0) ∧ wy.cell? ⟨w.heap.size, 2, none⟩ = some (.int .i64 n0) ∧ wy.cell? ⟨w.heap.size, 3, none⟩ = some (.bool d0) ∧ wy.cell? ⟨w.heap.size, 4, none⟩ = some (.slice a0 l0.length cap0)) ∧ (wy.cell? ⟨w6.heap.size, 0, none⟩ = some (.int .i64 t0) ∧ wy.cell? ⟨w6.heap.size, 1, none⟩ = some (.int .i64 q0) ∧ wy.cell? ⟨w6.heap.size, 2, none⟩ = some (.int .i64 n0) ∧ wy.cell? ⟨w6.heap.size, 3, none⟩ = some (.bool d0) ∧ wy.cell? ⟨w6.heap.size, 4, none⟩ = some (.slice (some ⟨g6, 0, none⟩) l0.length l0.length))) w8.drew := hc8
        have hK := fun (wa wb : World) => keepFF (w := wa) (w' := wb) (a1 := ⟨w.heap.size, 0, none⟩) (a2 := ⟨w.heap.size, 1, none⟩) (a3 := ⟨w.heap.size, 2, none⟩) (a4 := ⟨w.heap.size, 3, none⟩) (a5 := ⟨w.heap.size, 4, none⟩) (v1 := .int .i64 t0) (v2 := .int .i64 q0) (v3 := .int .i64 n0) (v4 := .bool d0) (v5 := .slice a0 l0.length cap0) (c1 := ⟨w6.heap.size, 0, none⟩) (c2 := ⟨w6.heap.size, 1, none⟩) (c3 := ⟨w6.heap.size, 2, none⟩) (c4 := ⟨w6.heap.size, 3, none⟩) (c5 := ⟨w6.heap.size, 4, none⟩) (u1 := .int .i64 t0) (u2 := .int .i64 q0) (u3 := .int .i64 n0) (u4 := .bool d0) (u5 := .slice (some ⟨g6, 0, none⟩) l0.length l0.length)
        go_region_held3 (fun wy => (wy.cell? ⟨w.heap.size, 0, none⟩ = some (.int .i64 t0) ∧ wy.cell? ⟨w.heap.size, 1, none⟩ = some (.int .i64 q0) ∧ wy.cell? ⟨w.heap.size, 2, none⟩ = some (.int .i64 n0) ∧ wy.cell? ⟨w.heap.size, 3, none⟩ = some (.bool d0) ∧ wy.cell? ⟨w.heap.size, 4, none⟩ = some (.slice a0 l0.length cap0)) ∧ (wy.cell? ⟨w6.heap.size, 0, none⟩ = some (.int .i64 t0) ∧ wy.cell? ⟨w6.heap.size, 1, none⟩ = some (.int .i64 q0) ∧ wy.cell? ⟨w6.heap.size, 2, none⟩ = some (.int .i64 n0) ∧ wy.cell? ⟨w6.heap.size, 3, none⟩ = some (.bool d0) ∧ wy.cell? ⟨w6.heap.size, 4, none⟩ = some (.slice (some ⟨g6, 0, none⟩) l0.length l0.length)))
          (first | with_reducible exact hc8 | with_reducible exact hSa | with_reducible exact hSb | with_reducible exact hSc | go_keep)
          (first | (go_at_call 16; with_reducible refine cA.mono ?_; rintro e v9 ⟨k9, rfl, hp9, hc9⟩; have hSb := hK _ _ hSa hc9) | (go_at_call 9; with_reducible refine (cE _ _ _ hc9 hp9).mono ?_; rintro e u9 ⟨rfl, hf9⟩; have hSc := hK _ _ hSb hf9))

        have hb9 := behind hc9 hf9
        have B9 := behind D8 hb9
        have D9 := B9.drew
        have s1 := Slot5f.below (w := w8.drew) s1 hb9
        have y1 := Slot5f.below (w := w8.drew) y1 hb9
        have r1 := RdA.below (w := w8.drew) r1 hb9
        clear cA cE hSa hK hSb hp9 hc9 hf9 hc8 hb9
        obtain ⟨c9, -⟩ := id s1
        obtain ⟨e9, -⟩ := id y1
        have hc9 := And.intro c9 e9
        clear c9 e9
        go_wp2_with fail
        have cA := toFl t1 q1 n1 d1 a1 cap1 l1 u9.drew hs1 (hr1.below D9)
        have cE := fun (ax : Option Addr) (cx : Nat) (wx : World) (h : Below u9.drew.heap.size u9.drew wx) (hx : OwnB wx u9.drew.heap.size (.slice ax l1.length cx) l1) => eqFl t1 q1 n1 d1 (some ⟨g7, 0, none⟩) ax l1.length cx l1 wx hs1 (RdA.below (w := u9.drew) r1 h) (RdA.own hx)
        have hSa : (fun wy : World => (wy.cell? ⟨w.heap.size + 1, 0, none⟩ = some (.int .i64 t1) ∧ wy.cell? ⟨w.heap.size + 1, 1, none⟩ = some (.int .i64 q1) ∧ wy.cell? ⟨w.heap.size + 1, 2, none⟩ = some (.int .i64 n1) ∧ wy.cell? ⟨w.heap.size + 1, 3, none⟩ = some (.bool d1) ∧ wy.cell? ⟨w.heap.size + 1, 4, none⟩ = some (.slice a1 l1.length cap1)) ∧ (wy.cell? ⟨w7.heap.size, 0, none⟩ = some (.int .i64 t1) ∧ wy.cell? ⟨w7.heap.size, 1, none⟩ = some (.int .i64 q1) ∧ wy.cell? ⟨w7.heap.size, 2, none⟩ = some (.int .i64 n1) ∧ wy.cell? ⟨w7.heap.size, 3, none⟩ = some (.bool d1) ∧ wy.cell? ⟨w7.heap.size, 4, none⟩ = some (.slice (some ⟨g7, 0, none⟩) l1.length l1.length))) u9.drew := hc9
        have hK := fun (wa wb : World) => keepFF (w := wa) (w' := wb) (a1 := ⟨w.heap.size + 1, 0, none⟩) (a2 := ⟨w.heap.size + 1, 1, none⟩) (a3 := ⟨w.heap.size + 1, 2, none⟩) (a4 := ⟨w.heap.size + 1, 3, none⟩) (a5 := ⟨w.heap.size + 1, 4, none⟩) (v1 := .int .i64 t1) (v2 := .int .i64 q1) (v3 := .int .i64 n1) (v4 := .bool d1) (v5 := .slice a1 l1.length cap1) (c1 := ⟨w7.heap.size, 0, none⟩) (c2 := ⟨w7.heap.size, 1, none⟩) (c3 := ⟨w7.heap.size, 2, none⟩) (c4 := ⟨w7.heap.size, 3, none⟩) (c5 := ⟨w7.heap.size, 4, none⟩) (u1 := .int .i64 t1) (u2 := .int .i64 q1) (u3 := .int .i64 n1) (u4 := .bool d1) (u5 := .slice (some ⟨g7, 0, none⟩) l1.length l1.length)
        go_region_held3 (fun wy => (wy.cell? ⟨w.heap.size + 1, 0, none⟩ = some (.int .i64 t1) ∧ wy.cell? ⟨w.heap.size + 1, 1, none⟩ = some (.int .i64 q1) ∧ wy.cell? ⟨w.heap.size + 1, 2, none⟩ = some (.int .i64 n1) ∧ wy.cell? ⟨w.heap.size + 1, 3, none⟩ = some (.bool d1) ∧ wy.cell? ⟨w.heap.size + 1, 4, none⟩ = some (.slice a1 l1.length cap1)) ∧ (wy.cell? ⟨w7.heap.size, 0, none⟩ = some (.int .i64 t1) ∧ wy.cell? ⟨w7.heap.size, 1, none⟩ = some (.int .i64 q1) ∧ wy.cell? ⟨w7.heap.size, 2, none⟩ = some (.int .i64 n1) ∧ wy.cell? ⟨w7.heap.size, 3, none⟩ = some (.bool d1) ∧ wy.cell? ⟨w7.heap.size, 4, none⟩ = some (.slice (some ⟨g7, 0, none⟩) l1.length l1.length)))
          (first | with_reducible exact hc9 | with_reducible exact hSa | with_reducible exact hSb | with_reducible exact hSc | go_keep)
          (first | (go_at_call 16; with_reducible refine cA.mono ?_; rintro e v10 ⟨k10, rfl, hp10, hc10⟩; have hSb := hK _ _ hSa hc10) | (go_at_call 9; with_reducible refine (cE _ _ _ hc10 hp10).mono ?_; rintro e u10 ⟨rfl, hf10⟩; have hSc := hK _ _ hSb hf10))

        have B10 := behind (behind D9 hc10) hf10
        go_wp2
        go_ret
        exact ⟨rfl, B10⟩
    · have eL : left M l1.length = -1 := if_neg hs1
      rw [eL] at cZ1
      go_enter Try.func4, Try.ntmps4
      obtain ⟨⟨x0, x1, x2, x3, x4⟩, -⟩ := id s0
      go_wp2_with fail
      refine (cZ0 _).mono ?_
      rintro e w1 ⟨rfl, hb1⟩
      have B1 := behind b0 hb1
      obtain ⟨⟨z0, z1, z2, z3, z4⟩, -⟩ := s1.below hb1
      go_wp2_with fail
      refine (cZ1 _).mono ?_
      rintro e w2 ⟨rfl, hb2⟩
      go_wp2
      go_ret
      exact ⟨rfl, behind B1 hb2⟩
  · have eL : left 1048576 l0.length = -1 := if_neg hs0
    rw [eL] at cZ0
    go_enter Try.func4, Try.ntmps4
    obtain ⟨⟨x0, x1, x2, x3, x4⟩, -⟩ := id s0
    go_wp2_with fail
    refine (cZ0 _).mono ?_
    rintro e w1 ⟨rfl, hb1⟩
    go_wp2
    go_ret
    exact ⟨rfl, behind b0 hb1⟩

set_option maxRecDepth 100000 in
theorem lifted (os : Os) (started : os.Started) (H : Type) (enc : TypeId × Value → H) :
    ReturnsInHanded {} Try.checked os 4 .any (Rows.fnExactNewerSpec.pre6 enc Try.prog Try.f4 Rows.fnExactNewerRow.domain false) (Rows.fnExactNewerSpec.post enc Try.prog Try.f4 false true false false) := by
  refine returnsInHanded_of_change (C := Try.checked) own started (by kernel_rfl) Try.func4
    (ChangeSpec.witness6 (enc := enc) (C := Try.checked) false ⟨#[], #[.agg #[.int .i64 0, .int .i64 0, .int .i64 0, .bool false, .slice none 0 0], .agg #[.int .i64 0, .int .i64 0, .int .i64 0, .bool false, .slice none 0 0]], []⟩ 8 (by kernel_rfl) (by kernel_rfl) (by kernel_rfl) (by kernel_rfl)) ?_
  intro W base args ds gs before hval0 hW hcnd _
  have hval : ∀ (j : Nat) t v, Try.f4.params[j]? = some t → args[j]? = some v → Value.okWide Try.prog W .any base t v := hval0
  have hW' := hW
  obtain ⟨p, q, hA0, hV, rfl, hfz, hnd⟩ := hW
  have hA : DataW.TrodAll enc Try.prog W 0 (fun _ => true) true Try.f4.params.toList args.toList ds p := hA0
  rw [Try.params4] at hA hval
  obtain ⟨v0, vs0, d0, ds0, p0, q0, hargs, rfl, rfl, h0, r0⟩ := trodAll_cons hA
  obtain ⟨v1, vs1, d1, ds1, p1, q1, rfl, rfl, rfl, h1, r1⟩ := trodAll_cons r0
  obtain ⟨rfl, rfl, rfl⟩ := trodAll_nil r1
  obtain rfl : args = #[v0, v1] := by cases args; simp_all
  obtain ⟨rfl, rfl⟩ := trodVars_none hV
  have k0 := h0
  have lt0 : ∀ x ∈ p0, x.block < W.heap.size := by obtain ⟨m, hm⟩ := k0; exact DataW.trod_lt m _ _ _ hm
  obtain ⟨t0, q0, n0, b0, a0, len0, cap0, z0, rfl, -, -, -, w0⟩ := openFlV (hval 0 37 v0 rfl rfl) h0
  have k1 := h1
  have lt1 : ∀ x ∈ p1, x.block < W.heap.size := by obtain ⟨m, hm⟩ := k1; exact DataW.trod_lt m _ _ _ hm
  obtain ⟨t1, q1, n1, b1, a1, len1, cap1, z1, rfl, -, -, -, w1⟩ := openFlV (hval 1 37 v1 rfl rfl) h1
  clear hA0 hval0
  refine (walk t0 q0 n0 b0 a0 len0 cap0 z0 t1 q1 n1 b1 a1 len1 cap1 z1 W w0 w1).mono fun e W' ⟨he, bel⟩ => ?_
  subst he
  exact ⟨_, rfl, _, _, _, [], _, [], hW', trodAll_mk1 (shut_bool Try.underlying4 _), (trodAll_cons_mk (Below.trod laidOut (by kernel_rfl) (of_decide_eq_true (by kernel_rfl)) k0 bel lt0) (trodAll_cons_mk (Below.trod laidOut (by kernel_rfl) (of_decide_eq_true (by kernel_rfl)) k1 bel lt1) trodAll_mk0)), rfl, bel.frame _, fun h => by cases h⟩

theorem over : Rows.fnExactNewerRow.holds Try.pinned (OpenSpec.ofChange Rows.fnExactNewerSpec) :=
  OpenClaim.holds_of_wide 4 Try.f4 rfl rfl rfl rfl rfl rfl rfl ⟨rfl, rfl, rfl, rfl, rfl⟩ rfl rfl rfl rfl rfl (by kernel_rfl) Try.func4 (by kernel_rfl)
    (of_decide_eq_true (by kernel_rfl)) (by unfold Func.isWrapper; first | (rw [if_pos (by decide +kernel)]; kernel_rfl) | (rw [if_neg (by decide +kernel)]; exact ⟨rfl, rfl⟩))
    (fun os started H enc _ => lifted os started H enc)

end Go.Proofs.Ytpejeoekpejblap.fnExactNewer
namespace Go.Proofs.Ytpejeoekpejblap
theorem fnExactNewer_holds : Rows.FnExactNewerSaid := fnExactNewer.over
#print axioms fnExactNewer_holds
end Go.Proofs.Ytpejeoekpejblap
