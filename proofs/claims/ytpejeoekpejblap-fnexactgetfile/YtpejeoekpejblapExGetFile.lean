/- GetFile of the program answers as the specification does, at every bytes; they read behind the call as ahead of it; the file that is answered has its data in memory of its own: marks in the bytes do not change it, and marks in it stay behind a second call. Above 2^20 bytes the law itself answers true. -/
import Derived.Test.YtpejeoekpejblapRows
import Derived.Test.YtpejeoekpejblapGgI
import Derived.Test.YtpejeoekpejblapGgL
import Derived.WalkKit
import Derived.ProofKit
import Derived.OpenShut
import Derived.ShutString
import Derived.ChangeOld
import Derived.Below
namespace Go.Proofs.Ytpejeoekpejblap.fnExactGetFile
open Go.ChangeShapes Go.WideShapes Go.ChangeAt Go.RowKit
open Go.ChangeMaps (open_string shut_string)
set_option linter.unusedVariables false

theorem own : ownKnob Try.prog.godebug = none := by kernel_rfl
theorem laidOut : laidOutB Try.prog = true := by kernel_rfl

open Wk

theorem getF_small {l : List UInt8} {T Q N : Int} {D : Bool} {data : List UInt8} (h : getF l = some (T, Q, N, D, data)) : data.length ≤ 1048576 := by
  have hB := (getF_parts h).1
  unfold fileB at hB
  simp only [Bool.and_eq_true, decide_eq_true_eq] at hB
  have := hB.2.1
  omega
set_option maxHeartbeats 16000000 in
set_option maxRecDepth 100000 in
theorem walk (a : Option Addr) (len cap : Nat) (zs : List Int) (w : World) (w0 : IsRow .u8 w a len cap zs) :
    Calls Try.prog 3 #[.slice a len cap] w fun e w' => e = .returned (.bool true) ∧ Below w.heap.size w w' := by
  obtain ⟨l, rfl, hlc, hcm, hr⟩ := w0.rd
  clear w0
  unfold maxLen at hcm
  by_cases hs : l.length ≤ 1048576
  · have hsI : ¬ ((l.length : Int) > 1048576) := by omega
    have cS := fun (g : Addr) w (h1 : l.length ≤ l.length) (h : RdA w (some g) l) => specGetFile (some g) l.length l w hs h1 (by unfold maxLen; omega) h (fun h => by cases h)
    have cI := fun (g : Addr) w (h1 : l.length ≤ l.length) (h : RdA w (some g) l) => implGetFile (some g) l.length l w hs h1 (by unfold maxLen; omega) h
    rw [implF_eq] at cI
    replace cS := fun g w => cS g w (Nat.le_refl _)
    replace cI := fun g w => cI g w (Nat.le_refl _)
    cases hG : getF l with
    | none =>
      rw [hG] at cS cI
      go_enter Try.func3, Try.ntmps3
      go_wp2_with fail
      refine (toByteS a cap l w hs hr).mono ?_
      rintro e w1 ⟨rfl, ho1, B1⟩
      go_wp2_with fail
      refine (cS _ _ (RdA.own ho1)).mono ?_
      rintro e w2 ⟨rfl, hb2⟩
      have b3 := bel1 w2 (.cells #[.int .i64 0, .int .i64 0, .int .i64 0, .bool false, .slice none 0 0] 26)
      have B3 := behind (behind B1 hb2) b3
      have s3 := slot5fNew w2 (.int .i64 0) (.int .i64 0) (.int .i64 0) (.bool false) (.slice none 0 0) 26
      have m3 := s3.lt
      have hb2s := hb2.size
      clear ho1 hb2
      go_wp2_with fail
      generalize w2.alloc (.cells #[.int .i64 0, .int .i64 0, .int .i64 0, .bool false, .slice none 0 0] 26) = w3 at b3 B3 s3 m3 ⊢
      refine (toByteS a cap l w3 hs (hr.below B3)).mono ?_
      rintro e w4 ⟨rfl, ho4, hb4⟩
      have B4 := behind B3 hb4
      have s4 := s3.below hb4
      have m4 := (World.ownsRow.lt ho4 w3.heap.size rfl).2
      go_wp2_with fail
      refine (cI _ _ (RdA.own ho4)).mono ?_
      rintro e w5 ⟨rfl, hb5⟩
      have b6 := bel1 w5 (.cells #[.int .i64 0, .int .i64 0, .int .i64 0, .bool false, .slice none 0 0] 26)
      have B6 := behind (behind B4 hb5) b6
      have s6 := (s4.below hb5).below b6
      have t6 := slot5fNew w5 (.int .i64 0) (.int .i64 0) (.int .i64 0) (.bool false) (.slice none 0 0) 26
      have m6 := t6.lt
      have m5 := hb5.size
      have hX6 := ownBelow (ownBelow ho4 hb5) b6
      obtain ⟨⟨x0, x1, x2, x3, x4⟩, -⟩ := id s6
      obtain ⟨⟨z0, z1, z2, z3, z4⟩, -⟩ := id t6
      go_wp2_with fail
      generalize w5.alloc (.cells #[.int .i64 0, .int .i64 0, .int .i64 0, .bool false, .slice none 0 0] 26) = w6 at b6 B6 s6 t6 m6 hX6 x0 x1 x2 x3 x4 z0 z1 z2 z3 z4 ⊢
      refine (eqFl0 _).mono ?_
      rintro e w7 ⟨rfl, hb7⟩
      have B7 := behind B6 hb7
      have s7 := s6.below hb7
      have t7 := t6.below hb7
      have hX7 := ownBelow hX6 hb7
      have m7 := hb7.size
      clear s3 s4 s6 t6 hX6 ho4 B3 b3 b6 hb4 hb5 hb7 x0 x1 x2 x3 x4 z0 z1 z2 z3 z4
      go_wp2_with fail
      refine (toByteS a cap l w7 hs (hr.below B7)).mono ?_
      rintro e w8 ⟨rfl, ho8, hb8⟩
      go_wp2_with fail
      refine (eqByteS _ _ _ _ l _ (by omega) (RdA.own (ownBelow hX7 hb8)) (RdA.own ho8)).mono ?_
      rintro e w9 ⟨rfl, n9, rfl⟩
      have B9 := belowDrewN (behind B7 hb8) n9
      have s9 : Slot5f (w8.drewN n9) w2.heap.size _ _ _ _ _ := (s7.below hb8 : Slot5f w8 _ _ _ _ _ _)
      have t9 : Slot5f (w8.drewN n9) w5.heap.size _ _ _ _ _ := (t7.below hb8 : Slot5f w8 _ _ _ _ _ _)
      have hX9 := ownDrewN (ownBelow hX7 hb8) n9
      have m9 : w7.heap.size ≤ (w8.drewN n9).heap.size := hb8.size
      clear s7 t7 hX7 ho8 hb8 B7
      generalize w8.drewN n9 = w9 at B9 s9 t9 hX9 m9 ⊢
      have m2 : w.heap.size ≤ w2.heap.size := by have := B1.size; omega
      go_wp2_with fail
      refine (markByteS _ _ _ _ 1 _ _ (by omega) (by omega) hX9).mono ?_
      rintro e w10 ⟨rfl, -, hg10⟩
      have s10 := s9.grown hg10 (by omega)
      have t10 := t9.grown hg10 (by omega)
      have B10 := belowGrown B9 hg10 (by omega) B9.size
      have m10 := hg10.size
      clear s9 t9 hX9 hg10 B9
      obtain ⟨⟨x0, x1, x2, x3, x4⟩, -⟩ := id s10
      obtain ⟨⟨z0, z1, z2, z3, z4⟩, -⟩ := id t10
      go_wp2_with fail
      refine (eqFl0 _).mono ?_
      rintro e w11 ⟨rfl, hb11⟩
      have s11 := s10.below hb11
      have t11 := t10.below hb11
      have B11 := behind B10 hb11
      have m11 := hb11.size
      clear s10 t10 hb11 B10 x0 x1 x2 x3 x4 z0 z1 z2 z3 z4
      obtain ⟨⟨z0, z1, z2, z3, z4⟩, -⟩ := id t11
      go_wp2_with fail
      refine (markFl0 1 _).mono ?_
      rintro e w12 ⟨rfl, hb12⟩
      have s12 := s11.below hb12
      have t12 := t11.below hb12
      have B12 := behind B11 hb12
      clear s11 t11 hb12 B11 z0 z1 z2 z3 z4
      obtain ⟨⟨z0, z1, z2, z3, z4⟩, -⟩ := id t12
      go_wp2_with fail
      refine (heldFl0 1 _ (by omega)).mono ?_
      rintro e w13 ⟨rfl, hb13⟩
      have s13 := s12.below hb13
      have t13 := t12.below hb13
      have B13 := behind B12 hb13
      clear s12 t12 hb13 B12 z0 z1 z2 z3 z4
      go_wp2_with fail
      refine (toByteS a cap l w13 hs (hr.below B13)).mono ?_
      rintro e w14 ⟨rfl, ho14, hb14⟩
      have B14 := behind B13 hb14
      go_wp2_with fail
      refine (cI _ _ (RdA.own ho14)).mono ?_
      rintro e w15 ⟨rfl, hb15⟩
      have b16 := bel1 w15 (.cells #[.int .i64 0, .int .i64 0, .int .i64 0, .bool false, .slice none 0 0] 26)
      have B16 := behind (behind B14 hb15) b16
      have s16 := ((s13.below hb14).below hb15).below b16
      have t16 := ((t13.below hb14).below hb15).below b16
      have y16 := slot5fNew w15 (.int .i64 0) (.int .i64 0) (.int .i64 0) (.bool false) (.slice none 0 0) 26
      clear s13 t13 ho14 hb14 hb15 B13 B14
      obtain ⟨⟨x0, x1, x2, x3, x4⟩, -⟩ := id s16
      obtain ⟨⟨y0, y1, y2, y3, y4⟩, -⟩ := id y16
      go_wp2_with fail
      generalize w15.alloc (.cells #[.int .i64 0, .int .i64 0, .int .i64 0, .bool false, .slice none 0 0] 26) = w16 at b16 B16 s16 t16 y16 x0 x1 x2 x3 x4 y0 y1 y2 y3 y4 ⊢
      refine (eqFl0 _).mono ?_
      rintro e w17 ⟨rfl, hb17⟩
      have B17 := behind B16 hb17
      obtain ⟨⟨z0, z1, z2, z3, z4⟩, -⟩ := t16.below hb17
      clear x0 x1 x2 x3 x4 y0 y1 y2 y3 y4
      go_wp2_with fail
      refine (heldFl0 1 _ (by omega)).mono ?_
      rintro e w18 ⟨rfl, hb18⟩
      go_wp2
      go_ret
      exact ⟨rfl, behind B17 hb18⟩
    | some x =>
      obtain ⟨T, Q, N, D, data⟩ := x
      have hdl := getF_small hG
      rw [hG] at cS cI
      go_enter Try.func3, Try.ntmps3
      go_wp2_with fail
      refine (toByteS a cap l w hs hr).mono ?_
      rintro e w1 ⟨rfl, ho1, B1⟩
      go_wp2_with fail
      refine (cS _ _ (RdA.own ho1)).mono ?_
      rintro e w2 ⟨⟨g2, p2, rfl, ho2⟩, hb2⟩
      have b3 := bel1 w2 (.cells #[.int .i64 T, .int .i64 Q, .int .i64 N, .bool D, .slice (some ⟨g2, 0, none⟩) data.length p2] 26)
      have B3 := behind (behind B1 hb2) b3
      have s3 := slot5fNew w2 (.int .i64 T) (.int .i64 Q) (.int .i64 N) (.bool D) (.slice (some ⟨g2, 0, none⟩) data.length p2) 26
      have m3 := s3.lt
      have hV3 := ownBelow ho2 b3
      have q2 := World.ownsRow.lt ho2 g2 rfl
      have hb2s := hb2.size
      clear ho1 hb2
      go_wp2_with fail
      generalize w2.alloc (.cells #[.int .i64 T, .int .i64 Q, .int .i64 N, .bool D, .slice (some ⟨g2, 0, none⟩) data.length p2] 26) = w3 at b3 B3 s3 m3 hV3 ⊢
      refine (toByteS a cap l w3 hs (hr.below B3)).mono ?_
      rintro e w4 ⟨rfl, ho4, hb4⟩
      have B4 := behind B3 hb4
      have s4 := s3.below hb4
      have m4 := (World.ownsRow.lt ho4 w3.heap.size rfl).2
      have hV4 := ownBelow hV3 hb4
      go_wp2_with fail
      refine (cI _ _ (RdA.own ho4)).mono ?_
      rintro e w5 ⟨⟨g5, p5, rfl, ho5⟩, hb5⟩
      have b6 := bel1 w5 (.cells #[.int .i64 T, .int .i64 Q, .int .i64 N, .bool D, .slice (some ⟨g5, 0, none⟩) data.length p5] 26)
      have B6 := behind (behind B4 hb5) b6
      have s6 := (s4.below hb5).below b6
      have t6 := slot5fNew w5 (.int .i64 T) (.int .i64 Q) (.int .i64 N) (.bool D) (.slice (some ⟨g5, 0, none⟩) data.length p5) 26
      have m6 := t6.lt
      have m5 := hb5.size
      have hX6 := ownBelow (ownBelow ho4 hb5) b6
      have hV6 := ownBelow (ownBelow hV4 hb5) b6
      have hU6 := ownBelow ho5 b6
      have q5 := World.ownsRow.lt ho5 g5 rfl
      obtain ⟨⟨x0, x1, x2, x3, x4⟩, -⟩ := id s6
      obtain ⟨⟨z0, z1, z2, z3, z4⟩, -⟩ := id t6
      go_wp2_with fail
      generalize w5.alloc (.cells #[.int .i64 T, .int .i64 Q, .int .i64 N, .bool D, .slice (some ⟨g5, 0, none⟩) data.length p5] 26) = w6 at b6 B6 s6 t6 m6 hX6 hV6 hU6 x0 x1 x2 x3 x4 z0 z1 z2 z3 z4 ⊢
      refine (eqFl T Q N D _ _ _ _ data _ hdl (RdA.own hU6) (RdA.own hV6)).mono ?_
      rintro e w7 ⟨rfl, hb7⟩
      have B7 := behind B6 hb7
      have s7 := s6.below hb7
      have t7 := t6.below hb7
      have hX7 := ownBelow hX6 hb7
      have m7 := hb7.size
      have hV7 := ownBelow hV6 hb7
      have hU7 := ownBelow hU6 hb7
      clear hV3 hV4 hV6 hU6 ho2 ho5
      clear s3 s4 s6 t6 hX6 ho4 B3 b3 b6 hb4 hb5 hb7 x0 x1 x2 x3 x4 z0 z1 z2 z3 z4
      go_wp2_with fail
      refine (toByteS a cap l w7 hs (hr.below B7)).mono ?_
      rintro e w8 ⟨rfl, ho8, hb8⟩
      go_wp2_with fail
      refine (eqByteS _ _ _ _ l _ (by omega) (RdA.own (ownBelow hX7 hb8)) (RdA.own ho8)).mono ?_
      rintro e w9 ⟨rfl, n9, rfl⟩
      have B9 := belowDrewN (behind B7 hb8) n9
      have s9 : Slot5f (w8.drewN n9) w2.heap.size _ _ _ _ _ := (s7.below hb8 : Slot5f w8 _ _ _ _ _ _)
      have t9 : Slot5f (w8.drewN n9) w5.heap.size _ _ _ _ _ := (t7.below hb8 : Slot5f w8 _ _ _ _ _ _)
      have hX9 := ownDrewN (ownBelow hX7 hb8) n9
      have m9 : w7.heap.size ≤ (w8.drewN n9).heap.size := hb8.size
      have hV9 := ownDrewN (ownBelow hV7 hb8) n9
      have hU9 := ownDrewN (ownBelow hU7 hb8) n9
      clear hV7 hU7
      clear s7 t7 hX7 ho8 hb8 B7
      generalize w8.drewN n9 = w9 at B9 s9 t9 hX9 m9 hV9 hU9 ⊢
      have m2 : w.heap.size ≤ w2.heap.size := by have := B1.size; omega
      go_wp2_with fail
      refine (markByteS _ _ _ _ 1 _ _ (by omega) (by omega) hX9).mono ?_
      rintro e w10 ⟨rfl, -, hg10⟩
      have s10 := s9.grown hg10 (by omega)
      have t10 := t9.grown hg10 (by omega)
      have B10 := belowGrown B9 hg10 (by omega) B9.size
      have m10 := hg10.size
      have hV10 := World.ownsRow.kept hV9 hg10 (.inr (by simp [Value.ownBlock]; omega))
      have hU10 := World.ownsRow.kept hU9 hg10 (.inr (by simp [Value.ownBlock]; omega))
      clear hV9 hU9
      clear s9 t9 hX9 hg10 B9
      obtain ⟨⟨x0, x1, x2, x3, x4⟩, -⟩ := id s10
      obtain ⟨⟨z0, z1, z2, z3, z4⟩, -⟩ := id t10
      go_wp2_with fail
      refine (eqFl T Q N D _ _ _ _ data _ hdl (RdA.own hU10) (RdA.own hV10)).mono ?_
      rintro e w11 ⟨rfl, hb11⟩
      have s11 := s10.below hb11
      have t11 := t10.below hb11
      have B11 := behind B10 hb11
      have m11 := hb11.size
      have hV11 := ownBelow hV10 hb11
      have hU11 := ownBelow hU10 hb11
      clear hV10 hU10
      clear s10 t10 hb11 B10 x0 x1 x2 x3 x4 z0 z1 z2 z3 z4
      obtain ⟨⟨z0, z1, z2, z3, z4⟩, -⟩ := id t11
      go_wp2_with fail
      refine (markFl T Q N D _ _ _ _ 1 _ _ (by omega) (by omega) (by omega) hU11).mono ?_
      rintro e w12 ⟨rfl, hU12, hg12⟩
      have s12 := s11.grown hg12 (by omega)
      have t12 := t11.grown hg12 (by omega)
      have hV12 := World.ownsRow.kept hV11 hg12 (.inr (by simp [Value.ownBlock]; omega))
      have B12 := belowGrown B11 hg12 (by omega) B11.size
      clear s11 t11 hV11 hU11 hg12 B11 z0 z1 z2 z3 z4
      obtain ⟨⟨z0, z1, z2, z3, z4⟩, -⟩ := id t12
      go_wp2_with fail
      refine (heldFl T Q N D _ _ _ _ 1 _ (by omega) (by omega) hU12).mono ?_
      rintro e w13 ⟨rfl, hb13⟩
      have s13 := s12.below hb13
      have t13 := t12.below hb13
      have B13 := behind B12 hb13
      have hV13 := ownBelow hV12 hb13
      have hU13 := ownBelow hU12 hb13
      clear hV12 hU12
      clear s12 t12 hb13 B12 z0 z1 z2 z3 z4
      go_wp2_with fail
      refine (toByteS a cap l w13 hs (hr.below B13)).mono ?_
      rintro e w14 ⟨rfl, ho14, hb14⟩
      have B14 := behind B13 hb14
      go_wp2_with fail
      refine (cI _ _ (RdA.own ho14)).mono ?_
      rintro e w15 ⟨⟨g15, p15, rfl, ho15⟩, hb15⟩
      have b16 := bel1 w15 (.cells #[.int .i64 T, .int .i64 Q, .int .i64 N, .bool D, .slice (some ⟨g15, 0, none⟩) data.length p15] 26)
      have B16 := behind (behind B14 hb15) b16
      have s16 := ((s13.below hb14).below hb15).below b16
      have t16 := ((t13.below hb14).below hb15).below b16
      have hV16 := ownBelow (ownBelow (ownBelow hV13 hb14) hb15) b16
      have hU16 := ownBelow (ownBelow (ownBelow hU13 hb14) hb15) b16
      have hW16 := ownBelow ho15 b16
      clear hV13 hU13 ho15
      have y16 := slot5fNew w15 (.int .i64 T) (.int .i64 Q) (.int .i64 N) (.bool D) (.slice (some ⟨g15, 0, none⟩) data.length p15) 26
      clear s13 t13 ho14 hb14 hb15 B13 B14
      obtain ⟨⟨x0, x1, x2, x3, x4⟩, -⟩ := id s16
      obtain ⟨⟨y0, y1, y2, y3, y4⟩, -⟩ := id y16
      go_wp2_with fail
      generalize w15.alloc (.cells #[.int .i64 T, .int .i64 Q, .int .i64 N, .bool D, .slice (some ⟨g15, 0, none⟩) data.length p15] 26) = w16 at b16 B16 s16 t16 y16 hV16 hU16 hW16 x0 x1 x2 x3 x4 y0 y1 y2 y3 y4 ⊢
      refine (eqFl T Q N D _ _ _ _ data _ hdl (RdA.own hW16) (RdA.own hV16)).mono ?_
      rintro e w17 ⟨rfl, hb17⟩
      have B17 := behind B16 hb17
      obtain ⟨⟨z0, z1, z2, z3, z4⟩, -⟩ := t16.below hb17
      have hU17 := ownBelow hU16 hb17
      clear x0 x1 x2 x3 x4 y0 y1 y2 y3 y4
      go_wp2_with fail
      refine (heldFl T Q N D _ _ _ _ 1 _ (by omega) (by omega) hU17).mono ?_
      rintro e w18 ⟨rfl, hb18⟩
      go_wp2
      go_ret
      exact ⟨rfl, behind B17 hb18⟩
  · have hsI : (l.length : Int) > 1048576 := by omega
    go_enter Try.func3, Try.ntmps3
    go_wp2
    go_ret
    exact ⟨rfl, Below.refl _ _⟩

set_option maxRecDepth 100000 in
theorem lifted (os : Os) (started : os.Started) (H : Type) (enc : TypeId × Value → H) :
    ReturnsInHanded {} Try.checked os 3 .any (Rows.fnExactGetFileSpec.pre6 enc Try.prog Try.f3 Rows.fnExactGetFileRow.domain false) (Rows.fnExactGetFileSpec.post enc Try.prog Try.f3 false true false false) := by
  refine returnsInHanded_of_change (C := Try.checked) own started (by kernel_rfl) Try.func3
    (ChangeSpec.witness6 (enc := enc) (C := Try.checked) false ⟨#[], #[.slice none 0 0], []⟩ 8 (by kernel_rfl) (by kernel_rfl) (by kernel_rfl) (by kernel_rfl)) ?_
  intro W base args ds gs before hval0 hW hcnd _
  have hval : ∀ (j : Nat) t v, Try.f3.params[j]? = some t → args[j]? = some v → Value.okWide Try.prog W .any base t v := hval0
  have hW' := hW
  obtain ⟨p, q, hA0, hV, rfl, hfz, hnd⟩ := hW
  have hA : DataW.TrodAll enc Try.prog W 0 (fun _ => true) true Try.f3.params.toList args.toList ds p := hA0
  rw [Try.params3] at hA hval
  obtain ⟨v0, vs0, d0, ds0, p0, q0, hargs, rfl, rfl, h0, r0⟩ := trodAll_cons hA
  obtain ⟨rfl, rfl, rfl⟩ := trodAll_nil r0
  obtain rfl : args = #[v0] := by cases args; simp_all
  obtain ⟨rfl, rfl⟩ := trodVars_none hV
  obtain ⟨a0, len0, cap0, rfl⟩ := okWide_slice Try.underlying22 (hval 0 22 v0 rfl rfl)
  have k0 := h0
  have lt0 : ∀ x ∈ p0, x.block < W.heap.size := by obtain ⟨m, hm⟩ := k0; exact DataW.trod_lt m _ _ _ hm
  obtain ⟨z0, w0⟩ : ∃ zs, IsRow .u8 W a0 len0 cap0 zs := by
    obtain ⟨fuel, hf⟩ := h0
    rcases open_ints Try.underlying22 Try.underlying5 (by kernel_rfl) hf with ⟨hcs, _⟩ | ⟨x, l, c, zs, hcs, _, hl, hm, hz, _, hcell, hwz⟩
    · simp [Value.cells] at hcs
      obtain ⟨rfl, rfl, rfl⟩ := hcs
      exact ⟨[], .inl ⟨rfl, rfl, rfl, rfl⟩⟩
    · simp [Value.cells] at hcs
      obtain ⟨rfl, rfl, rfl⟩ := hcs
      exact ⟨zs, .inr ⟨_, rfl, hl, hm, by simpa using hz, hcell, hwz⟩⟩
  clear hA0 hval0
  refine (walk a0 len0 cap0 z0 W w0).mono fun e W' ⟨he, bel⟩ => ?_
  subst he
  exact ⟨_, rfl, _, _, _, [], _, [], hW', trodAll_mk1 (shut_bool Try.underlying4 _), (trodAll_cons_mk (Below.trod laidOut (by kernel_rfl) (of_decide_eq_true (by kernel_rfl)) k0 bel lt0) trodAll_mk0), rfl, bel.frame _, fun h => by cases h⟩

theorem over : Rows.fnExactGetFileRow.holds Try.pinned (OpenSpec.ofChange Rows.fnExactGetFileSpec) :=
  OpenClaim.holds_of_wide 3 Try.f3 rfl rfl rfl rfl rfl rfl rfl ⟨rfl, rfl, rfl, rfl, rfl⟩ rfl rfl rfl rfl rfl (by kernel_rfl) Try.func3 (by kernel_rfl)
    (of_decide_eq_true (by kernel_rfl)) (by unfold Func.isWrapper; first | (rw [if_pos (by decide +kernel)]; kernel_rfl) | (rw [if_neg (by decide +kernel)]; exact ⟨rfl, rfl⟩))
    (fun os started H enc _ => lifted os started H enc)

end Go.Proofs.Ytpejeoekpejblap.fnExactGetFile
namespace Go.Proofs.Ytpejeoekpejblap
theorem fnExactGetFile_holds : Rows.FnExactGetFileSaid := fnExactGetFile.over
#print axioms fnExactGetFile_holds
end Go.Proofs.Ytpejeoekpejblap
