/- Moved of the program answers as the specification does, at every two rings: the same number; both rings read behind the call as ahead of it. Where they have more than 2^20 entries together the law itself answers true. -/
import Derived.Test.YtoemblcheahbeaoRows
import Derived.Test.YtoemblcheahbeaoMvS
import Derived.Test.YtoemblcheahbeaoMvI
import Derived.Test.YtoemblcheahbeaoRgT
import Derived.Test.YtoemblcheahbeaoRgZ
import Derived.Test.YtoemblcheahbeaoRgE
import Derived.Test.YtoemblcheahbeaoOpRg
import Derived.WalkKit
import Derived.ProofKit
import Derived.OpenShut
import Derived.ShutString
import Derived.ChangeOld
import Derived.Below
namespace Go.Proofs.Ytoemblcheahbeao.fnExactMoved
open Go.ChangeShapes Go.WideShapes Go.ChangeAt Go.RowKit
open Go.ChangeMaps (open_string shut_string)
set_option linter.unusedVariables false

theorem own : ownKnob Try.prog.godebug = none := by kernel_rfl
theorem laidOut : laidOutB Try.prog = true := by kernel_rfl

open Wk

set_option maxHeartbeats 2000000 in
set_option maxRecDepth 100000 in
theorem walk (r0 : Int) (a0 : Option Addr) (len0 cap0 : Nat) (A : List (List Int)) (r1 : Int) (a1 : Option Addr) (len1 cap1 : Nat) (B : List (List Int)) (w : World) (wr0 : (Lit.int .i64 r0).wf = true) (w0 : IsPts w a0 len0 cap0 A) (wr1 : (Lit.int .i64 r1).wf = true) (w1 : IsPts w a1 len1 cap1 B) :
    Calls Try.prog 3 #[.agg #[.int .i64 r0, .slice a0 len0 cap0], .agg #[.int .i64 r1, .slice a1 len1 cap1]] w fun e w' => e = .returned (.bool true) ∧ Below w.heap.size w w' := by
  clear wr0 wr1
  obtain ⟨rfl, hm0, hp0, hr0⟩ := w0
  obtain ⟨rfl, hm1, hp1, hr1⟩ := w1
  unfold maxLen at hm0 hp0 hm1 hp1
  have cZ := fun w h => szRg r0 a0 cap0 1048576 A w (by omega) (by omega) (fun q hq => by have := hp0 q hq; omega) h
  have e20 : ((1048576 : Nat) : Int) = 1048576 := rfl
  rw [e20] at cZ
  clear e20
  have hB0 := bel2 w (.cells #[.int .i64 r0, .slice a0 A.length cap0] 24) (.cells #[.int .i64 r1, .slice a1 B.length cap1] 24)
  have s0 := (slot2New w (.int .i64 r0) (.slice a0 A.length cap0) 24).below (bel1 _ (.cells #[.int .i64 r1, .slice a1 B.length cap1] 24))
  have s1 := slot2New (w.alloc (.cells #[.int .i64 r0, .slice a0 A.length cap0] 24)) (.int .i64 r1) (.slice a1 B.length cap1) 24
  rw [World.size_alloc] at s1
  by_cases hA : 1048576 < A.length + tot A
  · rw [szV_no hA] at cZ
    go_enter Try.func3, Try.ntmps3
    go_wp2_with fail
    refine (cZ _ (hr0.below hB0)).mono ?_
    rintro e v1 ⟨rfl, hb1⟩
    go_wp2
    go_ret
    exact ⟨rfl, behind hB0 hb1⟩
  · rw [szV_yes hA] at cZ
    obtain ⟨M, hL⟩ : ∃ L : Nat, ((1048576 : Nat) : Int) - ((A.length + tot A : Nat) : Int) = L := ⟨1048576 - (A.length + tot A), by omega⟩
    rw [hL] at cZ
    have hM1 : M ≤ 1048576 := by omega
    have htA : tot A ≤ 1048576 := by omega
    have hAl : A.length ≤ 1048576 := by omega
    have hpA : ∀ q ∈ A, q.length ≤ 1048576 := fun q hq => Nat.le_trans (tot_mem hq) htA
    clear hL hA hp0
    have cY := fun w h => szRg r1 a1 cap1 M B w hM1 (by omega) (fun q hq => by have := hp1 q hq; omega) h
    go_enter Try.func3, Try.ntmps3
    go_wp2_with fail
    generalize (w.alloc (.cells #[.int .i64 r0, .slice a0 A.length cap0] 24)).alloc (.cells #[.int .i64 r1, .slice a1 B.length cap1] 24) = wE at hB0 s0 s1 ⊢
    refine (cZ _ (hr0.below hB0)).mono ?_
    rintro e v1 ⟨rfl, hb1⟩
    have hB1 := behind hB0 hb1
    have t0 := s0.below hb1
    have t1 := s1.below hb1
    clear cZ s0 s1 hb1 hB0
    have hMn : ¬ (M : Int) < 0 := by omega
    obtain ⟨⟨x0, x1⟩, -⟩ := id t0
    obtain ⟨⟨y0, y1⟩, -⟩ := id t1
    go_wp2_with fail
    refine (cY _ (hr1.below hB1)).mono ?_
    rintro e v2 ⟨rfl, hb2⟩
    have hB2 := behind hB1 hb2
    have t0 := t0.below hb2
    have t1 := t1.below hb2
    clear cY hb2 x0 x1 y0 y1
    obtain ⟨⟨x0, x1⟩, -⟩ := id t0
    obtain ⟨⟨y0, y1⟩, -⟩ := id t1
    by_cases hC : M < B.length + tot B
    · rw [szV_no hC]
      go_wp2
      go_ret
      exact ⟨rfl, hB2⟩
    · rw [szV_yes hC]
      have hCn : ¬ (M : Int) - ((B.length + tot B : Nat) : Int) < 0 := by omega
      have htB : tot B ≤ 1048576 := by omega
      have hBl : B.length ≤ 1048576 := by omega
      have hpB : ∀ q ∈ B, q.length ≤ 1048576 := fun q hq => Nat.le_trans (tot_mem hq) htB
      clear hp1
      have cS := fun a c ca cc w h1 h3 => specMoved r0 r1 a c ca cc A B w hAl hBl htA htB h1 h3
      have cI := fun a c ca cc w h1 h3 => implMoved r0 r1 a c ca cc A B w hAl hBl htA htB h1 h3
      generalize (Rg.moved A B : Int) = G at cS cI
      have hrA := hr0.below hB2
      have hrB := hr1.below hB2
      clear hr0 hr1
      go_wp2_with fail
      go_region_held3 (fun wy => wy.cell? ⟨w.heap.size, 0, none⟩ = some (.int .i64 r0) ∧ wy.cell? ⟨w.heap.size, 1, none⟩ = some (.slice a0 A.length cap0) ∧ wy.cell? ⟨w.heap.size + 1, 0, none⟩ = some (.int .i64 r1) ∧ wy.cell? ⟨w.heap.size + 1, 1, none⟩ = some (.slice a1 B.length cap1))
        (first | exact ⟨x0, x1, y0, y1⟩ | exact keepR4 ‹_› ‹_› | go_keep)
        (first | (go_at_call_of 6 (Value.agg #[.int .i64 r0, .slice a0 A.length cap0]); refine (toRg r0 a0 cap0 A _ hAl hpA (by first | exact hrA | exact RdP.below (w := v2.drew) hrA hbB)).mono ?_; rintro e wA ⟨gA, rfl, hoA, hbA⟩) | (go_at_call_of 6 (Value.agg #[.int .i64 r1, .slice a1 B.length cap1]); refine (toRg r1 a1 cap1 B _ hBl hpB (by first | exact hrB | exact RdP.below (w := v2.drew) hrB hbA)).mono ?_; rintro e wB ⟨gB, rfl, hoB, hbB⟩) | (go_at_call 5; refine (cS _ _ _ _ _ (by first | exact OwnP.rdS hoA | exact (OwnP.rdS hoA).below hbB) (by first | exact OwnP.rdS hoB | exact (OwnP.rdS hoB).below hbA)).mono ?_; rintro e wM ⟨rfl, hbM⟩) | fail)
      all_goals
        have hBM : Below w.heap.size w wM := by first | exact behind (behind (behind hB2.drew hbA) hbB) hbM | exact behind (behind (behind hB2.drew hbB) hbA) hbM
        have hVM : Below v2.heap.size v2 wM := by first | exact behind (behind (behind (Below.refl _ _).drew hbA) hbB) hbM | exact behind (behind (behind (Below.refl _ _).drew hbB) hbA) hbM
        have t0 := t0.below hVM
        have t1 := t1.below hVM
        have hrA := hrA.below hVM
        have hrB := hrB.below hVM
        clear cS hoA hoB hbA hbB hbM hVM x0 x1 y0 y1 hB2
        obtain ⟨⟨x0, x1⟩, -⟩ := id t0
        obtain ⟨⟨y0, y1⟩, -⟩ := id t1
        go_wp2_with fail
        refine (toRg r0 a0 cap0 A _ hAl hpA (by exact hrA)).mono ?_
        rintro e w7 ⟨g7, rfl, ho7, hb7⟩
        have b7 := bel1 w7 (.cells #[.int .i64 r0, .slice (some ⟨g7, 0, none⟩) A.length A.length] 29)
        have hB7 := behind (behind hBM hb7) b7
        have t0 := (t0.below hb7).below b7
        have t1 := (t1.below hb7).below b7
        have x7 := slot2New w7 (.int .i64 r0) (.slice (some ⟨g7, 0, none⟩) A.length A.length) 29
        have hR7 := (OwnP.rdS ho7).below b7
        have hrA := (hrA.below hb7).below b7
        have hrB := (hrB.below hb7).below b7
        clear ho7 hb7 x0 x1 y0 y1 hBM
        obtain ⟨⟨y0, y1⟩, -⟩ := id t1
        go_wp2_with fail
        generalize w7.alloc (.cells #[.int .i64 r0, .slice (some ⟨g7, 0, none⟩) A.length A.length] 29) = w8 at b7 hB7 t0 t1 x7 hR7 hrA hrB y0 y1 ⊢
        clear b7
        refine (toRg r1 a1 cap1 B _ hBl hpB (by exact hrB)).mono ?_
        rintro e w9 ⟨g9, rfl, ho9, hb9⟩
        have b9 := bel1 w9 (.cells #[.int .i64 r1, .slice (some ⟨g9, 0, none⟩) B.length B.length] 29)
        have hB9 := behind (behind hB7 hb9) b9
        have t0 := (t0.below hb9).below b9
        have t1 := (t1.below hb9).below b9
        have x7 := (x7.below hb9).below b9
        have x9 := slot2New w9 (.int .i64 r1) (.slice (some ⟨g9, 0, none⟩) B.length B.length) 29
        have hR7 := (hR7.below hb9).below b9
        have hR9 := (OwnP.rdS ho9).below b9
        have hrA := (hrA.below hb9).below b9
        have hrB := (hrB.below hb9).below b9
        clear ho9 hb9 y0 y1 hB7
        obtain ⟨⟨x70, x71⟩, -⟩ := id x7
        obtain ⟨⟨x90, x91⟩, -⟩ := id x9
        go_wp2_with fail
        generalize w9.alloc (.cells #[.int .i64 r1, .slice (some ⟨g9, 0, none⟩) B.length B.length] 29) = wN at b9 hB9 t0 t1 x7 x9 hR7 hR9 hrA hrB x70 x71 x90 x91 ⊢
        clear b9
        refine (cI _ _ _ _ _ hR7 hR9).mono ?_
        rintro e v0 ⟨rfl, hb0⟩
        have hD0 := (behind hB9 hb0).drew
        obtain ⟨⟨d0, d1⟩, -⟩ := t0.below hb0
        obtain ⟨⟨f0, f1⟩, -⟩ := t1.below hb0
        obtain ⟨⟨d3, d4⟩, -⟩ := x7.below hb0
        obtain ⟨⟨f3, f4⟩, -⟩ := x9.below hb0
        have hRA := hR7.below hb0
        have hRB := hR9.below hb0
        have t1 := t1.below hb0
        have x9 := x9.below hb0
        have hrA := hrA.below hb0
        have hrB := hrB.below hb0
        clear t0 x7 hR7 hR9 cI x70 x71 x90 x91 hB9 hb0
        go_wp2_with fail
        go_region_held3 (fun wy => wy.cell? ⟨w.heap.size, 0, none⟩ = some (.int .i64 r0) ∧ wy.cell? ⟨w.heap.size, 1, none⟩ = some (.slice a0 A.length cap0) ∧ wy.cell? ⟨w7.heap.size, 0, none⟩ = some (.int .i64 r0) ∧ wy.cell? ⟨w7.heap.size, 1, none⟩ = some (.slice (some ⟨g7, 0, none⟩) A.length A.length))
          (first | exact ⟨d0, d1, d3, d4⟩ | exact keepR4 ‹_› ‹_› | go_keep)
          (first | (go_at_call 6; refine (toRg r0 a0 cap0 A _ hAl hpA (by exact hrA)).mono ?_; rintro e u1 ⟨h1, rfl, hp1', hc1⟩) | (go_at_call 8; refine (eqRg r0 _ _ _ _ A _ hAl hpA (by exact RdP.below (w := v0.drew) hRA hc1) (by exact OwnP.rdS hp1')).mono ?_; rintro e u2 ⟨rfl, hc2⟩))
        have hF2 := behind (behind (Below.refl _ _).drew hc1) hc2
        have hD2 := (behind (behind hD0 hc1) hc2).drew
        obtain ⟨⟨f0, f1⟩, -⟩ := t1.below hF2
        obtain ⟨⟨f3, f4⟩, -⟩ := x9.below hF2
        have hRB := hRB.below hF2
        have hrB := hrB.below hF2
        clear hp1' hc1 hc2 hF2 hRA hrA d0 d1 d3 d4 t1 x9 hD0
        go_wp2_with fail
        go_region_held3 (fun wy => wy.cell? ⟨w.heap.size + 1, 0, none⟩ = some (.int .i64 r1) ∧ wy.cell? ⟨w.heap.size + 1, 1, none⟩ = some (.slice a1 B.length cap1) ∧ wy.cell? ⟨w9.heap.size, 0, none⟩ = some (.int .i64 r1) ∧ wy.cell? ⟨w9.heap.size, 1, none⟩ = some (.slice (some ⟨g9, 0, none⟩) B.length B.length))
          (first | exact ⟨f0, f1, f3, f4⟩ | exact keepR4 ‹_› ‹_› | go_keep)
          (first | (go_at_call 6; refine (toRg r1 a1 cap1 B _ hBl hpB (by exact hrB)).mono ?_; rintro e u3 ⟨h3, rfl, hp3, hc3⟩) | (go_at_call 8; refine (eqRg r1 _ _ _ _ B _ hBl hpB (by exact RdP.below (w := u2.drew) hRB hc3) (by exact OwnP.rdS hp3)).mono ?_; rintro e u4 ⟨rfl, hc4⟩))
        go_wp2
        go_ret
        exact ⟨rfl, behind (behind hD2 hc3) hc4⟩

set_option maxRecDepth 100000 in
theorem lifted (os : Os) (started : os.Started) (H : Type) (enc : TypeId × Value → H) :
    ReturnsInHanded {} Try.checked os 3 .any (Rows.fnExactMovedSpec.pre6 enc Try.prog Try.f3 Rows.fnExactMovedRow.domain false) (Rows.fnExactMovedSpec.post enc Try.prog Try.f3 false true false false) := by
  refine returnsInHanded_of_change (C := Try.checked) own started (by kernel_rfl) Try.func3
    (ChangeSpec.witness6 (enc := enc) (C := Try.checked) false ⟨#[], #[.agg #[.int .i64 0, .slice none 0 0], .agg #[.int .i64 0, .slice none 0 0]], []⟩ 8 (by kernel_rfl) (by kernel_rfl) (by kernel_rfl) (by kernel_rfl)) ?_
  intro W base args ds gs before hval0 hW hcnd _
  have hval : ∀ (j : Nat) t v, Try.f3.params[j]? = some t → args[j]? = some v → Value.okWide Try.prog W .any base t v := hval0
  have hW' := hW
  obtain ⟨p, q, hA0, hV, rfl, hfz, hnd⟩ := hW
  have hA : DataW.TrodAll enc Try.prog W 0 (fun _ => true) true Try.f3.params.toList args.toList ds p := hA0
  rw [Try.params3] at hA hval
  obtain ⟨v0, vs0, d0, ds0, p0, q0, hargs, rfl, rfl, h0, r0⟩ := trodAll_cons hA
  obtain ⟨v1, vs1, d1, ds1, p1, q1, rfl, rfl, rfl, h1, r1⟩ := trodAll_cons r0
  obtain ⟨rfl, rfl, rfl⟩ := trodAll_nil r1
  obtain rfl : args = #[v0, v1] := by cases args; simp_all
  obtain ⟨rfl, rfl⟩ := trodVars_none hV
  have k0 := h0
  have lt0 : ∀ x ∈ p0, x.block < W.heap.size := by obtain ⟨m, hm⟩ := k0; exact DataW.trod_lt m _ _ _ hm
  obtain ⟨re0, a0, len0, cap0, z0, rfl, wr0, w0⟩ := openRgV (hval 0 24 v0 rfl rfl) h0
  have k1 := h1
  have lt1 : ∀ x ∈ p1, x.block < W.heap.size := by obtain ⟨m, hm⟩ := k1; exact DataW.trod_lt m _ _ _ hm
  obtain ⟨re1, a1, len1, cap1, z1, rfl, wr1, w1⟩ := openRgV (hval 1 24 v1 rfl rfl) h1
  clear hA0 hval0
  refine (walk re0 a0 len0 cap0 z0 re1 a1 len1 cap1 z1 W wr0 w0 wr1 w1).mono fun e W' ⟨he, bel⟩ => ?_
  subst he
  exact ⟨_, rfl, _, _, _, [], _, [], hW', trodAll_mk1 (shut_bool Try.underlying4 _), (trodAll_cons_mk (Below.trod laidOut (by kernel_rfl) (of_decide_eq_true (by kernel_rfl)) k0 bel lt0) (trodAll_cons_mk (Below.trod laidOut (by kernel_rfl) (of_decide_eq_true (by kernel_rfl)) k1 bel lt1) trodAll_mk0)), rfl, bel.frame _, fun h => by cases h⟩

theorem over : Rows.fnExactMovedRow.holds Try.pinned (OpenSpec.ofChange Rows.fnExactMovedSpec) :=
  OpenClaim.holds_of_wide 3 Try.f3 rfl rfl rfl rfl rfl rfl rfl ⟨rfl, rfl, rfl, rfl, rfl⟩ rfl rfl rfl rfl rfl (by kernel_rfl) Try.func3 (by kernel_rfl)
    (of_decide_eq_true (by kernel_rfl)) (by unfold Func.isWrapper; first | (rw [if_pos (by decide +kernel)]; kernel_rfl) | (rw [if_neg (by decide +kernel)]; exact ⟨rfl, rfl⟩))
    (fun os started H enc _ => lifted os started H enc)

end Go.Proofs.Ytoemblcheahbeao.fnExactMoved
namespace Go.Proofs.Ytoemblcheahbeao
theorem fnExactMoved_holds : Rows.FnExactMovedSaid := fnExactMoved.over
#print axioms fnExactMoved_holds
end Go.Proofs.Ytoemblcheahbeao
