/- For every two stamps the law FnExactLessStamp returns true: the program's LessStamp answers as the specification's. Conditions: none beyond the row's own. -/
import Derived.Test.YtekjnfkmjmmcmakRows
import Derived.Test.YtekjnfkmjmmcmakLessI
import Derived.Test.YtekjnfkmjmmcmakLessS
import Derived.Test.YtekjnfkmjmmcmakToSt
import Derived.WalkKit
import Derived.ProofKit
import Derived.OpenShut
import Derived.ShutString
import Derived.ChangeOld
import Derived.Below
import Derived.Lib.SmallJoins
namespace Go.Proofs.Ytekjnfkmjmmcmak.fnExactLessStamp
open Go.ChangeShapes Go.WideShapes Go.ChangeAt Go.RowKit
open Go.Joins
open Go.ChangeMaps (open_string shut_string)
set_option linter.unusedVariables false

theorem own : ownKnob Try.prog.godebug = none := by kernel_rfl
theorem laidOut : laidOutB Try.prog = true := by kernel_rfl
theorem cellsSt : Try.prog.cellsOf 36 = 3 := by kernel_rfl

open Wk

set_option maxHeartbeats 2000000 in
set_option maxRecDepth 100000 in
theorem walk (t q n t' q' n' : Int) (w : World) (wa : (Lit.int .i64 t).wf = true) (wb : (Lit.int .i64 q).wf = true) (wc : (Lit.int .i64 n).wf = true) (wd : (Lit.int .i64 t').wf = true) (we : (Lit.int .i64 q').wf = true) (wf : (Lit.int .i64 n').wf = true) :
    Calls Try.prog 8 #[.agg #[.int .i64 t, .int .i64 q, .int .i64 n], .agg #[.int .i64 t', .int .i64 q', .int .i64 n']] w fun e w' => e = .returned (.bool true) ∧ Below w.heap.size w w' := by
  clear wa wb wc wd we wf
  have x0 := (boxNew w t q n 36).below (bel1 _ (.cells #[.int .i64 t', .int .i64 q', .int .i64 n'] 36))
  have y0 := boxNew (w.alloc (.cells #[.int .i64 t, .int .i64 q, .int .i64 n] 36)) t' q' n' 36
  have hB0 : Below w.heap.size w ((w.alloc (.cells #[.int .i64 t, .int .i64 q, .int .i64 n] 36)).alloc (.cells #[.int .i64 t', .int .i64 q', .int .i64 n'] 36)) := bel2 _ _ _
  simp only [World.size_alloc] at y0
  go_enter Try.func8, Try.ntmps8
  go_wp2_with fail
  go_region_with (first | (go_at_call_of 22 (Value.int .i64 t); refine (toSt t q n _).mono ?_; rintro e w1 ⟨rfl, hb1⟩; have x1 := x0.drew.below hb1; obtain ⟨p0, p1, p2⟩ := y0.drew.below hb1; have hB1 := behind hB0.drew hb1) | (go_at_call_of 22 (Value.int .i64 t'); refine (toSt t' q' n' _).mono ?_; rintro e w2 ⟨rfl, hb2⟩; have x2 := x1.below hb2; have y2 := Box.below ⟨p0, p1, p2⟩ hb2; have hB2 := behind hB1 hb2) | (go_at_call 24; refine (specLess t q n t' q' n' _).mono ?_; rintro e w3 ⟨rfl, hb3⟩; have x3 := x2.below hb3; have y3 := y2.below hb3; have hB3 := behind hB2 hb3))
  all_goals
    clear x0 y0 hB0 x1 p0 p1 p2 hB1 x2 y2 hB2 hb1 hb2 hb3
    obtain ⟨q0, q1, q2⟩ := id x3
    obtain ⟨r0, r1, r2⟩ := id y3
    go_wp2_with fail
    go_region_with (first | (go_at_call_of 22 (Value.int .i64 t); refine (toSt t q n _).mono ?_; rintro e w4 ⟨rfl, hb4⟩; obtain ⟨p0, p1, p2⟩ := y3.drew.below hb4; have hB4 := behind hB3.drew hb4) | (go_at_call_of 22 (Value.int .i64 t'); refine (toSt t' q' n' _).mono ?_; rintro e w5 ⟨rfl, hb5⟩; have hB5 := behind hB4 hb5) | (go_at_call 25; refine (implLess t q n t' q' n' _).mono ?_; rintro e w6 ⟨rfl, hb6⟩; have hB6 := behind hB5 hb6))
  all_goals
    generalize Sm.less t q n t' q' n' = K
    cases K
  all_goals
    go_wp2
    go_ret
    exact ⟨rfl, hB6⟩

set_option maxRecDepth 100000 in
theorem lifted (os : Os) (started : os.Started) (H : Type) (enc : TypeId × Value → H) :
    ReturnsInHanded {} Try.checked os 8 .any (Rows.fnExactLessStampSpec.pre6 enc Try.prog Try.f8 Rows.fnExactLessStampRow.domain false) (Rows.fnExactLessStampSpec.post enc Try.prog Try.f8 false true false false) := by
  refine returnsInHanded_of_change (C := Try.checked) own started (by kernel_rfl) Try.func8
    (ChangeSpec.witness6 (enc := enc) (C := Try.checked) false ⟨#[], #[.agg #[.int .i64 0, .int .i64 0, .int .i64 0], .agg #[.int .i64 0, .int .i64 0, .int .i64 0]], []⟩ 8 (by kernel_rfl) (by kernel_rfl) (by kernel_rfl) (by kernel_rfl)) ?_
  intro W base args ds gs before hval0 hW hcnd _
  have hval : ∀ (j : Nat) t v, Try.f8.params[j]? = some t → args[j]? = some v → Value.okWide Try.prog W .any base t v := hval0
  have hW' := hW
  obtain ⟨p, q, hA0, hV, rfl, hfz, hnd⟩ := hW
  have hA : DataW.TrodAll enc Try.prog W 0 (fun _ => true) true Try.f8.params.toList args.toList ds p := hA0
  rw [Try.params8] at hA hval
  obtain ⟨v0, vs0, d0, ds0, p0, q0, hargs, rfl, rfl, h0, r0⟩ := trodAll_cons hA
  obtain ⟨v1, vs1, d1, ds1, p1, q1, rfl, rfl, rfl, h1, r1⟩ := trodAll_cons r0
  obtain ⟨rfl, rfl, rfl⟩ := trodAll_nil r1
  obtain rfl : args = #[v0, v1] := by cases args; simp_all
  obtain ⟨rfl, rfl⟩ := trodVars_none hV
  have k0 := h0
  have lt0 : ∀ x ∈ p0, x.block < W.heap.size := by obtain ⟨m, hm⟩ := k0; exact DataW.trod_lt m _ _ _ hm
  obtain ⟨x0, x1, x2, y0, y1, y2, m, rfl, rfl, rfl, hy0, hy1, hy2⟩ := open_agg3 Try.underlying36 (by kernel_rfl) cellsSt (hval 0 36 v0 rfl rfl) h0
  obtain ⟨a0, e0, rfl, wa0⟩ := DataW.trod_int Try.underlying3 hy0
  obtain ⟨b0, e1, rfl, wb0⟩ := DataW.trod_int Try.underlying3 hy1
  obtain ⟨c0, e2, rfl, wc0⟩ := DataW.trod_int Try.underlying3 hy2
  simp at e0 e1 e2
  subst e0 e1 e2
  clear hy0 hy1 hy2
  have k1 := h1
  have lt1 : ∀ x ∈ p1, x.block < W.heap.size := by obtain ⟨m, hm⟩ := k1; exact DataW.trod_lt m _ _ _ hm
  obtain ⟨x0, x1, x2, y0, y1, y2, m, rfl, rfl, rfl, hy0, hy1, hy2⟩ := open_agg3 Try.underlying36 (by kernel_rfl) cellsSt (hval 1 36 v1 rfl rfl) h1
  obtain ⟨a1, e0, rfl, wa1⟩ := DataW.trod_int Try.underlying3 hy0
  obtain ⟨b1, e1, rfl, wb1⟩ := DataW.trod_int Try.underlying3 hy1
  obtain ⟨c1, e2, rfl, wc1⟩ := DataW.trod_int Try.underlying3 hy2
  simp at e0 e1 e2
  subst e0 e1 e2
  clear hy0 hy1 hy2
  clear hA0 hval0
  refine (walk a0 b0 c0 a1 b1 c1 W wa0 wb0 wc0 wa1 wb1 wc1).mono fun e W' ⟨he, bel⟩ => ?_
  subst he
  exact ⟨_, rfl, _, _, _, [], _, [], hW', trodAll_mk1 (shut_bool Try.underlying4 _), (trodAll_cons_mk (Below.trod laidOut (by kernel_rfl) (of_decide_eq_true (by kernel_rfl)) k0 bel lt0) (trodAll_cons_mk (Below.trod laidOut (by kernel_rfl) (of_decide_eq_true (by kernel_rfl)) k1 bel lt1) trodAll_mk0)), rfl, bel.frame _, fun h => by cases h⟩

theorem over : Rows.fnExactLessStampRow.holds Try.pinned (OpenSpec.ofChange Rows.fnExactLessStampSpec) :=
  OpenClaim.holds_of_wide 8 Try.f8 rfl rfl rfl rfl rfl rfl rfl ⟨rfl, rfl, rfl, rfl, rfl⟩ rfl rfl rfl rfl rfl (by kernel_rfl) Try.func8 (by kernel_rfl)
    (of_decide_eq_true (by kernel_rfl)) (by unfold Func.isWrapper; first | (rw [if_pos (by decide +kernel)]; kernel_rfl) | (rw [if_neg (by decide +kernel)]; exact ⟨rfl, rfl⟩))
    (fun os started H enc _ => lifted os started H enc)

end Go.Proofs.Ytekjnfkmjmmcmak.fnExactLessStamp
namespace Go.Proofs.Ytekjnfkmjmmcmak
theorem fnExactLessStamp_holds : Rows.FnExactLessStampSaid := fnExactLessStamp.over
#print axioms fnExactLessStamp_holds
end Go.Proofs.Ytekjnfkmjmmcmak
