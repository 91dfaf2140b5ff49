/- For every stamp, time and node the law FnExactNextStamp returns true: the program's NextStamp answers as the specification's, every field. Conditions: none beyond the row's own. -/
import Derived.Test.YtekjnfkmjmmcmalRows
import Derived.Test.YtekjnfkmjmmcmalNextI
import Derived.Test.YtekjnfkmjmmcmalNextS
import Derived.Test.YtekjnfkmjmmcmalToSt
import Derived.Test.YtekjnfkmjmmcmalEqSt
import Derived.WalkKit
import Derived.ProofKit
import Derived.OpenShut
import Derived.ShutString
import Derived.ChangeOld
import Derived.Below
import Derived.Lib.SmallJoins
namespace Go.Proofs.Ytekjnfkmjmmcmal.fnExactNextStamp
open Go.ChangeShapes Go.WideShapes Go.ChangeAt Go.RowKit
open Go.Joins
open Go.ChangeMaps (open_string shut_string)
set_option linter.unusedVariables false

theorem own : ownKnob Try.prog.godebug = none := by kernel_rfl
theorem laidOut : laidOutB Try.prog = true := by kernel_rfl
theorem cellsSt : Try.prog.cellsOf 23 = 3 := by kernel_rfl

open Wk

set_option maxHeartbeats 1000000 in
set_option maxRecDepth 100000 in
theorem walk (t q n time node : Int) (w : World) (wa : (Lit.int .i64 t).wf = true) (wb : (Lit.int .i64 q).wf = true) (wc : (Lit.int .i64 n).wf = true) (wd : (Lit.int .i64 time).wf = true) (we : (Lit.int .i64 node).wf = true) :
    Calls Try.prog 3 #[.agg #[.int .i64 t, .int .i64 q, .int .i64 n], .int .i64 time, .int .i64 node] w fun e w' => e = .returned (.bool true) ∧ Below w.heap.size w w' := by
  clear wa wb wc wd we
  have x0 := boxNew w t q n 23
  go_enter Try.func3, Try.ntmps3
  go_wp2_with fail
  refine (toSt t q n _).mono ?_
  rintro e w1 ⟨rfl, hb1⟩
  have hB1 := behind (bel1 _ _) hb1
  have x1 := x0.below hb1
  go_wp2_with fail
  refine (specNext t q n time node _).mono ?_
  rintro e w2 ⟨a, b, c, rfl, HS, hb2⟩
  have hB2 := behind hB1 hb2
  obtain ⟨p0, p1, p2⟩ := (x1.below hb2).on
  go_wp2_with fail
  refine (toSt t q n _).mono ?_
  rintro e w3 ⟨rfl, hb3⟩
  have y3 := (boxNew w2 a b c 24).below hb3
  have hB3 := behind (behind hB2 (bel1 _ _)) hb3
  clear p0 p1 p2
  go_wp2_with fail
  refine (implNext t q n time node _).mono ?_
  rintro e w4 ⟨a', b', c', rfl, HI, hb4⟩
  have hE := HI.out.trans HS.out.symm
  simp only [Prod.mk.injEq] at hE
  obtain ⟨rfl, rfl, rfl⟩ := hE
  have hB4 := behind hB3 hb4
  obtain ⟨r0, r1, r2⟩ := (y3.below hb4).on
  go_wp2_with fail
  refine (eqSt a' b' c' _).mono ?_
  rintro e w5 ⟨rfl, hb5⟩
  go_wp2
  go_ret
  exact ⟨rfl, behind (behind hB4 (bel1 _ _)) hb5⟩

set_option maxRecDepth 100000 in
theorem lifted (os : Os) (started : os.Started) (H : Type) (enc : TypeId × Value → H) :
    ReturnsInHanded {} Try.checked os 3 .any (Rows.fnExactNextStampSpec.pre6 enc Try.prog Try.f3 Rows.fnExactNextStampRow.domain false) (Rows.fnExactNextStampSpec.post enc Try.prog Try.f3 false true false false) := by
  refine returnsInHanded_of_change (C := Try.checked) own started (by kernel_rfl) Try.func3
    (ChangeSpec.witness6 (enc := enc) (C := Try.checked) false ⟨#[], #[.agg #[.int .i64 0, .int .i64 0, .int .i64 0], .int .i64 0, .int .i64 0], []⟩ 8 (by kernel_rfl) (by kernel_rfl) (by kernel_rfl) (by kernel_rfl)) ?_
  intro W base args ds gs before hval0 hW hcnd _
  have hval : ∀ (j : Nat) t v, Try.f3.params[j]? = some t → args[j]? = some v → Value.okWide Try.prog W .any base t v := hval0
  have hW' := hW
  obtain ⟨p, q, hA0, hV, rfl, hfz, hnd⟩ := hW
  have hA : DataW.TrodAll enc Try.prog W 0 (fun _ => true) true Try.f3.params.toList args.toList ds p := hA0
  rw [Try.params3] at hA hval
  obtain ⟨v0, vs0, d0, ds0, p0, q0, hargs, rfl, rfl, h0, r0⟩ := trodAll_cons hA
  obtain ⟨v1, vs1, d1, ds1, p1, q1, rfl, rfl, rfl, h1, r1⟩ := trodAll_cons r0
  obtain ⟨v2, vs2, d2, ds2, p2, q2, rfl, rfl, rfl, h2, r2⟩ := trodAll_cons r1
  obtain ⟨rfl, rfl, rfl⟩ := trodAll_nil r2
  obtain rfl : args = #[v0, v1, v2] := by cases args; simp_all
  obtain ⟨rfl, rfl⟩ := trodVars_none hV
  have k0 := h0
  have lt0 : ∀ x ∈ p0, x.block < W.heap.size := by obtain ⟨m, hm⟩ := k0; exact DataW.trod_lt m _ _ _ hm
  obtain ⟨x0, x1, x2, y0, y1, y2, m, rfl, rfl, rfl, hy0, hy1, hy2⟩ := open_agg3 Try.underlying23 (by kernel_rfl) cellsSt (hval 0 23 v0 rfl rfl) h0
  obtain ⟨a0, e0, rfl, wa0⟩ := DataW.trod_int Try.underlying3 hy0
  obtain ⟨b0, e1, rfl, wb0⟩ := DataW.trod_int Try.underlying3 hy1
  obtain ⟨c0, e2, rfl, wc0⟩ := DataW.trod_int Try.underlying3 hy2
  simp at e0 e1 e2
  subst e0 e1 e2
  clear hy0 hy1 hy2
  have k1 := h1
  have lt1 : ∀ x ∈ p1, x.block < W.heap.size := by obtain ⟨m, hm⟩ := k1; exact DataW.trod_lt m _ _ _ hm
  obtain ⟨a1, rfl, rfl, rfl, w1⟩ := open_int Try.underlying3 (hval 1 3 v1 rfl rfl) h1
  have k2 := h2
  have lt2 : ∀ x ∈ p2, x.block < W.heap.size := by obtain ⟨m, hm⟩ := k2; exact DataW.trod_lt m _ _ _ hm
  obtain ⟨a2, rfl, rfl, rfl, w2⟩ := open_int Try.underlying3 (hval 2 3 v2 rfl rfl) h2
  clear hA0 hval0
  refine (walk a0 b0 c0 a1 a2 W wa0 wb0 wc0 w1 w2).mono fun e W' ⟨he, bel⟩ => ?_
  subst he
  exact ⟨_, rfl, _, _, _, [], _, [], hW', trodAll_mk1 (shut_bool Try.underlying4 _), (trodAll_cons_mk (Below.trod laidOut (by kernel_rfl) (of_decide_eq_true (by kernel_rfl)) k0 bel lt0) (trodAll_cons_mk (Below.trod laidOut (by kernel_rfl) (of_decide_eq_true (by kernel_rfl)) k1 bel lt1) (trodAll_cons_mk (Below.trod laidOut (by kernel_rfl) (of_decide_eq_true (by kernel_rfl)) k2 bel lt2) trodAll_mk0))), rfl, bel.frame _, fun h => by cases h⟩

theorem over : Rows.fnExactNextStampRow.holds Try.pinned (OpenSpec.ofChange Rows.fnExactNextStampSpec) :=
  OpenClaim.holds_of_wide 3 Try.f3 rfl rfl rfl rfl rfl rfl rfl ⟨rfl, rfl, rfl, rfl, rfl⟩ rfl rfl rfl rfl rfl (by kernel_rfl) Try.func3 (by kernel_rfl)
    (of_decide_eq_true (by kernel_rfl)) (by unfold Func.isWrapper; first | (rw [if_pos (by decide +kernel)]; kernel_rfl) | (rw [if_neg (by decide +kernel)]; exact ⟨rfl, rfl⟩))
    (fun os started H enc _ => lifted os started H enc)

end Go.Proofs.Ytekjnfkmjmmcmal.fnExactNextStamp
namespace Go.Proofs.Ytekjnfkmjmmcmal
theorem fnExactNextStamp_holds : Rows.FnExactNextStampSaid := fnExactNextStamp.over
#print axioms fnExactNextStamp_holds
end Go.Proofs.Ytekjnfkmjmmcmal
