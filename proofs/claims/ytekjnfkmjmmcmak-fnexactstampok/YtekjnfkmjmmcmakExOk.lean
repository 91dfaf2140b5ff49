/- For every stamp the law FnExactStampOk returns true: the program's StampOk answers as the specification's. Conditions: none beyond the row's own. -/
import Derived.Test.YtekjnfkmjmmcmakRows
import Derived.Test.YtekjnfkmjmmcmakOkI
import Derived.Test.YtekjnfkmjmmcmakOkS
import Derived.Test.YtekjnfkmjmmcmakToSt
import Derived.WalkKit
import Derived.ProofKit
import Derived.OpenShut
import Derived.ShutString
import Derived.ChangeOld
import Derived.Below
import Derived.Lib.SmallJoins
namespace Go.Proofs.Ytekjnfkmjmmcmak.fnExactStampOk
open Go.ChangeShapes Go.WideShapes Go.ChangeAt Go.RowKit
open Go.Joins
open Go.ChangeMaps (open_string shut_string)
set_option linter.unusedVariables false

theorem own : ownKnob Try.prog.godebug = none := by kernel_rfl
theorem laidOut : laidOutB Try.prog = true := by kernel_rfl
theorem cellsSt : Try.prog.cellsOf 36 = 3 := by kernel_rfl

open Wk

set_option maxHeartbeats 1000000 in
set_option maxRecDepth 100000 in
theorem walk (t q n : Int) (w : World) (wa : (Lit.int .i64 t).wf = true) (wb : (Lit.int .i64 q).wf = true) (wc : (Lit.int .i64 n).wf = true) :
    Calls Try.prog 7 #[.agg #[.int .i64 t, .int .i64 q, .int .i64 n]] w fun e w' => e = .returned (.bool true) ∧ Below w.heap.size w w' := by
  clear wa wb wc
  have x0 := boxNew w t q n 36
  go_enter Try.func7, Try.ntmps7
  go_wp2_with fail
  refine (toSt t q n _).mono ?_
  rintro e w1 ⟨rfl, hb1⟩
  have hB1 := behind (bel1 _ _) hb1
  have x1 := x0.below hb1
  go_wp2_with fail
  refine (specOk t q n _).mono ?_
  rintro e w2 ⟨rfl, hb2⟩
  have hB2 := behind hB1 hb2
  obtain ⟨p0, p1, p2⟩ := x1.below hb2
  go_wp2_with fail
  refine (toSt t q n _).mono ?_
  rintro e w3 ⟨rfl, hb3⟩
  have hB3 := behind hB2 hb3
  go_wp2_with fail
  refine (implOk t q n _).mono ?_
  rintro e w4 ⟨rfl, hb4⟩
  have hB4 := behind hB3 hb4
  generalize Sm.ok t q n = K
  cases K
  all_goals
    go_wp2
    go_ret
    exact ⟨rfl, hB4⟩

set_option maxRecDepth 100000 in
theorem lifted (os : Os) (started : os.Started) (H : Type) (enc : TypeId × Value → H) :
    ReturnsInHanded {} Try.checked os 7 .any (Rows.fnExactStampOkSpec.pre6 enc Try.prog Try.f7 Rows.fnExactStampOkRow.domain false) (Rows.fnExactStampOkSpec.post enc Try.prog Try.f7 false true false false) := by
  refine returnsInHanded_of_change (C := Try.checked) own started (by kernel_rfl) Try.func7
    (ChangeSpec.witness6 (enc := enc) (C := Try.checked) false ⟨#[], #[.agg #[.int .i64 0, .int .i64 0, .int .i64 0]], []⟩ 8 (by kernel_rfl) (by kernel_rfl) (by kernel_rfl) (by kernel_rfl)) ?_
  intro W base args ds gs before hval0 hW hcnd _
  have hval : ∀ (j : Nat) t v, Try.f7.params[j]? = some t → args[j]? = some v → Value.okWide Try.prog W .any base t v := hval0
  have hW' := hW
  obtain ⟨p, q, hA0, hV, rfl, hfz, hnd⟩ := hW
  have hA : DataW.TrodAll enc Try.prog W 0 (fun _ => true) true Try.f7.params.toList args.toList ds p := hA0
  rw [Try.params7] at hA hval
  obtain ⟨v0, vs0, d0, ds0, p0, q0, hargs, rfl, rfl, h0, r0⟩ := trodAll_cons hA
  obtain ⟨rfl, rfl, rfl⟩ := trodAll_nil r0
  obtain rfl : args = #[v0] := by cases args; simp_all
  obtain ⟨rfl, rfl⟩ := trodVars_none hV
  have k0 := h0
  have lt0 : ∀ x ∈ p0, x.block < W.heap.size := by obtain ⟨m, hm⟩ := k0; exact DataW.trod_lt m _ _ _ hm
  obtain ⟨x0, x1, x2, y0, y1, y2, m, rfl, rfl, rfl, hy0, hy1, hy2⟩ := open_agg3 Try.underlying36 (by kernel_rfl) cellsSt (hval 0 36 v0 rfl rfl) h0
  obtain ⟨a0, e0, rfl, wa0⟩ := DataW.trod_int Try.underlying3 hy0
  obtain ⟨b0, e1, rfl, wb0⟩ := DataW.trod_int Try.underlying3 hy1
  obtain ⟨c0, e2, rfl, wc0⟩ := DataW.trod_int Try.underlying3 hy2
  simp at e0 e1 e2
  subst e0 e1 e2
  clear hy0 hy1 hy2
  clear hA0 hval0
  refine (walk a0 b0 c0 W wa0 wb0 wc0).mono fun e W' ⟨he, bel⟩ => ?_
  subst he
  exact ⟨_, rfl, _, _, _, [], _, [], hW', trodAll_mk1 (shut_bool Try.underlying4 _), (trodAll_cons_mk (Below.trod laidOut (by kernel_rfl) (of_decide_eq_true (by kernel_rfl)) k0 bel lt0) trodAll_mk0), rfl, bel.frame _, fun h => by cases h⟩

theorem over : Rows.fnExactStampOkRow.holds Try.pinned (OpenSpec.ofChange Rows.fnExactStampOkSpec) :=
  OpenClaim.holds_of_wide 7 Try.f7 rfl rfl rfl rfl rfl rfl rfl ⟨rfl, rfl, rfl, rfl, rfl⟩ rfl rfl rfl rfl rfl (by kernel_rfl) Try.func7 (by kernel_rfl)
    (of_decide_eq_true (by kernel_rfl)) (by unfold Func.isWrapper; first | (rw [if_pos (by decide +kernel)]; kernel_rfl) | (rw [if_neg (by decide +kernel)]; exact ⟨rfl, rfl⟩))
    (fun os started H enc _ => lifted os started H enc)

end Go.Proofs.Ytekjnfkmjmmcmak.fnExactStampOk
namespace Go.Proofs.Ytekjnfkmjmmcmak
theorem fnExactStampOk_holds : Rows.FnExactStampOkSaid := fnExactStampOk.over
#print axioms fnExactStampOk_holds
end Go.Proofs.Ytekjnfkmjmmcmak
