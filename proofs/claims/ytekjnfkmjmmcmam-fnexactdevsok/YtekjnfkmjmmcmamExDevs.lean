/- For every list of devices the law FnExactDevsOk returns true: the program's DevsOk answers as the specification's, and its argument reads afterwards as before. Conditions: none beyond the row's own. -/
import Derived.Test.YtekjnfkmjmmcmamRows
import Derived.Test.YtekjnfkmjmmcmamToDvS
import Derived.Test.YtekjnfkmjmmcmamEqDvS
import Derived.Test.YtekjnfkmjmmcmamDvS
import Derived.Test.YtekjnfkmjmmcmamDvI
import Derived.Test.YtekjnfkmjmmcmamOpDv
import Derived.WalkKit
import Derived.ProofKit
import Derived.OpenShut
import Derived.ShutString
import Derived.ChangeOld
import Derived.Below
namespace Go.Proofs.Ytekjnfkmjmmcmam.fnExactDevsOk
open Go.ChangeShapes Go.WideShapes Go.ChangeAt Go.RowKit
open Go.ChangeMaps (open_string shut_string)
set_option linter.unusedVariables false

theorem own : ownKnob Try.prog.godebug = none := by kernel_rfl
theorem laidOut : laidOutB Try.prog = true := by kernel_rfl

open Wk

set_option maxHeartbeats 1000000 in
set_option maxRecDepth 100000 in
theorem walk (a0 : Option Addr) (len0 cap0 : Nat) (l : List Sm.St) (w : World) (w0 : IsDvs w a0 len0 cap0 l) :
    Calls Try.prog 4 #[.slice a0 len0 cap0] w fun e w' => e = .returned (.bool true) ∧ Below w.heap.size w w' := by
  obtain ⟨rfl, hm, hr⟩ := w0
  unfold maxLen at hm
  by_cases hb : l.length ≤ 1048576
  · go_enter Try.func4, Try.ntmps4
    go_wp2_with (go_at_call 9; go_in)
    go_wp2_with fail
    refine (toDvS a0 cap0 l _ hb hr).mono ?_
    rintro e w1 ⟨rfl, ho1, hb1⟩
    go_wp2_with fail
    refine (specDevs _ _ l _ (by omega) ho1).mono ?_
    rintro e w2 ⟨rfl, hb2⟩
    have hB2 := behind hb1 hb2
    go_wp2_with fail
    refine (toDvS a0 cap0 l _ hb (hr.below hB2)).mono ?_
    rintro e w3 ⟨rfl, ho3, hb3⟩
    have hB3 := behind hB2 hb3
    go_wp2_with fail
    refine (implDevs _ _ l _ (by omega) ho3).mono ?_
    rintro e w4 ⟨rfl, hb4⟩
    have hB4 := behind hB3 hb4
    generalize Dv.devs l = K
    cases K
    all_goals
      go_wp2_with fail
      refine (toDvS a0 cap0 l _ hb (hr.below hB4)).mono ?_
      rintro e w6 ⟨rfl, ho6, hb6⟩
      have hB6 := behind hB4 hb6
      go_wp2_with fail
      refine (eqDvS _ _ _ _ l _ hb ((ho3.below hb4).below hb6) ho6).mono ?_
      rintro e w7 ⟨rfl, hb7⟩
      go_wp2
      go_ret
      exact ⟨rfl, behind hB6 hb7⟩
  · go_enter Try.func4, Try.ntmps4
    go_wp2_with (go_at_call 9; go_in)
    go_wp2
    go_ret
    exact ⟨rfl, Below.refl _ _⟩

set_option maxRecDepth 100000 in
theorem lifted (os : Os) (started : os.Started) (H : Type) (enc : TypeId × Value → H) :
    ReturnsInHanded {} Try.checked os 4 .any (Rows.fnExactDevsOkSpec.pre6 enc Try.prog Try.f4 Rows.fnExactDevsOkRow.domain false) (Rows.fnExactDevsOkSpec.post enc Try.prog Try.f4 false true false false) := by
  refine returnsInHanded_of_change (C := Try.checked) own started (by kernel_rfl) Try.func4
    (ChangeSpec.witness6 (enc := enc) (C := Try.checked) false ⟨#[], #[.slice none 0 0], []⟩ 8 (by kernel_rfl) (by kernel_rfl) (by kernel_rfl) (by kernel_rfl)) ?_
  intro W base args ds gs before hval0 hW hcnd _
  have hval : ∀ (j : Nat) t v, Try.f4.params[j]? = some t → args[j]? = some v → Value.okWide Try.prog W .any base t v := hval0
  have hW' := hW
  obtain ⟨p, q, hA0, hV, rfl, hfz, hnd⟩ := hW
  have hA : DataW.TrodAll enc Try.prog W 0 (fun _ => true) true Try.f4.params.toList args.toList ds p := hA0
  rw [Try.params4] at hA hval
  obtain ⟨v0, vs0, d0, ds0, p0, q0, hargs, rfl, rfl, h0, r0⟩ := trodAll_cons hA
  obtain ⟨rfl, rfl, rfl⟩ := trodAll_nil r0
  obtain rfl : args = #[v0] := by cases args; simp_all
  obtain ⟨rfl, rfl⟩ := trodVars_none hV
  obtain ⟨a0, len0, cap0, rfl⟩ := okWide_slice Try.underlying23 (hval 0 23 v0 rfl rfl)
  have k0 := h0
  have lt0 : ∀ x ∈ p0, x.block < W.heap.size := by obtain ⟨m, hm⟩ := k0; exact DataW.trod_lt m _ _ _ hm
  obtain ⟨z0, w0⟩ := openDvs h0
  clear hA0 hval0
  refine (walk a0 len0 cap0 z0 W w0).mono fun e W' ⟨he, bel⟩ => ?_
  subst he
  exact ⟨_, rfl, _, _, _, [], _, [], hW', trodAll_mk1 (shut_bool Try.underlying4 _), (trodAll_cons_mk (Below.trod laidOut (by kernel_rfl) (of_decide_eq_true (by kernel_rfl)) k0 bel lt0) trodAll_mk0), rfl, bel.frame _, fun h => by cases h⟩

theorem over : Rows.fnExactDevsOkRow.holds Try.pinned (OpenSpec.ofChange Rows.fnExactDevsOkSpec) :=
  OpenClaim.holds_of_wide 4 Try.f4 rfl rfl rfl rfl rfl rfl rfl ⟨rfl, rfl, rfl, rfl, rfl⟩ rfl rfl rfl rfl rfl (by kernel_rfl) Try.func4 (by kernel_rfl)
    (of_decide_eq_true (by kernel_rfl)) (by unfold Func.isWrapper; first | (rw [if_pos (by decide +kernel)]; kernel_rfl) | (rw [if_neg (by decide +kernel)]; exact ⟨rfl, rfl⟩))
    (fun os started H enc _ => lifted os started H enc)

end Go.Proofs.Ytekjnfkmjmmcmam.fnExactDevsOk
namespace Go.Proofs.Ytekjnfkmjmmcmam
theorem fnExactDevsOk_holds : Rows.FnExactDevsOkSaid := fnExactDevsOk.over
#print axioms fnExactDevsOk_holds
end Go.Proofs.Ytekjnfkmjmmcmam
