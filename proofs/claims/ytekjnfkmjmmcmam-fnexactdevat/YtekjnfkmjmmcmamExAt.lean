/- For every list of devices and every Id the law FnExactDevAt returns true: the program's DevAt answers as the specification's, field by field, and its argument reads afterwards as before. Conditions: none beyond the row's own. -/
import Derived.Test.YtekjnfkmjmmcmamRows
import Derived.Test.YtekjnfkmjmmcmamToDvS
import Derived.Test.YtekjnfkmjmmcmamEqDvS
import Derived.Test.YtekjnfkmjmmcmamAtS
import Derived.Test.YtekjnfkmjmmcmamAtI
import Derived.Test.YtekjnfkmjmmcmamOpDv
import Derived.WalkKit
import Derived.ProofKit
import Derived.OpenShut
import Derived.ShutString
import Derived.ChangeOld
import Derived.Below
namespace Go.Proofs.Ytekjnfkmjmmcmam.fnExactDevAt
open Go.ChangeShapes Go.WideShapes Go.ChangeAt Go.RowKit
open Go.ChangeMaps (open_string shut_string)
set_option linter.unusedVariables false

theorem own : ownKnob Try.prog.godebug = none := by kernel_rfl
theorem laidOut : laidOutB Try.prog = true := by kernel_rfl

open Wk

set_option maxHeartbeats 1000000 in
set_option maxRecDepth 100000 in
theorem walk (a0 : Option Addr) (len0 cap0 : Nat) (l : List Sm.St) (idn : Int) (w : World) (w0 : IsDvs w a0 len0 cap0 l) (w1 : (Lit.int .i64 idn).wf = true) :
    Calls Try.prog 5 #[.slice a0 len0 cap0, .int .i64 idn] w fun e w' => e = .returned (.bool true) ∧ Below w.heap.size w w' := by
  clear w1
  obtain ⟨rfl, hm, hr⟩ := w0
  unfold maxLen at hm
  by_cases hb : l.length ≤ 1048576
  · obtain ⟨i, z, n, B, hV⟩ : ∃ (i z n : Int) (B : Bool), dvAtV (Dv.at_ l idn) = .tuple #[.agg #[.int .i64 i, .int .i64 z, .int .i64 n], .bool B] := by
      cases Dv.at_ l idn with
      | none => exact ⟨_, _, _, _, rfl⟩
      | some x => exact ⟨_, _, _, _, rfl⟩
    have cS := fun a cap w h => specAt a cap l idn w hb h
    have cI := fun a cap w h => implAt a cap l idn w hb h
    rw [hV] at cS cI
    clear hV
    go_enter Try.func5, Try.ntmps5
    go_wp2_with (go_at_call 9; go_in)
    go_wp2_with fail
    refine (toDvS a0 cap0 l _ hb hr).mono ?_
    rintro e w1 ⟨rfl, ho1, hb1⟩
    go_wp2_with fail
    refine (cS _ _ _ ho1).mono ?_
    rintro e w2 ⟨rfl, hb2⟩
    have hB2 := behind hb1 hb2
    have y2 := boxNew w2 i z n 31
    go_wp2_with fail
    refine (toDvS a0 cap0 l _ hb (hr.below (behind hB2 (bel1 _ _)))).mono ?_
    rintro e w3 ⟨rfl, ho3, hb3⟩
    simp only [World.size_alloc] at ho3
    have y3 := y2.below hb3
    have hB3 := behind (behind hB2 (bel1 _ _)) hb3
    go_wp2_with fail
    refine (cI _ _ _ ho3).mono ?_
    rintro e w4 ⟨rfl, hb4⟩
    have hB4 := behind hB3 hb4
    have y4 := y3.below hb4
    have x4 := boxNew w4 i z n 31
    obtain ⟨r0, r1, r2⟩ := y4.below (bel1 _ (.cells #[.int .i64 i, .int .i64 z, .int .i64 n] 31))
    obtain ⟨s0, s1, s2⟩ := id x4
    have hB5 := behind hB4 (bel1 _ (.cells #[.int .i64 i, .int .i64 z, .int .i64 n] 31))
    have ho4 := (ho3.below hb4).below (bel1 _ (.cells #[.int .i64 i, .int .i64 z, .int .i64 n] 31))
    cases B
    all_goals
      go_wp2_with fail
      refine (eqDv i z n _).mono ?_
      rintro e w5 ⟨rfl, hb5⟩
      have hB6 := behind hB5 hb5
      go_wp2_with fail
      refine (toDvS a0 cap0 l _ hb (hr.below hB6)).mono ?_
      rintro e w6 ⟨rfl, ho6, hb6⟩
      have hB7 := behind hB6 hb6
      go_wp2_with fail
      refine (eqDvS _ _ _ _ l _ hb ((ho4.below hb5).below hb6) ho6).mono ?_
      rintro e w7 ⟨rfl, hb7⟩
      go_wp2
      go_ret
      exact ⟨rfl, behind hB7 hb7⟩
  · go_enter Try.func5, Try.ntmps5
    go_wp2_with (go_at_call 9; go_in)
    go_wp2
    go_ret
    exact ⟨rfl, Below.refl _ _⟩

set_option maxRecDepth 100000 in
theorem lifted (os : Os) (started : os.Started) (H : Type) (enc : TypeId × Value → H) :
    ReturnsInHanded {} Try.checked os 5 .any (Rows.fnExactDevAtSpec.pre6 enc Try.prog Try.f5 Rows.fnExactDevAtRow.domain false) (Rows.fnExactDevAtSpec.post enc Try.prog Try.f5 false true false false) := by
  refine returnsInHanded_of_change (C := Try.checked) own started (by kernel_rfl) Try.func5
    (ChangeSpec.witness6 (enc := enc) (C := Try.checked) false ⟨#[], #[.slice none 0 0, .int .i64 0], []⟩ 8 (by kernel_rfl) (by kernel_rfl) (by kernel_rfl) (by kernel_rfl)) ?_
  intro W base args ds gs before hval0 hW hcnd _
  have hval : ∀ (j : Nat) t v, Try.f5.params[j]? = some t → args[j]? = some v → Value.okWide Try.prog W .any base t v := hval0
  have hW' := hW
  obtain ⟨p, q, hA0, hV, rfl, hfz, hnd⟩ := hW
  have hA : DataW.TrodAll enc Try.prog W 0 (fun _ => true) true Try.f5.params.toList args.toList ds p := hA0
  rw [Try.params5] at hA hval
  obtain ⟨v0, vs0, d0, ds0, p0, q0, hargs, rfl, rfl, h0, r0⟩ := trodAll_cons hA
  obtain ⟨v1, vs1, d1, ds1, p1, q1, rfl, rfl, rfl, h1, r1⟩ := trodAll_cons r0
  obtain ⟨rfl, rfl, rfl⟩ := trodAll_nil r1
  obtain rfl : args = #[v0, v1] := by cases args; simp_all
  obtain ⟨rfl, rfl⟩ := trodVars_none hV
  obtain ⟨a0, len0, cap0, rfl⟩ := okWide_slice Try.underlying23 (hval 0 23 v0 rfl rfl)
  have k0 := h0
  have lt0 : ∀ x ∈ p0, x.block < W.heap.size := by obtain ⟨m, hm⟩ := k0; exact DataW.trod_lt m _ _ _ hm
  obtain ⟨z0, w0⟩ := openDvs h0
  have k1 := h1
  have lt1 : ∀ x ∈ p1, x.block < W.heap.size := by obtain ⟨m, hm⟩ := k1; exact DataW.trod_lt m _ _ _ hm
  obtain ⟨a1, rfl, rfl, rfl, w1⟩ := open_int Try.underlying3 (hval 1 3 v1 rfl rfl) h1
  clear hA0 hval0
  refine (walk a0 len0 cap0 z0 a1 W w0 w1).mono fun e W' ⟨he, bel⟩ => ?_
  subst he
  exact ⟨_, rfl, _, _, _, [], _, [], hW', trodAll_mk1 (shut_bool Try.underlying4 _), (trodAll_cons_mk (Below.trod laidOut (by kernel_rfl) (of_decide_eq_true (by kernel_rfl)) k0 bel lt0) (trodAll_cons_mk (Below.trod laidOut (by kernel_rfl) (of_decide_eq_true (by kernel_rfl)) k1 bel lt1) trodAll_mk0)), rfl, bel.frame _, fun h => by cases h⟩

theorem over : Rows.fnExactDevAtRow.holds Try.pinned (OpenSpec.ofChange Rows.fnExactDevAtSpec) :=
  OpenClaim.holds_of_wide 5 Try.f5 rfl rfl rfl rfl rfl rfl rfl ⟨rfl, rfl, rfl, rfl, rfl⟩ rfl rfl rfl rfl rfl (by kernel_rfl) Try.func5 (by kernel_rfl)
    (of_decide_eq_true (by kernel_rfl)) (by unfold Func.isWrapper; first | (rw [if_pos (by decide +kernel)]; kernel_rfl) | (rw [if_neg (by decide +kernel)]; exact ⟨rfl, rfl⟩))
    (fun os started H enc _ => lifted os started H enc)

end Go.Proofs.Ytekjnfkmjmmcmam.fnExactDevAt
namespace Go.Proofs.Ytekjnfkmjmmcmam
theorem fnExactDevAt_holds : Rows.FnExactDevAtSaid := fnExactDevAt.over
#print axioms fnExactDevAt_holds
end Go.Proofs.Ytekjnfkmjmmcmam
