/- Build of the program answers as the specification does, at every list of devices and every two numbers: the same ring and the same bool; the devices read behind the call as ahead of it; the ring lies in memory of its own: marks in the devices do not change it, and marks in it stay behind a second call. Where the devices are more than 2^20 the law itself answers true. -/
import Derived.Test.YtcejeiakgmamdanRows
import Derived.Test.YtcejeiakgmamdanBuX
import Derived.Test.YtcejeiakgmamdanRgK
import Derived.Test.YtcejeiakgmamdanRgT
import Derived.Test.YtcejeiakgmamdanRgZ
import Derived.Test.YtcejeiakgmamdanRgE
import Derived.Test.YtcejeiakgmamdanOpDv
import Derived.Test.YtcejeiakgmamdanToDvS
import Derived.Test.YtcejeiakgmamdanToDvO
import Derived.Test.YtcejeiakgmamdanEqDvS
import Derived.Test.YtcejeiakgmamdanMkDv
import Derived.WalkKit
import Derived.ProofKit
import Derived.OpenShut
import Derived.ShutString
import Derived.ChangeOld
import Derived.Below
namespace Go.Proofs.Ytcejeiakgmamdan.fnExactBuild
open Go.ChangeShapes Go.WideShapes Go.ChangeAt Go.RowKit
open Go.ChangeMaps (open_string shut_string)
set_option linter.unusedVariables false

theorem own : ownKnob Try.prog.godebug = none := by kernel_rfl
theorem laidOut : laidOutB Try.prog = true := by kernel_rfl

open Wk

theorem Slot2.blk {w w' : World} {b : Nat} {u v : Value} (h : Slot2 w b u v) (e : w'.heap[b]? = w.heap[b]?) : Slot2 w' b u v :=
  ⟨⟨by rw [World.cell?_of_block (w := w) e]; exact h.1.1, by rw [World.cell?_of_block (w := w) e]; exact h.1.2⟩, by rw [World.frozen?_of_block (w := w) e]; exact h.2.1, by rw [World.frozen?_of_block (w := w) e]; exact h.2.2⟩

set_option maxHeartbeats 4000000 in
set_option maxRecDepth 100000 in
theorem walk (a0 : Option Addr) (len0 cap0 : Nat) (l : List Sm.St) (parts reps : Int) (w : World) (w0 : IsDvs w a0 len0 cap0 l) (w1 : (Lit.int .i64 parts).wf = true) (w2 : (Lit.int .i64 reps).wf = true) :
    Calls Try.prog 7 #[.slice a0 len0 cap0, .int .i64 parts, .int .i64 reps] w fun e w' => e = .returned (.bool true) ∧ Below w.heap.size w w' := by
  clear w1 w2
  obtain ⟨rfl, hm, hr⟩ := w0
  unfold maxLen at hm
  by_cases hb : l.length ≤ 1048576
  · obtain ⟨R, Q, ok, hQ, hT, hP, cS, cI⟩ := bothBuild l parts reps hb
    have hqt : ¬ ((1 : Int) + (tot Q : Int) < 0) := by omega
    have hqd : ¬ ((1 : Int) + 3 * (l.length : Int) < 0) := by omega
    have hQl : Q.length ≤ 1048576 := by omega
    clear hm
    go_enter Try.func7, Try.ntmps7
    go_wp2_with (go_at_call 10; go_in)
    go_wp2_with fail
    refine (toDvS a0 cap0 l _ hb hr).mono ?_
    rintro e w1 ⟨rfl, ho1, hb1⟩
    go_wp2_with fail
    refine (cS _ _ _ ho1).mono ?_
    rintro e w2 ⟨aS, caS, rfl, hOS, hb2⟩
    have s2 := slot2New w2 (.int .i64 R) (.slice aS Q.length caS) 31
    have b2 := bel1 w2 (.cells #[.int .i64 R, .slice aS Q.length caS] 31)
    have hB2 := behind (behind hb1 hb2) b2
    have hRS := hOS.rdS.below b2
    clear cS ho1 hOS hb1 hb2
    go_wp2_with fail
    generalize w2.alloc (.cells #[.int .i64 R, .slice aS Q.length caS] 31) = wA at s2 b2 hB2 hRS ⊢
    refine (toDvO a0 cap0 l _ hb (hr.below hB2)).mono ?_
    rintro e w3 ⟨rfl, ho3, ⟨xs, hx3⟩, hb3⟩
    have hg3 : wA.heap.size < w3.heap.size := (World.ownsRow.lt hx3 wA.heap.size rfl).2
    have hB3 := behind hB2 hb3
    clear b2
    go_wp2_with fail
    refine (cI _ _ _ ho3).mono ?_
    rintro e w4 ⟨aI, caI, rfl, hOI, hb4⟩
    have hs4 := hb4.size
    have s4 := slot2New w4 (.int .i64 R) (.slice aI Q.length caI) 31
    have b4 := bel1 w4 (.cells #[.int .i64 R, .slice aI Q.length caI] 31)
    have hA4 := behind (behind hb3 hb4) b4
    have hB4 := behind (behind hB3 hb4) b4
    have hM4 := hOI.top.below b4
    have x4 := ownOn (ownOn hx3 hb4) b4
    have r4 := (ho3.below hb4).below b4
    obtain ⟨⟨t0, t1⟩, -⟩ := id s4
    obtain ⟨⟨u0, u1⟩, -⟩ := s2.below hA4
    clear ho3 hx3 hOI hb3 hb4
    go_wp2_with fail
    clear t0 t1 u0 u1
    generalize w4.alloc (.cells #[.int .i64 R, .slice aI Q.length caI] 31) = wB at s4 b4 hA4 hB4 hM4 x4 r4 ⊢
    refine (eqRg R aI aS caI caS Q _ hQl hP hM4.own.rdS (hRS.below hA4)).mono ?_
    rintro e w5 ⟨rfl, hb5⟩
    have hB5 := behind hB4 hb5
    clear b4
    go_wp2_with fail
    refine (toDvS a0 cap0 l _ hb (hr.below hB5)).mono ?_
    rintro e w6 ⟨rfl, ho6, hb6⟩
    have hb56 := behind hb5 hb6
    have hB6 := behind hB5 hb6
    go_wp2_with fail
    refine (eqDvS _ _ _ _ l _ hb (r4.below hb56) ho6).mono ?_
    rintro e w7 ⟨rfl, hb7⟩
    have hb57 := behind hb56 hb7
    have hB7 := behind hB6 hb7
    have hA7 := behind hA4 hb57
    have x7 := ownOn x4 hb57
    have s7 := s4.below hb57
    have hM7 := hM4.below hb57
    clear ho6 r4 x4 s4 hM4 hA4 hb5 hb6 hb7 hb56 hb57 hB4 hB5 hB6
    go_wp2_with fail
    refine (markDvS _ _ _ _ 1 _ _ hb (by omega) x7).mono ?_
    rintro e w8 ⟨rfl, -, hg8⟩
    have s8 := Slot2.grown s7 hg8 (fun e => by simp only [Option.some.injEq] at e; omega)
    have hA8 : Below wA.heap.size wA w8 := hA7.grown hg8 hA7.size (fun j e => by cases e; exact Nat.le_refl _)
    have hB8 : Below w.heap.size w w8 := hB7.grown hg8 hB7.size (fun j e => by cases e; exact hB2.size)
    have hM8 := hM7.farG hg8 hg3
    clear x7 s7 hM7 hg8 hA7 hB7
    obtain ⟨⟨t0, t1⟩, -⟩ := id s8
    obtain ⟨⟨u0, u1⟩, -⟩ := s2.below hA8
    go_wp2_with fail
    clear t0 t1 u0 u1
    refine (eqRg R aI aS caI caS Q _ hQl hP hM8.own.rdS (hRS.below hA8)).mono ?_
    rintro e w9 ⟨rfl, hb9⟩
    have s9 := s8.below hb9
    have hA9 := behind hA8 hb9
    have hB9 := behind hB8 hb9
    have hM9 := hM8.below hb9
    have hs9 : w3.heap.size ≤ w9.heap.size := by
      have := s9.lt
      omega
    clear s8 hA8 hB8 hM8 hb9
    obtain ⟨⟨t0, t1⟩, -⟩ := id s9
    go_wp2_with fail
    clear t0 t1
    refine (markRgA R w4.heap.size w3.heap.size aI caI 1 Q _ hQl hT (by omega) hs9 hM9).mono ?_
    rintro e w10 ⟨rfl, hR10, hb10, hf10⟩
    have s10 := Slot2.blk s9 (hf10 _ (Nat.le_refl _) s9.lt)
    have hA10 : Below wA.heap.size wA w10 := hA9.trans (hb10.mono (by omega))
    have hB10 : Below w.heap.size w w10 := hB9.trans (hb10.mono hB3.size)
    clear s9 hA9 hB9 hM9 hf10 hb10 hs9
    obtain ⟨⟨t0, t1⟩, -⟩ := id s10
    go_wp2_with fail
    clear t0 t1
    refine (heldRg R aI caI 1 Q _ hQl hT (by omega) hR10).mono ?_
    rintro e w11 ⟨rfl, hb11⟩
    have hB11 := behind hB10 hb11
    go_wp2_with fail
    refine (toDvS a0 cap0 l _ hb (hr.below hB11)).mono ?_
    rintro e w12 ⟨rfl, ho12, hb12⟩
    have hB12 := behind hB11 hb12
    have hb1012 := behind hb11 hb12
    go_wp2_with fail
    refine (cI _ _ _ ho12).mono ?_
    rintro e w13 ⟨aH, caH, rfl, hOH, hb13⟩
    have s13 := slot2New w13 (.int .i64 R) (.slice aH Q.length caH) 31
    have b13 := bel1 w13 (.cells #[.int .i64 R, .slice aH Q.length caH] 31)
    have hB13 := behind (behind hB12 hb13) b13
    have hb1013 := behind (behind hb1012 hb13) b13
    have hRH := hOH.rdS.below b13
    have hA13 := behind hA10 hb1013
    have s1113 := s10.below hb1013
    obtain ⟨⟨t0, t1⟩, -⟩ := id s13
    obtain ⟨⟨u0, u1⟩, -⟩ := s2.below hA13
    clear ho12 hOH hb11 hb12 hb13 hb1012 hB11 hB12 cI
    go_wp2_with fail
    clear t0 t1 u0 u1
    generalize w13.alloc (.cells #[.int .i64 R, .slice aH Q.length caH] 31) = wC at s13 b13 hB13 hb1013 hRH hA13 s1113 ⊢
    refine (eqRg R aH aS caH caS Q _ hQl hP hRH (hRS.below hA13)).mono ?_
    rintro e w14 ⟨rfl, hb14⟩
    have hB14 := behind hB13 hb14
    have hR14 := (hR10.below hb1013).below hb14
    obtain ⟨⟨t0, t1⟩, -⟩ := s1113.below hb14
    clear s13 b13 s1113 hRH hA13 hb1013 hb14
    go_wp2_with fail
    clear t0 t1
    refine (heldRg R aI caI 1 Q _ hQl hT (by omega) hR14).mono ?_
    rintro e w15 ⟨rfl, hb15⟩
    have hB15 := behind hB14 hb15
    go_wp2
    go_ret
    exact ⟨rfl, hB15⟩
  · go_enter Try.func7, Try.ntmps7
    go_wp2_with (go_at_call 10; go_in)
    go_wp2
    go_ret
    exact ⟨rfl, Below.refl _ _⟩

set_option maxRecDepth 100000 in
theorem lifted (os : Os) (started : os.Started) (H : Type) (enc : TypeId × Value → H) :
    ReturnsInHanded {} Try.checked os 7 .any (Rows.fnExactBuildSpec.pre6 enc Try.prog Try.f7 Rows.fnExactBuildRow.domain false) (Rows.fnExactBuildSpec.post enc Try.prog Try.f7 false true false false) := by
  refine returnsInHanded_of_change (C := Try.checked) own started (by kernel_rfl) Try.func7
    (ChangeSpec.witness6 (enc := enc) (C := Try.checked) false ⟨#[], #[.slice none 0 0, .int .i64 0, .int .i64 0], []⟩ 8 (by kernel_rfl) (by kernel_rfl) (by kernel_rfl) (by kernel_rfl)) ?_
  intro W base args ds gs before hval0 hW hcnd _
  have hval : ∀ (j : Nat) t v, Try.f7.params[j]? = some t → args[j]? = some v → Value.okWide Try.prog W .any base t v := hval0
  have hW' := hW
  obtain ⟨p, q, hA0, hV, rfl, hfz, hnd⟩ := hW
  have hA : DataW.TrodAll enc Try.prog W 0 (fun _ => true) true Try.f7.params.toList args.toList ds p := hA0
  rw [Try.params7] at hA hval
  obtain ⟨v0, vs0, d0, ds0, p0, q0, hargs, rfl, rfl, h0, r0⟩ := trodAll_cons hA
  obtain ⟨v1, vs1, d1, ds1, p1, q1, rfl, rfl, rfl, h1, r1⟩ := trodAll_cons r0
  obtain ⟨v2, vs2, d2, ds2, p2, q2, rfl, rfl, rfl, h2, r2⟩ := trodAll_cons r1
  obtain ⟨rfl, rfl, rfl⟩ := trodAll_nil r2
  obtain rfl : args = #[v0, v1, v2] := by cases args; simp_all
  obtain ⟨rfl, rfl⟩ := trodVars_none hV
  obtain ⟨a0, len0, cap0, rfl⟩ := okWide_slice Try.underlying25 (hval 0 25 v0 rfl rfl)
  have k0 := h0
  have lt0 : ∀ x ∈ p0, x.block < W.heap.size := by obtain ⟨m, hm⟩ := k0; exact DataW.trod_lt m _ _ _ hm
  obtain ⟨z0, w0⟩ := openDvs h0
  have k1 := h1
  have lt1 : ∀ x ∈ p1, x.block < W.heap.size := by obtain ⟨m, hm⟩ := k1; exact DataW.trod_lt m _ _ _ hm
  obtain ⟨a1, rfl, rfl, rfl, w1⟩ := open_int Try.underlying3 (hval 1 3 v1 rfl rfl) h1
  have k2 := h2
  have lt2 : ∀ x ∈ p2, x.block < W.heap.size := by obtain ⟨m, hm⟩ := k2; exact DataW.trod_lt m _ _ _ hm
  obtain ⟨a2, rfl, rfl, rfl, w2⟩ := open_int Try.underlying3 (hval 2 3 v2 rfl rfl) h2
  clear hA0 hval0
  refine (walk a0 len0 cap0 z0 a1 a2 W w0 w1 w2).mono fun e W' ⟨he, bel⟩ => ?_
  subst he
  exact ⟨_, rfl, _, _, _, [], _, [], hW', trodAll_mk1 (shut_bool Try.underlying4 _), (trodAll_cons_mk (Below.trod laidOut (by kernel_rfl) (of_decide_eq_true (by kernel_rfl)) k0 bel lt0) (trodAll_cons_mk (Below.trod laidOut (by kernel_rfl) (of_decide_eq_true (by kernel_rfl)) k1 bel lt1) (trodAll_cons_mk (Below.trod laidOut (by kernel_rfl) (of_decide_eq_true (by kernel_rfl)) k2 bel lt2) trodAll_mk0))), rfl, bel.frame _, fun h => by cases h⟩

theorem over : Rows.fnExactBuildRow.holds Try.pinned (OpenSpec.ofChange Rows.fnExactBuildSpec) :=
  OpenClaim.holds_of_wide 7 Try.f7 rfl rfl rfl rfl rfl rfl rfl ⟨rfl, rfl, rfl, rfl, rfl⟩ rfl rfl rfl rfl rfl (by kernel_rfl) Try.func7 (by kernel_rfl)
    (of_decide_eq_true (by kernel_rfl)) (by unfold Func.isWrapper; first | (rw [if_pos (by decide +kernel)]; kernel_rfl) | (rw [if_neg (by decide +kernel)]; exact ⟨rfl, rfl⟩))
    (fun os started H enc _ => lifted os started H enc)

end Go.Proofs.Ytcejeiakgmamdan.fnExactBuild
namespace Go.Proofs.Ytcejeiakgmamdan
theorem fnExactBuild_holds : Rows.FnExactBuildSaid := fnExactBuild.over
#print axioms fnExactBuild_holds
end Go.Proofs.Ytcejeiakgmamdan
