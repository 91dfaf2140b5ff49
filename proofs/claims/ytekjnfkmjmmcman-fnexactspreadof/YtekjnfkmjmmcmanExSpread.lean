/- SpreadOf of the program answers as the specification does, at every part and every list of devices: the same number; both read behind the call as ahead of it. Where they have more than 2^20 entries together the law itself answers true. -/
import Derived.Test.YtekjnfkmjmmcmanRows
import Derived.Test.YtekjnfkmjmmcmanSpS
import Derived.Test.YtekjnfkmjmmcmanPzI
import Derived.Test.YtekjnfkmjmmcmanRgT
import Derived.Test.YtekjnfkmjmmcmanRgZ
import Derived.Test.YtekjnfkmjmmcmanRgE
import Derived.Test.YtekjnfkmjmmcmanOpRg
import Derived.Test.YtekjnfkmjmmcmanOpDw
import Derived.Test.YtekjnfkmjmmcmanToDvS
import Derived.Test.YtekjnfkmjmmcmanEqDvS
import Derived.WalkKit
import Derived.ProofKit
import Derived.OpenShut
import Derived.ShutString
import Derived.ChangeOld
import Derived.Below
namespace Go.Proofs.Ytekjnfkmjmmcman.fnExactSpreadOf
open Go.ChangeShapes Go.WideShapes Go.ChangeAt Go.RowKit
open Go.ChangeMaps (open_string shut_string)
set_option linter.unusedVariables false

theorem own : ownKnob Try.prog.godebug = none := by kernel_rfl
theorem laidOut : laidOutB Try.prog = true := by kernel_rfl

open Wk

set_option maxHeartbeats 2000000 in
set_option maxRecDepth 100000 in
theorem walk (a1 : Option Addr) (cap1 : Nat) (p : List Int) (a2 : Option Addr) (len2 cap2 : Nat) (l : List Sm.St) (w : World) (wl1 : p.length ≤ maxLen) (w1 : RdZ w a1 p) (w2 : IsDvz w a2 len2 cap2 l) :
    Calls Try.prog 5 #[.agg #[.slice a1 p.length cap1], .slice a2 len2 cap2] w fun e w' => e = .returned (.bool true) ∧ Below w.heap.size w w' := by
  obtain ⟨rfl, hm2, hr2, hwf⟩ := w2
  unfold maxLen at wl1 hm2
  have cP := fun w => szPt a1 p.length cap1 1048576 w (by omega) (by omega)
  have e20 : ((1048576 : Nat) : Int) = 1048576 := rfl
  rw [e20] at cP
  clear e20
  have hB0 := bel1 w (.cells #[.slice a1 p.length cap1] 42)
  have s1 := slot1New w (.slice a1 p.length cap1) 42
  by_cases hB : 1048576 < p.length
  · rw [szV_no hB] at cP
    go_enter Try.func5, Try.ntmps5
    go_wp2_with fail
    refine (cP _).mono ?_
    rintro e w2 ⟨rfl, hb2⟩
    go_wp2
    go_ret
    exact ⟨rfl, behind hB0 hb2⟩
  · rw [szV_yes hB] at cP
    obtain ⟨M, hM⟩ : ∃ M : Nat, ((1048576 : Nat) : Int) - (p.length : Int) = M := ⟨1048576 - p.length, by omega⟩
    rw [hM] at cP
    have hM1 : M ≤ 1048576 := by omega
    have hp1 : p.length ≤ 1048576 := by omega
    clear hM hB
    by_cases hC : l.length ≤ M
    · have hl1 : l.length ≤ 1048576 := by omega
      have cS := fun b c cb cc w h2 h3 => specSpread b c cb cc p l w hp1 hl1 h2 h3
      have cI := fun b c cb cc w h2 h3 => implSpread b c cb cc p l w hp1 hl1 h2 h3 hwf
      clear hwf
      generalize ((Rg.zns l p).length : Int) = G at cS cI
      go_enter Try.func5, Try.ntmps5
      go_wp2_with fail
      refine (cP _).mono ?_
      rintro e w2 ⟨rfl, hb2⟩
      have hB2 := behind hB0 hb2
      have hB2d : Below w.heap.size w w2.drew := hB2.drew
      have t1 := s1.below hb2
      obtain ⟨r2', -⟩ := id t1
      clear cP
      go_wp2_with (go_at_call 9; go_in)
      go_wp2_with fail
      refine (toPt a1 cap1 p _ hp1 (w1.below hB2)).mono ?_
      rintro e w3 ⟨g3, rfl, -, ho3, hb3⟩
      have hB3 := behind hB2 hb3
      go_wp2_with fail
      refine (toDvS a2 cap2 l _ hl1 (hr2.below hB3)).mono ?_
      rintro e w4 ⟨rfl, ho4, hb4⟩
      have hB4 := behind hB3 hb4
      go_wp2_with fail
      refine (cS _ _ _ _ _ ((Zv_rd ho3).below hb4) ho4).mono ?_
      rintro e w6 ⟨rfl, hb6⟩
      have hB6 := behind hB4 hb6
      have t1 := ((t1.below hb3).below hb4).below hb6
      obtain ⟨r26, -⟩ := id t1
      clear ho3 ho4 r2'
      go_wp2_with fail
      refine (toPt a1 cap1 p _ hp1 (w1.below hB6)).mono ?_
      rintro e w8 ⟨g8, rfl, -, ho8, hb8⟩
      have b8 := bel1 w8 (.cells #[.slice (some ⟨g8, 0, none⟩) p.length p.length] 45)
      have hB8 := behind (behind hB6 hb8) b8
      have t1 := (t1.below hb8).below b8
      have y8 := slot1New w8 (.slice (some ⟨g8, 0, none⟩) p.length p.length) 45
      have hz8 := (Zv_rd ho8).below b8
      clear ho8
      go_wp2_with fail
      refine (toDvS a2 cap2 l _ hl1 (hr2.below hB8)).mono ?_
      rintro e w9 ⟨rfl, ho9, hb9⟩
      have hB9 := behind hB8 hb9
      have t1 := t1.below hb9
      have y9 := y8.below hb9
      have hz9 := hz8.below hb9
      simp only [World.size_alloc] at ho9 ⊢
      obtain ⟨y90, -⟩ := id y9
      clear y8 hz8
      go_wp2_with fail
      refine (cI _ _ _ _ _ hz9 ho9).mono ?_
      rintro e v0 ⟨rfl, hb0⟩
      have hD2 := (behind hB9 hb0).drew
      obtain ⟨f2, -⟩ := t1.below hb0
      obtain ⟨f5, -⟩ := y9.below hb0
      have hz2 := hz9.below hb0
      have ho2 := ho9.below hb0
      clear t1 y9 hz9 ho9 y90
      go_wp2_with fail
      go_region_held3 (fun wy => wy.cell? ⟨w.heap.size, 0, none⟩ = some (.slice a1 p.length cap1) ∧ wy.cell? ⟨w8.heap.size, 0, none⟩ = some (.slice (some ⟨g8, 0, none⟩) p.length p.length))
        (first | exact ⟨f2, f5⟩ | exact keepR2 ‹_› ‹_› | go_keep)
        (first | (go_at_call 20; refine (toPt a1 cap1 p _ hp1 (by exact RdZ.below w1 hD2)).mono ?_; rintro e v3 ⟨h3, rfl, -, ho3, hc3⟩) | (go_at_call 22; refine (eqPt _ _ _ _ p _ hp1 (by exact RdZ.below (w := v0.drew) hz2 hc3) (by exact Zv_rd ho3)).mono ?_; rintro e v4 ⟨rfl, hc4⟩))
      have hF4 := behind hc3 hc4
      have hD4 := behind hD2 hF4
      have ho4 := RdS.below (w := v0.drew) ho2 hF4
      clear ho3 f2 f5 hz2 ho2
      go_wp2_with fail
      refine (toDvS a2 cap2 l _ hl1 (hr2.below hD4)).mono ?_
      rintro e v5 ⟨rfl, ho5, hc5⟩
      go_wp2_with fail
      refine (eqDvS _ _ _ _ l _ hl1 (ho4.below hc5) ho5).mono ?_
      rintro e v6 ⟨rfl, hc6⟩
      go_wp2
      go_ret
      exact ⟨rfl, behind (behind hD4 hc5) hc6⟩
    · go_enter Try.func5, Try.ntmps5
      have hC' : (M : Int) - (l.length : Int) < 0 := by omega
      go_wp2_with fail
      refine (cP _).mono ?_
      rintro e w2 ⟨rfl, hb2⟩
      go_wp2_with (go_at_call 9; go_in)
      go_wp2
      go_ret
      exact ⟨rfl, behind hB0 hb2⟩

set_option maxRecDepth 100000 in
theorem lifted (os : Os) (started : os.Started) (H : Type) (enc : TypeId × Value → H) :
    ReturnsInHanded {} Try.checked os 5 .any (Rows.fnExactSpreadOfSpec.pre6 enc Try.prog Try.f5 Rows.fnExactSpreadOfRow.domain false) (Rows.fnExactSpreadOfSpec.post enc Try.prog Try.f5 false true false false) := by
  refine returnsInHanded_of_change (C := Try.checked) own started (by kernel_rfl) Try.func5
    (ChangeSpec.witness6 (enc := enc) (C := Try.checked) false ⟨#[], #[.agg #[.slice none 0 0], .slice none 0 0], []⟩ 8 (by kernel_rfl) (by kernel_rfl) (by kernel_rfl) (by kernel_rfl)) ?_
  intro W base args ds gs before hval0 hW hcnd _
  have hval : ∀ (j : Nat) t v, Try.f5.params[j]? = some t → args[j]? = some v → Value.okWide Try.prog W .any base t v := hval0
  have hW' := hW
  obtain ⟨p, q, hA0, hV, rfl, hfz, hnd⟩ := hW
  have hA : DataW.TrodAll enc Try.prog W 0 (fun _ => true) true Try.f5.params.toList args.toList ds p := hA0
  rw [Try.params5] at hA hval
  obtain ⟨v0, vs0, d0, ds0, p0, q0, hargs, rfl, rfl, h0, r0⟩ := trodAll_cons hA
  obtain ⟨v1, vs1, d1, ds1, p1, q1, rfl, rfl, rfl, h1, r1⟩ := trodAll_cons r0
  obtain ⟨rfl, rfl, rfl⟩ := trodAll_nil r1
  obtain rfl : args = #[v0, v1] := by cases args; simp_all
  obtain ⟨rfl, rfl⟩ := trodVars_none hV
  have k0 := h0
  have lt0 : ∀ x ∈ p0, x.block < W.heap.size := by obtain ⟨m, hm⟩ := k0; exact DataW.trod_lt m _ _ _ hm
  obtain ⟨a0, cap0, z0, rfl, wl0, w0⟩ := openPtV (hval 0 42 v0 rfl rfl) h0
  obtain ⟨a1, len1, cap1, rfl⟩ := okWide_slice Try.underlying25 (hval 1 25 v1 rfl rfl)
  have k1 := h1
  have lt1 : ∀ x ∈ p1, x.block < W.heap.size := by obtain ⟨m, hm⟩ := k1; exact DataW.trod_lt m _ _ _ hm
  obtain ⟨z1, w1⟩ := openDvz h1
  clear hA0 hval0
  refine (walk a0 cap0 z0 a1 len1 cap1 z1 W wl0 w0 w1).mono fun e W' ⟨he, bel⟩ => ?_
  subst he
  exact ⟨_, rfl, _, _, _, [], _, [], hW', trodAll_mk1 (shut_bool Try.underlying4 _), (trodAll_cons_mk (Below.trod laidOut (by kernel_rfl) (of_decide_eq_true (by kernel_rfl)) k0 bel lt0) (trodAll_cons_mk (Below.trod laidOut (by kernel_rfl) (of_decide_eq_true (by kernel_rfl)) k1 bel lt1) trodAll_mk0)), rfl, bel.frame _, fun h => by cases h⟩

theorem over : Rows.fnExactSpreadOfRow.holds Try.pinned (OpenSpec.ofChange Rows.fnExactSpreadOfSpec) :=
  OpenClaim.holds_of_wide 5 Try.f5 rfl rfl rfl rfl rfl rfl rfl ⟨rfl, rfl, rfl, rfl, rfl⟩ rfl rfl rfl rfl rfl (by kernel_rfl) Try.func5 (by kernel_rfl)
    (of_decide_eq_true (by kernel_rfl)) (by unfold Func.isWrapper; first | (rw [if_pos (by decide +kernel)]; kernel_rfl) | (rw [if_neg (by decide +kernel)]; exact ⟨rfl, rfl⟩))
    (fun os started H enc _ => lifted os started H enc)

end Go.Proofs.Ytekjnfkmjmmcman.fnExactSpreadOf
namespace Go.Proofs.Ytekjnfkmjmmcman
theorem fnExactSpreadOf_holds : Rows.FnExactSpreadOfSaid := fnExactSpreadOf.over
#print axioms fnExactSpreadOf_holds
end Go.Proofs.Ytekjnfkmjmmcman
