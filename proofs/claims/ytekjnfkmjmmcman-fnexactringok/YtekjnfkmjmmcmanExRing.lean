/- RingOk of the program answers as the specification does, at every ring and every list of devices: the same bool; both read behind the call as ahead of it. Where ring and devices together have more than 2^20 entries the law itself answers true. -/
import Derived.Test.YtekjnfkmjmmcmanRows
import Derived.Test.YtekjnfkmjmmcmanRkS
import Derived.Test.YtekjnfkmjmmcmanRkI
import Derived.Test.YtekjnfkmjmmcmanRgT
import Derived.Test.YtekjnfkmjmmcmanRgZ
import Derived.Test.YtekjnfkmjmmcmanRgE
import Derived.Test.YtekjnfkmjmmcmanOpRg
import Derived.Test.YtekjnfkmjmmcmanOpDv
import Derived.Test.YtekjnfkmjmmcmanToDvS
import Derived.Test.YtekjnfkmjmmcmanEqDvS
import Derived.WalkKit
import Derived.ProofKit
import Derived.OpenShut
import Derived.ShutString
import Derived.ChangeOld
import Derived.Below
namespace Go.Proofs.Ytekjnfkmjmmcman.fnExactRingOk
open Go.ChangeShapes Go.WideShapes Go.ChangeAt Go.RowKit
open Go.ChangeMaps (open_string shut_string)
set_option linter.unusedVariables false

theorem own : ownKnob Try.prog.godebug = none := by kernel_rfl
theorem laidOut : laidOutB Try.prog = true := by kernel_rfl

open Wk

set_option maxHeartbeats 2000000 in
set_option maxRecDepth 100000 in
theorem walk (r0 : Int) (a0 : Option Addr) (len0 cap0 : Nat) (ps : List (List Int)) (a2 : Option Addr) (len2 cap2 : Nat) (l : List Sm.St) (w : World) (wr0 : (Lit.int .i64 r0).wf = true) (w0 : IsPts w a0 len0 cap0 ps) (w2 : IsDvs w a2 len2 cap2 l) :
    Calls Try.prog 3 #[.agg #[.int .i64 r0, .slice a0 len0 cap0], .slice a2 len2 cap2] w fun e w' => e = .returned (.bool true) ∧ Below w.heap.size w w' := by
  clear wr0
  obtain ⟨rfl, hm0, hp0, hr0⟩ := w0
  obtain ⟨rfl, hm2, hr2⟩ := w2
  unfold maxLen at hm0 hp0 hm2
  have cZ := fun w h => szRg r0 a0 cap0 1048576 ps w (by omega) (by omega) (fun q hq => by have := hp0 q hq; omega) h
  have e20 : ((1048576 : Nat) : Int) = 1048576 := rfl
  rw [e20] at cZ
  clear e20
  have hB0 := bel1 w (.cells #[.int .i64 r0, .slice a0 ps.length cap0] 24)
  have s0 := slot2New w (.int .i64 r0) (.slice a0 ps.length cap0) 24
  by_cases hA : 1048576 < ps.length + tot ps
  · rw [szV_no hA] at cZ
    go_enter Try.func3, Try.ntmps3
    go_wp2_with fail
    refine (cZ _ (hr0.below hB0)).mono ?_
    rintro e v1 ⟨rfl, hb1⟩
    go_wp2
    go_ret
    exact ⟨rfl, behind hB0 hb1⟩
  · rw [szV_yes hA] at cZ
    obtain ⟨M, hL⟩ : ∃ L : Nat, ((1048576 : Nat) : Int) - ((ps.length + tot ps : Nat) : Int) = L := ⟨1048576 - (ps.length + tot ps), by omega⟩
    rw [hL] at cZ
    have hM1 : M ≤ 1048576 := by omega
    have ht : tot ps ≤ 1048576 := by omega
    have hpl : ps.length ≤ 1048576 := by omega
    have hpp : ∀ q ∈ ps, q.length ≤ 1048576 := fun q hq => Nat.le_trans (tot_mem hq) ht
    clear hL hA hp0
    by_cases hC : l.length ≤ M
    · have hl1 : l.length ≤ 1048576 := by omega
      have cS := fun a c ca cc w h1 h3 => specRing r0 a c ca cc ps l w hpl hpp hl1 h1 h3
      have cI := fun a c ca cc w h1 h3 => implRing r0 a c ca cc ps l w hpl ht hl1 h1 h3
      generalize Rg.ringB r0 ps l = G at cS cI
      go_enter Try.func3, Try.ntmps3
      go_wp2_with fail
      refine (cZ _ (hr0.below hB0)).mono ?_
      rintro e v1 ⟨rfl, hb1⟩
      have hB2 := behind hB0 hb1
      have t0 := s0.below hb1
      obtain ⟨⟨r0', r1'⟩, -⟩ := id t0
      clear cZ
      go_wp2_with (go_at_call 9; go_in)
      go_wp2_with fail
      refine (toRg r0 a0 cap0 ps _ hpl hpp (hr0.below hB2)).mono ?_
      rintro e w3 ⟨g3, rfl, ho3, hb3⟩
      have hB3 := behind hB2 hb3
      go_wp2_with fail
      refine (toDvS a2 cap2 l _ hl1 (hr2.below hB3)).mono ?_
      rintro e w4 ⟨rfl, ho4, hb4⟩
      have hB4 := behind hB3 hb4
      go_wp2_with fail
      refine (cS _ _ _ _ _ ((OwnP.rdS ho3).below hb4) ho4).mono ?_
      rintro e w6 ⟨rfl, hb6⟩
      have hB6 := behind hB4 hb6
      have t0 := ((t0.below hb3).below hb4).below hb6
      obtain ⟨⟨r06, r16⟩, -⟩ := id t0
      clear ho3 ho4 r0' r1'
      go_wp2_with fail
      refine (toRg r0 a0 cap0 ps _ hpl hpp (hr0.below hB6)).mono ?_
      rintro e w7 ⟨g7, rfl, ho7, hb7⟩
      have b7 := bel1 w7 (.cells #[.int .i64 r0, .slice (some ⟨g7, 0, none⟩) ps.length ps.length] 31)
      have hB7 := behind (behind hB6 hb7) b7
      have t0 := (t0.below hb7).below b7
      have x7 := slot2New w7 (.int .i64 r0) (.slice (some ⟨g7, 0, none⟩) ps.length ps.length) 31
      have hR7 := (OwnP.rdS ho7).below b7
      clear ho7
      go_wp2_with fail
      refine (toDvS a2 cap2 l _ hl1 (hr2.below hB7)).mono ?_
      rintro e w9 ⟨rfl, ho9, hb9⟩
      have hB9 := behind hB7 hb9
      have t0 := t0.below hb9
      have x9 := x7.below hb9
      have hR9 := hR7.below hb9
      simp only [World.size_alloc] at ho9 ⊢
      obtain ⟨⟨x90, x91⟩, -⟩ := id x9
      clear x7 hR7
      go_wp2_with fail
      refine (cI _ _ _ _ _ hR9 ho9).mono ?_
      rintro e v0 ⟨rfl, hb0⟩
      have hD0 := (behind hB9 hb0).drew
      obtain ⟨⟨d0, d1⟩, -⟩ := t0.below hb0
      obtain ⟨⟨d3, d4⟩, -⟩ := x9.below hb0
      have hR0 := hR9.below hb0
      have ho0 := ho9.below hb0
      clear t0 x9 hR9 ho9 x90 x91
      cases G
      all_goals
        go_wp2_with fail
        go_region_held3 (fun wy => wy.cell? ⟨w.heap.size, 0, none⟩ = some (.int .i64 r0) ∧ wy.cell? ⟨w.heap.size, 1, none⟩ = some (.slice a0 ps.length cap0) ∧ wy.cell? ⟨w7.heap.size, 0, none⟩ = some (.int .i64 r0) ∧ wy.cell? ⟨w7.heap.size, 1, none⟩ = some (.slice (some ⟨g7, 0, none⟩) ps.length ps.length))
          (first | exact ⟨d0, d1, d3, d4⟩ | exact keepR4 ‹_› ‹_› | go_keep)
          (first | (go_at_call 11; refine (toRg r0 a0 cap0 ps _ hpl hpp (by exact RdP.below hr0 hD0)).mono ?_; rintro e v1 ⟨h1, rfl, hp1', hc1⟩) | (go_at_call 14; refine (eqRg r0 _ _ _ _ ps _ hpl hpp (by exact RdP.below (w := v0.drew) hR0 hc1) (by exact OwnP.rdS hp1')).mono ?_; rintro e v2 ⟨rfl, hc2⟩))
        have hF2 := behind hc1 hc2
        have hD2 := behind hD0 hF2
        have ho2 := RdS.below (w := v0.drew) ho0 hF2
        clear hp1' d0 d1 d3 d4 hR0 ho0
        go_wp2_with fail
        refine (toDvS a2 cap2 l _ hl1 (hr2.below hD2)).mono ?_
        rintro e v5 ⟨rfl, ho5, hc5⟩
        go_wp2_with fail
        refine (eqDvS _ _ _ _ l _ hl1 (ho2.below hc5) ho5).mono ?_
        rintro e v6 ⟨rfl, hc6⟩
        go_wp2
        go_ret
        exact ⟨rfl, behind (behind hD2 hc5) hc6⟩
    · go_enter Try.func3, Try.ntmps3
      have hC' : (M : Int) - (l.length : Int) < 0 := by omega
      go_wp2_with fail
      refine (cZ _ (hr0.below hB0)).mono ?_
      rintro e v1 ⟨rfl, hb1⟩
      go_wp2_with (go_at_call 9; go_in)
      go_wp2
      go_ret
      exact ⟨rfl, behind hB0 hb1⟩

set_option maxRecDepth 100000 in
theorem lifted (os : Os) (started : os.Started) (H : Type) (enc : TypeId × Value → H) :
    ReturnsInHanded {} Try.checked os 3 .any (Rows.fnExactRingOkSpec.pre6 enc Try.prog Try.f3 Rows.fnExactRingOkRow.domain false) (Rows.fnExactRingOkSpec.post enc Try.prog Try.f3 false true false false) := by
  refine returnsInHanded_of_change (C := Try.checked) own started (by kernel_rfl) Try.func3
    (ChangeSpec.witness6 (enc := enc) (C := Try.checked) false ⟨#[], #[.agg #[.int .i64 0, .slice none 0 0], .slice none 0 0], []⟩ 8 (by kernel_rfl) (by kernel_rfl) (by kernel_rfl) (by kernel_rfl)) ?_
  intro W base args ds gs before hval0 hW hcnd _
  have hval : ∀ (j : Nat) t v, Try.f3.params[j]? = some t → args[j]? = some v → Value.okWide Try.prog W .any base t v := hval0
  have hW' := hW
  obtain ⟨p, q, hA0, hV, rfl, hfz, hnd⟩ := hW
  have hA : DataW.TrodAll enc Try.prog W 0 (fun _ => true) true Try.f3.params.toList args.toList ds p := hA0
  rw [Try.params3] at hA hval
  obtain ⟨v0, vs0, d0, ds0, p0, q0, hargs, rfl, rfl, h0, r0⟩ := trodAll_cons hA
  obtain ⟨v1, vs1, d1, ds1, p1, q1, rfl, rfl, rfl, h1, r1⟩ := trodAll_cons r0
  obtain ⟨rfl, rfl, rfl⟩ := trodAll_nil r1
  obtain rfl : args = #[v0, v1] := by cases args; simp_all
  obtain ⟨rfl, rfl⟩ := trodVars_none hV
  have k0 := h0
  have lt0 : ∀ x ∈ p0, x.block < W.heap.size := by obtain ⟨m, hm⟩ := k0; exact DataW.trod_lt m _ _ _ hm
  obtain ⟨re0, a0, len0, cap0, z0, rfl, wr0, w0⟩ := openRgV (hval 0 24 v0 rfl rfl) h0
  obtain ⟨a1, len1, cap1, rfl⟩ := okWide_slice Try.underlying25 (hval 1 25 v1 rfl rfl)
  have k1 := h1
  have lt1 : ∀ x ∈ p1, x.block < W.heap.size := by obtain ⟨m, hm⟩ := k1; exact DataW.trod_lt m _ _ _ hm
  obtain ⟨z1, w1⟩ := openDvs h1
  clear hA0 hval0
  refine (walk re0 a0 len0 cap0 z0 a1 len1 cap1 z1 W wr0 w0 w1).mono fun e W' ⟨he, bel⟩ => ?_
  subst he
  exact ⟨_, rfl, _, _, _, [], _, [], hW', trodAll_mk1 (shut_bool Try.underlying4 _), (trodAll_cons_mk (Below.trod laidOut (by kernel_rfl) (of_decide_eq_true (by kernel_rfl)) k0 bel lt0) (trodAll_cons_mk (Below.trod laidOut (by kernel_rfl) (of_decide_eq_true (by kernel_rfl)) k1 bel lt1) trodAll_mk0)), rfl, bel.frame _, fun h => by cases h⟩

theorem over : Rows.fnExactRingOkRow.holds Try.pinned (OpenSpec.ofChange Rows.fnExactRingOkSpec) :=
  OpenClaim.holds_of_wide 3 Try.f3 rfl rfl rfl rfl rfl rfl rfl ⟨rfl, rfl, rfl, rfl, rfl⟩ rfl rfl rfl rfl rfl (by kernel_rfl) Try.func3 (by kernel_rfl)
    (of_decide_eq_true (by kernel_rfl)) (by unfold Func.isWrapper; first | (rw [if_pos (by decide +kernel)]; kernel_rfl) | (rw [if_neg (by decide +kernel)]; exact ⟨rfl, rfl⟩))
    (fun os started H enc _ => lifted os started H enc)

end Go.Proofs.Ytekjnfkmjmmcman.fnExactRingOk
namespace Go.Proofs.Ytekjnfkmjmmcman
theorem fnExactRingOk_holds : Rows.FnExactRingOkSaid := fnExactRingOk.over
#print axioms fnExactRingOk_holds
end Go.Proofs.Ytekjnfkmjmmcman
