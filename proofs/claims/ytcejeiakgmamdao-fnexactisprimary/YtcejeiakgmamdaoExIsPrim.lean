/- IsPrimary of the program answers as the specification does, at every ring, text and number; the ring reads behind the call as ahead of it. Where the text has more than 2^20 bytes, or the ring more than 2^20 entries together, the law itself answers true. -/
import Derived.Test.YtcejeiakgmamdaoRows
import Derived.Test.YtcejeiakgmamdaoPmI
import Derived.Test.YtcejeiakgmamdaoPmS
import Derived.Test.YtcejeiakgmamdaoRgT
import Derived.Test.YtcejeiakgmamdaoRgZ
import Derived.Test.YtcejeiakgmamdaoRgE
import Derived.Test.YtcejeiakgmamdaoOpRg
import Derived.WalkKit
import Derived.ProofKit
import Derived.OpenShut
import Derived.ShutString
import Derived.ChangeOld
import Derived.Below
namespace Go.Proofs.Ytcejeiakgmamdao.fnExactIsPrimary
open Go.ChangeShapes Go.WideShapes Go.ChangeAt Go.RowKit
open Go.ChangeMaps (open_string shut_string)
set_option linter.unusedVariables false

theorem own : ownKnob Try.prog.godebug = none := by kernel_rfl
theorem laidOut : laidOutB Try.prog = true := by kernel_rfl

open Wk

set_option maxHeartbeats 8000000 in
set_option maxRecDepth 100000 in
theorem walk (r0 : Int) (a0 : Option Addr) (len0 cap0 : Nat) (Q : List (List Int)) (s : ByteArray) (n0 : Int) (w : World) (wr0 : (Lit.int .i64 r0).wf = true) (w0 : IsPts w a0 len0 cap0 Q) (ws : s.size ≤ maxLen) (wn : (Lit.int .i64 n0).wf = true) :
    Calls Try.prog 6 #[.agg #[.int .i64 r0, .slice a0 len0 cap0], .string s, .int .i64 n0] w fun e w' => e = .returned (.bool true) ∧ Below w.heap.size w w' := by
  clear wr0 wn
  obtain ⟨rfl, hm0, hp0, hr0⟩ := w0
  unfold maxLen at hm0 hp0 ws
  have hB0 := bel1 w (.cells #[.int .i64 r0, .slice a0 Q.length cap0] 24)
  have s0 := slot2New w (.int .i64 r0) (.slice a0 Q.length cap0) 24
  by_cases hs : s.size ≤ 1048576
  · have hsI : ¬ ((s.size : Int) > 1048576) := by omega
    have cZ := fun w h => szRg r0 a0 cap0 1048576 Q w (by omega) (by omega) (fun q hq => by have := hp0 q hq; omega) h
    have e20 : ((1048576 : Nat) : Int) = 1048576 := rfl
    rw [e20] at cZ
    clear e20
    by_cases hA : 1048576 < Q.length + tot Q
    · rw [szV_no hA] at cZ
      go_enter Try.func6, Try.ntmps6
      go_wp2_with fail
      refine (cZ _ (hr0.below hB0)).mono ?_
      rintro e v1 ⟨rfl, hb1⟩
      go_wp2
      go_ret
      exact ⟨rfl, behind hB0 hb1⟩
    · rw [szV_yes hA] at cZ
      obtain ⟨M, hL⟩ : ∃ L : Nat, ((1048576 : Nat) : Int) - ((Q.length + tot Q : Nat) : Int) = L := ⟨1048576 - (Q.length + tot Q), by omega⟩
      rw [hL] at cZ
      have ht : tot Q ≤ 1048576 := by omega
      have hpl : Q.length ≤ 1048576 := by omega
      have hpp : ∀ q ∈ Q, q.length ≤ 1048576 := fun q hq => Nat.le_trans (tot_mem hq) ht
      clear hL hA hp0
      have hq := pick_len s hpp
      have cS := fun a ca w h => specIsPrim r0 n0 a ca Q s w hs hpl hq h
      have cI := fun a ca w h => implIsPrim r0 n0 a ca Q s w hs hpl hq h
      generalize decide (n0 ∈ pick Q s) = p at cS cI
      go_enter Try.func6, Try.ntmps6
      go_wp2_with fail
      refine (cZ _ (hr0.below hB0)).mono ?_
      rintro e v1 ⟨rfl, hb1⟩
      have hB2 := behind hB0 hb1
      have t0 := s0.below hb1
      obtain ⟨⟨r0', r1'⟩, -⟩ := id t0
      clear cZ s0
      go_wp2_with fail
      refine (toRg r0 a0 cap0 Q _ hpl hpp (hr0.below hB2)).mono ?_
      rintro e w3 ⟨g3, rfl, ho3, hb3⟩
      have hB3 := behind hB2 hb3
      go_wp2_with fail
      refine (cS _ _ _ (OwnP.rdN ho3)).mono ?_
      rintro e w4 ⟨rfl, hb4⟩
      have hB4 := behind hB3 hb4
      have t0 := (t0.below hb3).below hb4
      obtain ⟨⟨r04, r14⟩, -⟩ := id t0
      clear ho3 r0' r1' cS hb3 hb4
      go_wp2_with fail
      refine (toRg r0 a0 cap0 Q _ hpl hpp (hr0.below hB4)).mono ?_
      rintro e w7 ⟨g7, rfl, ho7, hb7⟩
      have b7 := bel1 w7 (.cells #[.int .i64 r0, .slice (some ⟨g7, 0, none⟩) Q.length Q.length] 29)
      have hA7 := behind hb7 b7
      have hB7 := behind hB4 hA7
      have t0 := t0.below hA7
      have x7 := slot2New w7 (.int .i64 r0) (.slice (some ⟨g7, 0, none⟩) Q.length Q.length) 29
      have hX7 := (OwnP.rdS ho7).below b7
      obtain ⟨⟨x70, x71⟩, -⟩ := id x7
      clear ho7 hb7 r04 r14
      go_wp2_with fail
      clear x70 x71
      generalize w7.alloc (.cells #[.int .i64 r0, .slice (some ⟨g7, 0, none⟩) Q.length Q.length] 29) = wB at b7 hA7 hB7 t0 x7 hX7 ⊢
      refine (cI _ _ _ hX7).mono ?_
      rintro e w9 ⟨rfl, hb9⟩
      have x9 := x7.below hb9
      have t9 := t0.below hb9
      have hXR := hX7.below hb9
      have hB9 := behind hB7 hb9
      have hD9 := hB9.drew
      obtain ⟨⟨d0, d1⟩, -⟩ := id t9
      obtain ⟨⟨d3, d4⟩, -⟩ := id x9
      go_wp2_with fail
      go_region_held3 (fun wy => wy.cell? ⟨w.heap.size, 0, none⟩ = some (.int .i64 r0) ∧ wy.cell? ⟨w.heap.size, 1, none⟩ = some (.slice a0 Q.length cap0) ∧ wy.cell? ⟨w7.heap.size, 0, none⟩ = some (.int .i64 r0) ∧ wy.cell? ⟨w7.heap.size, 1, none⟩ = some (.slice (some ⟨g7, 0, none⟩) Q.length Q.length))
        (first | exact ⟨d0, d1, d3, d4⟩ | exact keepR4 ‹_› ‹_› | go_keep)
        (first | (go_at_call 9; refine (toRg r0 a0 cap0 Q _ hpl hpp (by exact RdP.below hr0 hD9)).mono ?_; rintro e w10 ⟨h1, rfl, hp1', hc1⟩) | (go_at_call 11; refine (eqRg r0 _ _ _ _ Q _ hpl hpp (by exact RdP.below (w := w9.drew) hXR hc1) (by exact OwnP.rdS hp1')).mono ?_; rintro e w11 ⟨rfl, hc2⟩))
      have hB11 := behind (behind hD9 hc1) hc2
      go_wp2
      go_ret
      exact ⟨rfl, hB11⟩
  · have hsI : (s.size : Int) > 1048576 := by omega
    go_enter Try.func6, Try.ntmps6
    go_wp2
    go_ret
    exact ⟨rfl, hB0⟩

set_option maxRecDepth 100000 in
theorem lifted (os : Os) (started : os.Started) (H : Type) (enc : TypeId × Value → H) :
    ReturnsInHanded {} Try.checked os 6 .any (Rows.fnExactIsPrimarySpec.pre6 enc Try.prog Try.f6 Rows.fnExactIsPrimaryRow.domain false) (Rows.fnExactIsPrimarySpec.post enc Try.prog Try.f6 false true false false) := by
  refine returnsInHanded_of_change (C := Try.checked) own started (by kernel_rfl) Try.func6
    (ChangeSpec.witness6 (enc := enc) (C := Try.checked) false ⟨#[], #[.agg #[.int .i64 0, .slice none 0 0], .string ByteArray.empty, .int .i64 0], []⟩ 8 (by kernel_rfl) (by kernel_rfl) (by kernel_rfl) (by kernel_rfl)) ?_
  intro W base args ds gs before hval0 hW hcnd _
  have hval : ∀ (j : Nat) t v, Try.f6.params[j]? = some t → args[j]? = some v → Value.okWide Try.prog W .any base t v := hval0
  have hW' := hW
  obtain ⟨p, q, hA0, hV, rfl, hfz, hnd⟩ := hW
  have hA : DataW.TrodAll enc Try.prog W 0 (fun _ => true) true Try.f6.params.toList args.toList ds p := hA0
  rw [Try.params6] at hA hval
  obtain ⟨v0, vs0, d0, ds0, p0, q0, hargs, rfl, rfl, h0, r0⟩ := trodAll_cons hA
  obtain ⟨v1, vs1, d1, ds1, p1, q1, rfl, rfl, rfl, h1, r1⟩ := trodAll_cons r0
  obtain ⟨v2, vs2, d2, ds2, p2, q2, rfl, rfl, rfl, h2, r2⟩ := trodAll_cons r1
  obtain ⟨rfl, rfl, rfl⟩ := trodAll_nil r2
  obtain rfl : args = #[v0, v1, v2] := by cases args; simp_all
  obtain ⟨rfl, rfl⟩ := trodVars_none hV
  have k0 := h0
  have lt0 : ∀ x ∈ p0, x.block < W.heap.size := by obtain ⟨m, hm⟩ := k0; exact DataW.trod_lt m _ _ _ hm
  obtain ⟨re0, a0, len0, cap0, z0, rfl, wr0, w0⟩ := openRgV (hval 0 24 v0 rfl rfl) h0
  have k1 := h1
  have lt1 : ∀ x ∈ p1, x.block < W.heap.size := by obtain ⟨m, hm⟩ := k1; exact DataW.trod_lt m _ _ _ hm
  obtain ⟨a1, rfl, rfl, rfl, w1⟩ := open_string Try.underlying9 (hval 1 9 v1 rfl rfl) h1
  have k2 := h2
  have lt2 : ∀ x ∈ p2, x.block < W.heap.size := by obtain ⟨m, hm⟩ := k2; exact DataW.trod_lt m _ _ _ hm
  obtain ⟨a2, rfl, rfl, rfl, w2⟩ := open_int Try.underlying3 (hval 2 3 v2 rfl rfl) h2
  clear hA0 hval0
  refine (walk re0 a0 len0 cap0 z0 a1 a2 W wr0 w0 w1 w2).mono fun e W' ⟨he, bel⟩ => ?_
  subst he
  exact ⟨_, rfl, _, _, _, [], _, [], hW', trodAll_mk1 (shut_bool Try.underlying4 _), (trodAll_cons_mk (Below.trod laidOut (by kernel_rfl) (of_decide_eq_true (by kernel_rfl)) k0 bel lt0) (trodAll_cons_mk (Below.trod laidOut (by kernel_rfl) (of_decide_eq_true (by kernel_rfl)) k1 bel lt1) (trodAll_cons_mk (Below.trod laidOut (by kernel_rfl) (of_decide_eq_true (by kernel_rfl)) k2 bel lt2) trodAll_mk0))), rfl, bel.frame _, fun h => by cases h⟩

theorem over : Rows.fnExactIsPrimaryRow.holds Try.pinned (OpenSpec.ofChange Rows.fnExactIsPrimarySpec) :=
  OpenClaim.holds_of_wide 6 Try.f6 rfl rfl rfl rfl rfl rfl rfl ⟨rfl, rfl, rfl, rfl, rfl⟩ rfl rfl rfl rfl rfl (by kernel_rfl) Try.func6 (by kernel_rfl)
    (of_decide_eq_true (by kernel_rfl)) (by unfold Func.isWrapper; first | (rw [if_pos (by decide +kernel)]; kernel_rfl) | (rw [if_neg (by decide +kernel)]; exact ⟨rfl, rfl⟩))
    (fun os started H enc _ => lifted os started H enc)

end Go.Proofs.Ytcejeiakgmamdao.fnExactIsPrimary
namespace Go.Proofs.Ytcejeiakgmamdao
theorem fnExactIsPrimary_holds : Rows.FnExactIsPrimarySaid := fnExactIsPrimary.over
#print axioms fnExactIsPrimary_holds
end Go.Proofs.Ytcejeiakgmamdao
