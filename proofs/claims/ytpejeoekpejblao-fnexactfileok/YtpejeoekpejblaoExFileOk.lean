/- FileOk of the program answers as the specification does, at every file; the file reads behind the call as ahead of it. Where its data have more than 2^20 bytes the law itself answers true. -/
import Derived.Test.YtpejeoekpejblaoRows
import Derived.Test.YtpejeoekpejblaoFlI
import Derived.Test.YtpejeoekpejblaoToFl
import Derived.Test.YtpejeoekpejblaoOpFl
import Derived.WalkKit
import Derived.ProofKit
import Derived.OpenShut
import Derived.ShutString
import Derived.ChangeOld
import Derived.Below
namespace Go.Proofs.Ytpejeoekpejblao.fnExactFileOk
open Go.ChangeShapes Go.WideShapes Go.ChangeAt Go.RowKit
open Go.ChangeMaps (open_string shut_string)
set_option linter.unusedVariables false

theorem own : ownKnob Try.prog.godebug = none := by kernel_rfl
theorem laidOut : laidOutB Try.prog = true := by kernel_rfl

open Wk

set_option maxHeartbeats 8000000 in
set_option maxRecDepth 100000 in
theorem walk (t q n : Int) (d : Bool) (a : Option Addr) (len cap : Nat) (zs : List Int) (w : World) (w0 : IsRow .u8 w a len cap zs) :
    Calls Try.prog 7 #[.agg #[.int .i64 t, .int .i64 q, .int .i64 n, .bool d, .slice a len cap]] w fun e w' => e = .returned (.bool true) ∧ Below w.heap.size w w' := by
  obtain ⟨l, rfl, hlc, hcm, hr⟩ := w0.rd
  clear w0
  have hlm : l.length ≤ maxLen := Nat.le_trans hlc hcm
  have b0 := bel1 w (.cells #[.int .i64 t, .int .i64 q, .int .i64 n, .bool d, .slice a l.length cap] 53)
  have s0 := slot5fNew w (.int .i64 t) (.int .i64 q) (.int .i64 n) (.bool d) (.slice a l.length cap) 53
  have cZ := fun w => szFl t q n d a l.length cap 1048576 w hlm (Nat.le_refl _)
  have e20 : ((1048576 : Nat) : Int) = 1048576 := rfl
  rw [e20] at cZ
  clear e20
  by_cases hs : l.length ≤ 1048576
  · have eL : left 1048576 l.length = ((1048576 - l.length : Nat) : Int) := by unfold left; rw [if_pos hs]; omega
    rw [eL] at cZ
    generalize 1048576 - l.length = M at cZ
    clear eL hlc hcm hlm
    have cS := fun g (c : Nat) w (h : RdA w g l) => specFile t q n d g l.length c w hs
    have cI := fun g (c : Nat) w (h : RdA w g l) => implFile t q n d g l.length c w hs
    generalize fileB t q n d l.length = K at cS cI
    go_enter Try.func7, Try.ntmps7
    go_wp2_with fail
    refine (cZ _).mono ?_
    rintro e w1 ⟨rfl, hb1⟩
    have B1 := behind b0 hb1
    have t1 := s0.below hb1
    obtain ⟨⟨x0, x1, x2, x3, x4⟩, -⟩ := id t1
    clear cZ s0
    go_wp2_with fail
    refine (toFl t q n d a cap l _ hs (hr.below B1)).mono ?_
    rintro e w2 ⟨g2, rfl, ho2, hb2⟩
    have B2 := behind B1 hb2
    go_wp2_with fail
    refine (cS _ _ _ (RdA.own ho2)).mono ?_
    rintro e w3 ⟨rfl, hb3⟩
    have B3 := behind B2 hb3
    have t3 := (t1.below hb2).below hb3
    obtain ⟨⟨x0, x1, x2, x3, x4⟩, -⟩ := id t3
    clear t1 ho2 cS
    go_wp2_with fail
    refine (toFl t q n d a cap l _ hs (hr.below B3)).mono ?_
    rintro e w4 ⟨g4, rfl, ho4, hb4⟩
    have b4 := bel1 w4 (.cells #[.int .i64 t, .int .i64 q, .int .i64 n, .bool d, .slice (some ⟨g4, 0, none⟩) l.length l.length] 58)
    have B4 := behind (behind B3 hb4) b4
    have t4 := (t3.below hb4).below b4
    have y4 := slot5fNew w4 (.int .i64 t) (.int .i64 q) (.int .i64 n) (.bool d) (.slice (some ⟨g4, 0, none⟩) l.length l.length) 58
    have hX4 := (RdA.own ho4).below b4
    obtain ⟨⟨z0, z1, z2, z3, z4⟩, -⟩ := id y4
    clear t3 ho4
    go_wp2_with fail
    generalize w4.alloc (.cells #[.int .i64 t, .int .i64 q, .int .i64 n, .bool d, .slice (some ⟨g4, 0, none⟩) l.length l.length] 58) = W at B4 t4 y4 hX4 ⊢
    refine (cI _ _ _ hX4).mono ?_
    rintro e w5 ⟨rfl, hb5⟩
    have B5 := behind B4 hb5
    have D5 := B5.drew
    have t5 := t4.below hb5
    have y5 := y4.below hb5
    have hX5 := hX4.below hb5
    obtain ⟨c5, -⟩ := t5
    obtain ⟨d5, -⟩ := y5
    have hc5 := (And.intro c5 d5)
    obtain ⟨⟨x0, x1, x2, x3, x4⟩, ⟨z0, z1, z2, z3, z4⟩⟩ := id hc5
    clear t4 y4 hX4 cI c5 d5
    cases K
    all_goals
      go_wp2_with fail
      go_region_held3 (fun wy => (wy.cell? ⟨w.heap.size, 0, none⟩ = some (.int .i64 t) ∧ wy.cell? ⟨w.heap.size, 1, none⟩ = some (.int .i64 q) ∧ wy.cell? ⟨w.heap.size, 2, none⟩ = some (.int .i64 n) ∧ wy.cell? ⟨w.heap.size, 3, none⟩ = some (.bool d) ∧ wy.cell? ⟨w.heap.size, 4, none⟩ = some (.slice a l.length cap)) ∧ (wy.cell? ⟨w4.heap.size, 0, none⟩ = some (.int .i64 t) ∧ wy.cell? ⟨w4.heap.size, 1, none⟩ = some (.int .i64 q) ∧ wy.cell? ⟨w4.heap.size, 2, none⟩ = some (.int .i64 n) ∧ wy.cell? ⟨w4.heap.size, 3, none⟩ = some (.bool d) ∧ wy.cell? ⟨w4.heap.size, 4, none⟩ = some (.slice (some ⟨g4, 0, none⟩) l.length l.length)))
        (first | exact hc5 | exact keepFF ‹_› ‹_› | go_keep)
        (first | (go_at_call 30; refine (toFl t q n d a cap l _ hs (by exact RdA.below hr D5)).mono ?_; rintro e w10 ⟨h1, rfl, hp1', hc1⟩) | (go_at_call 32; refine (eqFl t q n d _ _ _ _ l _ hs (by exact RdA.below (w := w5.drew) hX5 hc1) (by exact RdA.own hp1')).mono ?_; rintro e w11 ⟨rfl, hc2⟩))
      have B11 := behind (behind D5 hc1) hc2
      go_wp2
      go_ret
      exact ⟨rfl, B11⟩
  · have eL : left 1048576 l.length = -1 := if_neg hs
    rw [eL] at cZ
    go_enter Try.func7, Try.ntmps7
    go_wp2_with fail
    refine (cZ _).mono ?_
    rintro e w1 ⟨rfl, hb1⟩
    go_wp2
    go_ret
    exact ⟨rfl, behind b0 hb1⟩

set_option maxRecDepth 100000 in
theorem lifted (os : Os) (started : os.Started) (H : Type) (enc : TypeId × Value → H) :
    ReturnsInHanded {} Try.checked os 7 .any (Rows.fnExactFileOkSpec.pre6 enc Try.prog Try.f7 Rows.fnExactFileOkRow.domain false) (Rows.fnExactFileOkSpec.post enc Try.prog Try.f7 false true false false) := by
  refine returnsInHanded_of_change (C := Try.checked) own started (by kernel_rfl) Try.func7
    (ChangeSpec.witness6 (enc := enc) (C := Try.checked) false ⟨#[], #[.agg #[.int .i64 0, .int .i64 0, .int .i64 0, .bool false, .slice none 0 0]], []⟩ 8 (by kernel_rfl) (by kernel_rfl) (by kernel_rfl) (by kernel_rfl)) ?_
  intro W base args ds gs before hval0 hW hcnd _
  have hval : ∀ (j : Nat) t v, Try.f7.params[j]? = some t → args[j]? = some v → Value.okWide Try.prog W .any base t v := hval0
  have hW' := hW
  obtain ⟨p, q, hA0, hV, rfl, hfz, hnd⟩ := hW
  have hA : DataW.TrodAll enc Try.prog W 0 (fun _ => true) true Try.f7.params.toList args.toList ds p := hA0
  rw [Try.params7] at hA hval
  obtain ⟨v0, vs0, d0, ds0, p0, q0, hargs, rfl, rfl, h0, r0⟩ := trodAll_cons hA
  obtain ⟨rfl, rfl, rfl⟩ := trodAll_nil r0
  obtain rfl : args = #[v0] := by cases args; simp_all
  obtain ⟨rfl, rfl⟩ := trodVars_none hV
  have k0 := h0
  have lt0 : ∀ x ∈ p0, x.block < W.heap.size := by obtain ⟨m, hm⟩ := k0; exact DataW.trod_lt m _ _ _ hm
  obtain ⟨t0, q0, n0, b0, a0, len0, cap0, z0, rfl, -, -, -, w0⟩ := openFlV (hval 0 53 v0 rfl rfl) h0
  clear hA0 hval0
  refine (walk t0 q0 n0 b0 a0 len0 cap0 z0 W w0).mono fun e W' ⟨he, bel⟩ => ?_
  subst he
  exact ⟨_, rfl, _, _, _, [], _, [], hW', trodAll_mk1 (shut_bool Try.underlying4 _), (trodAll_cons_mk (Below.trod laidOut (by kernel_rfl) (of_decide_eq_true (by kernel_rfl)) k0 bel lt0) trodAll_mk0), rfl, bel.frame _, fun h => by cases h⟩

theorem over : Rows.fnExactFileOkRow.holds Try.pinned (OpenSpec.ofChange Rows.fnExactFileOkSpec) :=
  OpenClaim.holds_of_wide 7 Try.f7 rfl rfl rfl rfl rfl rfl rfl ⟨rfl, rfl, rfl, rfl, rfl⟩ rfl rfl rfl rfl rfl (by kernel_rfl) Try.func7 (by kernel_rfl)
    (of_decide_eq_true (by kernel_rfl)) (by unfold Func.isWrapper; first | (rw [if_pos (by decide +kernel)]; kernel_rfl) | (rw [if_neg (by decide +kernel)]; exact ⟨rfl, rfl⟩))
    (fun os started H enc _ => lifted os started H enc)

end Go.Proofs.Ytpejeoekpejblao.fnExactFileOk
namespace Go.Proofs.Ytpejeoekpejblao
theorem fnExactFileOk_holds : Rows.FnExactFileOkSaid := fnExactFileOk.over
#print axioms fnExactFileOk_holds
end Go.Proofs.Ytpejeoekpejblao
