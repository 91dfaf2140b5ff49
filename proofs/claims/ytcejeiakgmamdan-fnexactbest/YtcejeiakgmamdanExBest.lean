/- Best of the program answers as the specification does, at every ring, part and list of devices: the same Id, or -1; all three read behind the call as ahead of it. Where they have more than 2^20 entries together the law itself answers true. -/
import Derived.Test.YtcejeiakgmamdanRows
import Derived.Test.YtcejeiakgmamdanBsS
import Derived.Test.YtcejeiakgmamdanBsI
import Derived.Test.YtcejeiakgmamdanRgT
import Derived.Test.YtcejeiakgmamdanRgZ
import Derived.Test.YtcejeiakgmamdanRgE
import Derived.Test.YtcejeiakgmamdanOpRg
import Derived.Test.YtcejeiakgmamdanOpDv
import Derived.Test.YtcejeiakgmamdanToDvS
import Derived.Test.YtcejeiakgmamdanEqDvS
import Derived.Test.YtcejeiakgmamdanDot
import Derived.WalkKit
import Derived.ProofKit
import Derived.OpenShut
import Derived.ShutString
import Derived.ChangeOld
import Derived.Below
namespace Go.Proofs.Ytcejeiakgmamdan.fnExactBest
open Go.ChangeShapes Go.WideShapes Go.ChangeAt Go.RowKit
open Go.ChangeMaps (open_string shut_string)
set_option linter.unusedVariables false

theorem own : ownKnob Try.prog.godebug = none := by kernel_rfl
theorem laidOut : laidOutB Try.prog = true := by kernel_rfl

open Wk

set_option maxHeartbeats 2000000 in
set_option maxRecDepth 100000 in
theorem walk (r0 : Int) (a0 : Option Addr) (len0 cap0 : Nat) (ps : List (List Int)) (a1 : Option Addr) (cap1 : Nat) (p : List Int) (a2 : Option Addr) (len2 cap2 : Nat) (l : List Sm.St) (w : World) (wr0 : (Lit.int .i64 r0).wf = true) (w0 : IsPts w a0 len0 cap0 ps) (wl1 : p.length ≤ maxLen) (w1 : RdZ w a1 p) (w2 : IsDvs w a2 len2 cap2 l) :
    Calls Try.prog 6 #[.agg #[.int .i64 r0, .slice a0 len0 cap0], .agg #[.slice a1 p.length cap1], .slice a2 len2 cap2] w fun e w' => e = .returned (.bool true) ∧ Below w.heap.size w w' := by
  clear wr0
  obtain ⟨rfl, hm0, hp0, hr0⟩ := w0
  obtain ⟨rfl, hm2, hr2⟩ := w2
  unfold maxLen at hm0 hp0 wl1 hm2
  have cZ := fun w h => szRg r0 a0 cap0 1048576 ps w (by omega) (by omega) (fun q hq => by have := hp0 q hq; omega) h
  have e20 : ((1048576 : Nat) : Int) = 1048576 := rfl
  rw [e20] at cZ
  clear e20
  have hB0 := bel2 w (.cells #[.int .i64 r0, .slice a0 ps.length cap0] 24) (.cells #[.slice a1 p.length cap1] 42)
  have s0 := (slot2New w (.int .i64 r0) (.slice a0 ps.length cap0) 24).below (bel1 _ (.cells #[.slice a1 p.length cap1] 42))
  have s1 := slot1New (w.alloc (.cells #[.int .i64 r0, .slice a0 ps.length cap0] 24)) (.slice a1 p.length cap1) 42
  simp only [World.size_alloc] at s1
  by_cases hA : 1048576 < ps.length + tot ps
  · rw [szV_no hA] at cZ
    go_enter Try.func6, Try.ntmps6
    go_wp2_with fail
    refine (cZ _ (hr0.below hB0)).mono ?_
    rintro e v1 ⟨rfl, hb1⟩
    go_wp2
    go_ret
    exact ⟨rfl, behind hB0 hb1⟩
  · rw [szV_yes hA] at cZ
    obtain ⟨L, hL⟩ : ∃ L : Nat, ((1048576 : Nat) : Int) - ((ps.length + tot ps : Nat) : Int) = L := ⟨1048576 - (ps.length + tot ps), by omega⟩
    rw [hL] at cZ
    have hL1 : L ≤ 1048576 := by omega
    have cP := fun w => szPt a1 p.length cap1 L w hL1 (by omega)
    have ht : tot ps ≤ 1048576 := by omega
    have hpl : ps.length ≤ 1048576 := by omega
    have hpp : ∀ q ∈ ps, q.length ≤ 1048576 := fun q hq => Nat.le_trans (tot_mem hq) ht
    clear hL hA hp0
    by_cases hB : L < p.length
    · rw [szV_no hB] at cP
      go_enter Try.func6, Try.ntmps6
      go_wp2_with fail
      refine (cZ _ (hr0.below hB0)).mono ?_
      rintro e v1 ⟨rfl, hb1⟩
      have hB1 := behind hB0 hb1
      obtain ⟨⟨q0, q1⟩, -⟩ := s0.below hb1
      obtain ⟨q2, -⟩ := s1.below hb1
      go_wp2_with fail
      refine (cP _).mono ?_
      rintro e w2 ⟨rfl, hb2⟩
      go_wp2
      go_ret
      exact ⟨rfl, behind hB1 hb2⟩
    · rw [szV_yes hB] at cP
      obtain ⟨M, hM⟩ : ∃ M : Nat, (L : Int) - (p.length : Int) = M := ⟨L - p.length, by omega⟩
      rw [hM] at cP
      have hM1 : M ≤ 1048576 := by omega
      have hp1 : p.length ≤ 1048576 := by omega
      clear hM hB
      by_cases hC : l.length ≤ M
      · have hl1 : l.length ≤ 1048576 := by omega
        have cS := fun a b c ca cb cc w h1 h2 h3 => specBest r0 a b c ca cb cc ps p l w hpl ht hp1 hl1 h1 h2 h3
        have cI := fun a b c ca cb cc w h1 h2 h3 => implBest r0 a b c ca cb cc ps p l w hpl ht hp1 hl1 h1 h2 h3
        generalize Rg.best ps p l = G at cS cI
        go_enter Try.func6, Try.ntmps6
        go_wp2_with fail
        refine (cZ _ (hr0.below hB0)).mono ?_
        rintro e v1 ⟨rfl, hb1⟩
        have hB1 := behind hB0 hb1
        obtain ⟨⟨q0, q1⟩, -⟩ := s0.below hb1
        obtain ⟨q2, -⟩ := s1.below hb1
        go_wp2_with fail
        refine (cP _).mono ?_
        rintro e w2 ⟨rfl, hb2⟩
        have hB2 := behind hB1 hb2
        have t0 := (s0.below hb1).below hb2
        have t1 := (s1.below hb1).below hb2
        obtain ⟨⟨r0', r1'⟩, -⟩ := id t0
        obtain ⟨r2', -⟩ := id t1
        clear cZ cP
        go_wp2_with (go_at_call 10; go_in)
        have hB2d : Below w.heap.size w w2.drew := hB2.drew
        go_wp2_with fail
        go_region_held3 (fun wy => wy.cell? ⟨w.heap.size, 0, none⟩ = some (.int .i64 r0) ∧ wy.cell? ⟨w.heap.size, 1, none⟩ = some (.slice a0 ps.length cap0) ∧ wy.cell? ⟨w.heap.size + 1, 0, none⟩ = some (.slice a1 p.length cap1))
          (first | exact ⟨r0', r1', r2'⟩ | exact keep3 ‹_› ‹_› | go_keep)
          (first | (go_at_call 12; refine (toRg r0 a0 cap0 ps _ hpl hpp (by exact RdP.below hr0 hB2d)).mono ?_; rintro e w3 ⟨g3, rfl, ho3, hb3⟩) | (go_at_call 21; refine (toPt a1 cap1 p _ hp1 (by exact RdZ.below w1 (behind hB2d hb3))).mono ?_; rintro e w4 ⟨g4, rfl, -, ho4, hb4⟩) | (go_at_call 13; refine (toDvS a2 cap2 l _ hl1 (by exact RdS.below hr2 (behind (behind hB2d hb3) hb4))).mono ?_; rintro e w5 ⟨rfl, ho5, hb5⟩) | (go_at_call 24; refine (cS _ _ _ _ _ _ _ (by exact RdP.below (RdP.below (OwnP.rdS ho3) hb4) hb5) (by exact RdZ.below (Zv_rd ho4) hb5) (by exact ho5)).mono ?_; rintro e w6 ⟨rfl, hb6⟩))
        have hB6 := behind (behind (behind (behind hB2d hb3) hb4) hb5) hb6
        have hx6 := behind (behind (behind hb3 hb4) hb5) hb6
        have t0 := Slot2.below (w := w2.drew) t0 hx6
        have t1 := Slot1.below (w := w2.drew) t1 hx6
        obtain ⟨⟨r06, r16⟩, -⟩ := id t0
        obtain ⟨r26, -⟩ := id t1
        clear ho3 ho4 ho5 r0' r1' r2'
        go_wp2_with fail
        refine (toRg r0 a0 cap0 ps _ hpl hpp (hr0.below hB6)).mono ?_
        rintro e w7 ⟨g7, rfl, ho7, hb7⟩
        have hB7 := behind hB6 hb7
        have t0 := (t0.below hb7).below (bel1 w7 (.cells #[.int .i64 r0, .slice (some ⟨g7, 0, none⟩) ps.length ps.length] 31))
        have t1 := (t1.below hb7).below (bel1 w7 (.cells #[.int .i64 r0, .slice (some ⟨g7, 0, none⟩) ps.length ps.length] 31))
        obtain ⟨⟨r07, r17⟩, -⟩ := id t0
        obtain ⟨r27, -⟩ := id t1
        obtain ⟨a7, c7, e7, hR7⟩ := ho7.rd
        cases e7
        have x7 := slot2New w7 (.int .i64 r0) (.slice (some ⟨g7, 0, none⟩) ps.length ps.length) 31
        have hB7' := behind hB7 (bel1 w7 (.cells #[.int .i64 r0, .slice (some ⟨g7, 0, none⟩) ps.length ps.length] 31))
        have hR7' := hR7.below (bel1 w7 (.cells #[.int .i64 r0, .slice (some ⟨g7, 0, none⟩) ps.length ps.length] 31))
        clear ho7 hR7
        go_wp2_with fail
        refine (toPt a1 cap1 p _ hp1 (w1.below hB7')).mono ?_
        rintro e w8 ⟨g8, rfl, -, ho8, hb8⟩
        have b8 := bel1 w8 (.cells #[.slice (some ⟨g8, 0, none⟩) p.length p.length] 45)
        have hB8 := behind (behind hB7' hb8) b8
        have t0 := (t0.below hb8).below b8
        have t1 := (t1.below hb8).below b8
        have x8 := (x7.below hb8).below b8
        have hR8 := (hR7'.below hb8).below b8
        have y8 := slot1New w8 (.slice (some ⟨g8, 0, none⟩) p.length p.length) 45
        have hz8 := (Zv_rd ho8).below b8
        clear ho8 x7 hR7'
        go_wp2_with fail
        refine (toDvS a2 cap2 l _ hl1 (hr2.below hB8)).mono ?_
        rintro e w9 ⟨rfl, ho9, hb9⟩
        have hB9 := behind hB8 hb9
        have t0 := t0.below hb9
        have t1 := t1.below hb9
        have x9 := x8.below hb9
        have y9 := y8.below hb9
        have hR9 := hR8.below hb9
        have hz9 := hz8.below hb9
        simp only [World.size_alloc] at ho9 ⊢
        obtain ⟨⟨x90, x91⟩, -⟩ := id x9
        obtain ⟨y90, -⟩ := id y9
        clear x8 y8 hR8 hz8
        go_wp2_with fail
        refine (cI _ _ _ _ _ _ _ hR9 hz9 ho9).mono ?_
        rintro e v0 ⟨rfl, hb0⟩
        have hD0 := (behind hB9 hb0).drew
        obtain ⟨⟨d0, d1⟩, -⟩ := t0.below hb0
        obtain ⟨d2, -⟩ := t1.below hb0
        obtain ⟨⟨d3, d4⟩, -⟩ := x9.below hb0
        obtain ⟨d5, -⟩ := y9.below hb0
        have hR0 := hR9.below hb0
        have hz0 := hz9.below hb0
        have ho0 := ho9.below hb0
        clear t0 t1 x9 y9 hR9 hz9 ho9 x90 x91 y90
        go_wp2_with fail
        go_region_held3 (fun wy => wy.cell? ⟨w.heap.size, 0, none⟩ = some (.int .i64 r0) ∧ wy.cell? ⟨w.heap.size, 1, none⟩ = some (.slice a0 ps.length cap0) ∧ wy.cell? ⟨w7.heap.size, 0, none⟩ = some (.int .i64 r0) ∧ wy.cell? ⟨w7.heap.size, 1, none⟩ = some (.slice (some ⟨g7, 0, none⟩) ps.length ps.length))
          (first | exact ⟨d0, d1, d3, d4⟩ | exact keepR4 ‹_› ‹_› | go_keep)
          (first | (go_at_call 12; refine (toRg r0 a0 cap0 ps _ hpl hpp (by exact RdP.below hr0 hD0)).mono ?_; rintro e v1 ⟨h1, rfl, hp1', hc1⟩) | (go_at_call 15; refine (eqRg r0 _ _ _ _ ps _ hpl hpp (by exact RdP.below (w := v0.drew) hR0 hc1) (by exact OwnP.rdS hp1')).mono ?_; rintro e v2 ⟨rfl, hc2⟩))
        have hF2 := behind hc1 hc2
        have hD2 := (behind hD0 hF2).drew
        have f2 := cellOn (w := v0.drew) d2 hF2
        have f5 := cellOn (w := v0.drew) d5 hF2
        have hz2 := RdZ.below (w := v0.drew) hz0 hF2
        have ho2 := RdS.below (w := v0.drew) ho0 hF2
        clear hp1' d0 d1 d2 d3 d4 d5 hR0 hz0 ho0
        go_wp2_with fail
        go_region_held3 (fun wy => wy.cell? ⟨w.heap.size + 1, 0, none⟩ = some (.slice a1 p.length cap1) ∧ wy.cell? ⟨w8.heap.size, 0, none⟩ = some (.slice (some ⟨g8, 0, none⟩) p.length p.length))
          (first | exact ⟨f2, f5⟩ | exact keepR2 ‹_› ‹_› | go_keep)
          (first | (go_at_call 21; refine (toPt a1 cap1 p _ hp1 (by exact RdZ.below w1 hD2)).mono ?_; rintro e v3 ⟨h3, rfl, -, ho3, hc3⟩) | (go_at_call 23; refine (eqPt _ _ _ _ p _ hp1 (by exact RdZ.below (w := v2.drew) hz2 hc3) (by exact Zv_rd ho3)).mono ?_; rintro e v4 ⟨rfl, hc4⟩))
        have hF4 := behind hc3 hc4
        have hD4 := behind hD2 hF4
        have ho4 := RdS.below (w := v2.drew) ho2 hF4
        clear ho3 f2 f5 hz2 ho2
        go_wp2_with fail
        refine (toDvS a2 cap2 l _ hl1 (hr2.below hD4)).mono ?_
        rintro e v5 ⟨rfl, ho5, hc5⟩
        go_wp2_with fail
        refine (eqDvS _ _ _ _ l _ hl1 (ho4.below hc5) ho5).mono ?_
        rintro e v6 ⟨rfl, hc6⟩
        go_wp2
        go_ret
        exact ⟨rfl, behind (behind hD4 hc5) hc6⟩
      · go_enter Try.func6, Try.ntmps6
        have hC' : (M : Int) - (l.length : Int) < 0 := by omega
        go_wp2_with fail
        refine (cZ _ (hr0.below hB0)).mono ?_
        rintro e v1 ⟨rfl, hb1⟩
        have hB1 := behind hB0 hb1
        obtain ⟨⟨q0, q1⟩, -⟩ := s0.below hb1
        obtain ⟨q2, -⟩ := s1.below hb1
        go_wp2_with fail
        refine (cP _).mono ?_
        rintro e w2 ⟨rfl, hb2⟩
        go_wp2_with (go_at_call 10; go_in)
        go_wp2
        go_ret
        exact ⟨rfl, behind hB1 hb2⟩

set_option maxRecDepth 100000 in
theorem lifted (os : Os) (started : os.Started) (H : Type) (enc : TypeId × Value → H) :
    ReturnsInHanded {} Try.checked os 6 .any (Rows.fnExactBestSpec.pre6 enc Try.prog Try.f6 Rows.fnExactBestRow.domain false) (Rows.fnExactBestSpec.post enc Try.prog Try.f6 false true false false) := by
  refine returnsInHanded_of_change (C := Try.checked) own started (by kernel_rfl) Try.func6
    (ChangeSpec.witness6 (enc := enc) (C := Try.checked) false ⟨#[], #[.agg #[.int .i64 0, .slice none 0 0], .agg #[.slice none 0 0], .slice none 0 0], []⟩ 8 (by kernel_rfl) (by kernel_rfl) (by kernel_rfl) (by kernel_rfl)) ?_
  intro W base args ds gs before hval0 hW hcnd _
  have hval : ∀ (j : Nat) t v, Try.f6.params[j]? = some t → args[j]? = some v → Value.okWide Try.prog W .any base t v := hval0
  have hW' := hW
  obtain ⟨p, q, hA0, hV, rfl, hfz, hnd⟩ := hW
  have hA : DataW.TrodAll enc Try.prog W 0 (fun _ => true) true Try.f6.params.toList args.toList ds p := hA0
  rw [Try.params6] at hA hval
  obtain ⟨v0, vs0, d0, ds0, p0, q0, hargs, rfl, rfl, h0, r0⟩ := trodAll_cons hA
  obtain ⟨v1, vs1, d1, ds1, p1, q1, rfl, rfl, rfl, h1, r1⟩ := trodAll_cons r0
  obtain ⟨v2, vs2, d2, ds2, p2, q2, rfl, rfl, rfl, h2, r2⟩ := trodAll_cons r1
  obtain ⟨rfl, rfl, rfl⟩ := trodAll_nil r2
  obtain rfl : args = #[v0, v1, v2] := by cases args; simp_all
  obtain ⟨rfl, rfl⟩ := trodVars_none hV
  have k0 := h0
  have lt0 : ∀ x ∈ p0, x.block < W.heap.size := by obtain ⟨m, hm⟩ := k0; exact DataW.trod_lt m _ _ _ hm
  obtain ⟨re0, a0, len0, cap0, z0, rfl, wr0, w0⟩ := openRgV (hval 0 24 v0 rfl rfl) h0
  have k1 := h1
  have lt1 : ∀ x ∈ p1, x.block < W.heap.size := by obtain ⟨m, hm⟩ := k1; exact DataW.trod_lt m _ _ _ hm
  obtain ⟨a1, cap1, z1, rfl, wl1, w1⟩ := openPtV (hval 1 42 v1 rfl rfl) h1
  obtain ⟨a2, len2, cap2, rfl⟩ := okWide_slice Try.underlying25 (hval 2 25 v2 rfl rfl)
  have k2 := h2
  have lt2 : ∀ x ∈ p2, x.block < W.heap.size := by obtain ⟨m, hm⟩ := k2; exact DataW.trod_lt m _ _ _ hm
  obtain ⟨z2, w2⟩ := openDvs h2
  clear hA0 hval0
  refine (walk re0 a0 len0 cap0 z0 a1 cap1 z1 a2 len2 cap2 z2 W wr0 w0 wl1 w1 w2).mono fun e W' ⟨he, bel⟩ => ?_
  subst he
  exact ⟨_, rfl, _, _, _, [], _, [], hW', trodAll_mk1 (shut_bool Try.underlying4 _), (trodAll_cons_mk (Below.trod laidOut (by kernel_rfl) (of_decide_eq_true (by kernel_rfl)) k0 bel lt0) (trodAll_cons_mk (Below.trod laidOut (by kernel_rfl) (of_decide_eq_true (by kernel_rfl)) k1 bel lt1) (trodAll_cons_mk (Below.trod laidOut (by kernel_rfl) (of_decide_eq_true (by kernel_rfl)) k2 bel lt2) trodAll_mk0))), rfl, bel.frame _, fun h => by cases h⟩

theorem over : Rows.fnExactBestRow.holds Try.pinned (OpenSpec.ofChange Rows.fnExactBestSpec) :=
  OpenClaim.holds_of_wide 6 Try.f6 rfl rfl rfl rfl rfl rfl rfl ⟨rfl, rfl, rfl, rfl, rfl⟩ rfl rfl rfl rfl rfl (by kernel_rfl) Try.func6 (by kernel_rfl)
    (of_decide_eq_true (by kernel_rfl)) (by unfold Func.isWrapper; first | (rw [if_pos (by decide +kernel)]; kernel_rfl) | (rw [if_neg (by decide +kernel)]; exact ⟨rfl, rfl⟩))
    (fun os started H enc _ => lifted os started H enc)

end Go.Proofs.Ytcejeiakgmamdan.fnExactBest
namespace Go.Proofs.Ytcejeiakgmamdan
theorem fnExactBest_holds : Rows.FnExactBestSaid := fnExactBest.over
#print axioms fnExactBest_holds
end Go.Proofs.Ytcejeiakgmamdan
