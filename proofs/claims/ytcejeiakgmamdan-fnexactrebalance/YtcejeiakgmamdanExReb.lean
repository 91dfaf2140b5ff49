/- Rebalance of the program answers as the specification does, at every ring and every list of devices: the same ring and the same number; ring and devices read behind the call as ahead of it; the answered ring lies in memory of its own: marks in the arguments do not change it, and marks in it stay behind a second call. Where ring and devices have more than 2^20 entries together the law itself answers true. -/
import Derived.Test.YtcejeiakgmamdanRows
import Derived.Test.YtcejeiakgmamdanRbAll
import Derived.Test.YtcejeiakgmamdanRgK
import Derived.Test.YtcejeiakgmamdanRgT
import Derived.Test.YtcejeiakgmamdanRgZ
import Derived.Test.YtcejeiakgmamdanRgE
import Derived.Test.YtcejeiakgmamdanOpRg
import Derived.Test.YtcejeiakgmamdanOpDv
import Derived.Test.YtcejeiakgmamdanToDvS
import Derived.Test.YtcejeiakgmamdanToDvO
import Derived.Test.YtcejeiakgmamdanEqDvS
import Derived.Test.YtcejeiakgmamdanMkDv
import Derived.WalkKit
import Derived.ProofKit
import Derived.OpenShut
import Derived.ShutString
import Derived.ChangeOld
import Derived.Below
namespace Go.Proofs.Ytcejeiakgmamdan.fnExactRebalance
open Go.ChangeShapes Go.WideShapes Go.ChangeAt Go.RowKit
open Go.ChangeMaps (open_string shut_string)
set_option linter.unusedVariables false

theorem own : ownKnob Try.prog.godebug = none := by kernel_rfl
theorem laidOut : laidOutB Try.prog = true := by kernel_rfl

open Wk

theorem Slot2.blkR {w w' : World} {b : Nat} {u v : Value} (h : Slot2 w b u v) (e : w'.heap[b]? = w.heap[b]?) : Slot2 w' b u v :=
  ⟨⟨by rw [World.cell?_of_block (w := w) e]; exact h.1.1, by rw [World.cell?_of_block (w := w) e]; exact h.1.2⟩, by rw [World.frozen?_of_block (w := w) e]; exact h.2.1, by rw [World.frozen?_of_block (w := w) e]; exact h.2.2⟩
theorem OwnPM.blkR {M base : Nat} {w w' : World} {v : Value} {ps : List (List Int)} {M0 : Nat} (h : OwnPM M w base v ps) (hM : M0 ≤ base) (hz : w.heap.size ≤ w'.heap.size) (hos : w'.os = w.os) (hta : w'.tape = w.tape) (hou : w'.output = w.output) (he : ∀ i, M0 ≤ i → i < w.heap.size → w'.heap[i]? = w.heap[i]?) : OwnPM M w' base v ps := by
  obtain ⟨vs, h1, h2, h3⟩ := h
  have hk : ∀ {e n : Nat} {x : Value} {xs : List Value}, w.ownsRow base e 1 x n xs → w'.ownsRow base e 1 x n xs := by
    intro e n x xs hx
    refine ⟨hx.1, ?_⟩
    rcases hx.2 with h | ⟨g, cap, cur, e1, e2, e3, e4⟩
    · exact .inl h
    · refine .inr ⟨g, cap, cur, e1, e2, ?_, e4⟩
      have hlt : g < w.heap.size := (Array.getElem?_eq_some_iff.1 e3).1
      rw [he g (by omega) hlt]
      exact e3
  exact ⟨vs, hk h1, ⟨fun i hi hk2 => let ⟨u, a1, a2, a3⟩ := h2.1 i hi hk2; ⟨u, a1, hk a2, a3⟩, h2.2⟩, h3⟩

set_option maxHeartbeats 8000000 in
set_option maxRecDepth 100000 in
theorem walk (r0 : Int) (a0 : Option Addr) (len0 cap0 : Nat) (Q : List (List Int)) (a2 : Option Addr) (len2 cap2 : Nat) (l : List Sm.St) (w : World) (wr0 : (Lit.int .i64 r0).wf = true) (w0 : IsPts w a0 len0 cap0 Q) (w2 : IsDvs w a2 len2 cap2 l) :
    Calls Try.prog 8 #[.agg #[.int .i64 r0, .slice a0 len0 cap0], .slice a2 len2 cap2] w fun e w' => e = .returned (.bool true) ∧ Below w.heap.size w w' := by
  clear wr0
  obtain ⟨rfl, hm0, hp0, hr0⟩ := w0
  obtain ⟨rfl, hm2, hr2⟩ := w2
  unfold maxLen at hm0 hp0 hm2
  have cZ := fun w h => szRg r0 a0 cap0 1048576 Q w (by omega) (by omega) (fun q hq => by have := hp0 q hq; omega) h
  have e20 : ((1048576 : Nat) : Int) = 1048576 := rfl
  rw [e20] at cZ
  clear e20
  have hB0 := bel1 w (.cells #[.int .i64 r0, .slice a0 Q.length cap0] 24)
  have s0 := slot2New w (.int .i64 r0) (.slice a0 Q.length cap0) 24
  by_cases hA : 1048576 < Q.length + tot Q
  · rw [szV_no hA] at cZ
    go_enter Try.func8, Try.ntmps8
    go_wp2_with fail
    refine (cZ _ (hr0.below hB0)).mono ?_
    rintro e v1 ⟨rfl, hb1⟩
    go_wp2
    go_ret
    exact ⟨rfl, behind hB0 hb1⟩
  · rw [szV_yes hA] at cZ
    obtain ⟨M, hL⟩ : ∃ L : Nat, ((1048576 : Nat) : Int) - ((Q.length + tot Q : Nat) : Int) = L := ⟨1048576 - (Q.length + tot Q), by omega⟩
    rw [hL] at cZ
    have hM1 : M ≤ 1048576 := by omega
    have ht : tot Q ≤ 1048576 := by omega
    have hpl : Q.length ≤ 1048576 := by omega
    have hpp : ∀ q ∈ Q, q.length ≤ 1048576 := fun q hq => Nat.le_trans (tot_mem hq) ht
    have hk0 : 1 + tot Q ≤ 1048576 := by
      by_cases h0 : Q.length = 0
      · have : Q = [] := List.length_eq_zero_iff.1 h0
        subst this
        simp [tot]
      · omega
    clear hL hA hp0
    by_cases hC : l.length ≤ M
    · have hl1 : l.length ≤ 1048576 := by omega
      obtain ⟨R, n, -, hRl, hRt, hRp, cS, cI⟩ := bothReb r0 Q l hpl ht hl1
      have hQl : Q.length ≤ 1048576 := hpl
      have hRl' : R.length ≤ 1048576 := by omega
      have hkn : ¬ ((1 : Int) + (tot Q : Int) + 3 * (l.length : Int) < 0) := by omega
      have hkr : ¬ ((1 : Int) + (tot R : Int) < 0) := by omega
      have cE := fun a b ca cb w h1 h2 => eqRg r0 a b ca cb R w hRl' hRp h1 h2
      have cMG := fun M base a cap w h1 h2 => markRgA r0 M base a cap 1 R w hRl' hRt (by omega) h1 h2
      have cHG := fun a cap w h => heldRg r0 a cap 1 R w hRl' hRt (by omega) h
      rw [hRl] at cE cMG cHG
      go_enter Try.func8, Try.ntmps8
      go_wp2_with fail
      refine (cZ _ (hr0.below hB0)).mono ?_
      rintro e v1 ⟨rfl, hb1⟩
      have hB2 := behind hB0 hb1
      have t0 := s0.below hb1
      obtain ⟨⟨r0', r1'⟩, -⟩ := id t0
      clear cZ
      go_wp2_with (go_at_call 10; go_in)
      go_wp2_with fail
      refine (toRg r0 a0 cap0 Q _ hpl hpp (hr0.below hB2)).mono ?_
      rintro e w3 ⟨g3, rfl, ho3, hb3⟩
      have hB3 := behind hB2 hb3
      go_wp2_with fail
      refine (toDvS a2 cap2 l _ hl1 (hr2.below hB3)).mono ?_
      rintro e w4 ⟨rfl, ho4, hb4⟩
      have hB4 := behind hB3 hb4
      go_wp2_with fail
      refine (cS _ _ _ _ _ ((OwnP.rdN ho3).below hb4) ho4).mono ?_
      rintro e w6 ⟨aS, caS, rfl, hOS, hb6⟩
      have s6 := slot2New w6 (.int .i64 r0) (.slice aS Q.length caS) 31
      have b6 := bel1 w6 (.cells #[.int .i64 r0, .slice aS Q.length caS] 31)
      have hB6 := behind (behind hB4 hb6) b6
      have t0 := (((t0.below hb3).below hb4).below hb6).below b6
      have hRS := (OwnP.rdS hOS).below b6
      obtain ⟨⟨r06, r16⟩, -⟩ := id t0
      clear ho3 ho4 hOS r0' r1' cS hb3 hb4 hb6
      go_wp2_with fail
      generalize w6.alloc (.cells #[.int .i64 r0, .slice aS Q.length caS] 31) = wA at s6 b6 hB6 t0 hRS r06 r16 ⊢
      refine (toRg r0 a0 cap0 Q _ hpl hpp (hr0.below hB6)).mono ?_
      rintro e w7 ⟨g7, rfl, ho7, hb7⟩
      have b7 := bel1 w7 (.cells #[.int .i64 r0, .slice (some ⟨g7, 0, none⟩) Q.length Q.length] 31)
      have hA7 := behind hb7 b7
      have hB7 := behind hB6 hA7
      have tA := t0
      have t0 := t0.below hA7
      have x7 := slot2New w7 (.int .i64 r0) (.slice (some ⟨g7, 0, none⟩) Q.length Q.length) 31
      have hX7 := (OwnP.top ho7).below b7
      have hs7 : w7.heap.size + 1 = (w7.alloc (.cells #[.int .i64 r0, .slice (some ⟨g7, 0, none⟩) Q.length Q.length] 31)).heap.size := by simp
      have hz7 := hb7.size
      clear ho7 hb7 b6 r06 r16
      go_wp2_with fail
      generalize w7.alloc (.cells #[.int .i64 r0, .slice (some ⟨g7, 0, none⟩) Q.length Q.length] 31) = wB at b7 hA7 hB7 t0 x7 hX7 hs7 ⊢
      have HS7 : Hid (w7.heap.size + 1 = wB.heap.size) := hs7
      clear b7 hs7
      refine (toDvO a2 cap2 l _ hl1 (hr2.below hB7)).mono ?_
      rintro e w9 ⟨rfl, ho9, ⟨xs, hx9⟩, hb9⟩
      have hg9 : wB.heap.size < w9.heap.size := (World.ownsRow.lt hx9 wB.heap.size rfl).2
      have hA9 := behind hA7 hb9
      have hB9 := behind hB7 hb9
      have x9 := x7.below hb9
      have hX9 := hX7.below hb9
      obtain ⟨⟨x90, x91⟩, -⟩ := id x9
      clear x7 hX7
      go_wp2_with fail
      refine (cI _ _ _ _ _ (OwnP.rdN hX9.own) (fun e => by cases e) ho9).mono ?_
      rintro e w10 ⟨aI, caI, rfl, hOI, hb10⟩
      have hs10 := hb10.size
      have s10 := slot2New w10 (.int .i64 r0) (.slice aI Q.length caI) 31
      have b10 := bel1 w10 (.cells #[.int .i64 r0, .slice aI Q.length caI] 31)
      have hb910 := behind hb10 b10
      have hA10 := behind hA9 hb910
      have hB10 := behind hB9 hb910
      have hM10 := (OwnP.top hOI).below b10
      have x10 := x9.below hb910
      have hX10 := hX9.below hb910
      have hx10 := ownOn hx9 hb910
      have ho10 := ho9.below hb910
      have t10 := (t0.below hb9).below hb910
      have c10 := s6.below hA10
      obtain ⟨⟨y0, y1⟩, -⟩ := id s10
      obtain ⟨⟨u0, u1⟩, -⟩ := id c10
      clear x90 x91 hOI b10 hb10 x9 hX9 hx9 ho9 t0
      go_wp2_with fail
      clear y0 y1 u0 u1
      generalize w10.alloc (.cells #[.int .i64 r0, .slice aI Q.length caI] 31) = wC at s10 hb910 hA10 hB10 hM10 x10 hX10 hx10 ho10 t10 c10 ⊢
      refine (cE aI aS caI caS _ hM10.own.rdS (hRS.below hA10)).mono ?_
      rintro e w12 ⟨rfl, hb12⟩
      have hA12 := behind hA10 hb12
      have hB12 := behind hB10 hb12
      have x12 := x10.below hb12
      have t12 := t10.below hb12
      have hXR := (OwnP.rdS hX10.own).below hb12
      have hD12 := hB12.drew
      obtain ⟨⟨d0, d1⟩, -⟩ := id t12
      obtain ⟨⟨d3, d4⟩, -⟩ := id x12
      go_wp2_with fail
      go_region_held3 (fun wy => wy.cell? ⟨w.heap.size, 0, none⟩ = some (.int .i64 r0) ∧ wy.cell? ⟨w.heap.size, 1, none⟩ = some (.slice a0 Q.length cap0) ∧ wy.cell? ⟨w7.heap.size, 0, none⟩ = some (.int .i64 r0) ∧ wy.cell? ⟨w7.heap.size, 1, none⟩ = some (.slice (some ⟨g7, 0, none⟩) Q.length Q.length))
        (first | exact ⟨d0, d1, d3, d4⟩ | exact keepR4 ‹_› ‹_› | go_keep)
        (first | (go_at_call 12; refine (toRg r0 a0 cap0 Q _ hpl hpp (by exact RdP.below hr0 hD12)).mono ?_; rintro e w13 ⟨h1, rfl, hp1', hc1⟩) | (go_at_call 15; refine (eqRg r0 _ _ _ _ Q _ hpl hpp (by exact RdP.below (w := w12.drew) hXR hc1) (by exact OwnP.rdS hp1')).mono ?_; rintro e w14 ⟨rfl, hc2⟩))
      have hb14 : Below wC.heap.size wC w14 := behind (behind hb12.drew hc1) hc2
      have hA14 := behind hA10 hb14
      have hB14 := behind hB10 hb14
      clear hb12 hA12 hD12 hB12 x12 t12 hXR d0 d1 d3 d4 hc1 hc2 hp1'
      have ho14 := ho10.below hb14
      go_wp2_with fail
      refine (toDvS a2 cap2 l _ hl1 (hr2.below hB14)).mono ?_
      rintro e w15 ⟨rfl, ho15, hb15⟩
      go_wp2_with fail
      refine (eqDvS _ _ _ _ l _ hl1 (ho14.below hb15) ho15).mono ?_
      rintro e w16 ⟨rfl, hb16⟩
      have hb1416 := behind hb15 hb16
      have hC16 := behind hb14 hb1416
      have hA16 := behind hA14 hb1416
      have hB16 := behind hB14 hb1416
      have s16 := s10.below hC16
      have x16 := x10.below hC16
      have hX16 := hX10.below hC16
      have hx16 := ownOn hx10 hC16
      have hM16 := hM10.below hC16
      have t16 := t10.below hC16
      have hz16 : w9.heap.size ≤ w16.heap.size := by have := hb910.size; have := hC16.size; omega
      obtain ⟨⟨d3, d4⟩, -⟩ := id x16
      clear ho14 ho15 ho10 hb14 hb15 hb16 hb1416 hA14 hB14 s10 x10 hX10 hx10 hM10 t10 hC16
      have hs7 := HS7.out
      go_wp2_with fail
      refine (markRgA r0 w7.heap.size wA.heap.size (some ⟨g7, 0, none⟩) Q.length 1 Q _ hpl ht (by omega) (by omega) hX16).mono ?_
      rintro e w17 ⟨rfl, -, hb17, hf17⟩
      have hz17 := hb17.size
      have s17 := Slot2.blkR s16 (hf17 _ (by omega) s16.lt)
      have hA17 : Below wA.heap.size wA w17 := hA16.trans (hb17.mono (Nat.le_refl _))
      have hB17 : Below w.heap.size w w17 := hB16.trans (hb17.mono hB6.size)
      have hx17 : ∃ zs, w17.ownsRow wB.heap.size 62 3 (.slice (some ⟨wB.heap.size, 0, none⟩) l.length l.length) l.length zs := by
        refine ⟨xs, hx16.1, ?_⟩
        rcases hx16.2 with h | ⟨g, cap, cur, e1, e2, e3, e4⟩
        · exact .inl h
        · refine .inr ⟨g, cap, cur, e1, e2, ?_, e4⟩
          rw [hf17 g (by omega) ((Array.getElem?_eq_some_iff.1 e3).1)]
          exact e3
      obtain ⟨zs, hx17⟩ := hx17
      have hM17 := OwnPM.blkR hM16 (M0 := w7.heap.size) (by omega) hb17.size hb17.os hb17.tape hb17.output hf17
      clear s16 x16 hX16 hx16 hM16 d3 d4 hA16 hB16 t16 hb17 hf17
      go_wp2_with fail
      have cDV := markDvS _ _ _ _ (1 + tot Q) _ _ hl1 hk0 hx17
      rw [show ((1 + tot Q : Nat) : Int) = 1 + (tot Q : Int) from by omega] at cDV
      refine cDV.mono ?_
      rintro e w18 ⟨rfl, -, hg18⟩
      have s18 := Slot2.grown s17 hg18 (fun e => by simp only [Option.some.injEq] at e; omega)
      have hA18 : Below wA.heap.size wA w18 := hA17.grown hg18 hA17.size (fun j e => by cases e; omega)
      have hB18 : Below w.heap.size w w18 := hB17.grown hg18 hB17.size (fun j e => by cases e; have := hB7.size; omega)
      have hM18 := hM17.farG hg18 (by omega)
      have hz18 := hg18.size
      clear hx17 s17 hM17 hg18 hA17 hB17
      obtain ⟨⟨y0, y1⟩, -⟩ := id s18
      obtain ⟨⟨u0, u1⟩, -⟩ := s6.below hA18
      go_wp2_with fail
      clear y0 y1 u0 u1
      refine (cE aI aS caI caS _ hM18.own.rdS (hRS.below hA18)).mono ?_
      rintro e w19 ⟨rfl, hb19⟩
      have s19 := s18.below hb19
      have hA19 := behind hA18 hb19
      have hB19 := behind hB18 hb19
      have hM19 := hM18.below hb19
      have hz19 := hb19.size
      clear s18 hA18 hB18 hM18 hb19
      obtain ⟨⟨y0, y1⟩, -⟩ := id s19
      go_wp2_with fail
      clear y0 y1
      refine (cMG w10.heap.size w9.heap.size aI caI _ (by omega) hM19).mono ?_
      rintro e w20 ⟨rfl, hR20, hb20, hf20⟩
      have s20 := Slot2.blkR s19 (hf20 _ (Nat.le_refl _) s19.lt)
      have hA20 : Below wA.heap.size wA w20 := hA19.trans (hb20.mono (by omega))
      have hB20 : Below w.heap.size w w20 := hB19.trans (hb20.mono (by have := hB7.size; omega))
      clear s19 hA19 hB19 hM19 hf20 hb20
      obtain ⟨⟨y0, y1⟩, -⟩ := id s20
      go_wp2_with fail
      clear y0 y1
      refine (cHG aI caI _ hR20).mono ?_
      rintro e w21 ⟨rfl, hb21⟩
      have hB21 := behind hB20 hb21
      have hA21 := behind hA20 hb21
      have t21 := tA.below hA21
      obtain ⟨⟨d0, d1⟩, -⟩ := id t21
      go_wp2_with fail
      refine (toRg r0 a0 cap0 Q _ hpl hpp (hr0.below hB21)).mono ?_
      rintro e w22 ⟨g22, rfl, ho22, hb22⟩
      have hB22 := behind hB21 hb22
      go_wp2_with fail
      refine (toDvS a2 cap2 l _ hl1 (hr2.below hB22)).mono ?_
      rintro e w23 ⟨rfl, ho23, hb23⟩
      have hB23 := behind hB22 hb23
      go_wp2_with fail
      refine (cI _ _ _ _ _ ((OwnP.rdN ho22).below hb23) (fun e => by cases e) ho23).mono ?_
      rintro e w24 ⟨aH, caH, rfl, hOH, hb24⟩
      have s24 := slot2New w24 (.int .i64 r0) (.slice aH Q.length caH) 31
      have b24 := bel1 w24 (.cells #[.int .i64 r0, .slice aH Q.length caH] 31)
      have hb2024 := behind (behind (behind (behind hb21 hb22) hb23) hb24) b24
      have hB24 := behind hB20 hb2024
      have hA24 := behind hA20 hb2024
      have hRH := (OwnP.rdS hOH).below b24
      have g24 := s20.below hb2024
      have hR24 := hR20.below hb2024
      obtain ⟨⟨y0, y1⟩, -⟩ := id s24
      obtain ⟨⟨u0, u1⟩, -⟩ := s6.below hA24
      clear ho22 ho23 hOH hb21 hb22 hb23 hB21 hB22 hB23 hA21 t21 d0 d1 b24 hb24 cI
      go_wp2_with fail
      clear y0 y1 u0 u1
      generalize w24.alloc (.cells #[.int .i64 r0, .slice aH Q.length caH] 31) = wD at s24 hb2024 hB24 hA24 hRH g24 hR24 ⊢
      refine (cE aH aS caH caS _ hRH (hRS.below hA24)).mono ?_
      rintro e w25 ⟨rfl, hb25⟩
      have hB25 := behind hB24 hb25
      have hR25 := hR24.below hb25
      obtain ⟨⟨y0, y1⟩, -⟩ := g24.below hb25
      clear s24 g24 hRH hA24 hb2024 hR24 hb25 hB24
      go_wp2_with fail
      clear y0 y1
      refine (cHG aI caI _ hR25).mono ?_
      rintro e w26 ⟨rfl, hb26⟩
      have hB26 := behind hB25 hb26
      go_wp2
      go_ret
      exact ⟨rfl, hB26⟩
    · go_enter Try.func8, Try.ntmps8
      have hC' : (M : Int) - (l.length : Int) < 0 := by omega
      go_wp2_with fail
      refine (cZ _ (hr0.below hB0)).mono ?_
      rintro e v1 ⟨rfl, hb1⟩
      go_wp2_with (go_at_call 10; go_in)
      go_wp2
      go_ret
      exact ⟨rfl, behind hB0 hb1⟩

set_option maxRecDepth 100000 in
theorem lifted (os : Os) (started : os.Started) (H : Type) (enc : TypeId × Value → H) :
    ReturnsInHanded {} Try.checked os 8 .any (Rows.fnExactRebalanceSpec.pre6 enc Try.prog Try.f8 Rows.fnExactRebalanceRow.domain false) (Rows.fnExactRebalanceSpec.post enc Try.prog Try.f8 false true false false) := by
  refine returnsInHanded_of_change (C := Try.checked) own started (by kernel_rfl) Try.func8
    (ChangeSpec.witness6 (enc := enc) (C := Try.checked) false ⟨#[], #[.agg #[.int .i64 0, .slice none 0 0], .slice none 0 0], []⟩ 8 (by kernel_rfl) (by kernel_rfl) (by kernel_rfl) (by kernel_rfl)) ?_
  intro W base args ds gs before hval0 hW hcnd _
  have hval : ∀ (j : Nat) t v, Try.f8.params[j]? = some t → args[j]? = some v → Value.okWide Try.prog W .any base t v := hval0
  have hW' := hW
  obtain ⟨p, q, hA0, hV, rfl, hfz, hnd⟩ := hW
  have hA : DataW.TrodAll enc Try.prog W 0 (fun _ => true) true Try.f8.params.toList args.toList ds p := hA0
  rw [Try.params8] at hA hval
  obtain ⟨v0, vs0, d0, ds0, p0, q0, hargs, rfl, rfl, h0, r0⟩ := trodAll_cons hA
  obtain ⟨v1, vs1, d1, ds1, p1, q1, rfl, rfl, rfl, h1, r1⟩ := trodAll_cons r0
  obtain ⟨rfl, rfl, rfl⟩ := trodAll_nil r1
  obtain rfl : args = #[v0, v1] := by cases args; simp_all
  obtain ⟨rfl, rfl⟩ := trodVars_none hV
  have k0 := h0
  have lt0 : ∀ x ∈ p0, x.block < W.heap.size := by obtain ⟨m, hm⟩ := k0; exact DataW.trod_lt m _ _ _ hm
  obtain ⟨re0, a0, len0, cap0, z0, rfl, wr0, w0⟩ := openRgV (hval 0 24 v0 rfl rfl) h0
  obtain ⟨a1, len1, cap1, rfl⟩ := okWide_slice Try.underlying25 (hval 1 25 v1 rfl rfl)
  have k1 := h1
  have lt1 : ∀ x ∈ p1, x.block < W.heap.size := by obtain ⟨m, hm⟩ := k1; exact DataW.trod_lt m _ _ _ hm
  obtain ⟨z1, w1⟩ := openDvs h1
  clear hA0 hval0
  refine (walk re0 a0 len0 cap0 z0 a1 len1 cap1 z1 W wr0 w0 w1).mono fun e W' ⟨he, bel⟩ => ?_
  subst he
  exact ⟨_, rfl, _, _, _, [], _, [], hW', trodAll_mk1 (shut_bool Try.underlying4 _), (trodAll_cons_mk (Below.trod laidOut (by kernel_rfl) (of_decide_eq_true (by kernel_rfl)) k0 bel lt0) (trodAll_cons_mk (Below.trod laidOut (by kernel_rfl) (of_decide_eq_true (by kernel_rfl)) k1 bel lt1) trodAll_mk0)), rfl, bel.frame _, fun h => by cases h⟩

theorem over : Rows.fnExactRebalanceRow.holds Try.pinned (OpenSpec.ofChange Rows.fnExactRebalanceSpec) :=
  OpenClaim.holds_of_wide 8 Try.f8 rfl rfl rfl rfl rfl rfl rfl ⟨rfl, rfl, rfl, rfl, rfl⟩ rfl rfl rfl rfl rfl (by kernel_rfl) Try.func8 (by kernel_rfl)
    (of_decide_eq_true (by kernel_rfl)) (by unfold Func.isWrapper; first | (rw [if_pos (by decide +kernel)]; kernel_rfl) | (rw [if_neg (by decide +kernel)]; exact ⟨rfl, rfl⟩))
    (fun os started H enc _ => lifted os started H enc)

end Go.Proofs.Ytcejeiakgmamdan.fnExactRebalance
namespace Go.Proofs.Ytcejeiakgmamdan
theorem fnExactRebalance_holds : Rows.FnExactRebalanceSaid := fnExactRebalance.over
#print axioms fnExactRebalance_holds
end Go.Proofs.Ytcejeiakgmamdan
