/- Primaries of the program answers as the specification does, at every ring and every text: the same Ids in the same order; the ring reads behind the call as ahead of it; the answer lies in memory of its own: marks in the ring do not change it, and marks in it stay behind a second call. Where the text has more than 2^20 bytes, or the ring more than 2^20 entries together, the law itself answers true. -/
import Derived.Test.YtcejeiakgmamdaoRows
import Derived.Test.YtcejeiakgmamdaoPmI
import Derived.Test.YtcejeiakgmamdaoPmS
import Derived.Test.YtcejeiakgmamdaoRgK
import Derived.Test.YtcejeiakgmamdaoRgT
import Derived.Test.YtcejeiakgmamdaoRgZ
import Derived.Test.YtcejeiakgmamdaoRgE
import Derived.Test.YtcejeiakgmamdaoOpRg
import Derived.Test.YtcejeiakgmamdaoZnQ
import Derived.WalkKit
import Derived.ProofKit
import Derived.OpenShut
import Derived.ShutString
import Derived.ChangeOld
import Derived.Below
namespace Go.Proofs.Ytcejeiakgmamdao.fnExactPrimaries
open Go.ChangeShapes Go.WideShapes Go.ChangeAt Go.RowKit
open Go.ChangeMaps (open_string shut_string)
set_option linter.unusedVariables false

theorem own : ownKnob Try.prog.godebug = none := by kernel_rfl
theorem laidOut : laidOutB Try.prog = true := by kernel_rfl

open Wk

theorem ob8 {g n c j : Nat} (h : (Value.slice (some ⟨g, 0, none⟩) n c).ownBlock = some j) : g = j := by simpa [Value.ownBlock] using h
theorem rowBlk {w w' : World} {base n M : Nat} {e : TypeId} {v : Value} {xs : List Value} (h : w.ownsRow base e 1 v n xs) (hM : M ≤ base) (he : ∀ i, M ≤ i → i < w.heap.size → w'.heap[i]? = w.heap[i]?) : w'.ownsRow base e 1 v n xs := by
  refine ⟨h.1, ?_⟩
  rcases h.2 with h | ⟨g, cap, cur, e1, e2, e3, e4⟩
  · exact .inl h
  · exact .inr ⟨g, cap, cur, e1, e2, by rw [he g (by omega) (Array.getElem?_eq_some_iff.1 e3).1]; exact e3, e4⟩
theorem rowLow {w w' : World} {base n B : Nat} {e : TypeId} {v : Value} {xs : List Value} (h : w.ownsRow base e 1 v n xs) (hB : ∀ j, v.ownBlock = some j → j < B) (hb : Below B w w') : w'.ownsRow base e 1 v n xs := by
  refine ⟨h.1, ?_⟩
  rcases h.2 with h | ⟨g, cap, cur, e1, e2, e3, e4⟩
  · exact .inl h
  · subst e1
    exact .inr ⟨g, cap, cur, rfl, e2, by rw [hb.block g (hB g rfl)]; exact e3, e4⟩
theorem Slot2.blkS {w w' : World} {b : Nat} {u v : Value} (h : Slot2 w b u v) (e : w'.heap[b]? = w.heap[b]?) : Slot2 w' b u v :=
  ⟨⟨by rw [World.cell?_of_block (w := w) e]; exact h.1.1, by rw [World.cell?_of_block (w := w) e]; exact h.1.2⟩, by rw [World.frozen?_of_block (w := w) e]; exact h.2.1, by rw [World.frozen?_of_block (w := w) e]; exact h.2.2⟩
theorem keptZ {w w' : World} {base n : Nat} {v : Value} {xs : List Value} {row : Option Nat} (h : w.ownsRow base 3 1 v n xs) (hg : w.grownBy w' row) (hne : ∀ j, v.ownBlock = some j → row ≠ some j) : w'.ownsRow base 3 1 v n xs :=
  h.kept hg (by
    cases hv : v.ownBlock with
    | none => exact .inl rfl
    | some j => exact .inr (fun e => hne j hv e.symm))

set_option maxHeartbeats 8000000 in
set_option maxRecDepth 100000 in
theorem walk (r0 : Int) (a0 : Option Addr) (len0 cap0 : Nat) (Q : List (List Int)) (s : ByteArray) (w : World) (wr0 : (Lit.int .i64 r0).wf = true) (w0 : IsPts w a0 len0 cap0 Q) (ws : s.size ≤ maxLen) :
    Calls Try.prog 4 #[.agg #[.int .i64 r0, .slice a0 len0 cap0], .string s] w fun e w' => e = .returned (.bool true) ∧ Below w.heap.size w w' := by
  clear wr0
  obtain ⟨rfl, hm0, hp0, hr0⟩ := w0
  unfold maxLen at hm0 hp0 ws
  have hB0 := bel1 w (.cells #[.int .i64 r0, .slice a0 Q.length cap0] 24)
  have s0 := slot2New w (.int .i64 r0) (.slice a0 Q.length cap0) 24
  by_cases hs : s.size ≤ 1048576
  · have hsI : ¬ ((s.size : Int) > 1048576) := by omega
    have cZ := fun w h => szRg r0 a0 cap0 1048576 Q w (by omega) (by omega) (fun q hq => by have := hp0 q hq; omega) h
    have e20 : ((1048576 : Nat) : Int) = 1048576 := rfl
    rw [e20] at cZ
    clear e20
    by_cases hA : 1048576 < Q.length + tot Q
    · rw [szV_no hA] at cZ
      go_enter Try.func4, Try.ntmps4
      go_wp2_with fail
      refine (cZ _ (hr0.below hB0)).mono ?_
      rintro e v1 ⟨rfl, hb1⟩
      go_wp2
      go_ret
      exact ⟨rfl, behind hB0 hb1⟩
    · rw [szV_yes hA] at cZ
      obtain ⟨M, hL⟩ : ∃ L : Nat, ((1048576 : Nat) : Int) - ((Q.length + tot Q : Nat) : Int) = L := ⟨1048576 - (Q.length + tot Q), by omega⟩
      rw [hL] at cZ
      have ht : tot Q ≤ 1048576 := by omega
      have hpl : Q.length ≤ 1048576 := by omega
      have hpp : ∀ q ∈ Q, q.length ≤ 1048576 := fun q hq => Nat.le_trans (tot_mem hq) ht
      have hkn : ¬ ((1 : Int) + (tot Q : Int) < 0) := by omega
      clear hL hA hp0
      have hq := pick_len s hpp
      have cS := fun a ca w h => specPrims r0 a ca Q s w hs hpl hq h
      have cI := fun a ca w h => implPrims r0 a ca Q s w hs hpl hq h
      generalize pick Q s = p at cS cI hq
      have hqn : ¬ ((1 : Int) + (p.length : Int) < 0) := by omega
      go_enter Try.func4, Try.ntmps4
      go_wp2_with fail
      refine (cZ _ (hr0.below hB0)).mono ?_
      rintro e v1 ⟨rfl, hb1⟩
      have hB2 := behind hB0 hb1
      have t0 := s0.below hb1
      obtain ⟨⟨r0', r1'⟩, -⟩ := id t0
      clear cZ s0
      go_wp2_with fail
      refine (toRg r0 a0 cap0 Q _ hpl hpp (hr0.below hB2)).mono ?_
      rintro e w3 ⟨g3, rfl, ho3, hb3⟩
      have hB3 := behind hB2 hb3
      go_wp2_with fail
      refine (cS _ _ _ (OwnP.rdN ho3)).mono ?_
      rintro e w4 ⟨aS, caS, rfl, hS, hb4⟩
      have hB4 := behind hB3 hb4
      have t0 := (t0.below hb3).below hb4
      have hSlt : ∀ j, (Value.slice aS p.length caS).ownBlock = some j → j < w4.heap.size := fun j e => (World.ownsRow.lt hS j e).2
      have hl4 := t0.lt
      obtain ⟨⟨r04, r14⟩, -⟩ := id t0
      clear ho3 r0' r1' cS hb3 hb4
      go_wp2_with fail
      refine (toRg r0 a0 cap0 Q _ hpl hpp (hr0.below hB4)).mono ?_
      rintro e w7 ⟨g7, rfl, ho7, hb7⟩
      have b7 := bel1 w7 (.cells #[.int .i64 r0, .slice (some ⟨g7, 0, none⟩) Q.length Q.length] 29)
      have hA7 := behind hb7 b7
      have hB7 := behind hB4 hA7
      have t0 := t0.below hA7
      have hS7 := ownOn hS hA7
      have x7 := slot2New w7 (.int .i64 r0) (.slice (some ⟨g7, 0, none⟩) Q.length Q.length) 29
      have hX7 := (OwnP.top ho7).below b7
      have hs7 : w7.heap.size + 1 = (w7.alloc (.cells #[.int .i64 r0, .slice (some ⟨g7, 0, none⟩) Q.length Q.length] 29)).heap.size := by simp
      have hz7 := hb7.size
      obtain ⟨⟨x70, x71⟩, -⟩ := id x7
      clear ho7 hb7 r04 r14 hS
      go_wp2_with fail
      clear x70 x71
      generalize w7.alloc (.cells #[.int .i64 r0, .slice (some ⟨g7, 0, none⟩) Q.length Q.length] 29) = wB at b7 hA7 hB7 t0 x7 hX7 hs7 hS7 ⊢
      have HS7 : Hid (w7.heap.size + 1 = wB.heap.size) := hs7
      clear b7 hs7
      refine (cI _ _ _ hX7.own.rdS).mono ?_
      rintro e w8 ⟨g8, c8, rfl, hI, hb8⟩
      have hB8 := behind hB7 hb8
      have x8 := x7.below hb8
      have t8 := t0.below hb8
      have hX8 := hX7.below hb8
      have hS8 := ownOn hS7 hb8
      have hIge : wB.heap.size ≤ g8 := (World.ownsRow.lt hI g8 rfl).1
      clear x7 t0 hX7 hS7
      go_wp2_with fail
      refine (eqZS _ _ _ _ p _ hq (Zv_rd hI) (Zv_rd hS8)).mono ?_
      rintro e w9 ⟨rfl, hb9⟩
      have x9 := x8.below hb9
      have t9 := t8.below hb9
      have hXR := (OwnP.rdS hX8.own).below hb9
      have hD9 := (behind hB8 hb9).drew
      obtain ⟨⟨d0, d1⟩, -⟩ := id t9
      obtain ⟨⟨d3, d4⟩, -⟩ := id x9
      go_wp2_with fail
      go_region_held3 (fun wy => wy.cell? ⟨w.heap.size, 0, none⟩ = some (.int .i64 r0) ∧ wy.cell? ⟨w.heap.size, 1, none⟩ = some (.slice a0 Q.length cap0) ∧ wy.cell? ⟨w7.heap.size, 0, none⟩ = some (.int .i64 r0) ∧ wy.cell? ⟨w7.heap.size, 1, none⟩ = some (.slice (some ⟨g7, 0, none⟩) Q.length Q.length))
        (first | exact ⟨d0, d1, d3, d4⟩ | exact keepR4 ‹_› ‹_› | go_keep)
        (first | (go_at_call 9; refine (toRg r0 a0 cap0 Q _ hpl hpp (by exact RdP.below hr0 hD9)).mono ?_; rintro e w10 ⟨h1, rfl, hp1', hc1⟩) | (go_at_call 11; refine (eqRg r0 _ _ _ _ Q _ hpl hpp (by exact RdP.below (w := w9.drew) hXR hc1) (by exact OwnP.rdS hp1')).mono ?_; rintro e w11 ⟨rfl, hc2⟩))
      have hb11 : Below w8.heap.size w8 w11 := behind (behind hb9.drew hc1) hc2
      have hB11 := behind hB8 hb11
      have x11 := x8.below hb11
      have t11 := t8.below hb11
      have hX11 := hX8.below hb11
      have hS11 := ownOn hS8 hb11
      have hI11 := ownOn hI hb11
      have hs7 := HS7.out
      obtain ⟨⟨d3, d4⟩, -⟩ := id x11
      clear hb9 x9 t9 hXR hD9 hc1 hc2 hp1' x8 t8 hX8 hS8 hI
      go_wp2_with fail
      refine (markRgA r0 w7.heap.size w4.heap.size (some ⟨g7, 0, none⟩) Q.length 1 Q _ hpl ht (by omega) (by have := hb11.size; have := hb8.size; omega) hX11).mono ?_
      rintro e w12 ⟨rfl, -, hb12, hf12⟩
      have hI12 := rowBlk hI11 (M := w7.heap.size) (by omega) hf12
      have hS12 := rowLow hS11 hSlt hb12
      have hB12 : Below w.heap.size w w12 := hB11.trans (hb12.mono hB4.size)
      have t12 : Slot2 w12 w.heap.size (.int .i64 r0) (.slice a0 Q.length cap0) := Slot2.blkS t11 (hb12.block _ hl4)
      clear d3 d4 hX11 x11 t11 hI11 hS11 hf12 hb12 hB11
      go_wp2_with fail
      refine (eqZS _ _ _ _ p _ hq (Zv_rd hI12) (Zv_rd hS12)).mono ?_
      rintro e w13 ⟨rfl, hb13⟩
      have hB13 := behind hB12 hb13
      have hI13 := ownOn hI12 hb13
      have hS13 := ownOn hS12 hb13
      have t13 := t12.below hb13
      clear hI12 hS12 t12
      go_wp2_with fail
      refine (markZS _ _ _ 1 _ _ _ hq (by omega) hI13).mono ?_
      rintro e w14 ⟨rfl, hI14, hg14⟩
      have hS14 := keptZ hS13 hg14 (fun j e h => by have h9 := ob8 h; have := hSlt _ e; omega)
      have hB14 : Below w.heap.size w w14 := hB13.grown hg14 hB13.size (fun j e => by have h9 := ob8 e; omega)
      have t14 := Slot2.grown t13 hg14 (fun e => by have h9 := ob8 e.symm; omega)
      have hm14 : RdZ w14 (some ⟨g8, 0, none⟩) (mkz 1 p.length) := Zv_rd (by rw [mkz_len]; exact hI14)
      clear hI13 hS13 hI14 t13
      go_wp2_with fail
      refine (heldZS _ _ _ 1 _ hq (by omega) hm14).mono ?_
      rintro e wa ⟨rfl, hwa⟩
      subst wa
      obtain ⟨⟨d0, d1⟩, -⟩ := id t14
      go_wp2_with fail
      refine (toRg r0 a0 cap0 Q _ hpl hpp (hr0.below hB14)).mono ?_
      rintro e w15 ⟨g15, rfl, ho15, hb15⟩
      go_wp2_with fail
      refine (cI _ _ _ (OwnP.rdS ho15)).mono ?_
      rintro e w16 ⟨g16, c16, rfl, hI16, hb16⟩
      have hb1416 := behind hb15 hb16
      have hS16 := ownOn hS14 hb1416
      have hB16 := behind hB14 hb1416
      go_wp2_with fail
      refine (eqZS _ _ _ _ p _ hq (Zv_rd hI16) (Zv_rd hS16)).mono ?_
      rintro e w17 ⟨rfl, hb17⟩
      go_wp2_with fail
      refine (heldZS _ _ _ 1 _ hq (by omega) (hm14.below (behind hb1416 hb17))).mono ?_
      rintro e wa ⟨rfl, hwa⟩
      subst wa
      go_wp2
      go_ret
      exact ⟨rfl, behind hB16 hb17⟩
  · have hsI : (s.size : Int) > 1048576 := by omega
    go_enter Try.func4, Try.ntmps4
    go_wp2
    go_ret
    exact ⟨rfl, hB0⟩

set_option maxRecDepth 100000 in
theorem lifted (os : Os) (started : os.Started) (H : Type) (enc : TypeId × Value → H) :
    ReturnsInHanded {} Try.checked os 4 .any (Rows.fnExactPrimariesSpec.pre6 enc Try.prog Try.f4 Rows.fnExactPrimariesRow.domain false) (Rows.fnExactPrimariesSpec.post enc Try.prog Try.f4 false true false false) := by
  refine returnsInHanded_of_change (C := Try.checked) own started (by kernel_rfl) Try.func4
    (ChangeSpec.witness6 (enc := enc) (C := Try.checked) false ⟨#[], #[.agg #[.int .i64 0, .slice none 0 0], .string ByteArray.empty], []⟩ 8 (by kernel_rfl) (by kernel_rfl) (by kernel_rfl) (by kernel_rfl)) ?_
  intro W base args ds gs before hval0 hW hcnd _
  have hval : ∀ (j : Nat) t v, Try.f4.params[j]? = some t → args[j]? = some v → Value.okWide Try.prog W .any base t v := hval0
  have hW' := hW
  obtain ⟨p, q, hA0, hV, rfl, hfz, hnd⟩ := hW
  have hA : DataW.TrodAll enc Try.prog W 0 (fun _ => true) true Try.f4.params.toList args.toList ds p := hA0
  rw [Try.params4] at hA hval
  obtain ⟨v0, vs0, d0, ds0, p0, q0, hargs, rfl, rfl, h0, r0⟩ := trodAll_cons hA
  obtain ⟨v1, vs1, d1, ds1, p1, q1, rfl, rfl, rfl, h1, r1⟩ := trodAll_cons r0
  obtain ⟨rfl, rfl, rfl⟩ := trodAll_nil r1
  obtain rfl : args = #[v0, v1] := by cases args; simp_all
  obtain ⟨rfl, rfl⟩ := trodVars_none hV
  have k0 := h0
  have lt0 : ∀ x ∈ p0, x.block < W.heap.size := by obtain ⟨m, hm⟩ := k0; exact DataW.trod_lt m _ _ _ hm
  obtain ⟨re0, a0, len0, cap0, z0, rfl, wr0, w0⟩ := openRgV (hval 0 24 v0 rfl rfl) h0
  have k1 := h1
  have lt1 : ∀ x ∈ p1, x.block < W.heap.size := by obtain ⟨m, hm⟩ := k1; exact DataW.trod_lt m _ _ _ hm
  obtain ⟨a1, rfl, rfl, rfl, w1⟩ := open_string Try.underlying9 (hval 1 9 v1 rfl rfl) h1
  clear hA0 hval0
  refine (walk re0 a0 len0 cap0 z0 a1 W wr0 w0 w1).mono fun e W' ⟨he, bel⟩ => ?_
  subst he
  exact ⟨_, rfl, _, _, _, [], _, [], hW', trodAll_mk1 (shut_bool Try.underlying4 _), (trodAll_cons_mk (Below.trod laidOut (by kernel_rfl) (of_decide_eq_true (by kernel_rfl)) k0 bel lt0) (trodAll_cons_mk (Below.trod laidOut (by kernel_rfl) (of_decide_eq_true (by kernel_rfl)) k1 bel lt1) trodAll_mk0)), rfl, bel.frame _, fun h => by cases h⟩

theorem over : Rows.fnExactPrimariesRow.holds Try.pinned (OpenSpec.ofChange Rows.fnExactPrimariesSpec) :=
  OpenClaim.holds_of_wide 4 Try.f4 rfl rfl rfl rfl rfl rfl rfl ⟨rfl, rfl, rfl, rfl, rfl⟩ rfl rfl rfl rfl rfl (by kernel_rfl) Try.func4 (by kernel_rfl)
    (of_decide_eq_true (by kernel_rfl)) (by unfold Func.isWrapper; first | (rw [if_pos (by decide +kernel)]; kernel_rfl) | (rw [if_neg (by decide +kernel)]; exact ⟨rfl, rfl⟩))
    (fun os started H enc _ => lifted os started H enc)

end Go.Proofs.Ytcejeiakgmamdao.fnExactPrimaries
namespace Go.Proofs.Ytcejeiakgmamdao
theorem fnExactPrimaries_holds : Rows.FnExactPrimariesSaid := fnExactPrimaries.over
#print axioms fnExactPrimaries_holds
end Go.Proofs.Ytcejeiakgmamdao
