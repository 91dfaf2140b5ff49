/- Handoffs of the program answers as the specification does, at every ring, every list of devices and every text: the same Ids in the same order; ring and devices read behind the call as ahead of it; the answer lies in memory of its own: marks in the arguments do not change it, and marks in it stay behind a second call. Where the text has more than 2^20 bytes, or ring and devices more than 2^20 entries together, the law itself answers true. -/
import Derived.Test.YtcejeiakgmamdaoRows
import Derived.Test.YtcejeiakgmamdaoHfI
import Derived.Test.YtcejeiakgmamdaoHfS
import Derived.Test.YtcejeiakgmamdaoRgK
import Derived.Test.YtcejeiakgmamdaoRgT
import Derived.Test.YtcejeiakgmamdaoRgZ
import Derived.Test.YtcejeiakgmamdaoRgE
import Derived.Test.YtcejeiakgmamdaoOpRg
import Derived.Test.YtcejeiakgmamdaoZnQ
import Derived.Test.YtcejeiakgmamdaoOpDw
import Derived.Test.YtcejeiakgmamdaoOpDv
import Derived.Test.YtcejeiakgmamdaoToDvS
import Derived.Test.YtcejeiakgmamdaoToDvO
import Derived.Test.YtcejeiakgmamdaoEqDvS
import Derived.Test.YtcejeiakgmamdaoMkDv
import Derived.WalkKit
import Derived.ProofKit
import Derived.OpenShut
import Derived.ShutString
import Derived.ChangeOld
import Derived.Below
namespace Go.Proofs.Ytcejeiakgmamdao.fnExactHandoffs
open Go.ChangeShapes Go.WideShapes Go.ChangeAt Go.RowKit
open Go.ChangeMaps (open_string shut_string)
set_option linter.unusedVariables false

theorem own : ownKnob Try.prog.godebug = none := by kernel_rfl
theorem laidOut : laidOutB Try.prog = true := by kernel_rfl

open Wk

theorem ob8 {g n c j : Nat} (h : (Value.slice (some ⟨g, 0, none⟩) n c).ownBlock = some j) : g = j := by simpa [Value.ownBlock] using h
theorem rowBlk {w w' : World} {base n M : Nat} {e : TypeId} {v : Value} {xs : List Value} (h : w.ownsRow base e 1 v n xs) (hM : M ≤ base) (he : ∀ i, M ≤ i → i < w.heap.size → w'.heap[i]? = w.heap[i]?) : w'.ownsRow base e 1 v n xs := by
  refine ⟨h.1, ?_⟩
  rcases h.2 with h | ⟨g, cap, cur, e1, e2, e3, e4⟩
  · exact .inl h
  · exact .inr ⟨g, cap, cur, e1, e2, by rw [he g (by omega) (Array.getElem?_eq_some_iff.1 e3).1]; exact e3, e4⟩
theorem rowLow {w w' : World} {base n B : Nat} {e : TypeId} {v : Value} {xs : List Value} (h : w.ownsRow base e 1 v n xs) (hB : ∀ j, v.ownBlock = some j → j < B) (hb : Below B w w') : w'.ownsRow base e 1 v n xs := by
  refine ⟨h.1, ?_⟩
  rcases h.2 with h | ⟨g, cap, cur, e1, e2, e3, e4⟩
  · exact .inl h
  · subst e1
    exact .inr ⟨g, cap, cur, rfl, e2, by rw [hb.block g (hB g rfl)]; exact e3, e4⟩
theorem Slot2.blkS {w w' : World} {b : Nat} {u v : Value} (h : Slot2 w b u v) (e : w'.heap[b]? = w.heap[b]?) : Slot2 w' b u v :=
  ⟨⟨by rw [World.cell?_of_block (w := w) e]; exact h.1.1, by rw [World.cell?_of_block (w := w) e]; exact h.1.2⟩, by rw [World.frozen?_of_block (w := w) e]; exact h.2.1, by rw [World.frozen?_of_block (w := w) e]; exact h.2.2⟩
theorem keptZ {w w' : World} {base n : Nat} {v : Value} {xs : List Value} {row : Option Nat} (h : w.ownsRow base 3 1 v n xs) (hg : w.grownBy w' row) (hne : ∀ j, v.ownBlock = some j → row ≠ some j) : w'.ownsRow base 3 1 v n xs :=
  h.kept hg (by
    cases hv : v.ownBlock with
    | none => exact .inl rfl
    | some j => exact .inr (fun e => hne j hv e.symm))

set_option maxHeartbeats 8000000 in
set_option maxRecDepth 100000 in
theorem walk (r0 : Int) (a0 : Option Addr) (len0 cap0 : Nat) (Q : List (List Int)) (a2 : Option Addr) (len2 cap2 : Nat) (l : List Sm.St) (s : ByteArray) (w : World) (wr0 : (Lit.int .i64 r0).wf = true) (w0 : IsPts w a0 len0 cap0 Q) (w2 : IsDvz w a2 len2 cap2 l) (ws : s.size ≤ maxLen) :
    Calls Try.prog 5 #[.agg #[.int .i64 r0, .slice a0 len0 cap0], .slice a2 len2 cap2, .string s] w fun e w' => e = .returned (.bool true) ∧ Below w.heap.size w w' := by
  clear wr0
  obtain ⟨rfl, hm0, hp0, hr0⟩ := w0
  obtain ⟨rfl, hm2, hr2, hwf⟩ := w2
  unfold maxLen at hm0 hp0 ws hm2
  have hB0 := bel1 w (.cells #[.int .i64 r0, .slice a0 Q.length cap0] 24)
  have s0 := slot2New w (.int .i64 r0) (.slice a0 Q.length cap0) 24
  by_cases hs : s.size ≤ 1048576
  · have hsI : ¬ ((s.size : Int) > 1048576) := by omega
    have cZ := fun w h => szRg r0 a0 cap0 1048576 Q w (by omega) (by omega) (fun q hq => by have := hp0 q hq; omega) h
    have e20 : ((1048576 : Nat) : Int) = 1048576 := rfl
    rw [e20] at cZ
    clear e20
    by_cases hA : 1048576 < Q.length + tot Q
    · rw [szV_no hA] at cZ
      go_enter Try.func5, Try.ntmps5
      go_wp2_with fail
      refine (cZ _ (hr0.below hB0)).mono ?_
      rintro e v1 ⟨rfl, hb1⟩
      go_wp2
      go_ret
      exact ⟨rfl, behind hB0 hb1⟩
    · rw [szV_yes hA] at cZ
      obtain ⟨M, hL⟩ : ∃ L : Nat, ((1048576 : Nat) : Int) - ((Q.length + tot Q : Nat) : Int) = L := ⟨1048576 - (Q.length + tot Q), by omega⟩
      rw [hL] at cZ
      have hM1 : M ≤ 1048576 := by omega
      have ht : tot Q ≤ 1048576 := by omega
      have hpl : Q.length ≤ 1048576 := by omega
      have hpp : ∀ q ∈ Q, q.length ≤ 1048576 := fun q hq => Nat.le_trans (tot_mem hq) ht
      have hk0 : 1 + tot Q ≤ 1048576 := by
        by_cases h0 : Q.length = 0
        · have : Q = [] := List.length_eq_zero_iff.1 h0
          subst this
          simp [tot]
        · omega
      clear hL hA hp0
      by_cases hC : l.length ≤ M
      · have hl1 : l.length ≤ 1048576 := by omega
        have hkn : ¬ ((1 : Int) + (tot Q : Int) + 3 * (l.length : Int) < 0) := by omega
        have hq := pick_len s hpp
        have hh := hand_len (pick Q s) l
        have cS := fun a c ca cc w h h2 => specHand r0 a c ca cc Q s l w hs hpl hq hl1 h h2
        have cI := fun a c ca cc w h h2 => implHands r0 a c ca cc Q s l w hs hpl hq hl1 h h2 hwf
        generalize hand (pick Q s) l = p at cS cI hh
        clear hq
        have hq : p.length ≤ 1048576 := by omega
        have hqn : ¬ ((1 : Int) + (p.length : Int) < 0) := by omega
        go_enter Try.func5, Try.ntmps5
        go_wp2_with fail
        refine (cZ _ (hr0.below hB0)).mono ?_
        rintro e v1 ⟨rfl, hb1⟩
        have hB2 := behind hB0 hb1
        have t0 := s0.below hb1
        obtain ⟨⟨r0', r1'⟩, -⟩ := id t0
        clear cZ s0
        go_wp2_with (go_at_call 18; go_in)
        go_wp2_with fail
        refine (toRg r0 a0 cap0 Q _ hpl hpp (hr0.below hB2)).mono ?_
        rintro e w3 ⟨g3, rfl, ho3, hb3⟩
        have hB3 := behind hB2 hb3
        go_wp2_with fail
        refine (toDvS a2 cap2 l _ hl1 (hr2.below hB3)).mono ?_
        rintro e w3b ⟨rfl, ho3b, hb3b⟩
        have hB3b := behind hB3 hb3b
        go_wp2_with fail
        refine (cS _ _ _ _ _ ((OwnP.rdN ho3).below hb3b) ho3b).mono ?_
        rintro e w4 ⟨aS, caS, rfl, hS, hb4⟩
        have hB4 := behind hB3b hb4
        have t0 := ((t0.below hb3).below hb3b).below hb4
        have hl4 := t0.lt
        have hSlt : ∀ j, (Value.slice aS p.length caS).ownBlock = some j → j < w4.heap.size := fun j e => (World.ownsRow.lt hS j e).2
        obtain ⟨⟨r04, r14⟩, -⟩ := id t0
        clear ho3 ho3b r0' r1' cS hb3 hb3b hb4
        go_wp2_with fail
        refine (toRg r0 a0 cap0 Q _ hpl hpp (hr0.below hB4)).mono ?_
        rintro e w7 ⟨g7, rfl, ho7, hb7⟩
        have b7 := bel1 w7 (.cells #[.int .i64 r0, .slice (some ⟨g7, 0, none⟩) Q.length Q.length] 29)
        have hA7 := behind hb7 b7
        have hB7 := behind hB4 hA7
        have t0 := t0.below hA7
        have hS7 := ownOn hS hA7
        have x7 := slot2New w7 (.int .i64 r0) (.slice (some ⟨g7, 0, none⟩) Q.length Q.length) 29
        have hX7 := (OwnP.top ho7).below b7
        have hs7 : w7.heap.size + 1 = (w7.alloc (.cells #[.int .i64 r0, .slice (some ⟨g7, 0, none⟩) Q.length Q.length] 29)).heap.size := by simp
        have hz7 := hb7.size
        clear ho7 hb7 r04 r14 hS
        go_wp2_with fail
        generalize w7.alloc (.cells #[.int .i64 r0, .slice (some ⟨g7, 0, none⟩) Q.length Q.length] 29) = wB at b7 hA7 hB7 t0 x7 hX7 hs7 hS7 ⊢
        have HS7 : Hid (w7.heap.size + 1 = wB.heap.size) := hs7
        clear b7 hs7
        refine (toDvO a2 cap2 l _ hl1 (hr2.below hB7)).mono ?_
        rintro e w7b ⟨rfl, ho7b, ⟨xs, hx7b⟩, hb7b⟩
        have hg7b : wB.heap.size < w7b.heap.size := (World.ownsRow.lt hx7b wB.heap.size rfl).2
        have hB7b := behind hB7 hb7b
        have x7b := x7.below hb7b
        have t7b := t0.below hb7b
        have hX7b := hX7.below hb7b
        have hS7b := ownOn hS7 hb7b
        obtain ⟨⟨x70, x71⟩, -⟩ := id x7b
        clear x7 t0 hX7 hS7
        go_wp2_with fail
        clear x70 x71
        refine (cI _ _ _ _ _ hX7b.own.rdS ho7b).mono ?_
        rintro e w8 ⟨g8, c8, rfl, hI, hb8⟩
        have hB8 := behind hB7b hb8
        have x8 := x7b.below hb8
        have t8 := t7b.below hb8
        have hX8 := hX7b.below hb8
        have hS8 := ownOn hS7b hb8
        have hx8 := ownOn hx7b hb8
        have ho8 := ho7b.below hb8
        have hIge : w7b.heap.size ≤ g8 := (World.ownsRow.lt hI g8 rfl).1
        clear x7b t7b hX7b hS7b hx7b ho7b
        go_wp2_with fail
        refine (eqZS _ _ _ _ p _ hq (Zv_rd hI) (Zv_rd hS8)).mono ?_
        rintro e w9 ⟨rfl, hb9⟩
        have x9 := x8.below hb9
        have t9 := t8.below hb9
        have hXR := (OwnP.rdS hX8.own).below hb9
        have hD9 := (behind hB8 hb9).drew
        obtain ⟨⟨d0, d1⟩, -⟩ := id t9
        obtain ⟨⟨d3, d4⟩, -⟩ := id x9
        go_wp2_with fail
        go_region_held3 (fun wy => wy.cell? ⟨w.heap.size, 0, none⟩ = some (.int .i64 r0) ∧ wy.cell? ⟨w.heap.size, 1, none⟩ = some (.slice a0 Q.length cap0) ∧ wy.cell? ⟨w7.heap.size, 0, none⟩ = some (.int .i64 r0) ∧ wy.cell? ⟨w7.heap.size, 1, none⟩ = some (.slice (some ⟨g7, 0, none⟩) Q.length Q.length))
          (first | exact ⟨d0, d1, d3, d4⟩ | exact keepR4 ‹_› ‹_› | go_keep)
          (first | (go_at_call 9; refine (toRg r0 a0 cap0 Q _ hpl hpp (by exact RdP.below hr0 hD9)).mono ?_; rintro e w10 ⟨h1, rfl, hp1', hc1⟩) | (go_at_call 11; refine (eqRg r0 _ _ _ _ Q _ hpl hpp (by exact RdP.below (w := w9.drew) hXR hc1) (by exact OwnP.rdS hp1')).mono ?_; rintro e w11 ⟨rfl, hc2⟩))
        have hb11 : Below w8.heap.size w8 w11 := behind (behind hb9.drew hc1) hc2
        have hB11 := behind hB8 hb11
        clear hb9 x9 t9 hXR hD9 hc1 hc2 hp1' d0 d1 d3 d4
        have ho11 := ho8.below hb11
        go_wp2_with fail
        refine (toDvS a2 cap2 l _ hl1 (hr2.below hB11)).mono ?_
        rintro e v12 ⟨rfl, ho12, hb12⟩
        go_wp2_with fail
        refine (eqDvS _ _ _ _ l _ hl1 (ho11.below hb12) ho12).mono ?_
        rintro e v13 ⟨rfl, hb13⟩
        have hb813 := behind hb11 (behind hb12 hb13)
        have hB13 := behind hB8 hb813
        have x13 := x8.below hb813
        have t13 := t8.below hb813
        have hX13 := hX8.below hb813
        have hS13 := ownOn hS8 hb813
        have hI13 := ownOn hI hb813
        have hx13 := ownOn hx8 hb813
        have hs7 := HS7.out
        obtain ⟨⟨d3, d4⟩, -⟩ := id x13
        clear x8 t8 hX8 hS8 hI hx8 ho8 ho11 ho12 hb11 hb12 hb13 hB11
        go_wp2_with fail
        refine (markRgA r0 w7.heap.size w4.heap.size (some ⟨g7, 0, none⟩) Q.length 1 Q _ hpl ht (by omega) (by have := hb813.size; have := hb8.size; omega) hX13).mono ?_
        rintro e w14 ⟨rfl, -, hb14, hf14⟩
        have hI14 := rowBlk hI13 (M := w7.heap.size) (by omega) hf14
        have hS14 := rowLow hS13 hSlt hb14
        have hB14 : Below w.heap.size w w14 := hB13.trans (hb14.mono hB4.size)
        have t14 : Slot2 w14 w.heap.size (.int .i64 r0) (.slice a0 Q.length cap0) := Slot2.blkS t13 (hb14.block _ hl4)
        have hx14 : ∃ zs, w14.ownsRow wB.heap.size 63 3 (.slice (some ⟨wB.heap.size, 0, none⟩) l.length l.length) l.length zs := by
          refine ⟨xs, hx13.1, ?_⟩
          rcases hx13.2 with h | ⟨g, cap, cur, e1, e2, e3, e4⟩
          · exact .inl h
          · refine .inr ⟨g, cap, cur, e1, e2, ?_, e4⟩
            rw [hf14 g (by omega) ((Array.getElem?_eq_some_iff.1 e3).1)]
            exact e3
        obtain ⟨zs, hx14⟩ := hx14
        clear d3 d4 hX13 x13 t13 hI13 hS13 hx13 hf14 hb14 hB13
        go_wp2_with fail
        have cDV := markDvS _ _ _ _ (1 + tot Q) _ _ hl1 hk0 hx14
        rw [show ((1 + tot Q : Nat) : Int) = 1 + (tot Q : Int) from by omega] at cDV
        refine cDV.mono ?_
        rintro e w15 ⟨rfl, -, hg15⟩
        have hI15 := keptZ hI14 hg15 (fun j e h => by have h9 : wB.heap.size = j := (by simpa using h); have h8 := ob8 e; omega)
        have hS15 := keptZ hS14 hg15 (fun j e h => by have h9 : wB.heap.size = j := (by simpa using h); have := hSlt _ e; omega)
        have hB15 : Below w.heap.size w w15 := hB14.grown hg15 hB14.size (fun j e => by have h9 : wB.heap.size = j := (by simpa using e); omega)
        have t15 := Slot2.grown t14 hg15 (fun e => by have h9 : w.heap.size = wB.heap.size := (by simpa using e); omega)
        clear hx14 hg15 hI14 hS14 hB14 t14
        go_wp2_with fail
        refine (eqZS _ _ _ _ p _ hq (Zv_rd hI15) (Zv_rd hS15)).mono ?_
        rintro e w16 ⟨rfl, hb16⟩
        have hB16 := behind hB15 hb16
        have hI16 := ownOn hI15 hb16
        have hS16 := ownOn hS15 hb16
        have t16 := t15.below hb16
        clear hI15 hS15 t15
        go_wp2_with fail
        refine (markZS _ _ _ 1 _ _ _ hq (by omega) hI16).mono ?_
        rintro e w17 ⟨rfl, hI17, hg17⟩
        have hS17 := keptZ hS16 hg17 (fun j e h => by have h9 := ob8 h; have := hSlt _ e; omega)
        have hB17 : Below w.heap.size w w17 := hB16.grown hg17 hB16.size (fun j e => by have h9 := ob8 e; omega)
        have t17 := Slot2.grown t16 hg17 (fun e => by have h9 := ob8 e.symm; omega)
        have hm17 : RdZ w17 (some ⟨g8, 0, none⟩) (mkz 1 p.length) := Zv_rd (by rw [mkz_len]; exact hI17)
        clear hI16 hS16 hI17 t16
        go_wp2_with fail
        refine (heldZS _ _ _ 1 _ hq (by omega) hm17).mono ?_
        rintro e wa ⟨rfl, hwa⟩
        subst wa
        obtain ⟨⟨d0, d1⟩, -⟩ := id t17
        go_wp2_with fail
        refine (toRg r0 a0 cap0 Q _ hpl hpp (hr0.below hB17)).mono ?_
        rintro e w18 ⟨g18, rfl, ho18, hb18⟩
        have hB18 := behind hB17 hb18
        go_wp2_with fail
        refine (toDvS a2 cap2 l _ hl1 (hr2.below hB18)).mono ?_
        rintro e w19 ⟨rfl, ho19, hb19⟩
        go_wp2_with fail
        refine (cI _ _ _ _ _ ((OwnP.rdS ho18).below hb19) ho19).mono ?_
        rintro e w20 ⟨g20, c20, rfl, hI20, hb20⟩
        have hb1720 := behind (behind hb18 hb19) hb20
        have hS20 := ownOn hS17 hb1720
        have hB20 := behind hB17 hb1720
        go_wp2_with fail
        refine (eqZS _ _ _ _ p _ hq (Zv_rd hI20) (Zv_rd hS20)).mono ?_
        rintro e w21 ⟨rfl, hb21⟩
        go_wp2_with fail
        refine (heldZS _ _ _ 1 _ hq (by omega) (hm17.below (behind hb1720 hb21))).mono ?_
        rintro e wa ⟨rfl, hwa⟩
        subst wa
        go_wp2
        go_ret
        exact ⟨rfl, behind hB20 hb21⟩
      · have hC' : (M : Int) - (l.length : Int) < 0 := by omega
        go_enter Try.func5, Try.ntmps5
        go_wp2_with fail
        refine (cZ _ (hr0.below hB0)).mono ?_
        rintro e v1 ⟨rfl, hb1⟩
        go_wp2_with (go_at_call 18; go_in)
        go_wp2
        go_ret
        exact ⟨rfl, behind hB0 hb1⟩
  · have hsI : (s.size : Int) > 1048576 := by omega
    go_enter Try.func5, Try.ntmps5
    go_wp2
    go_ret
    exact ⟨rfl, hB0⟩

set_option maxRecDepth 100000 in
theorem lifted (os : Os) (started : os.Started) (H : Type) (enc : TypeId × Value → H) :
    ReturnsInHanded {} Try.checked os 5 .any (Rows.fnExactHandoffsSpec.pre6 enc Try.prog Try.f5 Rows.fnExactHandoffsRow.domain false) (Rows.fnExactHandoffsSpec.post enc Try.prog Try.f5 false true false false) := by
  refine returnsInHanded_of_change (C := Try.checked) own started (by kernel_rfl) Try.func5
    (ChangeSpec.witness6 (enc := enc) (C := Try.checked) false ⟨#[], #[.agg #[.int .i64 0, .slice none 0 0], .slice none 0 0, .string ByteArray.empty], []⟩ 8 (by kernel_rfl) (by kernel_rfl) (by kernel_rfl) (by kernel_rfl)) ?_
  intro W base args ds gs before hval0 hW hcnd _
  have hval : ∀ (j : Nat) t v, Try.f5.params[j]? = some t → args[j]? = some v → Value.okWide Try.prog W .any base t v := hval0
  have hW' := hW
  obtain ⟨p, q, hA0, hV, rfl, hfz, hnd⟩ := hW
  have hA : DataW.TrodAll enc Try.prog W 0 (fun _ => true) true Try.f5.params.toList args.toList ds p := hA0
  rw [Try.params5] at hA hval
  obtain ⟨v0, vs0, d0, ds0, p0, q0, hargs, rfl, rfl, h0, r0⟩ := trodAll_cons hA
  obtain ⟨v1, vs1, d1, ds1, p1, q1, rfl, rfl, rfl, h1, r1⟩ := trodAll_cons r0
  obtain ⟨v2, vs2, d2, ds2, p2, q2, rfl, rfl, rfl, h2, r2⟩ := trodAll_cons r1
  obtain ⟨rfl, rfl, rfl⟩ := trodAll_nil r2
  obtain rfl : args = #[v0, v1, v2] := by cases args; simp_all
  obtain ⟨rfl, rfl⟩ := trodVars_none hV
  have k0 := h0
  have lt0 : ∀ x ∈ p0, x.block < W.heap.size := by obtain ⟨m, hm⟩ := k0; exact DataW.trod_lt m _ _ _ hm
  obtain ⟨re0, a0, len0, cap0, z0, rfl, wr0, w0⟩ := openRgV (hval 0 24 v0 rfl rfl) h0
  obtain ⟨a1, len1, cap1, rfl⟩ := okWide_slice Try.underlying39 (hval 1 39 v1 rfl rfl)
  have k1 := h1
  have lt1 : ∀ x ∈ p1, x.block < W.heap.size := by obtain ⟨m, hm⟩ := k1; exact DataW.trod_lt m _ _ _ hm
  obtain ⟨z1, w1⟩ := openDvz h1
  have k2 := h2
  have lt2 : ∀ x ∈ p2, x.block < W.heap.size := by obtain ⟨m, hm⟩ := k2; exact DataW.trod_lt m _ _ _ hm
  obtain ⟨a2, rfl, rfl, rfl, w2⟩ := open_string Try.underlying9 (hval 2 9 v2 rfl rfl) h2
  clear hA0 hval0
  refine (walk re0 a0 len0 cap0 z0 a1 len1 cap1 z1 a2 W wr0 w0 w1 w2).mono fun e W' ⟨he, bel⟩ => ?_
  subst he
  exact ⟨_, rfl, _, _, _, [], _, [], hW', trodAll_mk1 (shut_bool Try.underlying4 _), (trodAll_cons_mk (Below.trod laidOut (by kernel_rfl) (of_decide_eq_true (by kernel_rfl)) k0 bel lt0) (trodAll_cons_mk (Below.trod laidOut (by kernel_rfl) (of_decide_eq_true (by kernel_rfl)) k1 bel lt1) (trodAll_cons_mk (Below.trod laidOut (by kernel_rfl) (of_decide_eq_true (by kernel_rfl)) k2 bel lt2) trodAll_mk0))), rfl, bel.frame _, fun h => by cases h⟩

theorem over : Rows.fnExactHandoffsRow.holds Try.pinned (OpenSpec.ofChange Rows.fnExactHandoffsSpec) :=
  OpenClaim.holds_of_wide 5 Try.f5 rfl rfl rfl rfl rfl rfl rfl ⟨rfl, rfl, rfl, rfl, rfl⟩ rfl rfl rfl rfl rfl (by kernel_rfl) Try.func5 (by kernel_rfl)
    (of_decide_eq_true (by kernel_rfl)) (by unfold Func.isWrapper; first | (rw [if_pos (by decide +kernel)]; kernel_rfl) | (rw [if_neg (by decide +kernel)]; exact ⟨rfl, rfl⟩))
    (fun os started H enc _ => lifted os started H enc)

end Go.Proofs.Ytcejeiakgmamdao.fnExactHandoffs
namespace Go.Proofs.Ytcejeiakgmamdao
theorem fnExactHandoffs_holds : Rows.FnExactHandoffsSaid := fnExactHandoffs.over
#print axioms fnExactHandoffs_holds
end Go.Proofs.Ytcejeiakgmamdao
