/- For every slice of bytes the law FnPlaces returns true: of a drawn ring, drawn devices and a drawn text each device is either a primary or a handoff, as IsPrimary says; primaries and handoffs are as many as the specification's; where the ring is right they are together as many as the devices, and the primaries as many as the replicas. Conditions: none beyond the row's own; above 2^20 bytes the law itself answers true. -/
import Derived.Test.YtcejeiakgmamdacRows
import Derived.Test.YtcejeiakgmamdacBy
import Derived.Test.YtcejeiakgmamdacPlAll
import Derived.Test.YtcejeiakgmamdacRkS
import Derived.Test.YtcejeiakgmamdacDrHd
import Derived.WalkKit
import Derived.ProofKit
import Derived.OpenShut
import Derived.ShutString
import Derived.ChangeOld
import Derived.Below
namespace Go.Proofs.Ytcejeiakgmamdac.fnPlaces
open Go.ChangeShapes Go.WideShapes Go.ChangeAt Go.RowKit
open Go.ChangeMaps (open_string shut_string)
set_option linter.unusedVariables false

theorem own : ownKnob Try.prog.godebug = none := by kernel_rfl
theorem laidOut : laidOutB Try.prog = true := by kernel_rfl

open Wk

set_option maxHeartbeats 8000000 in
set_option maxRecDepth 100000 in
theorem walk (a0 : Option Addr) (len0 cap0 : Nat) (z0 : List Int) (w : World) (w0 : IsRow .u8 w a0 len0 cap0 z0) :
    Calls Try.prog 8 #[.slice a0 len0 cap0] w fun e w' => e = .returned (.bool true) ∧ Below w.heap.size w w' := by
  obtain ⟨l, rfl, hlc, hcm, hr⟩ := w0.rd
  clear w0
  by_cases hb : l.length ≤ 1048576
  · go_enter Try.func8, Try.ntmps8
    go_wp2_with (go_at_call 9; go_in)
    go_wp2_with fail
    refine (drawHand a0 cap0 l _ hb hr).mono ?_
    rintro e w1 ⟨X, g, cp, R, Q, a, ca, s, rfl, hX6, hfew, ⟨hR0, hR6⟩, hQ16, hQ4, hs, hX1, hP1, hB1⟩
    have hwf : ∀ d ∈ X, (Lit.int .i64 d.2.1).wf = true := fun d hd => few_wf9 (hfew d hd)
    have hpp : ∀ q ∈ Q, q.length ≤ 1048576 := fun q hq => by have := hQ4 q hq; omega
    have hq := pick_len s hpp
    have hh := hand_len (pick Q s) X
    have HM : Hid (∀ d ∈ X, decide (d.1 ∈ hand (pick Q s) X) = !decide (d.1 ∈ pick Q s)) := fun d hd => hand_dec hd
    have HA : Hid (Rg.ringB R Q X = true → ((pick Q s).length : Int) = R ∧ (pick Q s).length + (hand (pick Q s) X).length = X.length) := fun h => hand_all s h
    have s2 := slot2New w1 (.int .i64 R) (.slice a Q.length ca) 29
    have b2 := bel1 w1 (.cells #[.int .i64 R, .slice a Q.length ca] 29)
    have hX2 := hX1.below b2
    have hP2 := hP1.below b2
    have hB2 := behind hB1 b2
    have cI := fun w h => implPrims R a ca Q s w (by omega) (by omega) hq h
    have cS := fun w h => specPrims R a ca Q s w (by omega) (by omega) hq h
    have cIH := fun w h h2 => implHands R a (some ⟨g, 0, none⟩) ca cp Q s X w (by omega) (by omega) hq (by omega) h h2 hwf
    have cSH := fun w h h2 => specHand R a (some ⟨g, 0, none⟩) ca cp Q s X w (by omega) (by omega) hq (by omega) h h2
    have cP := fun id w h => implIsPrim R id a ca Q s w (by omega) (by omega) hq h
    have cR := fun w h h2 => specRing R a (some ⟨g, 0, none⟩) ca cp Q X w (by omega) hpp (by omega) h h2
    generalize hand (pick Q s) X = H at *
    generalize pick Q s = P at *
    clear hfew hr hlc hcm hX1 hP1 hB1 hwf
    go_wp2_with fail
    generalize w1.alloc (.cells #[.int .i64 R, .slice a Q.length ca] 29) = wA at s2 b2 hX2 hP2 hB2 ⊢
    clear b2
    obtain ⟨B, hBe⟩ : ∃ B, w1.heap.size = B := ⟨_, rfl⟩
    rw [hBe] at s2 ⊢
    refine (cI wA hP2.rd).mono ?_
    rintro e w3 ⟨gp, cq, rfl, hP3, hb3⟩
    have s3 := s2.below hb3
    have hX3 := hX2.below hb3
    have hQ3 := hP2.below hb3
    have hB3 := behind hB2 hb3
    have z3 := Zv_rd hP3
    obtain ⟨⟨t0, t1⟩, -⟩ := id s3
    clear s2 hX2 hP2 hB2 hb3 hP3 cI
    go_wp2_with fail
    refine (cIH w3 hQ3.rd hX3).mono ?_
    rintro e w4 ⟨gh, ch, rfl, hH4, hb4⟩
    have s4 := s3.below hb4
    have hX4 := hX3.below hb4
    have hQ4' := hQ3.below hb4
    have hB4 := behind hB3 hb4
    have z4 := z3.below hb4
    have y4 := Zv_rd hH4
    obtain ⟨⟨t0, t1⟩, -⟩ := id s4
    clear s3 hX3 hQ3 hB3 hb4 z3 hH4 cIH
    go_wp2_with fail
    refine (cS w4 hQ4').mono ?_
    rintro e w5 ⟨a5, c5, rfl, -, hb5⟩
    have s5 := s4.below hb5
    have hX5 := hX4.below hb5
    have hQ5 := hQ4'.below hb5
    have hB5 := behind hB4 hb5
    have z5 := z4.below hb5
    have y5 := y4.below hb5
    obtain ⟨⟨t0, t1⟩, -⟩ := id s5
    clear s4 hX4 hQ4' hB4 hb5 z4 y4 cS
    go_wp2_with fail
    refine (cSH w5 hQ5 hX5).mono ?_
    rintro e w6 ⟨a6, c6, rfl, -, hb6⟩
    have s6 := s5.below hb6
    have hX6' := hX5.below hb6
    have hQ6 := hQ5.below hb6
    have hB6 := behind hB5 hb6
    have z6 := z5.below hb6
    have y6 := y5.below hb6
    clear s5 hX5 hQ5 hB5 hb6 z5 y5 cSH t0 t1
    go_wp2
    go_loopw [8] (fun i wr => ∃ k : Nat, k ≤ X.length ∧ i = .int .i64 k ∧ Below w6.heap.size w6 wr) (fun i _ => X.length - (intOf i).toNat)
    case atStart => exact ⟨0, Nat.zero_le _, rfl, Below.refl _ _⟩
    case round =>
      obtain ⟨k, hk, rfl, hb⟩ := hrel
      have s7 := s6.below hb
      have hX7 := hX6'.below hb
      have hQ7 := hQ6.below hb
      have hB7 := behind hB6 hb
      obtain ⟨⟨t0, t1⟩, -⟩ := id s7
      by_cases hlt : k < X.length
      · have hltI : (k : Int) < (X.length : Int) := by omega
        have z7 := z6.below hb
        have y7 := y6.below hb
        have hM := HM.out X[k] (List.getElem_mem hlt)
        obtain ⟨bX, oX, e9, x0, -⟩ := hX7 k hlt
        cases e9
        generalize X[k] = d at hM x0
        obtain ⟨i, z, n⟩ := d
        dsimp only at hM x0
        have cHp := fun w h => lawHas (some ⟨gp, 0, none⟩) cq P i w hq h
        have cHh := fun w h => lawHas (some ⟨gh, 0, none⟩) ch H i w (by omega) h
        have cQ := cP i
        rw [hM] at cHh
        rw [Nat.zero_add] at x0
        cases hD : decide (i ∈ P) with
        | true =>
          rw [hD] at cHp cHh cQ
          simp only [Bool.not_true] at cHh
          have cHp9 := cHp wr.drew z7
          have cHh9 := cHh wr.drew y7
          have cQ9 := cQ wr.drew hQ7.rd
          clear hM hD cHp cHh cQ
          go_wp2_with fail
          go_region_held3 (fun wy => wy.cell? ⟨B, 0, none⟩ = some (.int .i64 R) ∧ wy.cell? ⟨B, 1, none⟩ = some (.slice a Q.length ca) ∧ wy.cell? ⟨g, k * 3, none⟩ = some (.int .i64 i))
            (first | with_reducible exact ⟨t0, t1, x0⟩ | exact keepR3 ‹_› ‹_› | go_keep)
            (first | (go_at_call 24; with_reducible refine cHp9.mono ?_; rintro e wa ⟨rfl, hwa⟩; subst wa) | (go_at_call 24; with_reducible refine cHh9.mono ?_; rintro e wa ⟨rfl, hwa⟩; subst wa) | (go_at_call 35; refine cQ9.mono ?_; rintro e w8 ⟨rfl, hb8⟩) | fail)
          have hb9 : Below w6.heap.size w6 w8 := behind hb.drew hb8
          go_wp2
          go_roundw
          case rel => exact ⟨k + 1, by omega, by go_num, hb9⟩
          case measure => simp [intOf]; omega
        | false =>
          rw [hD] at cHp cHh cQ
          simp only [Bool.not_false] at cHh
          have cHp9 := cHp wr.drew z7
          have cHh9 := cHh wr.drew y7
          have cQ9 := cQ wr.drew hQ7.rd
          clear hM hD cHp cHh cQ
          go_wp2_with fail
          go_region_held3 (fun wy => wy.cell? ⟨B, 0, none⟩ = some (.int .i64 R) ∧ wy.cell? ⟨B, 1, none⟩ = some (.slice a Q.length ca) ∧ wy.cell? ⟨g, k * 3, none⟩ = some (.int .i64 i))
            (first | with_reducible exact ⟨t0, t1, x0⟩ | exact keepR3 ‹_› ‹_› | go_keep)
            (first | (go_at_call 24; with_reducible refine cHp9.mono ?_; rintro e wa ⟨rfl, hwa⟩; subst wa) | (go_at_call 24; with_reducible refine cHh9.mono ?_; rintro e wa ⟨rfl, hwa⟩; subst wa) | (go_at_call 35; refine cQ9.mono ?_; rintro e w8 ⟨rfl, hb8⟩) | fail)
          have hb9 : Below w6.heap.size w6 w8 := behind hb.drew hb8
          go_wp2
          go_roundw
          case rel => exact ⟨k + 1, by omega, by go_num, hb9⟩
          case measure => simp [intOf]; omega
      · have hltI : ¬ (k : Int) < (X.length : Int) := by omega
        have cK := cR wr hQ7.rd hX7
        cases hK : Rg.ringB R Q X with
        | false =>
          rw [hK] at cK
          go_wp2_with fail
          refine cK.mono ?_
          rintro e w8 ⟨rfl, hb8⟩
          go_wp2
          go_ret
          exact ⟨rfl, behind hB7 hb8⟩
        | true =>
          obtain ⟨hR1, hsum⟩ := HA.out hK
          rw [hK] at cK
          have hs1 : wrap64 ((P.length : Int) + (H.length : Int)) = (X.length : Int) := by unfold wrap64; omega
          subst hR1
          go_wp2_with fail
          refine cK.mono ?_
          rintro e w8 ⟨rfl, hb8⟩
          obtain ⟨⟨u0, u1⟩, -⟩ := s7.below hb8
          go_wp2
          go_ret
          exact ⟨rfl, behind hB7 hb8⟩
  · go_enter Try.func8, Try.ntmps8
    go_wp2_with (go_at_call 9; go_in)
    go_wp2
    go_ret
    exact ⟨rfl, Below.refl _ _⟩

set_option maxRecDepth 100000 in
theorem lifted (os : Os) (started : os.Started) (H : Type) (enc : TypeId × Value → H) :
    ReturnsInHanded {} Try.checked os 8 .any (Rows.fnPlacesSpec.pre6 enc Try.prog Try.f8 Rows.fnPlacesRow.domain false) (Rows.fnPlacesSpec.post enc Try.prog Try.f8 false true false false) := by
  refine returnsInHanded_of_change (C := Try.checked) own started (by kernel_rfl) Try.func8
    (ChangeSpec.witness6 (enc := enc) (C := Try.checked) false ⟨#[], #[.slice none 0 0], []⟩ 8 (by kernel_rfl) (by kernel_rfl) (by kernel_rfl) (by kernel_rfl)) ?_
  intro W base args ds gs before hval0 hW hcnd _
  have hval : ∀ (j : Nat) t v, Try.f8.params[j]? = some t → args[j]? = some v → Value.okWide Try.prog W .any base t v := hval0
  have hW' := hW
  obtain ⟨p, q, hA0, hV, rfl, hfz, hnd⟩ := hW
  have hA : DataW.TrodAll enc Try.prog W 0 (fun _ => true) true Try.f8.params.toList args.toList ds p := hA0
  rw [Try.params8] at hA hval
  obtain ⟨v0, vs0, d0, ds0, p0, q0, hargs, rfl, rfl, h0, r0⟩ := trodAll_cons hA
  obtain ⟨rfl, rfl, rfl⟩ := trodAll_nil r0
  obtain rfl : args = #[v0] := by cases args; simp_all
  obtain ⟨rfl, rfl⟩ := trodVars_none hV
  obtain ⟨a0, len0, cap0, rfl⟩ := okWide_slice Try.underlying22 (hval 0 22 v0 rfl rfl)
  have k0 := h0
  have lt0 : ∀ x ∈ p0, x.block < W.heap.size := by obtain ⟨m, hm⟩ := k0; exact DataW.trod_lt m _ _ _ hm
  obtain ⟨z0, w0⟩ : ∃ zs, IsRow .u8 W a0 len0 cap0 zs := by
    obtain ⟨fuel, hf⟩ := h0
    rcases open_ints Try.underlying22 Try.underlying5 (by kernel_rfl) hf with ⟨hcs, _⟩ | ⟨x, l, c, zs, hcs, _, hl, hm, hz, _, hcell, hwz⟩
    · simp [Value.cells] at hcs
      obtain ⟨rfl, rfl, rfl⟩ := hcs
      exact ⟨[], .inl ⟨rfl, rfl, rfl, rfl⟩⟩
    · simp [Value.cells] at hcs
      obtain ⟨rfl, rfl, rfl⟩ := hcs
      exact ⟨zs, .inr ⟨_, rfl, hl, hm, by simpa using hz, hcell, hwz⟩⟩
  clear hA0 hval0
  refine (walk a0 len0 cap0 z0 W w0).mono fun e W' ⟨he, bel⟩ => ?_
  subst he
  exact ⟨_, rfl, _, _, _, [], _, [], hW', trodAll_mk1 (shut_bool Try.underlying4 _), (trodAll_cons_mk (Below.trod laidOut (by kernel_rfl) (of_decide_eq_true (by kernel_rfl)) k0 bel lt0) trodAll_mk0), rfl, bel.frame _, fun h => by cases h⟩

theorem over : Rows.fnPlacesRow.holds Try.pinned (OpenSpec.ofChange Rows.fnPlacesSpec) :=
  OpenClaim.holds_of_wide 8 Try.f8 rfl rfl rfl rfl rfl rfl rfl ⟨rfl, rfl, rfl, rfl, rfl⟩ rfl rfl rfl rfl rfl (by kernel_rfl) Try.func8 (by kernel_rfl)
    (of_decide_eq_true (by kernel_rfl)) (by unfold Func.isWrapper; first | (rw [if_pos (by decide +kernel)]; kernel_rfl) | (rw [if_neg (by decide +kernel)]; exact ⟨rfl, rfl⟩))
    (fun os started H enc _ => lifted os started H enc)

end Go.Proofs.Ytcejeiakgmamdac.fnPlaces
namespace Go.Proofs.Ytcejeiakgmamdac
theorem fnPlaces_holds : Rows.FnPlacesSaid := fnPlaces.over
#print axioms fnPlaces_holds
end Go.Proofs.Ytcejeiakgmamdac
