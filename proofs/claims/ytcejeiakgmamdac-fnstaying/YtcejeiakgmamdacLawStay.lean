/- For every slice of bytes the law FnStaying returns true: a ring that was just built of drawn devices, all of one zone and one weight, one replica a part, stays as it is when it is rebalanced, with 0 told and none moved. Conditions: none beyond the row's own. -/
import Derived.Test.YtcejeiakgmamdacRows
import Derived.Test.YtcejeiakgmamdacBy
import Derived.Test.YtcejeiakgmamdacAtW
import Derived.Test.YtcejeiakgmamdacBuX
import Derived.Test.YtcejeiakgmamdacLwM
import Derived.Test.YtcejeiakgmamdacDrAll
import Derived.Test.YtcejeiakgmamdacRbAll
import Derived.Test.YtcejeiakgmamdacMvI
import Derived.WalkKit
import Derived.ProofKit
import Derived.OpenShut
import Derived.ShutString
import Derived.ChangeOld
import Derived.Below
namespace Go.Proofs.Ytcejeiakgmamdac.fnStaying
open Go.ChangeShapes Go.WideShapes Go.ChangeAt Go.RowKit
open Go.ChangeMaps (open_string shut_string)
set_option linter.unusedVariables false

theorem own : ownKnob Try.prog.godebug = none := by kernel_rfl
theorem laidOut : laidOutB Try.prog = true := by kernel_rfl

open Wk

theorem formP {w : World} {base n cap : Nat} {a : Option Addr} {Q : List (List Int)} (h : OwnP w base (.slice a n cap) Q) (h0 : 0 < Q.length) : ∃ g, a = some ⟨g, 0, none⟩ := by
  obtain ⟨vs, h1, _⟩ := h
  rcases h1.2 with ⟨e, h2⟩ | ⟨g, cap', cur, e, _⟩
  · omega
  · simp only [Value.slice.injEq] at e
    exact ⟨g, e.1⟩
theorem zsThree {X : List Sm.St} (h : ∀ d ∈ X, d.2.1 = 3) (h1 : 1 ≤ X.length) : Dv.Zs X [3] := by
  refine ⟨by simp, fun z => ?_, by simpa using h1⟩
  rw [List.mem_singleton]
  constructor
  · rintro rfl
    exact ⟨X[0], List.getElem_mem (by omega), h _ (List.getElem_mem (by omega))⟩
  · rintro ⟨d, hd, rfl⟩
    exact h d hd
/-- a ring that was just built of devices of one zone and one weight stays as it is -/
theorem stays {X : List Sm.St} {W : Int} {p : Nat} (hd : Dv.devs X = true) (hw : ∀ d ∈ X, d.2.2 = W) (hz : ∀ d ∈ X, d.2.1 = 3) (h1 : 1 ≤ X.length) (hp1 : 1 ≤ p) (hp : p ≤ 64) : Rg.reb 1 (Rg.parts X 1 p) X = (Rg.parts X 1 p, 0) := by
  have HZ := zsThree hz h1
  have hg := Rg.parts_good hd HZ (reps := 1) (by omega) p
  have hl := Rg.parts_len X 1 p
  have hm : Rg.movB 1 (Rg.parts X 1 p) X = true := by
    rw [Rg.mov_yes ⟨hd, ⟨by omega, by omega⟩, by rw [hl]; omega, by omega⟩, List.all_eq_true]
    intro q hq
    obtain ⟨a1, _, a3, _⟩ := hg q hq
    unfold Rg.partB
    simp [a1, a3]
  unfold Rg.reb
  rw [if_pos hm, Rg.rebK_stay (fun q hq => (hg q hq).2.1) (Rg.ev_parts hd hw hz (by omega) p) _ (Nat.le_refl _)]
  rfl

set_option maxHeartbeats 4000000 in
set_option maxRecDepth 100000 in
theorem walk (a0 : Option Addr) (len0 cap0 : Nat) (z0 : List Int) (w : World) (w0 : IsRow .u8 w a0 len0 cap0 z0) :
    Calls Try.prog 7 #[.slice a0 len0 cap0] w fun e w' => e = .returned (.bool true) ∧ Below w.heap.size w w' := by
  obtain ⟨l, rfl, hlc, hcm, hr⟩ := w0.rd
  clear w0
  by_cases hb : l.length ≤ 1048576
  · go_enter Try.func7, Try.ntmps7
    go_wp2_with (go_at_call 9; go_in)
    go_wp2_with fail
    refine (drawEqual a0 cap0 l _ hb hr).mono ?_
    rintro e w1 ⟨X, g, cp, W, rfl, hX2, hX6, hdv, hw3, hz3, hr3, hB1⟩
    have c2 := atC a0 cap0 2 l w1 hb (by omega) (by omega) (hr.below hB1)
    obtain ⟨x2, hx2⟩ : ∃ x : Nat, atV l 2 = x := ⟨(atV l 2).toNat, by have := atV_le l 2; omega⟩
    rw [hx2] at c2
    have hx2' : x2 ≤ 255 := by have := atV_le l 2; omega
    clear hx2 hr hlc hcm
    obtain ⟨p, hp, hp1, hp16⟩ : ∃ p : Nat, (1 : Int) + (x2 : Int) % 16 = (p : Int) ∧ 1 ≤ p ∧ p ≤ 16 := ⟨1 + x2 % 16, by omega, by omega, by omega⟩
    have hpl := Rg.parts_len X 1 p
    have cB := implBuildYes (some ⟨g, 0, none⟩) cp X p 1 w1 hr3 hdv (by omega) (by omega) (by omega) (by omega) (by omega)
    rw [show ((1 : Nat) : Int) = 1 from rfl] at cB
    have hT : tot (Rg.parts X 1 p) = p * 1 := by rw [tot_constI _ 1 (Rg.parts_each X 1 p), hpl]
    have hst := stays hdv hw3 hz3 (by omega) hp1 (by omega)
    obtain ⟨R, n, hRn, -, -, -, -, cI⟩ := bothReb 1 (Rg.parts X 1 p) X (by omega) (by omega) (by omega)
    rw [hst] at hRn
    simp only [Prod.mk.injEq] at hRn
    obtain ⟨rfl, rfl⟩ := hRn
    have hmv := Rg.moved_self (Rg.parts X 1 p)
    have cV := fun (a b : Option Addr) (ca cb : Nat) (w' : World) (h1 : RdP w' a (Rg.parts X 1 p)) (h2 : RdP w' b (Rg.parts X 1 p)) => implMoved 1 1 a b ca cb (Rg.parts X 1 p) (Rg.parts X 1 p) w' (by omega) (by omega) (by omega) (by omega) h1 h2
    rw [hmv] at cV
    rw [show (((0 : Nat)) : Int) = 0 from rfl] at cV
    clear hst hmv hdv hw3 hz3 hT
    generalize Rg.parts X 1 p = Q at hpl cB cI cV
    subst hpl
    go_wp2_with fail
    refine c2.mono ?_
    rintro e wa ⟨rfl, hwa⟩
    subst wa
    clear c2
    go_wp2_with fail
    refine cB.mono ?_
    rintro e w2 ⟨aI, caI, rfl, hOI, hb2⟩
    obtain ⟨gI, rfl⟩ := formP hOI (by omega)
    have s2 := slot2New w2 (.int .i64 1) (.slice (some ⟨gI, 0, none⟩) Q.length caI) 29
    have b2 := bel1 w2 (.cells #[.int .i64 1, .slice (some ⟨gI, 0, none⟩) Q.length caI] 29)
    have hB2 := behind (behind hB1 hb2) b2
    have hr2 := (hr3.below hb2).below b2
    have hN2 := hOI.rdN.below b2
    obtain ⟨⟨t0, t1⟩, -⟩ := id s2
    clear cB hOI hb2 hB1 hr3
    go_wp2_with fail
    generalize w2.alloc (.cells #[.int .i64 1, .slice (some ⟨gI, 0, none⟩) Q.length caI] 29) = wA at s2 b2 hB2 hr2 hN2 t0 t1 ⊢
    refine (cI _ _ _ _ _ hN2 (fun e => by cases e) hr2).mono ?_
    rintro e w3 ⟨aR, caR, rfl, hOR, hb3⟩
    have s3 := slot2New w3 (.int .i64 1) (.slice aR Q.length caR) 29
    have b3 := bel1 w3 (.cells #[.int .i64 1, .slice aR Q.length caR] 29)
    have hB3 := behind (behind hB2 hb3) b3
    have s2 := (s2.below hb3).below b3
    have hR3 := hOR.rdS.below b3
    have hQ3 := (hN2.rd.below hb3).below b3
    clear t0 t1 cI hOR hb3 hB2 hr2 hN2
    obtain ⟨⟨t0, t1⟩, -⟩ := id s2
    obtain ⟨⟨y0, y1⟩, -⟩ := id s3
    go_wp2_with fail
    generalize w3.alloc (.cells #[.int .i64 1, .slice aR Q.length caR] 29) = wC at s3 b3 hB3 s2 hR3 hQ3 t0 t1 y0 y1 ⊢
    refine (cV _ _ _ _ _ hQ3 hR3).mono ?_
    rintro e w4 ⟨rfl, hb4⟩
    have hB4 := behind hB3 hb4
    have s2 := s2.below hb4
    have s3 := s3.below hb4
    have hQ4 := hQ3.below hb4
    clear t0 t1 y0 y1 hb4 hB3 hR3 hQ3
    obtain ⟨⟨t0, t1⟩, -⟩ := id s2
    go_wp2_with fail
    refine (cV _ _ _ _ _ hQ4 hQ4).mono ?_
    rintro e w5 ⟨rfl, hb5⟩
    have hB5 := behind hB4 hb5
    have s2 := s2.below hb5
    have s3 := s3.below hb5
    clear t0 t1
    obtain ⟨⟨t0, t1⟩, -⟩ := id s2
    obtain ⟨⟨y0, y1⟩, -⟩ := id s3
    go_wp2
    go_ret
    exact ⟨rfl, hB5⟩
  · go_enter Try.func7, Try.ntmps7
    go_wp2_with (go_at_call 9; go_in)
    go_wp2
    go_ret
    exact ⟨rfl, Below.refl _ _⟩

set_option maxRecDepth 100000 in
theorem lifted (os : Os) (started : os.Started) (H : Type) (enc : TypeId × Value → H) :
    ReturnsInHanded {} Try.checked os 7 .any (Rows.fnStayingSpec.pre6 enc Try.prog Try.f7 Rows.fnStayingRow.domain false) (Rows.fnStayingSpec.post enc Try.prog Try.f7 false true false false) := by
  refine returnsInHanded_of_change (C := Try.checked) own started (by kernel_rfl) Try.func7
    (ChangeSpec.witness6 (enc := enc) (C := Try.checked) false ⟨#[], #[.slice none 0 0], []⟩ 8 (by kernel_rfl) (by kernel_rfl) (by kernel_rfl) (by kernel_rfl)) ?_
  intro W base args ds gs before hval0 hW hcnd _
  have hval : ∀ (j : Nat) t v, Try.f7.params[j]? = some t → args[j]? = some v → Value.okWide Try.prog W .any base t v := hval0
  have hW' := hW
  obtain ⟨p, q, hA0, hV, rfl, hfz, hnd⟩ := hW
  have hA : DataW.TrodAll enc Try.prog W 0 (fun _ => true) true Try.f7.params.toList args.toList ds p := hA0
  rw [Try.params7] at hA hval
  obtain ⟨v0, vs0, d0, ds0, p0, q0, hargs, rfl, rfl, h0, r0⟩ := trodAll_cons hA
  obtain ⟨rfl, rfl, rfl⟩ := trodAll_nil r0
  obtain rfl : args = #[v0] := by cases args; simp_all
  obtain ⟨rfl, rfl⟩ := trodVars_none hV
  obtain ⟨a0, len0, cap0, rfl⟩ := okWide_slice Try.underlying22 (hval 0 22 v0 rfl rfl)
  have k0 := h0
  have lt0 : ∀ x ∈ p0, x.block < W.heap.size := by obtain ⟨m, hm⟩ := k0; exact DataW.trod_lt m _ _ _ hm
  obtain ⟨z0, w0⟩ : ∃ zs, IsRow .u8 W a0 len0 cap0 zs := by
    obtain ⟨fuel, hf⟩ := h0
    rcases open_ints Try.underlying22 Try.underlying5 (by kernel_rfl) hf with ⟨hcs, _⟩ | ⟨x, l, c, zs, hcs, _, hl, hm, hz, _, hcell, hwz⟩
    · simp [Value.cells] at hcs
      obtain ⟨rfl, rfl, rfl⟩ := hcs
      exact ⟨[], .inl ⟨rfl, rfl, rfl, rfl⟩⟩
    · simp [Value.cells] at hcs
      obtain ⟨rfl, rfl, rfl⟩ := hcs
      exact ⟨zs, .inr ⟨_, rfl, hl, hm, by simpa using hz, hcell, hwz⟩⟩
  clear hA0 hval0
  refine (walk a0 len0 cap0 z0 W w0).mono fun e W' ⟨he, bel⟩ => ?_
  subst he
  exact ⟨_, rfl, _, _, _, [], _, [], hW', trodAll_mk1 (shut_bool Try.underlying4 _), (trodAll_cons_mk (Below.trod laidOut (by kernel_rfl) (of_decide_eq_true (by kernel_rfl)) k0 bel lt0) trodAll_mk0), rfl, bel.frame _, fun h => by cases h⟩

theorem over : Rows.fnStayingRow.holds Try.pinned (OpenSpec.ofChange Rows.fnStayingSpec) :=
  OpenClaim.holds_of_wide 7 Try.f7 rfl rfl rfl rfl rfl rfl rfl ⟨rfl, rfl, rfl, rfl, rfl⟩ rfl rfl rfl rfl rfl (by kernel_rfl) Try.func7 (by kernel_rfl)
    (of_decide_eq_true (by kernel_rfl)) (by unfold Func.isWrapper; first | (rw [if_pos (by decide +kernel)]; kernel_rfl) | (rw [if_neg (by decide +kernel)]; exact ⟨rfl, rfl⟩))
    (fun os started H enc _ => lifted os started H enc)

end Go.Proofs.Ytcejeiakgmamdac.fnStaying
namespace Go.Proofs.Ytcejeiakgmamdac
theorem fnStaying_holds : Rows.FnStayingSaid := fnStaying.over
#print axioms fnStaying_holds
end Go.Proofs.Ytcejeiakgmamdac
