/- For every stamp the law FnExactStampText returns true: the program's StampText answers as the specification's; the row lists three tables of Go's library, tied to the program's text (the card). Conditions: none beyond the row's own. -/
import Derived.Test.YtekjnfkmjmmcmalDoorRows
import Derived.Test.YtekjnfkmjmmcmalDoorTie
import Derived.Test.YtekjnfkmjmmcmalDoorCards
import Derived.Test.YtekjnfkmjmmcmalDoorStTextI
import Derived.Test.YtekjnfkmjmmcmalDoorStTextS
import Derived.Test.YtekjnfkmjmmcmalDoorToSt
import Derived.Test.YtekjnfkmjmmcmalDoorDoor
import Derived.WalkKit
import Derived.ProofKit
import Derived.OpenShut
import Derived.ShutString
import Derived.ChangeOld
import Derived.Below
import Derived.Lay
import Derived.SevenTiedAt
import Derived.Stop.LaidErr
import Derived.Lib.LaidTab
import Derived.Lib.SmallJoins
namespace Go.Proofs.YtekjnfkmjmmcmalDoor.fnExactStampText
open Go.ChangeShapes Go.WideShapes Go.ChangeAt Go.RowKit
open Go.Joins
open Go.ChangeMaps (open_string shut_string)
set_option linter.unusedVariables false

theorem own : ownKnob Tryd.prog.godebug = none := by kernel_rfl
theorem laidOut : laidOutB Tryd.prog = true := by kernel_rfl
theorem cellsSt : Tryd.prog.cellsOf 23 = 3 := by kernel_rfl

open Wk

theorem tabOf {W : World} (h : laidMetH Tryd.prog Rows.fnExactStampTextRow.laid W) : Tab W := by
  rw [MakeChecks.laidMetH_plain _ _ _ (by kernel_rfl)] at h
  have h1 := laidMet.tail (laidMet.tail h)
  have e : (Rows.laid_internal_strconv_uint64pow10 : DataW Unit) = Lib.tabData .u64 Lib.pow10Tab := by kernel_rfl
  rw [e] at h1
  exact Lib.tabIs_of_head (g := 0) (t := 58) (e := 48) (n := 20) (by kernel_rfl) (by kernel_rfl) Tryd.underlying58 Tryd.underlying48 (by kernel_rfl) (by kernel_rfl) h1

theorem natOf {x : Int} (h : 0 ≤ x) : ∃ n : Nat, x = n := ⟨x.toNat, by omega⟩

set_option maxHeartbeats 1000000 in
set_option maxRecDepth 100000 in
theorem walk (t q n : Int) (w : World) (wa : (Lit.int .i64 t).wf = true) (wb : (Lit.int .i64 q).wf = true) (wc : (Lit.int .i64 n).wf = true) (hT : Tab w) :
    Calls Tryd.prog 3 #[.agg #[.int .i64 t, .int .i64 q, .int .i64 n]] w fun e w' => e = .returned (.bool true) ∧ Below w.heap.size w w' := by
  clear wa wb wc
  cases hk : Sm.ok t q n with
  | true =>
    obtain ⟨⟨a, b⟩, ⟨c, d⟩, e, f⟩ := Sm.ok_true hk
    obtain ⟨t, rfl⟩ := natOf a
    obtain ⟨q, rfl⟩ := natOf c
    obtain ⟨n, rfl⟩ := natOf e
    have HK : Hid (Sm.ok t q n = true) := hk
    clear hk
    have x0 := boxNew w t q n 23
    go_enter Tryd.func3, Tryd.ntmps3
    go_wp2_with fail
    refine (toSt t q n _).mono ?_
    rintro e w1 ⟨rfl, hb1⟩
    have hB1 := behind (bel1 _ _) hb1
    have x1 := x0.below hb1
    go_wp2_with fail
    refine (specText t q n HK.out _).mono ?_
    rintro e w2 ⟨rfl, hb2⟩
    have hB2 := behind hB1 hb2
    obtain ⟨p0, p1, p2⟩ := x1.below hb2
    go_wp2_with fail
    refine (toSt t q n _).mono ?_
    rintro e w3 ⟨rfl, hb3⟩
    have hB3 := behind hB2 hb3
    go_wp2_with fail
    refine (implText t q n HK.out _ (hT.on hB3)).mono ?_
    rintro e w4 ⟨rfl, hb4⟩
    have hB4 := behind hB3 hb4
    generalize dotted t q n = D
    go_wp2
    go_ret
    exact ⟨rfl, hB4⟩
  | false =>
    have HK : Hid (Sm.ok t q n = false) := hk
    clear hk
    have x0 := boxNew w t q n 23
    go_enter Tryd.func3, Tryd.ntmps3
    go_wp2_with fail
    refine (toSt t q n _).mono ?_
    rintro e w1 ⟨rfl, hb1⟩
    have hB1 := behind (bel1 _ _) hb1
    have x1 := x0.below hb1
    go_wp2_with fail
    refine (specTextNo t q n HK.out _).mono ?_
    rintro e w2 ⟨rfl, hb2⟩
    have hB2 := behind hB1 hb2
    obtain ⟨p0, p1, p2⟩ := x1.below hb2
    go_wp2_with fail
    refine (toSt t q n _).mono ?_
    rintro e w3 ⟨rfl, hb3⟩
    have hB3 := behind hB2 hb3
    go_wp2_with fail
    refine (implTextNo t q n HK.out _).mono ?_
    rintro e w4 ⟨rfl, hb4⟩
    have hB4 := behind hB3 hb4
    go_wp2
    go_ret
    exact ⟨rfl, hB4⟩

set_option maxRecDepth 100000 in
theorem lifted (os : Os) (started : os.Started) (H : Type) (enc : TypeId × Value → H) :
    ReturnsInHanded {} Tryd.checked os 3 .any (fun w args => (Rows.fnExactStampTextSpec.pre enc Tryd.prog Tryd.f3 Rows.fnExactStampTextRow.domain false w args ∧ laidMetH Tryd.prog Rows.fnExactStampTextRow.laid w) ∧ sizedMet enc Tryd.prog Tryd.f3 (OpenSpec.ofChange Rows.fnExactStampTextSpec) false w args)
      (Rows.fnExactStampTextSpec.post enc Tryd.prog Tryd.f3 false true false false) := by
  refine handedBoth (C := Tryd.checked) (X := fun w _ => laidMetH Tryd.prog Rows.fnExactStampTextRow.laid w) (fun _ _ _ hh h => h.of_heap hh) own started (by kernel_rfl) Tryd.func3
    (ChangeSpec.witness_shaped (enc := enc) (C := Tryd.checked) (os := os) (X := fun w _ => laidMetH Tryd.prog Rows.fnExactStampTextRow.laid w) false (World.laidAll Tryd.prog os Rows.fnExactStampTextRow.laid) #[.agg #[.int .i64 0, .int .i64 0, .int .i64 0]] 8 (World.laidAll_os _ _ _)
      (World.shaped_of_ZipB (by kernel_rfl) (by kernel_rfl)) (by kernel_rfl) (by kernel_rfl) (by kernel_rfl)
      (by rw [MakeChecks.laidMetH_plain _ _ _ (by kernel_rfl)]; exact laidMet_laidAll _ (by kernel_rfl) (by kernel_rfl))) ?_
  intro W base args ds gs before hval0 hW hcnd _ hL hsh _
  have hval : ∀ (j : Nat) t v, Tryd.f3.params[j]? = some t → args[j]? = some v → Value.okWide Tryd.prog W .any base t v := hval0
  have hW' := hW
  obtain ⟨p, q, hA0, hV, rfl, hfz, hnd⟩ := hW
  have hA : DataW.TrodAll enc Tryd.prog W 0 (fun _ => true) true Tryd.f3.params.toList args.toList ds p := hA0
  rw [Tryd.params3] at hA hval
  obtain ⟨v0, vs0, d0, ds0, p0, q0, hargs, rfl, rfl, h0, r0⟩ := trodAll_cons hA
  obtain ⟨rfl, rfl, rfl⟩ := trodAll_nil r0
  obtain rfl : args = #[v0] := by cases args; simp_all
  obtain ⟨rfl, rfl⟩ := trodVars_none hV
  have k0 := h0
  have lt0 : ∀ x ∈ p0, x.block < W.heap.size := by obtain ⟨m, hm⟩ := k0; exact DataW.trod_lt m _ _ _ hm
  obtain ⟨x0, x1, x2, y0, y1, y2, m, rfl, rfl, rfl, hy0, hy1, hy2⟩ := open_agg3 Tryd.underlying23 (by kernel_rfl) cellsSt (hval 0 23 v0 rfl rfl) h0
  obtain ⟨a0, e0, rfl, wa0⟩ := DataW.trod_int Tryd.underlying3 hy0
  obtain ⟨b0, e1, rfl, wb0⟩ := DataW.trod_int Tryd.underlying3 hy1
  obtain ⟨c0, e2, rfl, wc0⟩ := DataW.trod_int Tryd.underlying3 hy2
  simp at e0 e1 e2
  subst e0 e1 e2
  clear hy0 hy1 hy2
  clear hA0 hval0
  have hT : Tab W := tabOf hL
  refine (walk a0 b0 c0 W wa0 wb0 wc0 hT).mono fun e W' ⟨he, bel⟩ => ?_
  subst he
  exact ⟨_, rfl, _, _, _, [], _, [], hW', trodAll_mk1 (shut_bool Tryd.underlying4 _), (trodAll_cons_mk (Below.trod laidOut (by kernel_rfl) (of_decide_eq_true (by kernel_rfl)) k0 bel lt0) trodAll_mk0), rfl, bel.frame _, fun h => by cases h⟩

theorem over : Rows.FnExactStampTextSaid :=
  OpenClaim.holds_of_wide 3 Tryd.f3 rfl rfl rfl rfl rfl rfl rfl ⟨rfl, rfl, rfl, rfl, rfl⟩ rfl rfl rfl rfl rfl (by kernel_rfl) Tryd.func3 (by kernel_rfl)
    (of_decide_eq_true (by kernel_rfl)) (by unfold Func.isWrapper; first | (rw [if_pos (by decide +kernel)]; kernel_rfl) | (rw [if_neg (by decide +kernel)]; exact ⟨rfl, rfl⟩))
    (fun os started H enc _ => lifted os started H enc)

theorem carded : Rows.FnExactStampTextCardSaid :=
  Claim7.holds_tied_plain_at .later [] [.data, .data, .data] true (true, "ce9a418de59250de24d2da1bc87ec6fb5d0797e604ca11732db994526457c8ef") false
    over (fun _ h => by cases h) (by kernel_rfl) (fun _ h => by cases h) fnExactStampText_row_tie rfl ⟨rfl, rfl⟩ (by kernel_rfl) rfl
    (fun f fn hf hfn => by
      obtain rfl : f = 3 := Option.some.inj ((show Tryd.prog.funcNamed Tryd.f3.name = some 3 by kernel_rfl).symm.trans hf) |>.symm
      obtain rfl : fn = Tryd.f3 := (Option.some.inj (Tryd.func3.symm.trans hfn)).symm
      exact ⟨by kernel_rfl, fun j t ht => by
        rw [Tryd.params3] at ht
        have hm : t ∈ [23] := by simpa using Array.mem_of_getElem? ht
        have hall : ([23].all fun u => !Tryd.prog.wantsStandIn u) = true := by kernel_rfl
        exact (show Tryd.prog.wantsStandIn t = false by simpa using List.all_eq_true.1 hall t hm)⟩)
    (by kernel_rfl)

end Go.Proofs.YtekjnfkmjmmcmalDoor.fnExactStampText
namespace Go.Proofs.YtekjnfkmjmmcmalDoor
theorem fnExactStampText_card : Rows.FnExactStampTextCardSaid := fnExactStampText.carded
#print axioms fnExactStampText_card
end Go.Proofs.YtekjnfkmjmmcmalDoor
