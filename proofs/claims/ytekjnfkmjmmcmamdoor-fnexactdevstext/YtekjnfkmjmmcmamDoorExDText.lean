/- For every list of devices the law FnExactDevsText returns true: the program's DevsText answers as the specification's, and its argument reads afterwards as before; the row lists three tables of Go's library, tied to the program's text (the card). Conditions: none beyond the row's own. -/
import Derived.Test.YtekjnfkmjmmcmamDoorRows
import Derived.Test.YtekjnfkmjmmcmamDoorTie
import Derived.Test.YtekjnfkmjmmcmamDoorCards
import Derived.Test.YtekjnfkmjmmcmamDoorToDvS
import Derived.Test.YtekjnfkmjmmcmamDoorEqDvS
import Derived.Test.YtekjnfkmjmmcmamDoorTxS
import Derived.Test.YtekjnfkmjmmcmamDoorTxI
import Derived.Test.YtekjnfkmjmmcmamDoorOpDv
import Derived.Test.YtekjnfkmjmmcmamDoorDoor
import Derived.WalkKit
import Derived.ProofKit
import Derived.OpenShut
import Derived.ShutString
import Derived.ChangeOld
import Derived.Below
import Derived.Lay
import Derived.SevenTiedAt
import Derived.Stop.LaidErr
import Derived.Lib.LaidTab
import Derived.Shelf.Vars
namespace Go.Proofs.YtekjnfkmjmmcmamDoor.fnExactDevsText
open Go.ChangeShapes Go.WideShapes Go.ChangeAt Go.RowKit
open Go.ChangeMaps (open_string shut_string)
set_option linter.unusedVariables false

theorem own : ownKnob Tryd.prog.godebug = none := by kernel_rfl
theorem laidOut : laidOutB Tryd.prog = true := by kernel_rfl

open Wk

theorem tabOf {W : World} (h : laidMetH Tryd.prog Rows.fnExactDevsTextRow.laid W) : Tab W := by
  rw [MakeChecks.laidMetH_plain _ _ _ (by kernel_rfl)] at h
  have h1 := laidMet.tail (laidMet.tail h)
  have e : (Rows.laid_internal_strconv_uint64pow10 : DataW Unit) = Lib.tabData .u64 Lib.pow10Tab := by kernel_rfl
  rw [e] at h1
  exact Lib.tabIs_of_head (g := 1) (t := 110) (e := 99) (n := 20) (by kernel_rfl) (by kernel_rfl) Tryd.underlying110 Tryd.underlying99 (by kernel_rfl) (by kernel_rfl) h1

set_option maxHeartbeats 1000000 in
set_option maxRecDepth 100000 in
theorem walk (a0 : Option Addr) (len0 cap0 : Nat) (l : List Sm.St) (w : World) (w0 : IsDvs w a0 len0 cap0 l) (hT : Tab w) :
    Calls Tryd.prog 3 #[.slice a0 len0 cap0] w fun e w' => e = .returned (.bool true) ∧ Below w.heap.size w w' := by
  obtain ⟨rfl, hm, hr⟩ := w0
  unfold maxLen at hm
  by_cases hb : l.length ≤ 1048576
  · obtain ⟨T, cS, cI⟩ : ∃ T : ByteArray, (∀ a cap w, RdS w a l → Calls Tryd.prog 6 #[.slice a l.length cap] w fun e w' => e = .returned (.string T) ∧ Below w.heap.size w w') ∧ (∀ a cap w, RdS w a l → Tab w → Calls Tryd.prog 8 #[.slice a l.length cap] w fun e w' => e = .returned (.string T) ∧ Below w.heap.size w w') := by
      cases hk : Dv.devs l with
      | true => exact ⟨_, fun a cap w h => specDText a cap l w hk h, fun a cap w h t => implDText a cap l w hk h t⟩
      | false => exact ⟨_, fun a cap w h => specDTextNo a cap l w hb hk h, fun a cap w h t => implDTextNo a cap l w hb hk h⟩
    go_enter Tryd.func3, Tryd.ntmps3
    go_wp2_with (go_at_call 5; go_in)
    go_wp2_with fail
    refine (toDvS a0 cap0 l _ hb hr).mono ?_
    rintro e w1 ⟨rfl, ho1, hb1⟩
    go_wp2_with fail
    refine (cS _ _ _ ho1).mono ?_
    rintro e w2 ⟨rfl, hb2⟩
    have hB2 := behind hb1 hb2
    go_wp2_with fail
    refine (toDvS a0 cap0 l _ hb (hr.below hB2)).mono ?_
    rintro e w3 ⟨rfl, ho3, hb3⟩
    have hB3 := behind hB2 hb3
    go_wp2_with fail
    refine (cI _ _ _ ho3 (hT.on hB3)).mono ?_
    rintro e w4 ⟨rfl, hb4⟩
    have hB4 := behind hB3 hb4
    go_wp2_with fail
    refine (toDvS a0 cap0 l _ hb (hr.below hB4)).mono ?_
    rintro e w6 ⟨rfl, ho6, hb6⟩
    have hB6 := behind hB4 hb6
    go_wp2_with fail
    refine (eqDvS _ _ _ _ l _ hb ((ho3.below hb4).below hb6) ho6).mono ?_
    rintro e w7 ⟨rfl, hb7⟩
    go_wp2
    go_ret
    exact ⟨rfl, behind hB6 hb7⟩
  · go_enter Tryd.func3, Tryd.ntmps3
    go_wp2_with (go_at_call 5; go_in)
    go_wp2
    go_ret
    exact ⟨rfl, Below.refl _ _⟩

set_option maxRecDepth 100000 in
theorem lifted (os : Os) (started : os.Started) (H : Type) (enc : TypeId × Value → H) :
    ReturnsInHanded {} Tryd.checked os 3 .any (fun w args => (Rows.fnExactDevsTextSpec.pre enc Tryd.prog Tryd.f3 Rows.fnExactDevsTextRow.domain false w args ∧ laidMetH Tryd.prog Rows.fnExactDevsTextRow.laid w) ∧ sizedMet enc Tryd.prog Tryd.f3 (OpenSpec.ofChange Rows.fnExactDevsTextSpec) false w args)
      (Rows.fnExactDevsTextSpec.post enc Tryd.prog Tryd.f3 false true false false) := by
  refine handedBoth (C := Tryd.checked) (X := fun w _ => laidMetH Tryd.prog Rows.fnExactDevsTextRow.laid w) (fun _ _ _ hh h => h.of_heap hh) own started (by kernel_rfl) Tryd.func3
    (ChangeSpec.witness_shaped (enc := enc) (C := Tryd.checked) (os := os) (X := fun w _ => laidMetH Tryd.prog Rows.fnExactDevsTextRow.laid w) false (World.laidAll Tryd.prog os Rows.fnExactDevsTextRow.laid) #[.slice none 0 0] 8 (World.laidAll_os _ _ _)
      (World.shaped_of_ZipB (by kernel_rfl) (by kernel_rfl)) (by kernel_rfl) (by kernel_rfl) (by kernel_rfl)
      (by rw [MakeChecks.laidMetH_plain _ _ _ (by kernel_rfl)]; exact laidMet_laidAll _ (by kernel_rfl) (by kernel_rfl))) ?_
  intro W base args ds gs before hval0 hW hcnd _ hL hsh _
  have hval : ∀ (j : Nat) t v, Tryd.f3.params[j]? = some t → args[j]? = some v → Value.okWide Tryd.prog W .any base t v := hval0
  have hW' := hW
  obtain ⟨p, q, hA0, hV, rfl, hfz, hnd⟩ := hW
  have hA : DataW.TrodAll enc Tryd.prog W 0 (fun _ => true) true Tryd.f3.params.toList args.toList ds p := hA0
  rw [Tryd.params3] at hA hval
  obtain ⟨v0, vs0, d0, ds0, p0, q0, hargs, rfl, rfl, h0, r0⟩ := trodAll_cons hA
  obtain ⟨rfl, rfl, rfl⟩ := trodAll_nil r0
  obtain rfl : args = #[v0] := by cases args; simp_all
  obtain ⟨rfl, rfl⟩ := trodVars_none hV
  obtain ⟨a0, len0, cap0, rfl⟩ := okWide_slice Tryd.underlying22 (hval 0 22 v0 rfl rfl)
  have k0 := h0
  have lt0 : ∀ x ∈ p0, x.block < W.heap.size := by obtain ⟨m, hm⟩ := k0; exact DataW.trod_lt m _ _ _ hm
  obtain ⟨z0, w0⟩ := openDvs h0
  clear hA0 hval0
  have hT : Tab W := tabOf hL
  refine (walk a0 len0 cap0 z0 W w0 hT).mono fun e W' ⟨he, bel⟩ => ?_
  subst he
  exact ⟨_, rfl, _, _, _, [], _, [], hW', trodAll_mk1 (shut_bool Tryd.underlying4 _), (trodAll_cons_mk (Below.trod laidOut (by kernel_rfl) (of_decide_eq_true (by kernel_rfl)) k0 bel lt0) trodAll_mk0), rfl, bel.frame _, fun h => by cases h⟩

theorem over : Rows.FnExactDevsTextSaid :=
  OpenClaim.holds_of_wide 3 Tryd.f3 rfl rfl rfl rfl rfl rfl rfl ⟨rfl, rfl, rfl, rfl, rfl⟩ rfl rfl rfl rfl rfl (by kernel_rfl) Tryd.func3 (by kernel_rfl)
    (of_decide_eq_true (by kernel_rfl)) (by unfold Func.isWrapper; first | (rw [if_pos (by decide +kernel)]; kernel_rfl) | (rw [if_neg (by decide +kernel)]; exact ⟨rfl, rfl⟩))
    (fun os started H enc _ => lifted os started H enc)

theorem carded : Rows.FnExactDevsTextCardSaid :=
  Claim7.holds_tied_plain_at .later [] [.data, .data, .data] true (true, "c21799ce6e67e672ffe247e09cadc3260eae94107908d57237811eb0ccbb02e2") true
    over (fun _ h => by cases h) (by kernel_rfl) (fun _ h => by cases h) fnExactDevsText_row_tie rfl ⟨rfl, rfl⟩ (by kernel_rfl) rfl
    (fun f fn hf hfn => by
      obtain rfl : f = 3 := Option.some.inj ((show Tryd.prog.funcNamed Tryd.f3.name = some 3 by kernel_rfl).symm.trans hf) |>.symm
      obtain rfl : fn = Tryd.f3 := (Option.some.inj (Tryd.func3.symm.trans hfn)).symm
      exact ⟨by kernel_rfl, fun j t ht => by
        rw [Tryd.params3] at ht
        have hm : t ∈ [22] := by simpa using Array.mem_of_getElem? ht
        have hall : ([22].all fun u => !Tryd.prog.wantsStandIn u) = true := by kernel_rfl
        exact (show Tryd.prog.wantsStandIn t = false by simpa using List.all_eq_true.1 hall t hm)⟩)
    (by kernel_rfl)

end Go.Proofs.YtekjnfkmjmmcmamDoor.fnExactDevsText
namespace Go.Proofs.YtekjnfkmjmmcmamDoor
theorem fnExactDevsText_card : Rows.FnExactDevsTextCardSaid := fnExactDevsText.carded
#print axioms fnExactDevsText_card
end Go.Proofs.YtekjnfkmjmmcmamDoor
