/- For every text the law FnExactParseStamp returns true: the program's ParseStamp answers as the specification's, every field; the row lists two tables of Go's library, tied to the program's text (the card). Conditions: none beyond the row's own. -/
import Derived.Test.YtekjnfkmjmmcmalDoorRows
import Derived.Test.YtekjnfkmjmmcmalDoorTie
import Derived.Test.YtekjnfkmjmmcmalDoorCards
import Derived.Test.YtekjnfkmjmmcmalDoorPaI
import Derived.Test.YtekjnfkmjmmcmalDoorPaS
import Derived.Test.YtekjnfkmjmmcmalDoorEqSt
import Derived.Test.YtekjnfkmjmmcmalDoorDoor
import Derived.WalkKit
import Derived.ProofKit
import Derived.OpenShut
import Derived.ShutString
import Derived.ChangeOld
import Derived.Below
import Derived.Lay
import Derived.SevenTiedAt
import Derived.Stop.LaidErr
import Derived.Lib.LaidTab
import Derived.Shelf.Vars
namespace Go.Proofs.YtekjnfkmjmmcmalDoor.fnExactParseStamp
open Go.ChangeShapes Go.WideShapes Go.ChangeAt Go.RowKit
open Go.ChangeMaps (open_string shut_string)
set_option linter.unusedVariables false

theorem own : ownKnob Tryd.prog.godebug = none := by kernel_rfl
theorem laidOut : laidOutB Tryd.prog = true := by kernel_rfl

open Wk

theorem maxOf {W : World} (h : W.ShapedOpen Tryd.prog) : MaxL W :=
  cell_of_shapedOpen_int (g := 1) (t := 3) (zero := #[.int .i64 0]) h (of_decide_eq_true (by kernel_rfl)) (by kernel_rfl) rfl (by kernel_rfl) (by kernel_rfl) Tryd.underlying3

set_option maxHeartbeats 1000000 in
set_option maxRecDepth 100000 in
theorem walk (s : ByteArray) (w : World) (hw : s.size ≤ maxLen) (hM : MaxL w) :
    Calls Tryd.prog 4 #[.string s] w fun e w' => e = .returned (.bool true) ∧ Below w.heap.size w w' := by
  by_cases hs : s.size ≤ 1048576
  · have cS := fun w => specParse s w hs
    have cI := fun w => implParse s w hs
    generalize Sm.parse s.data.toList = R at cS cI
    rcases R with _ | ⟨t, q, n⟩
    all_goals
      simp only [paV] at cS cI
      go_enter Tryd.func4, Tryd.ntmps4
      go_wp2_with fail
      refine (cS _).mono ?_
      rintro e w1 ⟨rfl, hb1⟩
      first
        | have x1 := boxNew w1 (t : Int) (q : Int) (n : Int) 25
        | have x1 := boxNew w1 0 0 0 25
      go_wp2_with fail
      refine (cI _ (hM.on (behind hb1 (bel1 _ _)))).mono ?_
      rintro e w2 ⟨rfl, hb2⟩
      have hB2 := behind (behind hb1 (bel1 _ _)) hb2
      obtain ⟨p0, p1, p2⟩ := (x1.below hb2).on
      go_wp2_with fail
      refine (eqSt _ _ _ _).mono ?_
      rintro e w3 ⟨rfl, hb3⟩
      have hB3 := behind (behind hB2 (bel1 _ _)) hb3
      go_wp2
      go_ret
      exact ⟨rfl, hB3⟩
  · unfold maxLen at hw
    go_enter Tryd.func4, Tryd.ntmps4
    go_wp2
    go_ret
    exact ⟨rfl, Below.refl _ _⟩

set_option maxRecDepth 100000 in
theorem lifted (os : Os) (started : os.Started) (H : Type) (enc : TypeId × Value → H) :
    ReturnsInHanded {} Tryd.checked os 4 .any (fun w args => (Rows.fnExactParseStampSpec.pre enc Tryd.prog Tryd.f4 Rows.fnExactParseStampRow.domain false w args ∧ laidMetH Tryd.prog Rows.fnExactParseStampRow.laid w) ∧ sizedMet enc Tryd.prog Tryd.f4 (OpenSpec.ofChange Rows.fnExactParseStampSpec) false w args)
      (Rows.fnExactParseStampSpec.post enc Tryd.prog Tryd.f4 false true false false) := by
  refine handedBoth (C := Tryd.checked) (X := fun w _ => laidMetH Tryd.prog Rows.fnExactParseStampRow.laid w) (fun _ _ _ hh h => h.of_heap hh) own started (by kernel_rfl) Tryd.func4
    (ChangeSpec.witness_shaped (enc := enc) (C := Tryd.checked) (os := os) (X := fun w _ => laidMetH Tryd.prog Rows.fnExactParseStampRow.laid w) false (World.laidAll Tryd.prog os Rows.fnExactParseStampRow.laid) #[.string ByteArray.empty] 8 (World.laidAll_os _ _ _)
      (World.shaped_of_ZipB (by kernel_rfl) (by kernel_rfl)) (by kernel_rfl) (by kernel_rfl) (by kernel_rfl)
      (by rw [MakeChecks.laidMetH_plain _ _ _ (by kernel_rfl)]; exact laidMet_laidAll _ (by kernel_rfl) (by kernel_rfl))) ?_
  intro W base args ds gs before hval0 hW hcnd _ hL hsh _
  have hval : ∀ (j : Nat) t v, Tryd.f4.params[j]? = some t → args[j]? = some v → Value.okWide Tryd.prog W .any base t v := hval0
  have hW' := hW
  obtain ⟨p, q, hA0, hV, rfl, hfz, hnd⟩ := hW
  have hA : DataW.TrodAll enc Tryd.prog W 0 (fun _ => true) true Tryd.f4.params.toList args.toList ds p := hA0
  rw [Tryd.params4] at hA hval
  obtain ⟨v0, vs0, d0, ds0, p0, q0, hargs, rfl, rfl, h0, r0⟩ := trodAll_cons hA
  obtain ⟨rfl, rfl, rfl⟩ := trodAll_nil r0
  obtain rfl : args = #[v0] := by cases args; simp_all
  obtain ⟨rfl, rfl⟩ := trodVars_none hV
  have k0 := h0
  have lt0 : ∀ x ∈ p0, x.block < W.heap.size := by obtain ⟨m, hm⟩ := k0; exact DataW.trod_lt m _ _ _ hm
  obtain ⟨a0, rfl, rfl, rfl, w0⟩ := open_string Tryd.underlying9 (hval 0 9 v0 rfl rfl) h0
  clear hA0 hval0
  have hM : MaxL W := maxOf hsh
  refine (walk a0 W w0 hM).mono fun e W' ⟨he, bel⟩ => ?_
  subst he
  exact ⟨_, rfl, _, _, _, [], _, [], hW', trodAll_mk1 (shut_bool Tryd.underlying4 _), (trodAll_cons_mk (Below.trod laidOut (by kernel_rfl) (of_decide_eq_true (by kernel_rfl)) k0 bel lt0) trodAll_mk0), rfl, bel.frame _, fun h => by cases h⟩

theorem over : Rows.FnExactParseStampSaid :=
  OpenClaim.holds_of_wide 4 Tryd.f4 rfl rfl rfl rfl rfl rfl rfl ⟨rfl, rfl, rfl, rfl, rfl⟩ rfl rfl rfl rfl rfl (by kernel_rfl) Tryd.func4 (by kernel_rfl)
    (of_decide_eq_true (by kernel_rfl)) (by unfold Func.isWrapper; first | (rw [if_pos (by decide +kernel)]; kernel_rfl) | (rw [if_neg (by decide +kernel)]; exact ⟨rfl, rfl⟩))
    (fun os started H enc _ => lifted os started H enc)

theorem carded : Rows.FnExactParseStampCardSaid :=
  Claim7.holds_tied_plain_at .later [] [.data, .pinned] true (true, "ce9a418de59250de24d2da1bc87ec6fb5d0797e604ca11732db994526457c8ef") false
    over (fun _ h => by cases h) (by kernel_rfl) (fun _ h => by cases h) fnExactParseStamp_row_tie rfl ⟨rfl, rfl⟩ (by kernel_rfl) rfl
    (fun f fn hf hfn => by
      obtain rfl : f = 4 := Option.some.inj ((show Tryd.prog.funcNamed Tryd.f4.name = some 4 by kernel_rfl).symm.trans hf) |>.symm
      obtain rfl : fn = Tryd.f4 := (Option.some.inj (Tryd.func4.symm.trans hfn)).symm
      exact ⟨by kernel_rfl, fun j t ht => by
        rw [Tryd.params4] at ht
        have hm : t ∈ [9] := by simpa using Array.mem_of_getElem? ht
        have hall : ([9].all fun u => !Tryd.prog.wantsStandIn u) = true := by kernel_rfl
        exact (show Tryd.prog.wantsStandIn t = false by simpa using List.all_eq_true.1 hall t hm)⟩)
    (by kernel_rfl)

end Go.Proofs.YtekjnfkmjmmcmalDoor.fnExactParseStamp
namespace Go.Proofs.YtekjnfkmjmmcmalDoor
theorem fnExactParseStamp_card : Rows.FnExactParseStampCardSaid := fnExactParseStamp.carded
#print axioms fnExactParseStamp_card
end Go.Proofs.YtekjnfkmjmmcmalDoor
