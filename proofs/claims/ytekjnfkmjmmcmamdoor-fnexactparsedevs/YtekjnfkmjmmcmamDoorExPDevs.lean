/- For every text the law FnExactParseDevs returns true: the program's ParseDevs answers as the specification's, every field, and its answer is memory of its own that a later call leaves alone; the row lists two tables and one handle of Go's library, tied to the program's text (the card). Conditions: none beyond the row's own. -/
import Derived.Test.YtekjnfkmjmmcmamDoorRows
import Derived.Test.YtekjnfkmjmmcmamDoorTie
import Derived.Test.YtekjnfkmjmmcmamDoorCards
import Derived.Test.YtekjnfkmjmmcmamDoorPdS
import Derived.Test.YtekjnfkmjmmcmamDoorPdI
import Derived.Test.YtekjnfkmjmmcmamDoorStR
import Derived.Test.YtekjnfkmjmmcmamDoorEqDvS
import Derived.Test.YtekjnfkmjmmcmamDoorMkDv
import Derived.Test.YtekjnfkmjmmcmamDoorDoor
import Derived.WalkKit
import Derived.ProofKit
import Derived.OpenShut
import Derived.ShutString
import Derived.ChangeOld
import Derived.Below
import Derived.Lay
import Derived.SevenTiedAt
import Derived.Stop.LaidErr
import Derived.Lib.LaidTab
import Derived.Shelf.Vars
import Derived.LaidHandle
namespace Go.Proofs.YtekjnfkmjmmcmamDoor.fnExactParseDevs
open Go.ChangeShapes Go.WideShapes Go.ChangeAt Go.RowKit
open Go.ChangeMaps (open_string shut_string)
set_option linter.unusedVariables false

theorem own : ownKnob Tryd.prog.godebug = none := by kernel_rfl
theorem laidOut : laidOutB Tryd.prog = true := by kernel_rfl

open Wk

theorem maxOf {W : World} (h : W.ShapedOpen Tryd.prog) : MaxD W :=
  cell_of_shapedOpen_int (g := 2) (t := 3) (zero := #[.int .i64 0]) h (of_decide_eq_true (by kernel_rfl)) (by kernel_rfl) rfl (by kernel_rfl) (by kernel_rfl) Tryd.underlying3

theorem rtName : (Tryd.prog.cutTypes.find? (·.1 == "internal/reflectlite.rtype")).map (·.2) = some 85 := by kernel_rfl
theorem oneErr : ((List.range 155).filter fun t => Tryd.prog.rowNamed t [101, 114, 114, 111, 114]) = [45] := by kernel_rfl
theorem nTypes : Tryd.prog.types.size = 155 := by kernel_rfl
theorem errOf {W : World} (h : laidMetH Tryd.prog Rows.fnExactParseDevsRow.laid W) : ErrT W := by
  have h' : laidMet Tryd.prog (Rows.fnExactParseDevsRow.laid.filter fun x => x.2.handleName?.isNone) W ∧ handlesMet Tryd.prog [("errors.errorType", Rows.laid_errors_errorType)] W := h
  obtain ⟨name, u, ty, e1, e2, e3, e4, e5⟩ := h'.2 _ (List.mem_singleton.2 rfl)
  have en : name = [101, 114, 114, 111, 114] := (Option.some.inj e1).symm
  subst en
  obtain rfl := Option.some.inj (rtName.symm.trans e2)
  have hm : ty ∈ (List.range 155).filter fun t => Tryd.prog.rowNamed t [101, 114, 114, 111, 114] := List.mem_filter.2 ⟨List.mem_range.2 (by rw [← nTypes]; exact e3), e4⟩
  rw [oneErr] at hm
  obtain rfl := List.mem_singleton.1 hm
  have hh : typeHandle Tryd.prog 45 = hdl 45 := by kernel_rfl
  rw [hh] at e5
  simpa [ErrT] using World.var?_cell (show Tryd.prog.globalNamed "errors.errorType" = some 0 by kernel_rfl) e5 0
/-- a world in which the handle stands -/
noncomputable def world0 (os : Os) : World :=
  { World.holding Tryd.prog os ⟨#[], #[], []⟩ with heap := (World.holding Tryd.prog os ⟨#[], #[], []⟩).heap.modify 0 fun
      | .cells _ t frozen => .cells #[rt 45] t frozen
      | o => o }
/-- the listed ones that are no handle -/
def rest : List (String × DataW Unit) := Rows.fnExactParseDevsRow.laid.filter fun x => x.2.handleName?.isNone
theorem world_met (os : Os) (args : Array Value) : laidMetH Tryd.prog Rows.fnExactParseDevsRow.laid (((world0 os).layVars Tryd.prog rest).forCall (fun _ _ => 0) ⟨#[], args, []⟩).memory := by
  have e1 : (rest.filter fun x => (rest.map (·.1)).contains x.1) = rest := List.filter_eq_self.2 fun x hx => List.contains_iff_mem.2 (List.mem_map.2 ⟨x, hx, rfl⟩)
  have e2 : (rest.filter fun x => !(rest.map (·.1)).contains x.1) = [] := List.filter_eq_nil_iff.2 fun x hx => by rw [List.contains_iff_mem.2 (List.mem_map.2 ⟨x, hx, rfl⟩)]; simp
  have hm : laidMet Tryd.prog rest ((world0 os).layVars Tryd.prog rest) := laidMet_layVars (w0 := world0 os) (rest.map (·.1)) [] (by rw [e1]) (by rw [e1]; kernel_rfl) (by rw [e1]; kernel_rfl) (by rw [e2]; exact LaidIn.none)
  exact laidMetH_of_parts (hm.of_heap (by simp [World.memory, World.forCall, Input.heap])) (by kernel_rfl)

theorem RdS.far {w1 w3 w4 : World} {a : Option Addr} {l : List Sm.St} {g : Nat} (h : RdS w1 a l) (hb : Below w1.heap.size w1 w3) (hg : w3.grownBy w4 (some g)) (hge : w1.heap.size ≤ g) : RdS w4 a l := by
  intro i hi
  obtain ⟨b, off, ha, hc⟩ := h i hi
  have hl := hc.lt
  have hl3 : b < w3.heap.size := Nat.lt_of_lt_of_le hl hb.size
  have hne : some b ≠ some g := by simp only [ne_eq, Option.some.injEq]; omega
  obtain ⟨c0, c1, c2⟩ := hc.below hb
  exact ⟨b, off, ha, by rw [hg.cell_far _ hl3 hne]; exact c0, by rw [hg.cell_far _ hl3 hne]; exact c1, by rw [hg.cell_far _ hl3 hne]; exact c2⟩
set_option maxHeartbeats 2000000 in
set_option maxRecDepth 100000 in
theorem walk (s : ByteArray) (w : World) (w0 : s.size ≤ maxLen) (hM : MaxD w) (hE : ErrT w) :
    Calls Tryd.prog 4 #[.string s] w fun e w' => e = .returned (.bool true) ∧ Below w.heap.size w w' := by
  unfold maxLen at w0
  by_cases hb : s.size ≤ 1048576
  · have cS := fun w => specParseD s w hb
    have cI := fun w hM hE => implParseD s w hb hM hE
    generalize Dv.parse s.data.toList = G at cS cI
    obtain ⟨X, hX⟩ : ∃ X, G.getD [] = X := ⟨_, rfl⟩
    obtain ⟨B, hB⟩ : ∃ B, G.isSome = B := ⟨_, rfl⟩
    rw [hX, hB] at cS cI
    clear hX hB G
    go_enter Tryd.func4, Tryd.ntmps4
    go_wp2_with fail
    refine (cS _).mono ?_
    rintro e w1 ⟨aS, cpS, rfl, hrS, hb1⟩
    go_wp2_with fail
    refine (cI _ (hM.on hb1) (hE.on hb1)).mono ?_
    rintro e w2 ⟨g, cp, rfl, h12, hown, hb2⟩
    have hB2 := behind hb1 hb2
    have hrI := (Ss_row X).rd hown
    have hglt := World.ownsRow.lt hown g rfl
    have hXl : X.length ≤ 1048576 := by omega
    cases B
    all_goals
      go_wp2_with fail
      refine (eqDvS _ _ _ _ X _ hXl hrI (hrS.below hb2)).mono ?_
      rintro e w3 ⟨rfl, hb3⟩
      have hB3 := behind hB2 hb3
      have hown3 := ownOn hown hb3
      go_wp2_with fail
      refine (markDvS _ _ _ _ 1 _ _ hXl (by omega) hown3).mono ?_
      rintro e w4 ⟨rfl, ⟨ys, hown4, hrow4⟩, hg4⟩
      have hB4 : Below w.heap.size w w4 := hB3.grown hg4 hB3.size (fun j e => by cases e; have := hb1.size; omega)
      have hr4 : RdS w4 (some ⟨g, 0, none⟩) (mk3 1 X.length) := by
        have h9 := @RowIs.rd w4 w1.heap.size g cp ys (mk3 1 X.length) 36
        rw [mk3_len] at h9
        exact h9 hown4 hrow4
      go_wp2_with fail
      refine (heldDvS _ _ _ 1 _ hXl (by omega) hr4).mono ?_
      rintro e _ ⟨rfl, rfl⟩
      have hrS4 := RdS.far hrS (behind hb2 hb3) hg4 hglt.1
      have hq : ¬ ((1 : Int) + 3 * (X.length : Int) < 0) := by omega
      go_wp2_with fail
      refine (cI _ (hM.on hB4) (hE.on hB4)).mono ?_
      rintro e w5 ⟨g', cp', rfl, -, hown5, hb5⟩
      have hB5 := behind hB4 hb5
      go_wp2_with fail
      refine (eqDvS _ _ _ _ X _ hXl ((Ss_row X).rd hown5) (hrS4.below hb5)).mono ?_
      rintro e w6 ⟨rfl, hb6⟩
      have hB6 := behind hB5 hb6
      go_wp2_with fail
      refine (heldDvS _ _ _ 1 _ hXl (by omega) (hr4.below (behind hb5 hb6))).mono ?_
      rintro e _ ⟨rfl, rfl⟩
      go_wp2
      go_ret
      exact ⟨rfl, hB6⟩
  · go_enter Tryd.func4, Tryd.ntmps4
    go_wp2
    go_ret
    exact ⟨rfl, Below.refl _ _⟩

set_option maxRecDepth 100000 in
theorem lifted (os : Os) (started : os.Started) (H : Type) (enc : TypeId × Value → H) :
    ReturnsInHanded {} Tryd.checked os 4 .any (fun w args => (Rows.fnExactParseDevsSpec.pre enc Tryd.prog Tryd.f4 Rows.fnExactParseDevsRow.domain false w args ∧ laidMetH Tryd.prog Rows.fnExactParseDevsRow.laid w) ∧ sizedMet enc Tryd.prog Tryd.f4 (OpenSpec.ofChange Rows.fnExactParseDevsSpec) false w args)
      (Rows.fnExactParseDevsSpec.post enc Tryd.prog Tryd.f4 false true false false) := by
  refine handedBoth (C := Tryd.checked) (X := fun w _ => laidMetH Tryd.prog Rows.fnExactParseDevsRow.laid w) (fun _ _ _ hh h => h.of_heap hh) own started (by kernel_rfl) Tryd.func4
    (ChangeSpec.witness_shaped (enc := enc) (C := Tryd.checked) (os := os) (X := fun w _ => laidMetH Tryd.prog Rows.fnExactParseDevsRow.laid w) false ((world0 os).layVars Tryd.prog rest) #[.string ByteArray.empty] 8 (World.layVars_os _ _ _)
      (World.shaped_of_ZipB (by kernel_rfl) (by kernel_rfl)) (by kernel_rfl) (by kernel_rfl) (by kernel_rfl)
      (world_met os _)) ?_
  intro W base args ds gs before hval0 hW hcnd _ hL hsh _
  have hval : ∀ (j : Nat) t v, Tryd.f4.params[j]? = some t → args[j]? = some v → Value.okWide Tryd.prog W .any base t v := hval0
  have hW' := hW
  obtain ⟨p, q, hA0, hV, rfl, hfz, hnd⟩ := hW
  have hA : DataW.TrodAll enc Tryd.prog W 0 (fun _ => true) true Tryd.f4.params.toList args.toList ds p := hA0
  rw [Tryd.params4] at hA hval
  obtain ⟨v0, vs0, d0, ds0, p0, q0, hargs, rfl, rfl, h0, r0⟩ := trodAll_cons hA
  obtain ⟨rfl, rfl, rfl⟩ := trodAll_nil r0
  obtain rfl : args = #[v0] := by cases args; simp_all
  obtain ⟨rfl, rfl⟩ := trodVars_none hV
  have k0 := h0
  have lt0 : ∀ x ∈ p0, x.block < W.heap.size := by obtain ⟨m, hm⟩ := k0; exact DataW.trod_lt m _ _ _ hm
  obtain ⟨a0, rfl, rfl, rfl, w0⟩ := open_string Tryd.underlying9 (hval 0 9 v0 rfl rfl) h0
  clear hA0 hval0
  have hM : MaxD W := maxOf hsh
  have hE : ErrT W := errOf hL
  refine (walk a0 W w0 hM hE).mono fun e W' ⟨he, bel⟩ => ?_
  subst he
  exact ⟨_, rfl, _, _, _, [], _, [], hW', trodAll_mk1 (shut_bool Tryd.underlying4 _), (trodAll_cons_mk (Below.trod laidOut (by kernel_rfl) (of_decide_eq_true (by kernel_rfl)) k0 bel lt0) trodAll_mk0), rfl, bel.frame _, fun h => by cases h⟩

theorem over : Rows.FnExactParseDevsSaid :=
  OpenClaim.holds_of_wide 4 Tryd.f4 rfl rfl rfl rfl rfl rfl rfl ⟨rfl, rfl, rfl, rfl, rfl⟩ rfl rfl rfl rfl rfl (by kernel_rfl) Tryd.func4 (by kernel_rfl)
    (of_decide_eq_true (by kernel_rfl)) (by unfold Func.isWrapper; first | (rw [if_pos (by decide +kernel)]; kernel_rfl) | (rw [if_neg (by decide +kernel)]; exact ⟨rfl, rfl⟩))
    (fun os started H enc _ => lifted os started H enc)

theorem carded : Rows.FnExactParseDevsCardSaid :=
  Claim7.holds_tied_plain_at .later [] [.data, .handle, .pinned] true (true, "c21799ce6e67e672ffe247e09cadc3260eae94107908d57237811eb0ccbb02e2") true
    over (fun _ h => by cases h) (by kernel_rfl) (fun _ h => by cases h) fnExactParseDevs_row_tie rfl ⟨rfl, rfl⟩ (by kernel_rfl) rfl
    (fun f fn hf hfn => by
      obtain rfl : f = 4 := Option.some.inj ((show Tryd.prog.funcNamed Tryd.f4.name = some 4 by kernel_rfl).symm.trans hf) |>.symm
      obtain rfl : fn = Tryd.f4 := (Option.some.inj (Tryd.func4.symm.trans hfn)).symm
      exact ⟨by kernel_rfl, fun j t ht => by
        rw [Tryd.params4] at ht
        have hm : t ∈ [9] := by simpa using Array.mem_of_getElem? ht
        have hall : ([9].all fun u => !Tryd.prog.wantsStandIn u) = true := by kernel_rfl
        exact (show Tryd.prog.wantsStandIn t = false by simpa using List.all_eq_true.1 hall t hm)⟩)
    (by kernel_rfl)

end Go.Proofs.YtekjnfkmjmmcmamDoor.fnExactParseDevs
namespace Go.Proofs.YtekjnfkmjmmcmamDoor
theorem fnExactParseDevs_card : Rows.FnExactParseDevsCardSaid := fnExactParseDevs.carded
#print axioms fnExactParseDevs_card
end Go.Proofs.YtekjnfkmjmmcmamDoor
