/- For every slice of bytes the law FnDevsRead returns true: what is read of a drawn text as devices is right, and has that text, and the program reads devices just where the specification does; the row lists six tables of Go's library, tied to the program's text (the card). Conditions: none beyond the row's own. -/
import Derived.Test.YtekjnfkmjmmcmabDoorRows
import Derived.Test.YtekjnfkmjmmcmabDoorTie
import Derived.Test.YtekjnfkmjmmcmabDoorCards
import Derived.Test.YtekjnfkmjmmcmabDoorBkV
import Derived.Test.YtekjnfkmjmmcmabDoorPdS
import Derived.Test.YtekjnfkmjmmcmabDoorPdI
import Derived.Test.YtekjnfkmjmmcmabDoorTxI
import Derived.Test.YtekjnfkmjmmcmabDoorDrPd
import Derived.Test.YtekjnfkmjmmcmabDoorDoor
import Derived.WalkKit
import Derived.ProofKit
import Derived.OpenShut
import Derived.ShutString
import Derived.ChangeOld
import Derived.Below
import Derived.Lay
import Derived.SevenTiedAt
import Derived.Stop.LaidErr
import Derived.Lib.LaidTab
import Derived.Shelf.Vars
import Derived.LaidHandle
namespace Go.Proofs.YtekjnfkmjmmcmabDoor.fnDevsRead
open Go.ChangeShapes Go.WideShapes Go.ChangeAt Go.RowKit
open Go.ChangeMaps (open_string shut_string)
set_option linter.unusedVariables false

theorem own : ownKnob Tryd.prog.godebug = none := by kernel_rfl
theorem laidOut : laidOutB Tryd.prog = true := by kernel_rfl

open Wk

theorem tabOf {W : World} (h : laidMetH Tryd.prog Rows.fnDevsReadRow.laid W) : Tab W := by
  have h' : laidMet Tryd.prog (Rows.fnDevsReadRow.laid.filter fun x => x.2.handleName?.isNone) W ∧ handlesMet Tryd.prog [("errors.errorType", Rows.laid_errors_errorType)] W := h
  have h1 := laidMet.tail (laidMet.tail (show laidMet Tryd.prog (_ :: _ :: ("internal/strconv.uint64pow10", (Rows.laid_internal_strconv_uint64pow10 : DataW Unit)) :: _) W from h'.1))
  have e : (Rows.laid_internal_strconv_uint64pow10 : DataW Unit) = Lib.tabData .u64 Lib.pow10Tab := by kernel_rfl
  rw [e] at h1
  exact Lib.tabIs_of_head (g := 1) (t := 128) (e := 116) (n := 20) (by kernel_rfl) (by kernel_rfl) Tryd.underlying128 Tryd.underlying116 (by kernel_rfl) (by kernel_rfl) h1

theorem maxOf {W : World} (h : W.ShapedOpen Tryd.prog) : MaxD W :=
  cell_of_shapedOpen_int (g := 2) (t := 3) (zero := #[.int .i64 0]) h (of_decide_eq_true (by kernel_rfl)) (by kernel_rfl) rfl (by kernel_rfl) (by kernel_rfl) Tryd.underlying3

theorem rtName : (Tryd.prog.cutTypes.find? (·.1 == "internal/reflectlite.rtype")).map (·.2) = some 101 := by kernel_rfl
theorem oneErr : ((List.range 169).filter fun t => Tryd.prog.rowNamed t [101, 114, 114, 111, 114]) = [56] := by kernel_rfl
theorem nTypes : Tryd.prog.types.size = 169 := by kernel_rfl
theorem errOf {W : World} (h : laidMetH Tryd.prog Rows.fnDevsReadRow.laid W) : ErrT W := by
  have h' : laidMet Tryd.prog (Rows.fnDevsReadRow.laid.filter fun x => x.2.handleName?.isNone) W ∧ handlesMet Tryd.prog [("errors.errorType", Rows.laid_errors_errorType)] W := h
  obtain ⟨name, u, ty, e1, e2, e3, e4, e5⟩ := h'.2 _ (List.mem_singleton.2 rfl)
  have en : name = [101, 114, 114, 111, 114] := (Option.some.inj e1).symm
  subst en
  obtain rfl := Option.some.inj (rtName.symm.trans e2)
  have hm : ty ∈ (List.range 169).filter fun t => Tryd.prog.rowNamed t [101, 114, 114, 111, 114] := List.mem_filter.2 ⟨List.mem_range.2 (by rw [← nTypes]; exact e3), e4⟩
  rw [oneErr] at hm
  obtain rfl := List.mem_singleton.1 hm
  have hh : typeHandle Tryd.prog 56 = hdl 56 := by kernel_rfl
  rw [hh] at e5
  simpa [ErrT] using World.var?_cell (show Tryd.prog.globalNamed "errors.errorType" = some 0 by kernel_rfl) e5 0
/-- a world in which the handle stands -/
noncomputable def world0 (os : Os) : World :=
  { World.holding Tryd.prog os ⟨#[], #[], []⟩ with heap := (World.holding Tryd.prog os ⟨#[], #[], []⟩).heap.modify 0 fun
      | .cells _ t frozen => .cells #[rt 56] t frozen
      | o => o }
/-- the listed ones that are no handle -/
def rest : List (String × DataW Unit) := Rows.fnDevsReadRow.laid.filter fun x => x.2.handleName?.isNone
theorem world_met (os : Os) (args : Array Value) : laidMetH Tryd.prog Rows.fnDevsReadRow.laid (((world0 os).layVars Tryd.prog rest).forCall (fun _ _ => 0) ⟨#[], args, []⟩).memory := by
  have e1 : (rest.filter fun x => (rest.map (·.1)).contains x.1) = rest := List.filter_eq_self.2 fun x hx => List.contains_iff_mem.2 (List.mem_map.2 ⟨x, hx, rfl⟩)
  have e2 : (rest.filter fun x => !(rest.map (·.1)).contains x.1) = [] := List.filter_eq_nil_iff.2 fun x hx => by rw [List.contains_iff_mem.2 (List.mem_map.2 ⟨x, hx, rfl⟩)]; simp
  have hm : laidMet Tryd.prog rest ((world0 os).layVars Tryd.prog rest) := laidMet_layVars (w0 := world0 os) (rest.map (·.1)) [] (by rw [e1]) (by rw [e1]; kernel_rfl) (by rw [e1]; kernel_rfl) (by rw [e2]; exact LaidIn.none)
  exact laidMetH_of_parts (hm.of_heap (by simp [World.memory, World.forCall, Input.heap])) (by kernel_rfl)

theorem back_str {l : List UInt8} {s : ByteArray} (h : l = s.data.toList) : (⟨l.toArray⟩ : ByteArray) = s := by
  subst h
  apply ByteArray.ext
  simp
set_option maxHeartbeats 2000000 in
set_option maxRecDepth 100000 in
theorem walk (a0 : Option Addr) (len0 cap0 : Nat) (z0 : List Int) (w : World) (w0 : IsRow .u8 w a0 len0 cap0 z0) (hT : Tab w) (hM : MaxD w) (hE : ErrT w) :
    Calls Tryd.prog 5 #[.slice a0 len0 cap0] w fun e w' => e = .returned (.bool true) ∧ Below w.heap.size w w' := by
  obtain ⟨l, rfl, hlc, hcm, hr⟩ := w0.rd
  clear w0
  by_cases hb : l.length ≤ 1048576
  · go_enter Tryd.func5, Tryd.ntmps5
    go_wp2_with (go_at_call 6; go_in)
    go_wp2_with fail
    refine (drawParseD a0 cap0 l _ hb hr).mono ?_
    rintro e w1 ⟨s, rfl, hs, hb1⟩
    have cI := implParseD s w1 (by omega) (hM.on hb1) (hE.on hb1)
    have cS := fun w => specParseD s w (by omega)
    have HP := @Dv.parse_back s.data.toList
    generalize Dv.parse s.data.toList = R at cI cS HP
    rcases R with _ | X
    · simp only [Option.getD_none, Option.isSome_none, List.length_nil] at cI cS
      clear HP
      go_wp2_with fail
      refine cI.mono ?_
      rintro e w2 ⟨g, cp, rfl, -, hown, hb2⟩
      go_wp2_with fail
      refine (cS _).mono ?_
      rintro e w3 ⟨aS, cpS, rfl, hrS, hb3⟩
      have hB3 := behind (behind hb1 hb2) hb3
      go_wp2
      go_ret
      exact ⟨rfl, hB3⟩
    · simp only [Option.getD_some, Option.isSome_some] at cI cS
      obtain ⟨hk, hD⟩ := HP rfl
      have hD2 := back_str hD
      have cO := fun a cap w h => implDevs a cap X w h
      have cT := fun a cap w => implDText a cap X w hk
      rw [hD2] at cT
      rw [hk] at cO
      clear HP hD hD2 hk
      go_wp2_with fail
      refine cI.mono ?_
      rintro e w2 ⟨g, cp, rfl, h12, hown, hb2⟩
      have hrI := (Ss_row X).rd hown
      go_wp2_with fail
      refine (cS _).mono ?_
      rintro e w3 ⟨aS, cpS, rfl, hrS, hb3⟩
      have hB3 := behind (behind hb1 hb2) hb3
      have hr3 := hrI.below hb3
      clear hown hrI hrS cI cS
      go_wp2_with fail
      refine (cO _ _ _ (by omega) hr3).mono ?_
      rintro e w4 ⟨rfl, hb4⟩
      have hB4 := behind hB3 hb4
      go_wp2_with fail
      refine (cT _ _ _ (hr3.below hb4) (hT.on hB4)).mono ?_
      rintro e w5 ⟨rfl, hb5⟩
      have hB5 := behind hB4 hb5
      go_wp2
      go_ret
      exact ⟨rfl, hB5⟩
  · go_enter Tryd.func5, Tryd.ntmps5
    unfold maxLen at hcm
    go_wp2_with (go_at_call 6; go_in)
    go_wp2
    go_ret
    exact ⟨rfl, Below.refl _ _⟩

set_option maxRecDepth 100000 in
theorem lifted (os : Os) (started : os.Started) (H : Type) (enc : TypeId × Value → H) :
    ReturnsInHanded {} Tryd.checked os 5 .any (fun w args => (Rows.fnDevsReadSpec.pre enc Tryd.prog Tryd.f5 Rows.fnDevsReadRow.domain false w args ∧ laidMetH Tryd.prog Rows.fnDevsReadRow.laid w) ∧ sizedMet enc Tryd.prog Tryd.f5 (OpenSpec.ofChange Rows.fnDevsReadSpec) false w args)
      (Rows.fnDevsReadSpec.post enc Tryd.prog Tryd.f5 false true false false) := by
  refine handedBoth (C := Tryd.checked) (X := fun w _ => laidMetH Tryd.prog Rows.fnDevsReadRow.laid w) (fun _ _ _ hh h => h.of_heap hh) own started (by kernel_rfl) Tryd.func5
    (ChangeSpec.witness_shaped (enc := enc) (C := Tryd.checked) (os := os) (X := fun w _ => laidMetH Tryd.prog Rows.fnDevsReadRow.laid w) false ((world0 os).layVars Tryd.prog rest) #[.slice none 0 0] 8 (World.layVars_os _ _ _)
      (World.shaped_of_ZipB (by kernel_rfl) (by kernel_rfl)) (by kernel_rfl) (by kernel_rfl) (by kernel_rfl)
      (world_met os _)) ?_
  intro W base args ds gs before hval0 hW hcnd _ hL hsh _
  have hval : ∀ (j : Nat) t v, Tryd.f5.params[j]? = some t → args[j]? = some v → Value.okWide Tryd.prog W .any base t v := hval0
  have hW' := hW
  obtain ⟨p, q, hA0, hV, rfl, hfz, hnd⟩ := hW
  have hA : DataW.TrodAll enc Tryd.prog W 0 (fun _ => true) true Tryd.f5.params.toList args.toList ds p := hA0
  rw [Tryd.params5] at hA hval
  obtain ⟨v0, vs0, d0, ds0, p0, q0, hargs, rfl, rfl, h0, r0⟩ := trodAll_cons hA
  obtain ⟨rfl, rfl, rfl⟩ := trodAll_nil r0
  obtain rfl : args = #[v0] := by cases args; simp_all
  obtain ⟨rfl, rfl⟩ := trodVars_none hV
  obtain ⟨a0, len0, cap0, rfl⟩ := okWide_slice Tryd.underlying22 (hval 0 22 v0 rfl rfl)
  have k0 := h0
  have lt0 : ∀ x ∈ p0, x.block < W.heap.size := by obtain ⟨m, hm⟩ := k0; exact DataW.trod_lt m _ _ _ hm
  obtain ⟨z0, w0⟩ : ∃ zs, IsRow .u8 W a0 len0 cap0 zs := by
    obtain ⟨fuel, hf⟩ := h0
    rcases open_ints Tryd.underlying22 Tryd.underlying5 (by kernel_rfl) hf with ⟨hcs, _⟩ | ⟨x, l, c, zs, hcs, _, hl, hm, hz, _, hcell, hwz⟩
    · simp [Value.cells] at hcs
      obtain ⟨rfl, rfl, rfl⟩ := hcs
      exact ⟨[], .inl ⟨rfl, rfl, rfl, rfl⟩⟩
    · simp [Value.cells] at hcs
      obtain ⟨rfl, rfl, rfl⟩ := hcs
      exact ⟨zs, .inr ⟨_, rfl, hl, hm, by simpa using hz, hcell, hwz⟩⟩
  clear hA0 hval0
  have hT : Tab W := tabOf hL
  have hM : MaxD W := maxOf hsh
  have hE : ErrT W := errOf hL
  refine (walk a0 len0 cap0 z0 W w0 hT hM hE).mono fun e W' ⟨he, bel⟩ => ?_
  subst he
  exact ⟨_, rfl, _, _, _, [], _, [], hW', trodAll_mk1 (shut_bool Tryd.underlying4 _), (trodAll_cons_mk (Below.trod laidOut (by kernel_rfl) (of_decide_eq_true (by kernel_rfl)) k0 bel lt0) trodAll_mk0), rfl, bel.frame _, fun h => by cases h⟩

theorem over : Rows.FnDevsReadSaid :=
  OpenClaim.holds_of_wide 5 Tryd.f5 rfl rfl rfl rfl rfl rfl rfl ⟨rfl, rfl, rfl, rfl, rfl⟩ rfl rfl rfl rfl rfl (by kernel_rfl) Tryd.func5 (by kernel_rfl)
    (of_decide_eq_true (by kernel_rfl)) (by unfold Func.isWrapper; first | (rw [if_pos (by decide +kernel)]; kernel_rfl) | (rw [if_neg (by decide +kernel)]; exact ⟨rfl, rfl⟩))
    (fun os started H enc _ => lifted os started H enc)

theorem carded : Rows.FnDevsReadCardSaid :=
  Claim7.holds_tied_plain_at .later [] [.data, .data, .data, .data, .handle, .pinned] true (true, "db6c6378c80199c133a17d2828b0ffb185291944c6b303b1eb63a1631003e3d5") true
    over (fun _ h => by cases h) (by kernel_rfl) (fun _ h => by cases h) fnDevsRead_row_tie rfl ⟨rfl, rfl⟩ (by kernel_rfl) rfl
    (fun f fn hf hfn => by
      obtain rfl : f = 5 := Option.some.inj ((show Tryd.prog.funcNamed Tryd.f5.name = some 5 by kernel_rfl).symm.trans hf) |>.symm
      obtain rfl : fn = Tryd.f5 := (Option.some.inj (Tryd.func5.symm.trans hfn)).symm
      exact ⟨by kernel_rfl, fun j t ht => by
        rw [Tryd.params5] at ht
        have hm : t ∈ [22] := by simpa using Array.mem_of_getElem? ht
        have hall : ([22].all fun u => !Tryd.prog.wantsStandIn u) = true := by kernel_rfl
        exact (show Tryd.prog.wantsStandIn t = false by simpa using List.all_eq_true.1 hall t hm)⟩)
    (by kernel_rfl)

end Go.Proofs.YtekjnfkmjmmcmabDoor.fnDevsRead
namespace Go.Proofs.YtekjnfkmjmmcmabDoor
theorem fnDevsRead_card : Rows.FnDevsReadCardSaid := fnDevsRead.carded
#print axioms fnDevsRead_card
end Go.Proofs.YtekjnfkmjmmcmabDoor
