/- For every slice of bytes the law FnDevs returns true: drawn devices that are right come back of their text, each is found by its Id, and their zones rise; of others the text is empty; the row lists tables of Go's library, tied to the program's text (the card). Conditions: none beyond the row's own. -/
import Derived.Test.YtekjnfkmjmmcmabGreatDoorRows
import Derived.Test.YtekjnfkmjmmcmabGreatDoorTie
import Derived.Test.YtekjnfkmjmmcmabGreatDoorCards
import Derived.Test.YtekjnfkmjmmcmabGreatDoorBkV
import Derived.Test.YtekjnfkmjmmcmabGreatDoorRsM
import Derived.Test.YtekjnfkmjmmcmabGreatDoorPdI
import Derived.Test.YtekjnfkmjmmcmabGreatDoorTxI
import Derived.Test.YtekjnfkmjmmcmabGreatDoorDvS
import Derived.Test.YtekjnfkmjmmcmabGreatDoorAtI
import Derived.Test.YtekjnfkmjmmcmabGreatDoorZnI
import Derived.Test.YtekjnfkmjmmcmabGreatDoorSmDv
import Derived.Test.YtekjnfkmjmmcmabGreatDoorDr5
import Derived.Test.YtekjnfkmjmmcmabGreatDoorDoor
import Derived.WalkKit
import Derived.ProofKit
import Derived.OpenShut
import Derived.ShutString
import Derived.ChangeOld
import Derived.Below
import Derived.Lay
import Derived.SevenTiedAt
import Derived.Stop.LaidErr
import Derived.Lib.LaidTab
import Derived.Shelf.Vars
import Derived.LaidHandle
namespace Go.Proofs.YtekjnfkmjmmcmabGreatDoor.fnDevs
open Go.ChangeShapes Go.WideShapes Go.ChangeAt Go.RowKit
open Go.ChangeMaps (open_string shut_string)
set_option linter.unusedVariables false

theorem own : ownKnob Tryz.prog.godebug = none := by kernel_rfl
theorem laidOut : laidOutB Tryz.prog = true := by kernel_rfl

open Wk

theorem tabOf {W : World} (h : laidMetH Tryz.prog Rows.fnDevsRow.laid W) : Tab W := by
  have h' : laidMet Tryz.prog (Rows.fnDevsRow.laid.filter fun x => x.2.handleName?.isNone) W ∧ handlesMet Tryz.prog [("errors.errorType", Rows.laid_errors_errorType)] W := h
  have h1 := laidMet.tail (laidMet.tail (show laidMet Tryz.prog (_ :: _ :: ("internal/strconv.uint64pow10", (Rows.laid_internal_strconv_uint64pow10 : DataW Unit)) :: _) W from h'.1))
  have e : (Rows.laid_internal_strconv_uint64pow10 : DataW Unit) = Lib.tabData .u64 Lib.pow10Tab := by kernel_rfl
  rw [e] at h1
  exact Lib.tabIs_of_head (g := 1) (t := 136) (e := 115) (n := 20) (by kernel_rfl) (by kernel_rfl) Tryz.underlying136 Tryz.underlying115 (by kernel_rfl) (by kernel_rfl) h1

theorem maxOf {W : World} (h : W.ShapedOpen Tryz.prog) : MaxD W :=
  cell_of_shapedOpen_int (g := 2) (t := 3) (zero := #[.int .i64 0]) h (of_decide_eq_true (by kernel_rfl)) (by kernel_rfl) rfl (by kernel_rfl) (by kernel_rfl) Tryz.underlying3

theorem rtName : (Tryz.prog.cutTypes.find? (·.1 == "internal/reflectlite.rtype")).map (·.2) = some 97 := by kernel_rfl
theorem oneErr : ((List.range 186).filter fun t => Tryz.prog.rowNamed t [101, 114, 114, 111, 114]) = [47] := by kernel_rfl
theorem nTypes : Tryz.prog.types.size = 186 := by kernel_rfl
theorem errOf {W : World} (h : laidMetH Tryz.prog Rows.fnDevsRow.laid W) : ErrT W := by
  have h' : laidMet Tryz.prog (Rows.fnDevsRow.laid.filter fun x => x.2.handleName?.isNone) W ∧ handlesMet Tryz.prog [("errors.errorType", Rows.laid_errors_errorType)] W := h
  obtain ⟨name, u, ty, e1, e2, e3, e4, e5⟩ := h'.2 _ (List.mem_singleton.2 rfl)
  have en : name = [101, 114, 114, 111, 114] := (Option.some.inj e1).symm
  subst en
  obtain rfl := Option.some.inj (rtName.symm.trans e2)
  have hm : ty ∈ (List.range 186).filter fun t => Tryz.prog.rowNamed t [101, 114, 114, 111, 114] := List.mem_filter.2 ⟨List.mem_range.2 (by rw [← nTypes]; exact e3), e4⟩
  rw [oneErr] at hm
  obtain rfl := List.mem_singleton.1 hm
  have hh : typeHandle Tryz.prog 47 = hdl 47 := by kernel_rfl
  rw [hh] at e5
  simpa [ErrT] using World.var?_cell (show Tryz.prog.globalNamed "errors.errorType" = some 0 by kernel_rfl) e5 0
/-- a world in which the handle stands -/
noncomputable def world0 (os : Os) : World :=
  { World.holding Tryz.prog os ⟨#[], #[], []⟩ with heap := (World.holding Tryz.prog os ⟨#[], #[], []⟩).heap.modify 0 fun
      | .cells _ t frozen => .cells #[rt 47] t frozen
      | o => o }
/-- the listed ones that are no handle -/
def rest : List (String × DataW Unit) := Rows.fnDevsRow.laid.filter fun x => x.2.handleName?.isNone
theorem world_met (os : Os) (args : Array Value) : laidMetH Tryz.prog Rows.fnDevsRow.laid (((world0 os).layVars Tryz.prog rest).forCall (fun _ _ => 0) ⟨#[], args, []⟩).memory := by
  have e1 : (rest.filter fun x => (rest.map (·.1)).contains x.1) = rest := List.filter_eq_self.2 fun x hx => List.contains_iff_mem.2 (List.mem_map.2 ⟨x, hx, rfl⟩)
  have e2 : (rest.filter fun x => !(rest.map (·.1)).contains x.1) = [] := List.filter_eq_nil_iff.2 fun x hx => by rw [List.contains_iff_mem.2 (List.mem_map.2 ⟨x, hx, rfl⟩)]; simp
  have hm : laidMet Tryz.prog rest ((world0 os).layVars Tryz.prog rest) := laidMet_layVars (w0 := world0 os) (rest.map (·.1)) [] (by rw [e1]) (by rw [e1]; kernel_rfl) (by rw [e1]; kernel_rfl) (by rw [e2]; exact LaidIn.none)
  exact laidMetH_of_parts (hm.of_heap (by simp [World.memory, World.forCall, Input.heap])) (by kernel_rfl)

theorem few_wf {d : Sm.St} (h : Few d) : (Lit.int .i64 d.2.1).wf = true := by
  obtain ⟨-, ⟨h0, h1⟩, -⟩ := h
  have e1 : IntKind.i64.min = -9223372036854775808 := by decide
  have e2 : IntKind.i64.max = 9223372036854775807 := by decide
  simp only [Lit.wf, Bool.and_eq_true, decide_eq_true_eq, e1, e2]
  omega
theorem text_list (l : List UInt8) : (⟨l.toArray⟩ : ByteArray).data.toList = l := by simp
set_option maxHeartbeats 4000000 in
set_option maxRecDepth 100000 in
theorem walk (a0 : Option Addr) (len0 cap0 : Nat) (z0 : List Int) (w : World) (w0 : IsRow .u8 w a0 len0 cap0 z0) (hT : Tab w) (hM : MaxD w) (hE : ErrT w) :
    Calls Tryz.prog 3 #[.slice a0 len0 cap0] w fun e w' => e = .returned (.bool true) ∧ Below w.heap.size w w' := by
  obtain ⟨l, rfl, hlc, hcm, hr⟩ := w0.rd
  clear w0
  by_cases hb : l.length ≤ 1048576
  · go_enter Tryz.func3, Tryz.ntmps3
    go_wp2_with (go_at_call 4; go_in)
    go_wp2_with fail
    refine (drawDText a0 cap0 l _ hb hr).mono ?_
    rintro e w1 ⟨X, g, cp, rfl, hX6, hfew, hrS, hb1⟩
    have cS := fun w hr => specDevs (some ⟨g, 0, none⟩) cp X w (by omega) hr
    have cI := fun w hr => implDevs (some ⟨g, 0, none⟩) cp X w (by omega) hr
    cases hk : Dv.devs X with
    | false =>
      rw [hk] at cS cI
      have cT := implDTextNo (some ⟨g, 0, none⟩) cp X w1 (by omega) hk hrS
      clear hk hfew
      go_wp2_with fail
      refine cT.mono ?_
      rintro e w2 ⟨rfl, hb2⟩
      have hr2 := hrS.below hb2
      have hB2 := behind hb1 hb2
      go_wp2_with fail
      refine (cS _ hr2).mono ?_
      rintro e w3 ⟨rfl, hb3⟩
      have hB3 := behind hB2 hb3
      go_wp2_with fail
      refine (cI _ (hr2.below hb3)).mono ?_
      rintro e w4 ⟨rfl, hb4⟩
      have hB4 := behind hB3 hb4
      go_wp2
      go_ret
      exact ⟨rfl, hB4⟩
    | true =>
      rw [hk] at cS cI
      have cT := implDText (some ⟨g, 0, none⟩) cp X w1 hk hrS (hT.on hb1)
      have hX1 : 1 ≤ X.length := (Dv.devs_dev hk).1.1
      have hat : Hid (∀ k (h : k < X.length), Dv.at_ X X[k].1 = some X[k]) := Dv.devs_at hk
      have hP : Dv.parse (⟨(Dv.dtext X).toArray⟩ : ByteArray).data.toList = some X := by
        rw [text_list]
        exact Dv.parse_dtext hk
      have hsz : (⟨(Dv.dtext X).toArray⟩ : ByteArray).size ≤ 1048576 := by
        have h9 := Dv.dtext_len X (fun d hd => Dv.wtext_len ((Dv.devs_dev hk).2 d hd))
        rw [szL]
        omega
      generalize (⟨(Dv.dtext X).toArray⟩ : ByteArray) = s at cT hP hsz
      have cP := fun w hM hE => implParseD s w hsz hM hE
      rw [hP] at cP
      simp only [Option.getD_some, Option.isSome_some] at cP
      clear hP hk
      go_wp2_with fail
      refine cT.mono ?_
      rintro e w2 ⟨rfl, hb2⟩
      have hr2 := hrS.below hb2
      have hB2 := behind hb1 hb2
      clear cT hrS
      go_wp2_with fail
      refine (cS _ hr2).mono ?_
      rintro e w3 ⟨rfl, hb3⟩
      have hr3 := hr2.below hb3
      have hB3 := behind hB2 hb3
      clear cS hr2
      go_wp2_with fail
      refine (cP _ (hM.on hB3) (hE.on hB3)).mono ?_
      rintro e w4 ⟨g', cp', rfl, -, hown4, hb4⟩
      have hr4 := hr3.below hb4
      have hB4 := behind hB3 hb4
      have hx4 := (Ss_row X).rd hown4
      clear cP hr3 hown4
      go_wp2_with fail
      refine (sameDv _ _ _ _ X _ (by omega) hx4 hr4).mono ?_
      rintro e w5 ⟨rfl, hb5⟩
      have hr5 := hr4.below hb5
      have hB5 := behind hB4 hb5
      clear hr4 hx4
      go_wp2_with fail
      refine (cI _ hr5).mono ?_
      rintro e w6 ⟨rfl, hb6⟩
      have hr6 := hr5.below hb6
      have hB6 := behind hB5 hb6
      clear cI hr5
      go_wp2_with fail
      refine (implZones _ _ X _ (by omega) hr6 (fun d hd => few_wf (hfew d hd))).mono ?_
      rintro e w7 ⟨R, aR, cpR, rfl, hZ, hownZ, hb7⟩
      have hr7 := hr6.below hb7
      have hB7 := behind hB6 hb7
      have hz7 := Zv_rd hownZ
      have hRm : Hid (∀ k (h : k < X.length), X[k].2.1 ∈ R) := Dv.zs_mem hZ
      have hRs : Hid (∀ j (h : j + 1 < R.length), R[j] < R[j + 1]) := Dv.zs_step hZ
      have hR1 : 1 ≤ R.length := Dv.zs_pos hZ hX1
      have hRX : R.length ≤ X.length := hZ.2.2
      clear hr6 hownZ hZ hfew hb2 hb3 hb4 hb5 hb6 hb7 hB2 hB3 hB4 hB5 hB6
      go_wp2
      go_loopw [8] (fun i wr => ∃ k : Nat, k ≤ X.length ∧ i = .int .i64 k ∧ Below w7.heap.size w7 wr) (fun i _ => X.length - (intOf i).toNat)
      case atStart => exact ⟨0, Nat.zero_le _, rfl, Below.refl _ _⟩
      case round =>
        obtain ⟨k, hk, rfl, hbr⟩ := hrel
        by_cases hlt : k < X.length
        · have hA := implAt (some ⟨g, 0, none⟩) cp X X[k].1 wr (by omega) (hr7.below hbr)
          rw [hat.out k hlt] at hA
          have hm := hRm.out k hlt
          have hcell := (hr7.below hbr) k hlt
          obtain ⟨u, hu⟩ : ∃ u, X[k] = u := ⟨_, rfl⟩
          rw [hu] at hA hm hcell
          clear hu
          obtain ⟨i, z, n⟩ := u
          obtain ⟨b, off, e, p⟩ := hcell
          simp only [Option.some.injEq, Addr.mk.injEq, and_true] at e
          obtain ⟨rfl, rfl⟩ := e
          dsimp only [dvAtV] at hA hm
          rw [Nat.zero_add] at p
          have p' := p
          obtain ⟨p0, p1, p2⟩ := p
          dsimp only at p0 p1 p2
          go_wp2_with fail
          refine hA.mono ?_
          rintro e w8 ⟨rfl, hb8⟩
          have hB8 := behind hbr hb8
          have x8 := boxNew w8 i z n 34
          have hz9 := (hz7.below hB8).below (bel1 w8 (.cells #[.int .i64 i, .int .i64 z, .int .i64 n] 34))
          have y8 := p'.below hb8
          obtain ⟨q0, q1, q2⟩ := y8.on
          obtain ⟨s0, s1, s2⟩ := x8
          have cH := fun w h => hasZ aR cpR R z w (by omega) h hm
          clear hA p0 p1 p2 y8 p'
          have hB9 := behind hB8 (bel1 w8 (.cells #[.int .i64 i, .int .i64 z, .int .i64 n] 34))
          go_wp2_with fail
          go_quiet (first | (go_at_call 13; exact Calls.quiet_of_same (cH _ hz9)) | fail)
          go_wp2_with fail
          go_roundw
          case rel => exact ⟨k + 1, by omega, by go_num, belowQ hB9 nq⟩
          case measure => simp [intOf]; omega
        · have hB9 := behind hB7 hbr
          have hz9 := hz7.below hbr
          clear hbr hz7 hr7 hB7
          go_wp2
          go_loopw [11] (fun i wq => ∃ j : Nat, j ≤ R.length ∧ i = .int .i64 ((j : Int) + 1) ∧ Below wr.heap.size wr wq) (fun i _ => R.length + 1 - (intOf i).toNat)
          case atStart => exact ⟨0, Nat.zero_le _, rfl, Below.refl _ _⟩
          case round =>
            obtain ⟨j, hj, rfl, hbq⟩ := hrel
            by_cases hjl : j + 1 < R.length
            · have hlt2 := hRs.out j hjl
              obtain ⟨b, off, e1, c1⟩ := (hz9.below hbq) j (by omega)
              obtain ⟨b', off', e2, c2⟩ := (hz9.below hbq) (j + 1) hjl
              rw [e1] at e2
              simp only [Option.some.injEq, Addr.mk.injEq, and_true] at e2
              obtain ⟨rfl, rfl⟩ := e2
              subst e1
              generalize R[j] = x at c1 hlt2
              generalize R[j + 1] = y at c2 hlt2
              have hn : ¬ y ≤ x := by omega
              go_wp2_with fail
              go_quiet (fail)
              go_wp2_with fail
              go_roundw
              case rel => exact ⟨j + 1, by omega, by go_num, belowQ hbq nq⟩
              case measure => simp [intOf]; omega
            · go_wp2
              go_ret
              exact ⟨rfl, behind hB9 hbq⟩
  · go_enter Tryz.func3, Tryz.ntmps3
    unfold maxLen at hcm
    go_wp2_with (go_at_call 4; go_in)
    go_wp2
    go_ret
    exact ⟨rfl, Below.refl _ _⟩

set_option maxRecDepth 100000 in
theorem lifted (os : Os) (started : os.Started) (H : Type) (enc : TypeId × Value → H) :
    ReturnsInHanded {} Tryz.checked os 3 .any (fun w args => (Rows.fnDevsSpec.pre enc Tryz.prog Tryz.f3 Rows.fnDevsRow.domain false w args ∧ laidMetH Tryz.prog Rows.fnDevsRow.laid w) ∧ sizedMet enc Tryz.prog Tryz.f3 (OpenSpec.ofChange Rows.fnDevsSpec) false w args)
      (Rows.fnDevsSpec.post enc Tryz.prog Tryz.f3 false true false false) := by
  refine handedBoth (C := Tryz.checked) (X := fun w _ => laidMetH Tryz.prog Rows.fnDevsRow.laid w) (fun _ _ _ hh h => h.of_heap hh) own started (by kernel_rfl) Tryz.func3
    (ChangeSpec.witness_shaped (enc := enc) (C := Tryz.checked) (os := os) (X := fun w _ => laidMetH Tryz.prog Rows.fnDevsRow.laid w) false ((world0 os).layVars Tryz.prog rest) #[.slice none 0 0] 8 (World.layVars_os _ _ _)
      (World.shaped_of_ZipB (by kernel_rfl) (by kernel_rfl)) (by kernel_rfl) (by kernel_rfl) (by kernel_rfl)
      (world_met os _)) ?_
  intro W base args ds gs before hval0 hW hcnd _ hL hsh _
  have hval : ∀ (j : Nat) t v, Tryz.f3.params[j]? = some t → args[j]? = some v → Value.okWide Tryz.prog W .any base t v := hval0
  have hW' := hW
  obtain ⟨p, q, hA0, hV, rfl, hfz, hnd⟩ := hW
  have hA : DataW.TrodAll enc Tryz.prog W 0 (fun _ => true) true Tryz.f3.params.toList args.toList ds p := hA0
  rw [Tryz.params3] at hA hval
  obtain ⟨v0, vs0, d0, ds0, p0, q0, hargs, rfl, rfl, h0, r0⟩ := trodAll_cons hA
  obtain ⟨rfl, rfl, rfl⟩ := trodAll_nil r0
  obtain rfl : args = #[v0] := by cases args; simp_all
  obtain ⟨rfl, rfl⟩ := trodVars_none hV
  obtain ⟨a0, len0, cap0, rfl⟩ := okWide_slice Tryz.underlying22 (hval 0 22 v0 rfl rfl)
  have k0 := h0
  have lt0 : ∀ x ∈ p0, x.block < W.heap.size := by obtain ⟨m, hm⟩ := k0; exact DataW.trod_lt m _ _ _ hm
  obtain ⟨z0, w0⟩ : ∃ zs, IsRow .u8 W a0 len0 cap0 zs := by
    obtain ⟨fuel, hf⟩ := h0
    rcases open_ints Tryz.underlying22 Tryz.underlying5 (by kernel_rfl) hf with ⟨hcs, _⟩ | ⟨x, l, c, zs, hcs, _, hl, hm, hz, _, hcell, hwz⟩
    · simp [Value.cells] at hcs
      obtain ⟨rfl, rfl, rfl⟩ := hcs
      exact ⟨[], .inl ⟨rfl, rfl, rfl, rfl⟩⟩
    · simp [Value.cells] at hcs
      obtain ⟨rfl, rfl, rfl⟩ := hcs
      exact ⟨zs, .inr ⟨_, rfl, hl, hm, by simpa using hz, hcell, hwz⟩⟩
  clear hA0 hval0
  have hT : Tab W := tabOf hL
  have hM : MaxD W := maxOf hsh
  have hE : ErrT W := errOf hL
  refine (walk a0 len0 cap0 z0 W w0 hT hM hE).mono fun e W' ⟨he, bel⟩ => ?_
  subst he
  exact ⟨_, rfl, _, _, _, [], _, [], hW', trodAll_mk1 (shut_bool Tryz.underlying4 _), (trodAll_cons_mk (Below.trod laidOut (by kernel_rfl) (of_decide_eq_true (by kernel_rfl)) k0 bel lt0) trodAll_mk0), rfl, bel.frame _, fun h => by cases h⟩

theorem over : Rows.FnDevsSaid :=
  OpenClaim.holds_of_wide 3 Tryz.f3 rfl rfl rfl rfl rfl rfl rfl ⟨rfl, rfl, rfl, rfl, rfl⟩ rfl rfl rfl rfl rfl (by kernel_rfl) Tryz.func3 (by kernel_rfl)
    (of_decide_eq_true (by kernel_rfl)) (by unfold Func.isWrapper; first | (rw [if_pos (by decide +kernel)]; kernel_rfl) | (rw [if_neg (by decide +kernel)]; exact ⟨rfl, rfl⟩))
    (fun os started H enc _ => lifted os started H enc)

theorem carded : Rows.FnDevsCardSaid :=
  Claim7.holds_tied_plain_at .later [] [.data, .data, .data, .data, .handle, .pinned] true (true, "737caf863209c724679b04539ba44d5c370fad75848db924142729f44cb2bc14") true
    over (fun _ h => by cases h) (by kernel_rfl) (fun _ h => by cases h) fnDevs_row_tie rfl ⟨rfl, rfl⟩ (by kernel_rfl) rfl
    (fun f fn hf hfn => by
      obtain rfl : f = 3 := Option.some.inj ((show Tryz.prog.funcNamed Tryz.f3.name = some 3 by kernel_rfl).symm.trans hf) |>.symm
      obtain rfl : fn = Tryz.f3 := (Option.some.inj (Tryz.func3.symm.trans hfn)).symm
      exact ⟨by kernel_rfl, fun j t ht => by
        rw [Tryz.params3] at ht
        have hm : t ∈ [22] := by simpa using Array.mem_of_getElem? ht
        have hall : ([22].all fun u => !Tryz.prog.wantsStandIn u) = true := by kernel_rfl
        exact (show Tryz.prog.wantsStandIn t = false by simpa using List.all_eq_true.1 hall t hm)⟩)
    (by kernel_rfl)

end Go.Proofs.YtekjnfkmjmmcmabGreatDoor.fnDevs
namespace Go.Proofs.YtekjnfkmjmmcmabGreatDoor
theorem fnDevs_card : Rows.FnDevsCardSaid := fnDevs.carded
#print axioms fnDevs_card
end Go.Proofs.YtekjnfkmjmmcmabGreatDoor
