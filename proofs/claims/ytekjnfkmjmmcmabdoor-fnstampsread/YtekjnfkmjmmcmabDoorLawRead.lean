/- For every slice of bytes the law FnStampsRead returns true: what is read of a drawn text as a stamp has that text, and the program reads one just where the specification does; the row lists five tables of Go's library, tied to the program's text (the card). Conditions: none beyond the row's own. -/
import Derived.Test.YtekjnfkmjmmcmabDoorRows
import Derived.Test.YtekjnfkmjmmcmabDoorTie
import Derived.Test.YtekjnfkmjmmcmabDoorCards
import Derived.Test.YtekjnfkmjmmcmabDoorPaI
import Derived.Test.YtekjnfkmjmmcmabDoorPaS
import Derived.Test.YtekjnfkmjmmcmabDoorStTextI
import Derived.Test.YtekjnfkmjmmcmabDoorDrPa
import Derived.Test.YtekjnfkmjmmcmabDoorBackN
import Derived.Test.YtekjnfkmjmmcmabDoorDoor
import Derived.WalkKit
import Derived.ProofKit
import Derived.OpenShut
import Derived.ShutString
import Derived.ChangeOld
import Derived.Below
import Derived.Lay
import Derived.SevenTiedAt
import Derived.Stop.LaidErr
import Derived.Lib.LaidTab
import Derived.Shelf.Vars
namespace Go.Proofs.YtekjnfkmjmmcmabDoor.fnStampsRead
open Go.ChangeShapes Go.WideShapes Go.ChangeAt Go.RowKit
open Go.ChangeMaps (open_string shut_string)
set_option linter.unusedVariables false

theorem own : ownKnob Tryd.prog.godebug = none := by kernel_rfl
theorem laidOut : laidOutB Tryd.prog = true := by kernel_rfl

open Wk

theorem tabOf {W : World} (h : laidMetH Tryd.prog Rows.fnStampsReadRow.laid W) : Tab W := by
  rw [MakeChecks.laidMetH_plain _ _ _ (by kernel_rfl)] at h
  have h1 := laidMet.tail (laidMet.tail h)
  have e : (Rows.laid_internal_strconv_uint64pow10 : DataW Unit) = Lib.tabData .u64 Lib.pow10Tab := by kernel_rfl
  rw [e] at h1
  exact Lib.tabIs_of_head (g := 1) (t := 128) (e := 116) (n := 20) (by kernel_rfl) (by kernel_rfl) Tryd.underlying128 Tryd.underlying116 (by kernel_rfl) (by kernel_rfl) h1

theorem maxOf {W : World} (h : W.ShapedOpen Tryd.prog) : MaxL W :=
  cell_of_shapedOpen_int (g := 2) (t := 3) (zero := #[.int .i64 0]) h (of_decide_eq_true (by kernel_rfl)) (by kernel_rfl) rfl (by kernel_rfl) (by kernel_rfl) Tryd.underlying3

set_option maxHeartbeats 2000000 in
set_option maxRecDepth 100000 in
theorem walk (a0 : Option Addr) (len0 cap0 : Nat) (z0 : List Int) (w : World) (w0 : IsRow .u8 w a0 len0 cap0 z0) (hT : Tab w) (hM : MaxL w) :
    Calls Tryd.prog 4 #[.slice a0 len0 cap0] w fun e w' => e = .returned (.bool true) ∧ Below w.heap.size w w' := by
  obtain ⟨l, rfl, hlc, hcm, hr⟩ := w0.rd
  clear w0
  by_cases hb : l.length ≤ 1048576
  · go_enter Tryd.func4, Tryd.ntmps4
    go_wp2_with (go_at_call 6; go_in)
    go_wp2_with fail
    refine (drawParse a0 cap0 l _ hb hr).mono ?_
    rintro e w1 ⟨s, rfl, hs, hb1⟩
    have cI := implParse s w1 (by omega) (hM.on hb1)
    have cS := fun w => specParse s w (by omega)
    have HP := @Sm.parse_text s
    generalize Sm.parse s.data.toList = R at cI cS HP
    rcases R with _ | ⟨t, q, n⟩
    · simp only [paV] at cI cS
      clear HP
      go_wp2_with fail
      refine cI.mono ?_
      rintro e w2 ⟨rfl, hb2⟩
      go_wp2_with fail
      refine (cS _).mono ?_
      rintro e w3 ⟨rfl, hb3⟩
      have hB3 := behind (behind (behind hb1 hb2) (bel1 _ _)) hb3
      go_wp2
      go_ret
      exact ⟨rfl, behind hB3 (bel1 _ _)⟩
    · simp only [paV] at cI cS
      obtain ⟨hE, hk⟩ := HP rfl
      have cT := implText t q n hk
      rw [hE] at cT
      clear HP hE hk
      go_wp2_with fail
      refine cI.mono ?_
      rintro e w2 ⟨rfl, hb2⟩
      have x2 := boxNew w2 (t : Int) (q : Int) (n : Int) 25
      go_wp2_with fail
      refine (cS _).mono ?_
      rintro e w3 ⟨rfl, hb3⟩
      have hB3 := behind (behind (behind hb1 hb2) (bel1 _ _)) hb3
      obtain ⟨p0, p1, p2⟩ := (x2.below hb3).on
      go_wp2_with fail
      refine (cT _ (hT.on (behind hB3 (bel1 _ _)))).mono ?_
      rintro e w4 ⟨rfl, hb4⟩
      have hB4 := behind (behind hB3 (bel1 _ _)) hb4
      go_wp2
      go_ret
      exact ⟨rfl, hB4⟩
  · go_enter Tryd.func4, Tryd.ntmps4
    unfold maxLen at hcm
    go_wp2_with (go_at_call 6; go_in)
    go_wp2
    go_ret
    exact ⟨rfl, Below.refl _ _⟩

set_option maxRecDepth 100000 in
theorem lifted (os : Os) (started : os.Started) (H : Type) (enc : TypeId × Value → H) :
    ReturnsInHanded {} Tryd.checked os 4 .any (fun w args => (Rows.fnStampsReadSpec.pre enc Tryd.prog Tryd.f4 Rows.fnStampsReadRow.domain false w args ∧ laidMetH Tryd.prog Rows.fnStampsReadRow.laid w) ∧ sizedMet enc Tryd.prog Tryd.f4 (OpenSpec.ofChange Rows.fnStampsReadSpec) false w args)
      (Rows.fnStampsReadSpec.post enc Tryd.prog Tryd.f4 false true false false) := by
  refine handedBoth (C := Tryd.checked) (X := fun w _ => laidMetH Tryd.prog Rows.fnStampsReadRow.laid w) (fun _ _ _ hh h => h.of_heap hh) own started (by kernel_rfl) Tryd.func4
    (ChangeSpec.witness_shaped (enc := enc) (C := Tryd.checked) (os := os) (X := fun w _ => laidMetH Tryd.prog Rows.fnStampsReadRow.laid w) false (World.laidAll Tryd.prog os Rows.fnStampsReadRow.laid) #[.slice none 0 0] 8 (World.laidAll_os _ _ _)
      (World.shaped_of_ZipB (by kernel_rfl) (by kernel_rfl)) (by kernel_rfl) (by kernel_rfl) (by kernel_rfl)
      (by rw [MakeChecks.laidMetH_plain _ _ _ (by kernel_rfl)]; exact laidMet_laidAll _ (by kernel_rfl) (by kernel_rfl))) ?_
  intro W base args ds gs before hval0 hW hcnd _ hL hsh _
  have hval : ∀ (j : Nat) t v, Tryd.f4.params[j]? = some t → args[j]? = some v → Value.okWide Tryd.prog W .any base t v := hval0
  have hW' := hW
  obtain ⟨p, q, hA0, hV, rfl, hfz, hnd⟩ := hW
  have hA : DataW.TrodAll enc Tryd.prog W 0 (fun _ => true) true Tryd.f4.params.toList args.toList ds p := hA0
  rw [Tryd.params4] at hA hval
  obtain ⟨v0, vs0, d0, ds0, p0, q0, hargs, rfl, rfl, h0, r0⟩ := trodAll_cons hA
  obtain ⟨rfl, rfl, rfl⟩ := trodAll_nil r0
  obtain rfl : args = #[v0] := by cases args; simp_all
  obtain ⟨rfl, rfl⟩ := trodVars_none hV
  obtain ⟨a0, len0, cap0, rfl⟩ := okWide_slice Tryd.underlying22 (hval 0 22 v0 rfl rfl)
  have k0 := h0
  have lt0 : ∀ x ∈ p0, x.block < W.heap.size := by obtain ⟨m, hm⟩ := k0; exact DataW.trod_lt m _ _ _ hm
  obtain ⟨z0, w0⟩ : ∃ zs, IsRow .u8 W a0 len0 cap0 zs := by
    obtain ⟨fuel, hf⟩ := h0
    rcases open_ints Tryd.underlying22 Tryd.underlying5 (by kernel_rfl) hf with ⟨hcs, _⟩ | ⟨x, l, c, zs, hcs, _, hl, hm, hz, _, hcell, hwz⟩
    · simp [Value.cells] at hcs
      obtain ⟨rfl, rfl, rfl⟩ := hcs
      exact ⟨[], .inl ⟨rfl, rfl, rfl, rfl⟩⟩
    · simp [Value.cells] at hcs
      obtain ⟨rfl, rfl, rfl⟩ := hcs
      exact ⟨zs, .inr ⟨_, rfl, hl, hm, by simpa using hz, hcell, hwz⟩⟩
  clear hA0 hval0
  have hT : Tab W := tabOf hL
  have hM : MaxL W := maxOf hsh
  refine (walk a0 len0 cap0 z0 W w0 hT hM).mono fun e W' ⟨he, bel⟩ => ?_
  subst he
  exact ⟨_, rfl, _, _, _, [], _, [], hW', trodAll_mk1 (shut_bool Tryd.underlying4 _), (trodAll_cons_mk (Below.trod laidOut (by kernel_rfl) (of_decide_eq_true (by kernel_rfl)) k0 bel lt0) trodAll_mk0), rfl, bel.frame _, fun h => by cases h⟩

theorem over : Rows.FnStampsReadSaid :=
  OpenClaim.holds_of_wide 4 Tryd.f4 rfl rfl rfl rfl rfl rfl rfl ⟨rfl, rfl, rfl, rfl, rfl⟩ rfl rfl rfl rfl rfl (by kernel_rfl) Tryd.func4 (by kernel_rfl)
    (of_decide_eq_true (by kernel_rfl)) (by unfold Func.isWrapper; first | (rw [if_pos (by decide +kernel)]; kernel_rfl) | (rw [if_neg (by decide +kernel)]; exact ⟨rfl, rfl⟩))
    (fun os started H enc _ => lifted os started H enc)

theorem carded : Rows.FnStampsReadCardSaid :=
  Claim7.holds_tied_plain_at .later [] [.data, .data, .data, .data, .pinned] true (true, "db6c6378c80199c133a17d2828b0ffb185291944c6b303b1eb63a1631003e3d5") true
    over (fun _ h => by cases h) (by kernel_rfl) (fun _ h => by cases h) fnStampsRead_row_tie rfl ⟨rfl, rfl⟩ (by kernel_rfl) rfl
    (fun f fn hf hfn => by
      obtain rfl : f = 4 := Option.some.inj ((show Tryd.prog.funcNamed Tryd.f4.name = some 4 by kernel_rfl).symm.trans hf) |>.symm
      obtain rfl : fn = Tryd.f4 := (Option.some.inj (Tryd.func4.symm.trans hfn)).symm
      exact ⟨by kernel_rfl, fun j t ht => by
        rw [Tryd.params4] at ht
        have hm : t ∈ [22] := by simpa using Array.mem_of_getElem? ht
        have hall : ([22].all fun u => !Tryd.prog.wantsStandIn u) = true := by kernel_rfl
        exact (show Tryd.prog.wantsStandIn t = false by simpa using List.all_eq_true.1 hall t hm)⟩)
    (by kernel_rfl)

end Go.Proofs.YtekjnfkmjmmcmabDoor.fnStampsRead
namespace Go.Proofs.YtekjnfkmjmmcmabDoor
theorem fnStampsRead_card : Rows.FnStampsReadCardSaid := fnStampsRead.carded
#print axioms fnStampsRead_card
end Go.Proofs.YtekjnfkmjmmcmabDoor
