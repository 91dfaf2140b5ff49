/- For every slice of bytes the law FnStampOrder returns true: of two unlike drawn stamps one is less, and a stamp that is right comes back of its text; the row lists five tables of Go's library, tied to the program's text (the card). Conditions: none beyond the row's own. -/
import Derived.Test.YtekjnfkmjmmcmabDoorRows
import Derived.Test.YtekjnfkmjmmcmabDoorTie
import Derived.Test.YtekjnfkmjmmcmabDoorCards
import Derived.Test.YtekjnfkmjmmcmabDoorPaI
import Derived.Test.YtekjnfkmjmmcmabDoorStTextI
import Derived.Test.YtekjnfkmjmmcmabDoorOkS
import Derived.Test.YtekjnfkmjmmcmabDoorLessI
import Derived.Test.YtekjnfkmjmmcmabDoorLessS
import Derived.Test.YtekjnfkmjmmcmabDoorDrLe
import Derived.Test.YtekjnfkmjmmcmabDoorBackD
import Derived.Test.YtekjnfkmjmmcmabDoorCutW
import Derived.Test.YtekjnfkmjmmcmabDoorDoor
import Derived.WalkKit
import Derived.ProofKit
import Derived.OpenShut
import Derived.ShutString
import Derived.ChangeOld
import Derived.Below
import Derived.Lay
import Derived.SevenTiedAt
import Derived.Stop.LaidErr
import Derived.Lib.LaidTab
import Derived.Shelf.Vars
namespace Go.Proofs.YtekjnfkmjmmcmabDoor.fnStampOrder
open Go.ChangeShapes Go.WideShapes Go.ChangeAt Go.RowKit
open Go.ChangeMaps (open_string shut_string)
set_option linter.unusedVariables false

theorem own : ownKnob Tryd.prog.godebug = none := by kernel_rfl
theorem laidOut : laidOutB Tryd.prog = true := by kernel_rfl

open Wk

theorem tabOf {W : World} (h : laidMetH Tryd.prog Rows.fnStampOrderRow.laid W) : Tab W := by
  rw [MakeChecks.laidMetH_plain _ _ _ (by kernel_rfl)] at h
  have h1 := laidMet.tail (laidMet.tail h)
  have e : (Rows.laid_internal_strconv_uint64pow10 : DataW Unit) = Lib.tabData .u64 Lib.pow10Tab := by kernel_rfl
  rw [e] at h1
  exact Lib.tabIs_of_head (g := 1) (t := 128) (e := 116) (n := 20) (by kernel_rfl) (by kernel_rfl) Tryd.underlying128 Tryd.underlying116 (by kernel_rfl) (by kernel_rfl) h1

theorem maxOf {W : World} (h : W.ShapedOpen Tryd.prog) : MaxL W :=
  cell_of_shapedOpen_int (g := 2) (t := 3) (zero := #[.int .i64 0]) h (of_decide_eq_true (by kernel_rfl)) (by kernel_rfl) rfl (by kernel_rfl) (by kernel_rfl) Tryd.underlying3

theorem natOf {x : Int} (h : 0 ≤ x) : ∃ n : Nat, x = n := ⟨x.toNat, by omega⟩

set_option maxHeartbeats 4000000 in
set_option maxRecDepth 100000 in
theorem walk (a0 : Option Addr) (len0 cap0 : Nat) (z0 : List Int) (w : World) (w0 : IsRow .u8 w a0 len0 cap0 z0) (hT : Tab w) (hM : MaxL w) :
    Calls Tryd.prog 3 #[.slice a0 len0 cap0] w fun e w' => e = .returned (.bool true) ∧ Below w.heap.size w w' := by
  obtain ⟨l, rfl, hlc, hcm, hr⟩ := w0.rd
  clear w0
  by_cases hb : l.length ≤ 1048576
  · go_enter Tryd.func3, Tryd.ntmps3
    go_wp2_with (go_at_call 6; go_in)
    go_wp2_with fail
    refine (drawLess a0 cap0 l _ hb hr).mono ?_
    rintro e w1 ⟨t, q, n, t', q', n', rfl, hb1⟩
    have xa := (boxNew w1 t q n 25).below (bel1 _ (.cells #[.int .i64 t', .int .i64 q', .int .i64 n'] 25))
    have xb := boxNew (w1.alloc (.cells #[.int .i64 t, .int .i64 q, .int .i64 n] 25)) t' q' n' 25
    simp only [World.size_alloc] at xb
    have hB1 := behind hb1 (bel2 _ (.cells #[.int .i64 t, .int .i64 q, .int .i64 n] 25) (.cells #[.int .i64 t', .int .i64 q', .int .i64 n'] 25))
    go_wp2_with fail
    refine (implLess t q n t' q' n' _).mono ?_
    rintro e w2 ⟨rfl, hb2⟩
    have xa2 := xa.below hb2
    have xb2 := xb.below hb2
    have hB2 := behind hB1 hb2
    obtain ⟨p0, p1, p2⟩ := id xa2
    obtain ⟨r0, r1, r2⟩ := id xb2
    clear xa xb hB1 hb1 hb2
    go_wp2_with fail
    refine (implLess t' q' n' t q n _).mono ?_
    rintro e w3 ⟨rfl, hb3⟩
    have xa3 := xa2.below hb3
    have xb3 := xb2.below hb3
    have hB3 := behind hB2 hb3
    clear p0 p1 p2 r0 r1 r2 xa2 xb2 hB2 hb3
    obtain ⟨p0, p1, p2⟩ := id xa3
    obtain ⟨r0, r1, r2⟩ := id xb3
    go_upto_region 6 with fail
    go_cut [5, 6, 43] (fun _ _ v wx => v = .bool false ∧ Box wx w1.heap.size t q n ∧ Below w.heap.size w wx)
    case first =>
      rcases (show ((t = t' ∧ q = q') ∧ n = n') ∨ ((¬ t = t' ∨ (t = t' ∧ ¬ q = q') ∨ (t = t' ∧ q = q' ∧ ¬ n = n')) ∧ ((Sm.less t q n t' q' n' = true ∧ Sm.less t' q' n' t q n = false) ∨ (Sm.less t q n t' q' n' = false ∧ Sm.less t' q' n' t q n = true))) from by
        by_cases hE : t = t' ∧ q = q' ∧ n = n'
        · exact .inl ⟨⟨hE.1, hE.2.1⟩, hE.2.2⟩
        · refine .inr ⟨by omega, ?_⟩
          cases hL : Sm.less t q n t' q' n' with
          | true => exact .inl ⟨rfl, Sm.less_asym hL⟩
          | false => exact .inr ⟨rfl, Sm.less_tot hE hL⟩) with ⟨⟨rfl, rfl⟩, rfl⟩ | ⟨hne, hxy⟩
      · have hX := Sm.less_irr t q n
        go_wp2_with (go_at_call 9; refine (specLess t q n t q n _).mono ?_; rintro e w4 ⟨rfl, hb4⟩)
        go_meet
        exact ⟨rfl, xa3.below hb4, behind hB3 hb4⟩
      · rcases hxy with ⟨hX, hY⟩ | ⟨hX, hY⟩
        all_goals
          rcases hne with hne | ⟨rfl, hne⟩ | ⟨rfl, rfl, hne⟩
        all_goals
          go_wp2_with (go_at_call 9; refine (specLess _ _ _ _ _ _ _).mono ?_; rintro e w4 ⟨rfl, hb4⟩)
          go_meet
          exact ⟨rfl, xa3.below hb4, behind hB3 hb4⟩
    case rest =>
      obtain ⟨rfl, xc, hBc⟩ := hcut
      clear p0 p1 p2 r0 r1 r2 xa3 xb3 hB3
      obtain ⟨p0, p1, p2⟩ := id xc
      cases hk : Sm.ok t q n with
      | true =>
        obtain ⟨⟨a, b⟩, ⟨c, d⟩, e, f⟩ := Sm.ok_true hk
        obtain ⟨t, rfl⟩ := natOf a
        obtain ⟨q, rfl⟩ := natOf c
        obtain ⟨n, rfl⟩ := natOf e
        have cT := implText t q n hk
        have hD := dot_size t q n (by omega) (by omega) (by omega)
        have cP := fun w => implParse (dotted t q n) w (by omega)
        rw [Sm.parse_dot t q n hk] at cP
        simp only [paV] at cP
        have cS := specOk t q n
        have cO := implOk t q n
        rw [hk] at cS cO
        generalize dotted t q n = D at cT cP hD
        clear hk
        go_wp2_with fail
        refine (cT _ (hT.on hBc)).mono ?_
        rintro e w5 ⟨rfl, hb5⟩
        have x5 := xc.below hb5
        have hB5 := behind hBc hb5
        clear p0 p1 p2
        go_wp2_with fail
        refine (cP _ (hM.on hB5)).mono ?_
        rintro e w6 ⟨rfl, hb6⟩
        have x6 := x5.below hb6
        have hB6 := behind hB5 hb6
        have y6 := boxNew w6 (t : Int) (q : Int) (n : Int) 25
        obtain ⟨p0, p1, p2⟩ := x6.on
        go_wp2_with fail
        refine (cS _).mono ?_
        rintro e w7 ⟨rfl, hb7⟩
        have x7 := (x6.below (bel1 _ _)).below hb7
        have y7 := y6.below hb7
        have hB7 := behind (behind hB6 (bel1 _ _)) hb7
        clear p0 p1 p2
        obtain ⟨p0, p1, p2⟩ := x7
        obtain ⟨r0, r1, r2⟩ := y7
        go_wp2_with (go_at_call 13; refine (cO _).mono ?_; rintro e w8 ⟨rfl, hb8⟩)
        go_ret
        exact ⟨rfl, behind hB7 hb8⟩
      | false =>
        have cT := implTextNo t q n hk
        have cP := fun w => implParse ⟨#[]⟩ w (by decide)
        rw [show Sm.parse (⟨#[]⟩ : ByteArray).data.toList = none from rfl] at cP
        simp only [paV] at cP
        have cS := specOk t q n
        have cO := implOk t q n
        rw [hk] at cS cO
        clear hk
        go_wp2_with fail
        refine (cT _).mono ?_
        rintro e w5 ⟨rfl, hb5⟩
        have x5 := xc.below hb5
        have hB5 := behind hBc hb5
        clear p0 p1 p2
        go_wp2_with fail
        refine (cP _ (hM.on hB5)).mono ?_
        rintro e w6 ⟨rfl, hb6⟩
        have x6 := x5.below hb6
        have hB6 := behind hB5 hb6
        obtain ⟨p0, p1, p2⟩ := x6.on
        go_wp2_with fail
        refine (cS _).mono ?_
        rintro e w7 ⟨rfl, hb7⟩
        have x7 := (x6.below (bel1 _ _)).below hb7
        have hB7 := behind (behind hB6 (bel1 _ _)) hb7
        clear p0 p1 p2
        obtain ⟨p0, p1, p2⟩ := x7
        go_wp2_with (go_at_call 13; refine (cO _).mono ?_; rintro e w8 ⟨rfl, hb8⟩)
        go_ret
        exact ⟨rfl, behind hB7 hb8⟩
  · go_enter Tryd.func3, Tryd.ntmps3
    unfold maxLen at hcm
    go_wp2_with (go_at_call 6; go_in)
    go_wp2
    go_ret
    exact ⟨rfl, Below.refl _ _⟩

set_option maxRecDepth 100000 in
theorem lifted (os : Os) (started : os.Started) (H : Type) (enc : TypeId × Value → H) :
    ReturnsInHanded {} Tryd.checked os 3 .any (fun w args => (Rows.fnStampOrderSpec.pre enc Tryd.prog Tryd.f3 Rows.fnStampOrderRow.domain false w args ∧ laidMetH Tryd.prog Rows.fnStampOrderRow.laid w) ∧ sizedMet enc Tryd.prog Tryd.f3 (OpenSpec.ofChange Rows.fnStampOrderSpec) false w args)
      (Rows.fnStampOrderSpec.post enc Tryd.prog Tryd.f3 false true false false) := by
  refine handedBoth (C := Tryd.checked) (X := fun w _ => laidMetH Tryd.prog Rows.fnStampOrderRow.laid w) (fun _ _ _ hh h => h.of_heap hh) own started (by kernel_rfl) Tryd.func3
    (ChangeSpec.witness_shaped (enc := enc) (C := Tryd.checked) (os := os) (X := fun w _ => laidMetH Tryd.prog Rows.fnStampOrderRow.laid w) false (World.laidAll Tryd.prog os Rows.fnStampOrderRow.laid) #[.slice none 0 0] 8 (World.laidAll_os _ _ _)
      (World.shaped_of_ZipB (by kernel_rfl) (by kernel_rfl)) (by kernel_rfl) (by kernel_rfl) (by kernel_rfl)
      (by rw [MakeChecks.laidMetH_plain _ _ _ (by kernel_rfl)]; exact laidMet_laidAll _ (by kernel_rfl) (by kernel_rfl))) ?_
  intro W base args ds gs before hval0 hW hcnd _ hL hsh _
  have hval : ∀ (j : Nat) t v, Tryd.f3.params[j]? = some t → args[j]? = some v → Value.okWide Tryd.prog W .any base t v := hval0
  have hW' := hW
  obtain ⟨p, q, hA0, hV, rfl, hfz, hnd⟩ := hW
  have hA : DataW.TrodAll enc Tryd.prog W 0 (fun _ => true) true Tryd.f3.params.toList args.toList ds p := hA0
  rw [Tryd.params3] at hA hval
  obtain ⟨v0, vs0, d0, ds0, p0, q0, hargs, rfl, rfl, h0, r0⟩ := trodAll_cons hA
  obtain ⟨rfl, rfl, rfl⟩ := trodAll_nil r0
  obtain rfl : args = #[v0] := by cases args; simp_all
  obtain ⟨rfl, rfl⟩ := trodVars_none hV
  obtain ⟨a0, len0, cap0, rfl⟩ := okWide_slice Tryd.underlying22 (hval 0 22 v0 rfl rfl)
  have k0 := h0
  have lt0 : ∀ x ∈ p0, x.block < W.heap.size := by obtain ⟨m, hm⟩ := k0; exact DataW.trod_lt m _ _ _ hm
  obtain ⟨z0, w0⟩ : ∃ zs, IsRow .u8 W a0 len0 cap0 zs := by
    obtain ⟨fuel, hf⟩ := h0
    rcases open_ints Tryd.underlying22 Tryd.underlying5 (by kernel_rfl) hf with ⟨hcs, _⟩ | ⟨x, l, c, zs, hcs, _, hl, hm, hz, _, hcell, hwz⟩
    · simp [Value.cells] at hcs
      obtain ⟨rfl, rfl, rfl⟩ := hcs
      exact ⟨[], .inl ⟨rfl, rfl, rfl, rfl⟩⟩
    · simp [Value.cells] at hcs
      obtain ⟨rfl, rfl, rfl⟩ := hcs
      exact ⟨zs, .inr ⟨_, rfl, hl, hm, by simpa using hz, hcell, hwz⟩⟩
  clear hA0 hval0
  have hT : Tab W := tabOf hL
  have hM : MaxL W := maxOf hsh
  refine (walk a0 len0 cap0 z0 W w0 hT hM).mono fun e W' ⟨he, bel⟩ => ?_
  subst he
  exact ⟨_, rfl, _, _, _, [], _, [], hW', trodAll_mk1 (shut_bool Tryd.underlying4 _), (trodAll_cons_mk (Below.trod laidOut (by kernel_rfl) (of_decide_eq_true (by kernel_rfl)) k0 bel lt0) trodAll_mk0), rfl, bel.frame _, fun h => by cases h⟩

theorem over : Rows.FnStampOrderSaid :=
  OpenClaim.holds_of_wide 3 Tryd.f3 rfl rfl rfl rfl rfl rfl rfl ⟨rfl, rfl, rfl, rfl, rfl⟩ rfl rfl rfl rfl rfl (by kernel_rfl) Tryd.func3 (by kernel_rfl)
    (of_decide_eq_true (by kernel_rfl)) (by unfold Func.isWrapper; first | (rw [if_pos (by decide +kernel)]; kernel_rfl) | (rw [if_neg (by decide +kernel)]; exact ⟨rfl, rfl⟩))
    (fun os started H enc _ => lifted os started H enc)

theorem carded : Rows.FnStampOrderCardSaid :=
  Claim7.holds_tied_plain_at .later [] [.data, .data, .data, .data, .pinned] true (true, "db6c6378c80199c133a17d2828b0ffb185291944c6b303b1eb63a1631003e3d5") true
    over (fun _ h => by cases h) (by kernel_rfl) (fun _ h => by cases h) fnStampOrder_row_tie rfl ⟨rfl, rfl⟩ (by kernel_rfl) rfl
    (fun f fn hf hfn => by
      obtain rfl : f = 3 := Option.some.inj ((show Tryd.prog.funcNamed Tryd.f3.name = some 3 by kernel_rfl).symm.trans hf) |>.symm
      obtain rfl : fn = Tryd.f3 := (Option.some.inj (Tryd.func3.symm.trans hfn)).symm
      exact ⟨by kernel_rfl, fun j t ht => by
        rw [Tryd.params3] at ht
        have hm : t ∈ [22] := by simpa using Array.mem_of_getElem? ht
        have hall : ([22].all fun u => !Tryd.prog.wantsStandIn u) = true := by kernel_rfl
        exact (show Tryd.prog.wantsStandIn t = false by simpa using List.all_eq_true.1 hall t hm)⟩)
    (by kernel_rfl)

end Go.Proofs.YtekjnfkmjmmcmabDoor.fnStampOrder
namespace Go.Proofs.YtekjnfkmjmmcmabDoor
theorem fnStampOrder_card : Rows.FnStampOrderCardSaid := fnStampOrder.carded
#print axioms fnStampOrder_card
end Go.Proofs.YtekjnfkmjmmcmabDoor
