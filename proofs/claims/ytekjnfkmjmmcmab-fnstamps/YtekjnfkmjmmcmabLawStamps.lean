/- For every slice of bytes the law FnStamps returns true: the next stamp of a drawn one is the specification's, and later and right unless it is the last itself; of drawn ones the latest is not less than any, and one of them. Conditions: none beyond the row's own. -/
import Derived.Test.YtekjnfkmjmmcmabRows
import Derived.Test.YtekjnfkmjmmcmabNextE
import Derived.Test.YtekjnfkmjmmcmabDrStL
import Derived.Test.YtekjnfkmjmmcmabLatI
import Derived.Test.YtekjnfkmjmmcmabSeenW
import Derived.WalkKit
import Derived.ProofKit
import Derived.OpenShut
import Derived.ShutString
import Derived.ChangeOld
import Derived.Below
namespace Go.Proofs.Ytekjnfkmjmmcmab.fnStamps
open Go.ChangeShapes Go.WideShapes Go.ChangeAt Go.RowKit
open Go.ChangeMaps (open_string shut_string)
set_option linter.unusedVariables false

theorem own : ownKnob Try.prog.godebug = none := by kernel_rfl
theorem laidOut : laidOutB Try.prog = true := by kernel_rfl

open Wk

set_option maxHeartbeats 4000000 in
set_option maxRecDepth 100000 in
theorem walk (a0 : Option Addr) (len0 cap0 : Nat) (z0 : List Int) (w : World) (w0 : IsRow .u8 w a0 len0 cap0 z0) :
    Calls Try.prog 3 #[.slice a0 len0 cap0] w fun e w' => e = .returned (.bool true) ∧ Below w.heap.size w w' := by
  obtain ⟨l, rfl, hlc, hcm, hr⟩ := w0.rd
  clear w0
  by_cases hb : l.length ≤ 1048576
  · go_enter Try.func3, Try.ntmps3
    go_wp2_with (go_at_call 5; go_in)
    go_wp2_with fail
    refine (drawNext a0 cap0 l _ hb hr).mono ?_
    rintro e w1 ⟨t, q, n, time, node, rfl, ht, hq, hn, hb1⟩
    have xL := boxNew w1 t q n 25
    go_wp2_with fail
    refine (implNext t q n time node _).mono ?_
    rintro e w2 ⟨a, b, c, rfl, HN, hb2⟩
    have yL := (xL.below hb2).below (bel1 _ (.cells #[.int .i64 a, .int .i64 b, .int .i64 c] 25))
    have yN := boxNew w2 a b c 25
    have hB2 := behind (behind (behind hb1 (bel1 _ _)) hb2) (bel1 _ (.cells #[.int .i64 a, .int .i64 b, .int .i64 c] 25))
    clear xL hb1 hb2
    go_upto_region 5 with fail
    go_cut [49] (fun v wx => v = .bool false ∧ Below w.heap.size w wx)
    case first =>
      rcases Sm.next_cases t q n time node hq with hs | ⟨a', b', c', hs, hle, hok, hne⟩
      · have hE := HN.out.trans hs
        simp only [Prod.mk.injEq] at hE
        obtain ⟨rfl, rfl, rfl⟩ := hE
        clear hs ht hq hn
        obtain ⟨p0, p1, p2⟩ := id yL
        go_region_with (go_at_call 8; refine (specNextE a b c time node a b c HN _).mono ?_; rintro e w3 ⟨rfl, hb3⟩; obtain ⟨q0, q1, q2⟩ := yL.drew.below hb3; obtain ⟨r0, r1, r2⟩ := yN.drew.below hb3)
        all_goals
          go_wp2_with fail
          go_meet
          exact ⟨rfl, behind hB2.drew hb3⟩
      · have hE := HN.out.trans hs
        simp only [Prod.mk.injEq] at hE
        obtain ⟨rfl, rfl, rfl⟩ := hE
        clear hs
        have HL : Hid (Sm.less t q n a b c = true) := hle
        have HO : Hid (Sm.ok a b c = true) := hok
        clear hle hok ht hq hn
        rcases hne with hne | ⟨rfl, hne⟩
        · have hne' : ¬ t = a := fun e => hne e.symm
          go_region_held3 (fun wy => wy.cell? ⟨w1.heap.size, 0, none⟩ = some (.int .i64 t) ∧ wy.cell? ⟨w1.heap.size, 1, none⟩ = some (.int .i64 q) ∧ wy.cell? ⟨w1.heap.size, 2, none⟩ = some (.int .i64 n) ∧ wy.cell? ⟨w2.heap.size, 0, none⟩ = some (.int .i64 a) ∧ wy.cell? ⟨w2.heap.size, 1, none⟩ = some (.int .i64 b) ∧ wy.cell? ⟨w2.heap.size, 2, none⟩ = some (.int .i64 c))
            (first | exact ⟨yL.1, yL.2.1, yL.2.2, yN.1, yN.2.1, yN.2.2⟩ | exact keep6 ‹_› ‹_› | go_keep)
            (first | (go_at_call 8; refine (specNextE t q n time node a b c HN _).mono ?_; rintro e w3 ⟨rfl, hb3⟩) | (go_at_call 9; refine (implLessE t q n a b c true HL _).mono ?_; rintro e w4 ⟨rfl, hb4⟩) | (go_at_call 10; refine (implOkE a b c true HO _).mono ?_; rintro e w5 ⟨rfl, hb5⟩))
          go_wp2_with fail
          go_meet
          exact ⟨rfl, behind (behind (behind hB2.drew hb3) hb4) hb5⟩
        · have hne' : ¬ q = b := fun e => hne e.symm
          go_region_held3 (fun wy => wy.cell? ⟨w1.heap.size, 0, none⟩ = some (.int .i64 a) ∧ wy.cell? ⟨w1.heap.size, 1, none⟩ = some (.int .i64 q) ∧ wy.cell? ⟨w1.heap.size, 2, none⟩ = some (.int .i64 n) ∧ wy.cell? ⟨w2.heap.size, 0, none⟩ = some (.int .i64 a) ∧ wy.cell? ⟨w2.heap.size, 1, none⟩ = some (.int .i64 b) ∧ wy.cell? ⟨w2.heap.size, 2, none⟩ = some (.int .i64 c))
            (first | exact ⟨yL.1, yL.2.1, yL.2.2, yN.1, yN.2.1, yN.2.2⟩ | exact keep6 ‹_› ‹_› | go_keep)
            (first | (go_at_call 8; refine (specNextE a q n time node a b c HN _).mono ?_; rintro e w3 ⟨rfl, hb3⟩) | (go_at_call 9; refine (implLessE a q n a b c true HL _).mono ?_; rintro e w4 ⟨rfl, hb4⟩) | (go_at_call 10; refine (implOkE a b c true HO _).mono ?_; rintro e w5 ⟨rfl, hb5⟩))
          go_wp2_with fail
          go_meet
          exact ⟨rfl, behind (behind (behind hB2.drew hb3) hb4) hb5⟩
    case rest =>
      obtain ⟨rfl, hBc⟩ := hcut
      clear HN yL yN hB2 ht hq hn
      go_wp2_with fail
      refine (drawLatest a0 cap0 l _ hb (hr.below hBc)).mono ?_
      rintro e w6 ⟨ad, cp, ss, rfl, hrd, hs4, hb6⟩
      have hB6 := behind hBc hb6
      go_wp2_with fail
      refine (implLatest ad cp ss _ (by omega) hrd).mono ?_
      rintro e w7 ⟨t', q', n', rfl, HS, hb7⟩
      have hB7 := behind hB6 hb7
      have xS := boxNew w7 t' q' n' 25
      have hB8 := behind hB7 (bel1 _ (.cells #[.int .i64 t', .int .i64 q', .int .i64 n'] 25))
      have hrd8 := hrd.below (behind hb7 (bel1 _ (.cells #[.int .i64 t', .int .i64 q', .int .i64 n'] 25)))
      go_wp2_with fail
      go_loopw [9, 10] (fun v i wr => ∃ (k : Nat) (B : Bool), k ≤ ss.length ∧ i = .int .i64 k ∧ v = .bool B ∧ SeenB B ss (t', q', n') k ∧ Box wr w7.heap.size t' q' n' ∧ RdS wr ad ss ∧ Below w.heap.size w wr) (fun _ i _ => ss.length - (intOf i).toNat)
      case atStart => exact ⟨0, _, Nat.zero_le _, rfl, rfl, seen_start _ _, xS, hrd8, hB8⟩
      case round =>
        obtain ⟨k, B, hk, rfl, rfl, HB, xr, hrr, hbr⟩ := hrel
        clear xS hrd8 hB8
        by_cases hlt : k < ss.length
        · obtain ⟨b, off, rfl, p0, p1, p2⟩ := hrr k hlt
          have HT : Hid (Sm.lessS (t', q', n') ss[k] = false) := by
            show Sm.lessS (t', q', n') ss[k] = false
            rw [HS.out]; exact Sm.latest_top ss _ (List.getElem_mem hlt)
          obtain ⟨u, hu⟩ : ∃ u, ss[k] = u := ⟨_, rfl⟩
          rw [hu] at p0 p1 p2 HT
          have HU : Hid (ss[k] = u) := hu
          clear hu
          obtain ⟨t, q, n⟩ := u
          have HT' : Hid (Sm.less t' q' n' t q n = false) := HT.out
          clear HT
          obtain ⟨x0, x1, x2⟩ := id xr
          have hkI : (0 : Int) ≤ (k : Int) := by omega
          have hkL : (k : Int) < (ss.length : Int) := by omega
          go_upto_region 13 with fail
          go_region_held3 (fun wy => wy.cell? ⟨w7.heap.size, 0, none⟩ = some (.int .i64 t') ∧ wy.cell? ⟨w7.heap.size, 1, none⟩ = some (.int .i64 q') ∧ wy.cell? ⟨w7.heap.size, 2, none⟩ = some (.int .i64 n') ∧ wy.cell? ⟨b, off + k * 3, none⟩ = some (.int .i64 t) ∧ wy.cell? ⟨b, off + k * 3 + 1, none⟩ = some (.int .i64 q) ∧ wy.cell? ⟨b, off + k * 3 + 2, none⟩ = some (.int .i64 n))
            (first | exact ⟨x0, x1, x2, p0, p1, p2⟩ | exact keep6 ‹_› ‹_› | go_keep)
            (first | (go_at_call 9; refine (implLessE t' q' n' t q n false HT' _).mono ?_; rintro e w9 ⟨rfl, hb9⟩))
          have xr9 := xr.drew.below hb9
          have hrr9 := RdS.below (RdS.drew hrr) hb9
          have hbr9 := behind hbr.drew hb9
          obtain ⟨y0, y1, y2⟩ := id xr9
          obtain ⟨m0, m1, m2⟩ := StAt.below (s := (t, q, n)) (StAt.drew ⟨p0, p1, p2⟩) hb9
          cases B with
          | true =>
            have HX := HB.yes hlt
            clear HB
            go_wp2_with fail
            go_quiet (fail)
            go_wp2
            go_roundw
            case rel => exact ⟨k + 1, true, by omega, by go_num, rfl, HX, xr9, hrr9, belowDrewN hbr9 _⟩
            case measure => simp [intOf]; omega
          | false =>
            by_cases hE : (t, q, n) = (t', q', n')
            · have HX := SeenB.hit hlt (HU.out.trans hE)
              simp only [Prod.mk.injEq] at hE
              obtain ⟨rfl, rfl, rfl⟩ := hE
              clear HB HU
              go_wp2_with fail
              go_quiet (fail)
              go_wp2
              go_roundw
              case rel => exact ⟨k + 1, true, by omega, by go_num, rfl, HX, xr9, hrr9, belowDrewN hbr9 _⟩
              case measure => simp [intOf]; omega
            · have HX := HB.miss hlt (fun h => hE (HU.out.symm.trans h))
              clear HB HU
              have h3 : ¬ t = t' ∨ (t = t' ∧ ¬ q = q') ∨ (t = t' ∧ q = q' ∧ ¬ n = n') := by
                simp only [Prod.mk.injEq] at hE; omega
              clear hE
              rcases h3 with h3 | ⟨rfl, h3⟩ | ⟨rfl, rfl, h3⟩
              all_goals
                go_wp2_with fail
                go_quiet (fail)
                go_wp2
                go_roundw
                case rel => exact ⟨k + 1, false, by omega, by go_num, rfl, HX, xr9, hrr9, belowDrewN hbr9 _⟩
                case measure => simp [intOf]; omega
        · have hkl : k = ss.length := by omega
          have hB : B = true := by rw [hkl] at HB; exact HB.full HS.out
          subst hB
          clear hkl HB
          go_wp2
          go_ret
          exact ⟨rfl, hbr⟩
  · go_enter Try.func3, Try.ntmps3
    unfold maxLen at hcm
    go_wp2_with (go_at_call 5; go_in)
    go_wp2
    go_ret
    exact ⟨rfl, Below.refl _ _⟩

set_option maxRecDepth 100000 in
theorem lifted (os : Os) (started : os.Started) (H : Type) (enc : TypeId × Value → H) :
    ReturnsInHanded {} Try.checked os 3 .any (Rows.fnStampsSpec.pre6 enc Try.prog Try.f3 Rows.fnStampsRow.domain false) (Rows.fnStampsSpec.post enc Try.prog Try.f3 false true false false) := by
  refine returnsInHanded_of_change (C := Try.checked) own started (by kernel_rfl) Try.func3
    (ChangeSpec.witness6 (enc := enc) (C := Try.checked) false ⟨#[], #[.slice none 0 0], []⟩ 8 (by kernel_rfl) (by kernel_rfl) (by kernel_rfl) (by kernel_rfl)) ?_
  intro W base args ds gs before hval0 hW hcnd _
  have hval : ∀ (j : Nat) t v, Try.f3.params[j]? = some t → args[j]? = some v → Value.okWide Try.prog W .any base t v := hval0
  have hW' := hW
  obtain ⟨p, q, hA0, hV, rfl, hfz, hnd⟩ := hW
  have hA : DataW.TrodAll enc Try.prog W 0 (fun _ => true) true Try.f3.params.toList args.toList ds p := hA0
  rw [Try.params3] at hA hval
  obtain ⟨v0, vs0, d0, ds0, p0, q0, hargs, rfl, rfl, h0, r0⟩ := trodAll_cons hA
  obtain ⟨rfl, rfl, rfl⟩ := trodAll_nil r0
  obtain rfl : args = #[v0] := by cases args; simp_all
  obtain ⟨rfl, rfl⟩ := trodVars_none hV
  obtain ⟨a0, len0, cap0, rfl⟩ := okWide_slice Try.underlying22 (hval 0 22 v0 rfl rfl)
  have k0 := h0
  have lt0 : ∀ x ∈ p0, x.block < W.heap.size := by obtain ⟨m, hm⟩ := k0; exact DataW.trod_lt m _ _ _ hm
  obtain ⟨z0, w0⟩ : ∃ zs, IsRow .u8 W a0 len0 cap0 zs := by
    obtain ⟨fuel, hf⟩ := h0
    rcases open_ints Try.underlying22 Try.underlying5 (by kernel_rfl) hf with ⟨hcs, _⟩ | ⟨x, l, c, zs, hcs, _, hl, hm, hz, _, hcell, hwz⟩
    · simp [Value.cells] at hcs
      obtain ⟨rfl, rfl, rfl⟩ := hcs
      exact ⟨[], .inl ⟨rfl, rfl, rfl, rfl⟩⟩
    · simp [Value.cells] at hcs
      obtain ⟨rfl, rfl, rfl⟩ := hcs
      exact ⟨zs, .inr ⟨_, rfl, hl, hm, by simpa using hz, hcell, hwz⟩⟩
  clear hA0 hval0
  refine (walk a0 len0 cap0 z0 W w0).mono fun e W' ⟨he, bel⟩ => ?_
  subst he
  exact ⟨_, rfl, _, _, _, [], _, [], hW', trodAll_mk1 (shut_bool Try.underlying4 _), (trodAll_cons_mk (Below.trod laidOut (by kernel_rfl) (of_decide_eq_true (by kernel_rfl)) k0 bel lt0) trodAll_mk0), rfl, bel.frame _, fun h => by cases h⟩

theorem over : Rows.fnStampsRow.holds Try.pinned (OpenSpec.ofChange Rows.fnStampsSpec) :=
  OpenClaim.holds_of_wide 3 Try.f3 rfl rfl rfl rfl rfl rfl rfl ⟨rfl, rfl, rfl, rfl, rfl⟩ rfl rfl rfl rfl rfl (by kernel_rfl) Try.func3 (by kernel_rfl)
    (of_decide_eq_true (by kernel_rfl)) (by unfold Func.isWrapper; first | (rw [if_pos (by decide +kernel)]; kernel_rfl) | (rw [if_neg (by decide +kernel)]; exact ⟨rfl, rfl⟩))
    (fun os started H enc _ => lifted os started H enc)

end Go.Proofs.Ytekjnfkmjmmcmab.fnStamps
namespace Go.Proofs.Ytekjnfkmjmmcmab
theorem fnStamps_holds : Rows.FnStampsSaid := fnStamps.over
#print axioms fnStamps_holds
end Go.Proofs.Ytekjnfkmjmmcmab
