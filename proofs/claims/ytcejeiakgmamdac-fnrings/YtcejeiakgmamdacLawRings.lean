/- For every slice of bytes the law FnRings returns true: a ring that is built of the drawn devices is right, has as many parts and replicas as asked, and each of its parts is in as many zones as may be; where the specification builds none the program builds none. Conditions: none beyond the row's own. -/
import Derived.Test.YtcejeiakgmamdacRows
import Derived.Test.YtcejeiakgmamdacBy
import Derived.Test.YtcejeiakgmamdacBuX
import Derived.Test.YtcejeiakgmamdacPzI
import Derived.Test.YtcejeiakgmamdacRkI
import Derived.Test.YtcejeiakgmamdacZnI
import Derived.Test.YtcejeiakgmamdacLwM
import Derived.Test.YtcejeiakgmamdacDrB
import Derived.WalkKit
import Derived.ProofKit
import Derived.OpenShut
import Derived.ShutString
import Derived.ChangeOld
import Derived.Below
namespace Go.Proofs.Ytcejeiakgmamdac.fnRings
open Go.ChangeShapes Go.WideShapes Go.ChangeAt Go.RowKit
open Go.ChangeMaps (open_string shut_string)
set_option linter.unusedVariables false

theorem own : ownKnob Try.prog.godebug = none := by kernel_rfl
theorem laidOut : laidOutB Try.prog = true := by kernel_rfl

open Wk

theorem OwnP.form {w : World} {base n cap : Nat} {a : Option Addr} {Q : List (List Int)} (h : OwnP w base (.slice a n cap) Q) (h0 : 0 < Q.length) : ∃ g, a = some ⟨g, 0, none⟩ := by
  obtain ⟨vs, h1, _⟩ := h
  rcases h1.2 with ⟨e, h2⟩ | ⟨g, cap', cur, e, _⟩
  · omega
  · simp only [Value.slice.injEq] at e
    exact ⟨g, e.1⟩

set_option maxHeartbeats 4000000 in
set_option maxRecDepth 100000 in
theorem walk (a0 : Option Addr) (len0 cap0 : Nat) (z0 : List Int) (w : World) (w0 : IsRow .u8 w a0 len0 cap0 z0) :
    Calls Try.prog 3 #[.slice a0 len0 cap0] w fun e w' => e = .returned (.bool true) ∧ Below w.heap.size w w' := by
  obtain ⟨l, rfl, hlc, hcm, hr⟩ := w0.rd
  clear w0
  by_cases hb : l.length ≤ 1048576
  · go_enter Try.func3, Try.ntmps3
    go_wp2_with (go_at_call 9; go_in)
    go_wp2_with fail
    refine (drawBuild a0 cap0 l _ hb hr).mono ?_
    rintro e w1 ⟨X, g, cp, p, r, rfl, hX6, hfew, hr1, hb1⟩
    have hwf := fun d hd => few_wf (hfew d hd)
    clear hfew hr hlc hcm
    by_cases hok : BldOk X p r
    · obtain ⟨hd, ⟨hp1, hp2⟩, ⟨hq1, hq2⟩, hq3⟩ := hok
      obtain ⟨p, rfl⟩ : ∃ n : Nat, p = n := ⟨p.toNat, by omega⟩
      obtain ⟨r, rfl⟩ : ∃ n : Nat, r = n := ⟨r.toNat, by omega⟩
      have hpl := Rg.parts_len X r p
      have htot : tot (Rg.parts X r p) ≤ 1048576 := by
        rw [tot_constI _ r (Rg.parts_each X r p), hpl]
        have : p * r ≤ 64 * 5 := Nat.mul_le_mul (by omega) (by omega)
        omega
      go_wp2_with fail
      refine (implBuildYes _ _ X p r _ hr1 hd (by omega) (by omega) (by omega) (by omega) (by omega)).mono ?_
      rintro e w2 ⟨aI, caI, rfl, hOI, hb2⟩
      obtain ⟨gI, rfl⟩ := OwnP.form hOI (by omega)
      have s2 := slot2New w2 (.int .i64 (r : Int)) (.slice (some ⟨gI, 0, none⟩) p caI) 29
      have b2 := bel1 w2 (.cells #[.int .i64 (r : Int), .slice (some ⟨gI, 0, none⟩) p caI] 29)
      have hB2 := behind (behind hb1 hb2) b2
      have hr2 := (hr1.below hb2).below b2
      have hO2 := hOI.below b2
      clear hOI hr1 hb1 hb2
      go_wp2_with fail
      generalize w2.alloc (.cells #[.int .i64 (r : Int), .slice (some ⟨gI, 0, none⟩) p caI] 29) = wA at s2 b2 hB2 hr2 hO2 ⊢
      refine (specBuildYes _ _ X p r _ hr2 hd (by omega) (by omega) (by omega) (by omega) (by omega)).mono ?_
      rintro e w3 ⟨aS, caS, rfl, -, hb3⟩
      have b3 := bel1 w3 (.cells #[.int .i64 (r : Int), .slice aS p caS] 29)
      have hb3' := behind hb3 b3
      have s3 := s2.below hb3'
      have hr3 := hr2.below hb3'
      have hO3 := hO2.below hb3'
      have hB3 := behind hB2 hb3'
      clear s2 hr2 hO2 b2 hb3 b3 hB2
      go_wp2_with fail
      generalize w3.alloc (.cells #[.int .i64 (r : Int), .slice aS p caS] 29) = wB at s3 hr3 hO3 hB3 hb3' ⊢
      refine (implZones _ _ X _ (by omega) hr3 hwf).mono ?_
      rintro e w4 ⟨R, aR, cR, rfl, hZ, -, hb4⟩
      have s4 := s3.below hb4
      have hr4 := hr3.below hb4
      have hO4 := hO3.below hb4
      have hB4 := behind hB3 hb4
      have HG : Hid (∀ q ∈ Rg.parts X r p, q.Nodup ∧ q.length = r ∧ (Rg.zns X q).length = min r R.length) := fun q hq => by
        obtain ⟨h1, _, h3, h4⟩ := Rg.parts_good hd hZ (by omega) p q hq
        exact ⟨h1, h3, h4⟩
      have HR : Hid (Rg.ringB (r : Int) (Rg.parts X r p) X = true) := Rg.parts_ring hd hZ (by omega) (by omega) (by omega) (by omega) (by omega)
      have hRX : R.length ≤ X.length := hZ.2.2
      clear s3 hr3 hO3 hB3 hb3' hb4 hZ hd
      generalize R.length = zn at HG hRX ⊢
      by_cases hz : (r : Int) < (zn : Int)
      · have hmin : min r zn = r := by omega
        go_wp2
        go_loopw [11] (fun i wr => ∃ k : Nat, k ≤ p ∧ i = .int .i64 k ∧ Below w4.heap.size w4 wr) (fun i _ => p - (intOf i).toNat)
        case atStart => exact ⟨0, Nat.zero_le _, rfl, Below.refl _ _⟩
        case round =>
          obtain ⟨k, hk, rfl, hbr⟩ := hrel
          have sr := s4.below hbr
          obtain ⟨⟨t0, t1⟩, -⟩ := id sr
          have hOr := hO4.below hbr
          have hrr := hr4.below hbr
          have hBr := behind hB4 hbr
          by_cases hlt : k < p
          · have hkl : k < (Rg.parts X r p).length := by omega
            obtain ⟨ak, ck, hcell, hown, -, -, -, -⟩ := hOr.at_ hkl
            have hgk := HG.out _ (List.getElem_mem hkl)
            have hzk := Zv_rd hown
            generalize (Rg.parts X r p)[k] = q at hcell hown hgk hzk
            have hql : q.length ≤ 1048576 := by omega
            have cZ := implSpread ak (some ⟨g, 0, none⟩) ck cp q X wr hql (by omega) hzk hrr hwf
            rw [hgk.2.2, hmin] at cZ
            have hkn : (k : Int) < (p : Int) := by omega
            have hk0 : (0 : Int) ≤ (k : Int) := by omega
            clear hgk hown hzk hOr sr hkl
            go_wp2_with fail
            refine cZ.mono ?_
            rintro e w5 ⟨rfl, hb5⟩
            have hbr5 := behind hbr hb5
            clear cZ hcell t0 t1
            go_wp2
            go_roundw
            case rel => exact ⟨k + 1, by omega, by go_num, hbr5⟩
            case measure => simp [intOf]; omega
          · have cR := implRing (r : Int) (some ⟨gI, 0, none⟩) (some ⟨g, 0, none⟩) caI cp (Rg.parts X r p) X wr (by omega) htot (by omega) hOr.rdS hrr
            rw [HR.out, hpl] at cR
            have hkn : ¬ (k : Int) < (p : Int) := by omega
            go_wp2_with fail
            refine cR.mono ?_
            rintro e w5 ⟨rfl, hb5⟩
            obtain ⟨⟨u0, u1⟩, -⟩ := sr.below hb5
            have hB5 := behind hBr hb5
            clear cR t0 t1 hOr hrr sr
            go_wp2
            go_ret
            exact ⟨rfl, hB5⟩
      · have hmin : min r zn = zn := by omega
        have hz' : decide (r < zn) = false := decide_eq_false (by omega)
        go_wp2
        clear hz hz'
        go_loopw [11] (fun i wr => ∃ k : Nat, k ≤ p ∧ i = .int .i64 k ∧ Below w4.heap.size w4 wr) (fun i _ => p - (intOf i).toNat)
        case atStart => exact ⟨0, Nat.zero_le _, rfl, Below.refl _ _⟩
        case round =>
          obtain ⟨k, hk, rfl, hbr⟩ := hrel
          have sr := s4.below hbr
          obtain ⟨⟨t0, t1⟩, -⟩ := id sr
          have hOr := hO4.below hbr
          have hrr := hr4.below hbr
          have hBr := behind hB4 hbr
          by_cases hlt : k < p
          · have hkl : k < (Rg.parts X r p).length := by omega
            obtain ⟨ak, ck, hcell, hown, -, -, -, -⟩ := hOr.at_ hkl
            have hgk := HG.out _ (List.getElem_mem hkl)
            have hzk := Zv_rd hown
            generalize (Rg.parts X r p)[k] = q at hcell hown hgk hzk
            have hql : q.length ≤ 1048576 := by omega
            have cZ := implSpread ak (some ⟨g, 0, none⟩) ck cp q X wr hql (by omega) hzk hrr hwf
            rw [hgk.2.2, hmin] at cZ
            have hkn : (k : Int) < (p : Int) := by omega
            have hk0 : (0 : Int) ≤ (k : Int) := by omega
            clear hgk hown hzk hOr sr hkl
            go_wp2_with fail
            refine cZ.mono ?_
            rintro e w5 ⟨rfl, hb5⟩
            have hbr5 := behind hbr hb5
            clear cZ hcell t0 t1
            go_wp2
            go_roundw
            case rel => exact ⟨k + 1, by omega, by go_num, hbr5⟩
            case measure => simp [intOf]; omega
          · have cR := implRing (r : Int) (some ⟨gI, 0, none⟩) (some ⟨g, 0, none⟩) caI cp (Rg.parts X r p) X wr (by omega) htot (by omega) hOr.rdS hrr
            rw [HR.out, hpl] at cR
            have hkn : ¬ (k : Int) < (p : Int) := by omega
            go_wp2_with fail
            refine cR.mono ?_
            rintro e w5 ⟨rfl, hb5⟩
            obtain ⟨⟨u0, u1⟩, -⟩ := sr.below hb5
            have hB5 := behind hBr hb5
            clear cR t0 t1 hOr hrr sr
            go_wp2
            go_ret
            exact ⟨rfl, hB5⟩
    · go_wp2_with fail
      refine (implBuildNo _ _ X p r _ (by omega) hr1 hok).mono ?_
      rintro e w2 ⟨rfl, hb2⟩
      have s2 := slot2New w2 (.int .i64 0) (.slice none 0 0) 29
      have b2 := bel1 w2 (.cells #[.int .i64 0, .slice none 0 0] 29)
      have hB2 := behind (behind hb1 hb2) b2
      have hr2 := (hr1.below hb2).below b2
      clear hr1 hb1 hb2
      go_wp2_with fail
      generalize w2.alloc (.cells #[.int .i64 0, .slice none 0 0] 29) = wA at s2 b2 hB2 hr2 ⊢
      refine (specBuildNo _ _ X p r _ (by omega) hr2 hok).mono ?_
      rintro e w3 ⟨rfl, hb3⟩
      have b3 := bel1 w3 (.cells #[.int .i64 0, .slice none 0 0] 29)
      have hb3' := behind hb3 b3
      obtain ⟨⟨t0, t1⟩, -⟩ := s2.below hb3'
      have hB3 := behind hB2 hb3'
      clear s2 hr2 b2 hb3 b3 hB2 hb3' hok
      go_wp2
      go_ret
      exact ⟨rfl, hB3⟩
  · go_enter Try.func3, Try.ntmps3
    go_wp2_with (go_at_call 9; go_in)
    go_wp2
    go_ret
    exact ⟨rfl, Below.refl _ _⟩

set_option maxRecDepth 100000 in
theorem lifted (os : Os) (started : os.Started) (H : Type) (enc : TypeId × Value → H) :
    ReturnsInHanded {} Try.checked os 3 .any (Rows.fnRingsSpec.pre6 enc Try.prog Try.f3 Rows.fnRingsRow.domain false) (Rows.fnRingsSpec.post enc Try.prog Try.f3 false true false false) := by
  refine returnsInHanded_of_change (C := Try.checked) own started (by kernel_rfl) Try.func3
    (ChangeSpec.witness6 (enc := enc) (C := Try.checked) false ⟨#[], #[.slice none 0 0], []⟩ 8 (by kernel_rfl) (by kernel_rfl) (by kernel_rfl) (by kernel_rfl)) ?_
  intro W base args ds gs before hval0 hW hcnd _
  have hval : ∀ (j : Nat) t v, Try.f3.params[j]? = some t → args[j]? = some v → Value.okWide Try.prog W .any base t v := hval0
  have hW' := hW
  obtain ⟨p, q, hA0, hV, rfl, hfz, hnd⟩ := hW
  have hA : DataW.TrodAll enc Try.prog W 0 (fun _ => true) true Try.f3.params.toList args.toList ds p := hA0
  rw [Try.params3] at hA hval
  obtain ⟨v0, vs0, d0, ds0, p0, q0, hargs, rfl, rfl, h0, r0⟩ := trodAll_cons hA
  obtain ⟨rfl, rfl, rfl⟩ := trodAll_nil r0
  obtain rfl : args = #[v0] := by cases args; simp_all
  obtain ⟨rfl, rfl⟩ := trodVars_none hV
  obtain ⟨a0, len0, cap0, rfl⟩ := okWide_slice Try.underlying22 (hval 0 22 v0 rfl rfl)
  have k0 := h0
  have lt0 : ∀ x ∈ p0, x.block < W.heap.size := by obtain ⟨m, hm⟩ := k0; exact DataW.trod_lt m _ _ _ hm
  obtain ⟨z0, w0⟩ : ∃ zs, IsRow .u8 W a0 len0 cap0 zs := by
    obtain ⟨fuel, hf⟩ := h0
    rcases open_ints Try.underlying22 Try.underlying5 (by kernel_rfl) hf with ⟨hcs, _⟩ | ⟨x, l, c, zs, hcs, _, hl, hm, hz, _, hcell, hwz⟩
    · simp [Value.cells] at hcs
      obtain ⟨rfl, rfl, rfl⟩ := hcs
      exact ⟨[], .inl ⟨rfl, rfl, rfl, rfl⟩⟩
    · simp [Value.cells] at hcs
      obtain ⟨rfl, rfl, rfl⟩ := hcs
      exact ⟨zs, .inr ⟨_, rfl, hl, hm, by simpa using hz, hcell, hwz⟩⟩
  clear hA0 hval0
  refine (walk a0 len0 cap0 z0 W w0).mono fun e W' ⟨he, bel⟩ => ?_
  subst he
  exact ⟨_, rfl, _, _, _, [], _, [], hW', trodAll_mk1 (shut_bool Try.underlying4 _), (trodAll_cons_mk (Below.trod laidOut (by kernel_rfl) (of_decide_eq_true (by kernel_rfl)) k0 bel lt0) trodAll_mk0), rfl, bel.frame _, fun h => by cases h⟩

theorem over : Rows.fnRingsRow.holds Try.pinned (OpenSpec.ofChange Rows.fnRingsSpec) :=
  OpenClaim.holds_of_wide 3 Try.f3 rfl rfl rfl rfl rfl rfl rfl ⟨rfl, rfl, rfl, rfl, rfl⟩ rfl rfl rfl rfl rfl (by kernel_rfl) Try.func3 (by kernel_rfl)
    (of_decide_eq_true (by kernel_rfl)) (by unfold Func.isWrapper; first | (rw [if_pos (by decide +kernel)]; kernel_rfl) | (rw [if_neg (by decide +kernel)]; exact ⟨rfl, rfl⟩))
    (fun os started H enc _ => lifted os started H enc)

end Go.Proofs.Ytcejeiakgmamdac.fnRings
namespace Go.Proofs.Ytcejeiakgmamdac
theorem fnRings_holds : Rows.FnRingsSaid := fnRings.over
#print axioms fnRings_holds
end Go.Proofs.Ytcejeiakgmamdac
