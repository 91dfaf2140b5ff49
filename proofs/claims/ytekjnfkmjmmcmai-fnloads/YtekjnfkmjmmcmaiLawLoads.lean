/- For every slice of bytes the law FnLoads returns true: of a drawn ring that is right the loads of all devices are together as many as its replicas, and no part is in more zones than it has devices, or than there are; whether it is right the program answers as the specification does. Conditions: none beyond the row's own. -/
import Derived.Test.YtekjnfkmjmmcmaiRows
import Derived.Test.YtekjnfkmjmmcmaiBy
import Derived.Test.YtekjnfkmjmmcmaiPzI
import Derived.Test.YtekjnfkmjmmcmaiRkI
import Derived.Test.YtekjnfkmjmmcmaiRkS
import Derived.Test.YtekjnfkmjmmcmaiLdI
import Derived.Test.YtekjnfkmjmmcmaiZnI
import Derived.Test.YtekjnfkmjmmcmaiLwM
import Derived.Test.YtekjnfkmjmmcmaiDr9
import Derived.WalkKit
import Derived.ProofKit
import Derived.OpenShut
import Derived.ShutString
import Derived.ChangeOld
import Derived.Below
namespace Go.Proofs.Ytekjnfkmjmmcmai.fnLoads
open Go.ChangeShapes Go.WideShapes Go.ChangeAt Go.RowKit
open Go.ChangeMaps (open_string shut_string)
set_option linter.unusedVariables false

theorem own : ownKnob Try.prog.godebug = none := by kernel_rfl
theorem laidOut : laidOutB Try.prog = true := by kernel_rfl

open Wk

theorem ring_is {R : Int} {Q : List (List Int)} {X : List Sm.St} (h : Rg.ringB R Q X = true) : Dv.devs X = true ∧ 1 ≤ R ∧ R ≤ 5 ∧ ∀ q ∈ Q, Rg.known X q = true ∧ (q.length : Int) = R := by
  simp only [Rg.ringB, Rg.headB, Rg.partOk, Rg.partB, Bool.and_eq_true, List.all_eq_true, decide_eq_true_eq] at h
  obtain ⟨h1, h2⟩ := h
  refine ⟨by simp_all, by omega, by omega, fun q hq => ⟨(h2 q hq).2, (h2 q hq).1.2⟩⟩

set_option maxHeartbeats 4000000 in
set_option maxRecDepth 100000 in
theorem walk (a0 : Option Addr) (len0 cap0 : Nat) (z0 : List Int) (w : World) (w0 : IsRow .u8 w a0 len0 cap0 z0) :
    Calls Try.prog 4 #[.slice a0 len0 cap0] w fun e w' => e = .returned (.bool true) ∧ Below w.heap.size w w' := by
  obtain ⟨l, rfl, hlc, hcm, hr⟩ := w0.rd
  clear w0
  by_cases hb : l.length ≤ 1048576
  · go_enter Try.func4, Try.ntmps4
    go_wp2_with (go_at_call 5; go_in)
    go_wp2_with fail
    refine (drawRingOk a0 cap0 l _ hb hr).mono ?_
    rintro e w1 ⟨X, g, cp, R, Q, a, ca, rfl, hX6, hfew, ⟨hR0, hR6⟩, hQ16, hQ4, hX1, hP1, hB1⟩
    have hwf := fun d hd => few_wf9 (hfew d hd)
    have ht4 := tot4 Q hQ4
    have htot : tot Q ≤ 1048576 := by omega
    have hpp : ∀ q ∈ Q, q.length ≤ 1048576 := fun q hq => by have := hQ4 q hq; omega
    clear hfew hr hlc hcm
    have s2 := slot2New w1 (.int .i64 R) (.slice a Q.length ca) 28
    have b2 := bel1 w1 (.cells #[.int .i64 R, .slice a Q.length ca] 28)
    have hX2 := hX1.below b2
    have hP2 := hP1.below b2
    have hB2 := behind hB1 b2
    clear hX1 hP1 hB1
    go_wp2_with fail
    generalize w1.alloc (.cells #[.int .i64 R, .slice a Q.length ca] 28) = wA at s2 b2 hX2 hP2 hB2 ⊢
    clear b2
    refine (implRing R a (some ⟨g, 0, none⟩) ca cp Q X wA (by omega) htot (by omega) hP2 hX2).mono ?_
    rintro e w3 ⟨rfl, hb3⟩
    have s3 := s2.below hb3
    have hX3 := hX2.below hb3
    have hP3 := hP2.below hb3
    have hB3 := behind hB2 hb3
    obtain ⟨⟨t0, t1⟩, -⟩ := id s3
    clear s2 hX2 hP2 hB2 hb3
    cases hK : Rg.ringB R Q X with
    | false =>
      have cS := specRing R a (some ⟨g, 0, none⟩) ca cp Q X w3 (by omega) hpp (by omega) hP3 hX3
      rw [hK] at cS
      go_wp2_with fail
      refine cS.mono ?_
      rintro e w4 ⟨rfl, hb4⟩
      have s4 := s3.below hb4
      obtain ⟨⟨u0, u1⟩, -⟩ := id s4
      have cT := specRing R a (some ⟨g, 0, none⟩) ca cp Q X w4 (by omega) hpp (by omega) (hP3.below hb4) (hX3.below hb4)
      rw [hK] at cT
      have hB4 := behind hB3 hb4
      clear cS t0 t1 s3 hX3 hP3 hB3 hb4 hK
      go_wp2_with fail
      refine cT.mono ?_
      rintro e w5 ⟨rfl, hb5⟩
      have hB5 := behind hB4 hb5
      clear cT u0 u1
      go_wp2
      go_ret
      exact ⟨rfl, hB5⟩
    | true =>
      obtain ⟨hd, hR1, hR5, hq⟩ := ring_is hK
      obtain ⟨r, rfl⟩ : ∃ r : Nat, R = r := ⟨R.toNat, by omega⟩
      have cS := specRing (r : Int) a (some ⟨g, 0, none⟩) ca cp Q X w3 (by omega) hpp (by omega) hP3 hX3
      rw [hK] at cS
      go_wp2_with fail
      refine cS.mono ?_
      rintro e w4 ⟨rfl, hb4⟩
      have s4 := s3.below hb4
      have hX4 := hX3.below hb4
      have hP4 := hP3.below hb4
      have hB4 := behind hB3 hb4
      have HS : Hid (((X.map fun d => Rg.load Q d.1).sum : Nat) = r * Q.length) := Rg.loads_sum hd r Q (fun q h => ⟨(hq q h).1, by have := (hq q h).2; omega⟩)
      have HQ : Hid (∀ q ∈ Q, q.length ≤ 1048576 ∧ 1 ≤ (Rg.zns X q).length ∧ (Rg.zns X q).length ≤ r) := fun q h => by
        obtain ⟨h1, h2⟩ := hq q h
        have h3 : q.length = r := by omega
        have h4 := Rg.zns_len X q
        exact ⟨hpp q h, Rg.zns_pos h1 (by omega), by omega⟩
      have HL : Hid (∀ id, Rg.load Q id ≤ 64) := fun id => by
        have := Rg.load_le Q id
        have e : (List.map List.length Q).sum = tot Q := rfl
        omega
      have hWF : Hid (∀ d ∈ X, (Lit.int .i64 d.2.1).wf = true) := hwf
      clear cS t0 t1 s3 hX3 hP3 hB3 hb4 hK hq hd hpp hQ4 hwf
      go_wp2
      go_loopw [6, 7] (fun al i wr => ∃ (k S : Nat), k ≤ X.length ∧ i = .int .i64 k ∧ al = .int .i64 S ∧ Hid (S = ((X.take k).map fun d => Rg.load Q d.1).sum) ∧ S ≤ k * 64 ∧ Below w4.heap.size w4 wr) (fun _ i _ => X.length - (intOf i).toNat)
      case atStart => exact ⟨0, 0, Nat.zero_le _, rfl, rfl, rfl, by omega, Below.refl _ _⟩
      case round =>
        obtain ⟨k, S, hk, rfl, rfl, HSk, hS, hbr⟩ := hrel
        by_cases hlt : k < X.length
        · obtain ⟨⟨t0, t1⟩, -⟩ := s4.below hbr
          obtain ⟨b, off, e, pp⟩ := (hX4.below hbr) k hlt
          simp only [Option.some.injEq, Addr.mk.injEq, and_true] at e
          obtain ⟨rfl, rfl⟩ := e
          rw [Nat.zero_add] at pp
          obtain ⟨p0, -, -⟩ := pp
          have cL := implLoad (r : Int) a ca Q X[k].1 wr.drew (by omega) htot (hP4.below hbr.drew)
          have hn := HL.out X[k].1
          have HS2 : Hid (S + Rg.load Q X[k].1 = ((X.take (k + 1)).map fun d => Rg.load Q d.1).sum) := by
            show S + _ = _
            rw [List.take_succ_eq_append_getElem hlt, List.map_append, List.sum_append, ← HSk.out]
            simp
          clear HSk
          generalize Rg.load Q X[k].1 = n at cL hn HS2
          generalize X[k].1 = idk at p0 cL
          have hkn : (k : Int) < (X.length : Int) := by omega
          have hk0 : (0 : Int) ≤ (k : Int) := by omega
          have hwr : IntKind.i64.wrap ((S : Int) + (n : Int)) = (S : Int) + (n : Int) := Mt.wrap_i64 _ (by omega) (by omega)
          go_wp2_with fail
          go_region_held3 (fun wy => wy.cell? ⟨w1.heap.size, 0, none⟩ = some (.int .i64 (r : Int)) ∧ wy.cell? ⟨w1.heap.size, 1, none⟩ = some (.slice a Q.length ca) ∧ wy.cell? ⟨g, k * 3, none⟩ = some (.int .i64 idk))
            (first | exact ⟨t0, t1, p0⟩ | exact keepR3 ‹_› ‹_› | go_keep)
            (first | (go_at_call 12; refine cL.mono ?_; rintro e w5 ⟨rfl, hb5⟩) | fail)
          have hbr5 : Below w4.heap.size w4 w5 := behind hbr.drew hb5
          clear cL p0 t0 t1 hb5
          go_wp2
          go_roundw
          case rel => exact ⟨k + 1, S + n, by omega, by go_num, by go_num, HS2, by omega, hbr5⟩
          case measure => simp [intOf]; omega
        · have hS9 : Hid (S = r * Q.length) := by
            have h1 := HSk.out
            rw [List.take_of_length_le (by omega), HS.out] at h1
            exact h1
          have hkn : ¬ (k : Int) < (X.length : Int) := by omega
          have hrq : r * Q.length ≤ 5 * 16 := Nat.mul_le_mul (by omega) (by omega)
          have s5 := s4.below hbr
          have hX5 := hX4.below hbr
          have hP5 := hP4.below hbr
          have hB5 := behind hB4 hbr
          clear HSk HS HL s4 hX4 hP4 hB4 hbr
          obtain ⟨⟨z0, z1⟩, -⟩ := id s5
          go_wp2
          clear z0 z1
          go_loopw [8] (fun i wq => ∃ j : Nat, j ≤ Q.length ∧ i = .int .i64 j ∧ Below wr.heap.size wr wq) (fun i _ => Q.length - (intOf i).toNat)
          case atStart => exact ⟨0, Nat.zero_le _, rfl, Below.refl _ _⟩
          case round =>
            obtain ⟨j, hj, rfl, hbq⟩ := hrel
            have sq := s5.below hbq
            obtain ⟨⟨t0, t1⟩, -⟩ := id sq
            have hPq := hP5.below hbq
            have hXq := hX5.below hbq
            have hBq := behind hB5 hbq
            by_cases hlj : j < Q.length
            · obtain ⟨b, off, ak, ck, rfl, hcell, hzk, -⟩ := hPq j hlj
              obtain ⟨hq1, hq2, hq3⟩ := HQ.out _ (List.getElem_mem hlj)
              have HLE : Hid (∀ R', Dv.Zs X R' → (Rg.zns X Q[j]).length ≤ R'.length) := fun R' hR' => Rg.zns_le hR' Q[j]
              generalize Q[j] = q at hcell hzk hq1 hq2 hq3 HLE
              have cZ := implSpread ak (some ⟨g, 0, none⟩) ck cp q X wr (by omega) (by omega) hzk hXq hWF.out
              generalize (Rg.zns X q).length = n at cZ hq2 hq3 HLE
              have hn1 : ¬ (n : Int) < 1 := by omega
              have hn2 : ¬ (r : Int) < (n : Int) := by omega
              have hn3 : ¬ r < n := by omega
              have hn4 : ¬ n < 1 := by omega
              have hkj : (j : Int) < (Q.length : Int) := by omega
              have hj0 : (0 : Int) ≤ (j : Int) := by omega
              clear hPq hzk
              go_wp2_with fail
              refine cZ.mono ?_
              rintro e w5 ⟨rfl, hb5⟩
              obtain ⟨⟨u0, u1⟩, -⟩ := sq.below hb5
              have hX6' := hXq.below hb5
              have hbr5 := behind hbq hb5
              clear cZ hcell t0 t1 sq hXq hBq hbq hb5
              go_wp2_with fail
              refine (implZones (some ⟨g, 0, none⟩) cp X _ (by omega) hX6' hWF.out).mono ?_
              rintro e w6 ⟨R', a', cp', rfl, hZ, -, hb6⟩
              have hle := HLE.out R' hZ
              have hbr6 := behind hbr5 hb6
              clear hZ HLE hX6' hbr5 hb6 u0 u1
              generalize R'.length = zn at hle ⊢
              have hn5 : ¬ (zn : Int) < (n : Int) := by omega
              have hn6 : ¬ zn < n := by omega
              go_wp2
              go_roundw
              case rel => exact ⟨j + 1, by omega, by go_num, hbr6⟩
              case measure => simp [intOf]; omega
            · have hkj : ¬ (j : Int) < (Q.length : Int) := by omega
              have hS8 : (S : Int) = (r : Int) * (Q.length : Int) := by rw [hS9.out]; simp
              have hpr0 : (0 : Int) ≤ (r : Int) * (Q.length : Int) := by omega
              have hpr1 : (r : Int) * (Q.length : Int) ≤ 1000 := by omega
              clear hPq hXq sq hS9 hrq
              go_wp2
              go_ret
              exact ⟨rfl, hBq⟩
  · go_enter Try.func4, Try.ntmps4
    go_wp2_with (go_at_call 5; go_in)
    go_wp2
    go_ret
    exact ⟨rfl, Below.refl _ _⟩

set_option maxRecDepth 100000 in
theorem lifted (os : Os) (started : os.Started) (H : Type) (enc : TypeId × Value → H) :
    ReturnsInHanded {} Try.checked os 4 .any (Rows.fnLoadsSpec.pre6 enc Try.prog Try.f4 Rows.fnLoadsRow.domain false) (Rows.fnLoadsSpec.post enc Try.prog Try.f4 false true false false) := by
  refine returnsInHanded_of_change (C := Try.checked) own started (by kernel_rfl) Try.func4
    (ChangeSpec.witness6 (enc := enc) (C := Try.checked) false ⟨#[], #[.slice none 0 0], []⟩ 8 (by kernel_rfl) (by kernel_rfl) (by kernel_rfl) (by kernel_rfl)) ?_
  intro W base args ds gs before hval0 hW hcnd _
  have hval : ∀ (j : Nat) t v, Try.f4.params[j]? = some t → args[j]? = some v → Value.okWide Try.prog W .any base t v := hval0
  have hW' := hW
  obtain ⟨p, q, hA0, hV, rfl, hfz, hnd⟩ := hW
  have hA : DataW.TrodAll enc Try.prog W 0 (fun _ => true) true Try.f4.params.toList args.toList ds p := hA0
  rw [Try.params4] at hA hval
  obtain ⟨v0, vs0, d0, ds0, p0, q0, hargs, rfl, rfl, h0, r0⟩ := trodAll_cons hA
  obtain ⟨rfl, rfl, rfl⟩ := trodAll_nil r0
  obtain rfl : args = #[v0] := by cases args; simp_all
  obtain ⟨rfl, rfl⟩ := trodVars_none hV
  obtain ⟨a0, len0, cap0, rfl⟩ := okWide_slice Try.underlying22 (hval 0 22 v0 rfl rfl)
  have k0 := h0
  have lt0 : ∀ x ∈ p0, x.block < W.heap.size := by obtain ⟨m, hm⟩ := k0; exact DataW.trod_lt m _ _ _ hm
  obtain ⟨z0, w0⟩ : ∃ zs, IsRow .u8 W a0 len0 cap0 zs := by
    obtain ⟨fuel, hf⟩ := h0
    rcases open_ints Try.underlying22 Try.underlying5 (by kernel_rfl) hf with ⟨hcs, _⟩ | ⟨x, l, c, zs, hcs, _, hl, hm, hz, _, hcell, hwz⟩
    · simp [Value.cells] at hcs
      obtain ⟨rfl, rfl, rfl⟩ := hcs
      exact ⟨[], .inl ⟨rfl, rfl, rfl, rfl⟩⟩
    · simp [Value.cells] at hcs
      obtain ⟨rfl, rfl, rfl⟩ := hcs
      exact ⟨zs, .inr ⟨_, rfl, hl, hm, by simpa using hz, hcell, hwz⟩⟩
  clear hA0 hval0
  refine (walk a0 len0 cap0 z0 W w0).mono fun e W' ⟨he, bel⟩ => ?_
  subst he
  exact ⟨_, rfl, _, _, _, [], _, [], hW', trodAll_mk1 (shut_bool Try.underlying4 _), (trodAll_cons_mk (Below.trod laidOut (by kernel_rfl) (of_decide_eq_true (by kernel_rfl)) k0 bel lt0) trodAll_mk0), rfl, bel.frame _, fun h => by cases h⟩

theorem over : Rows.fnLoadsRow.holds Try.pinned (OpenSpec.ofChange Rows.fnLoadsSpec) :=
  OpenClaim.holds_of_wide 4 Try.f4 rfl rfl rfl rfl rfl rfl rfl ⟨rfl, rfl, rfl, rfl, rfl⟩ rfl rfl rfl rfl rfl (by kernel_rfl) Try.func4 (by kernel_rfl)
    (of_decide_eq_true (by kernel_rfl)) (by unfold Func.isWrapper; first | (rw [if_pos (by decide +kernel)]; kernel_rfl) | (rw [if_neg (by decide +kernel)]; exact ⟨rfl, rfl⟩))
    (fun os started H enc _ => lifted os started H enc)

end Go.Proofs.Ytekjnfkmjmmcmai.fnLoads
namespace Go.Proofs.Ytekjnfkmjmmcmai
theorem fnLoads_holds : Rows.FnLoadsSaid := fnLoads.over
#print axioms fnLoads_holds
end Go.Proofs.Ytekjnfkmjmmcmai
