/- For all bytes the law FnNames returns true: a drawn name falls into one of the parts, always the same; it is under each of its beginnings; nothing that was there is turned. Conditions: none beyond the row's own. -/
import Derived.Test.YtekjnfkmjmmcmabRows
import Derived.Test.YtekjnfkmjmmcmabNmS
import Derived.Test.YtekjnfkmjmmcmabNmI
import Derived.Test.YtekjnfkmjmmcmabNmU
import Derived.Test.YtekjnfkmjmmcmabPtW
import Derived.Test.YtekjnfkmjmmcmabDrNp
import Derived.Test.YtekjnfkmjmmcmabAtW
import Derived.WalkKit
import Derived.ProofKit
import Derived.OpenShut
import Derived.ShutString
import Derived.ChangeOld
import Derived.Below
namespace Go.Proofs.Ytekjnfkmjmmcmab.fnNames
open Go.ChangeShapes Go.WideShapes Go.ChangeAt Go.RowKit
open Go.ChangeMaps (open_string shut_string)
set_option linter.unusedVariables false

theorem own : ownKnob Try.prog.godebug = none := by kernel_rfl
theorem laidOut : laidOutB Try.prog = true := by kernel_rfl

open Wk

set_option maxHeartbeats 2000000 in
set_option maxRecDepth 100000 in
theorem walk (a0 : Option Addr) (len0 cap0 : Nat) (z0 : List Int) (w : World) (w0 : IsRow .u8 w a0 len0 cap0 z0) :
    Calls Try.prog 4 #[.slice a0 len0 cap0] w fun e w' => e = .returned (.bool true) ∧ Below w.heap.size w w' := by
  obtain ⟨l, rfl, hlc, hcm, hr⟩ := w0.rd
  clear w0
  by_cases hb : l.length ≤ 1048576
  · clear hcm hlc
    go_enter Try.func4, Try.ntmps4
    go_wp2_with (go_at_call 5; go_in)
    go_wp2_with fail
    refine (drawPart a0 cap0 l _ hb hr).mono ?_
    rintro e w1 ⟨s, n, rfl, hs, hb1⟩
    have cI := fun w => implPart s n w (by omega)
    have cS := fun w => specPart s n w (by omega)
    have HR := part_range s n
    generalize partN s n = p at cI cS HR
    obtain ⟨hp0, hp1⟩ := HR
    go_wp2_with fail
    refine (cI _).mono ?_
    rintro e w2 ⟨rfl, hb2⟩
    have hB2 := behindN hb1 hb2
    clear hb1 hb2 cI
    have HB : Hid (RdA w2 a0 l) := hr.below hB2
    clear hr
    by_cases hn : 0 < n
    all_goals
      first | (have hp := hp1 hn; clear hp1) | clear hp1
      go_wp2_with fail
      refine (cS _).mono ?_
      rintro e w3 ⟨rfl, rfl⟩
      go_wp2_with fail
      refine (drawUnder a0 cap0 l _ hb HB.out).mono ?_
      rintro e w4 ⟨a, b, rfl, ha, hbb, hb4⟩
      have hB4 := behindN hB2 hb4
      have hr4 := HB.out.below hb4
      clear HB hB2 hb4 cS
      go_wp2_with fail
      refine (atC a0 cap0 2 l _ hb (by omega) (by omega) hr4).mono ?_
      rintro e w5 ⟨rfl, rfl⟩
      have hv := atV_le l 2
      generalize atV l 2 = v at hv
      obtain ⟨k, hk⟩ : ∃ k : Nat, v % ((a.size : Int) + 1) = k := ⟨(v % ((a.size : Int) + 1)).toNat, by have := Int.emod_nonneg v (b := (a.size : Int) + 1) (by omega); omega⟩
      have hka : k ≤ a.size := by have := Int.emod_lt_of_pos v (b := (a.size : Int) + 1) (by omega); omega
      have c1 := fun w => implUnder a (a.extract 0 k) w (by unfold maxLen; omega) (by unfold maxLen; rw [Nm.cut_size a k hka]; omega)
      rw [under_cut a k hka] at c1
      have c2 := fun w => implUnder a b w (by unfold maxLen; omega) (by unfold maxLen; omega)
      have c3 := fun w => specUnder a b w (by unfold maxLen; omega) (by unfold maxLen; omega)
      generalize under a b = B at c2 c3
      have hT : a.size < (a ++ (⟨#[120]⟩ : ByteArray)).size ∧ (a ++ (⟨#[120]⟩ : ByteArray)).size ≤ 101 := by
        rw [Nm.add_size]
        show a.size < a.size + 1 ∧ a.size + 1 ≤ 101
        omega
      have hadd := Nm.addX a ⟨#[120]⟩ (by show a.size + 1 ≤ 1000; omega)
      generalize a ++ (⟨#[120]⟩ : ByteArray) = T at hT hadd
      have c4 := fun w => implUnder (a.extract 0 k) T w (by unfold maxLen; rw [Nm.cut_size a k hka]; omega) (by unfold maxLen; omega)
      rw [under_long _ T (by rw [Nm.cut_size a k hka]; omega)] at c4
      have c5 := fun w => implName s w (by omega)
      have c6 := fun w => specName s w (by omega)
      generalize Nm.name s.data.toList = K at c5 c6
      clear hT hr4
      go_wp2_with fail
      refine (c1 _).mono ?_
      rintro e w6 ⟨rfl, rfl⟩
      go_wp2_with fail
      refine (c2 _).mono ?_
      rintro e w7 ⟨rfl, rfl⟩
      go_wp2_with fail
      refine (c3 _).mono ?_
      rintro e w8 ⟨rfl, rfl⟩
      cases B
      all_goals
        go_wp2_with fail
        refine (c4 _).mono ?_
        rintro e w9 ⟨rfl, rfl⟩
        go_wp2_with fail
        refine (c5 _).mono ?_
        rintro e w10 ⟨rfl, hb10⟩
        go_wp2_with fail
        refine (c6 _).mono ?_
        rintro e w11 ⟨rfl, rfl⟩
        cases K
        all_goals
          go_wp2
          go_ret
          exact ⟨rfl, behindN hB4 hb10⟩
  · go_enter Try.func4, Try.ntmps4
    unfold maxLen at hcm
    go_wp2_with (go_at_call 5; go_in)
    go_wp2
    go_ret
    exact ⟨rfl, Below.refl _ _⟩

set_option maxRecDepth 100000 in
theorem lifted (os : Os) (started : os.Started) (H : Type) (enc : TypeId × Value → H) :
    ReturnsInHanded {} Try.checked os 4 .any (Rows.fnNamesSpec.pre6 enc Try.prog Try.f4 Rows.fnNamesRow.domain false) (Rows.fnNamesSpec.post enc Try.prog Try.f4 false true false false) := by
  refine returnsInHanded_of_change (C := Try.checked) own started (by kernel_rfl) Try.func4
    (ChangeSpec.witness6 (enc := enc) (C := Try.checked) false ⟨#[], #[.slice none 0 0], []⟩ 8 (by kernel_rfl) (by kernel_rfl) (by kernel_rfl) (by kernel_rfl)) ?_
  intro W base args ds gs before hval0 hW hcnd _
  have hval : ∀ (j : Nat) t v, Try.f4.params[j]? = some t → args[j]? = some v → Value.okWide Try.prog W .any base t v := hval0
  have hW' := hW
  obtain ⟨p, q, hA0, hV, rfl, hfz, hnd⟩ := hW
  have hA : DataW.TrodAll enc Try.prog W 0 (fun _ => true) true Try.f4.params.toList args.toList ds p := hA0
  rw [Try.params4] at hA hval
  obtain ⟨v0, vs0, d0, ds0, p0, q0, hargs, rfl, rfl, h0, r0⟩ := trodAll_cons hA
  obtain ⟨rfl, rfl, rfl⟩ := trodAll_nil r0
  obtain rfl : args = #[v0] := by cases args; simp_all
  obtain ⟨rfl, rfl⟩ := trodVars_none hV
  obtain ⟨a0, len0, cap0, rfl⟩ := okWide_slice Try.underlying22 (hval 0 22 v0 rfl rfl)
  have k0 := h0
  have lt0 : ∀ x ∈ p0, x.block < W.heap.size := by obtain ⟨m, hm⟩ := k0; exact DataW.trod_lt m _ _ _ hm
  obtain ⟨z0, w0⟩ : ∃ zs, IsRow .u8 W a0 len0 cap0 zs := by
    obtain ⟨fuel, hf⟩ := h0
    rcases open_ints Try.underlying22 Try.underlying5 (by kernel_rfl) hf with ⟨hcs, _⟩ | ⟨x, l, c, zs, hcs, _, hl, hm, hz, _, hcell, hwz⟩
    · simp [Value.cells] at hcs
      obtain ⟨rfl, rfl, rfl⟩ := hcs
      exact ⟨[], .inl ⟨rfl, rfl, rfl, rfl⟩⟩
    · simp [Value.cells] at hcs
      obtain ⟨rfl, rfl, rfl⟩ := hcs
      exact ⟨zs, .inr ⟨_, rfl, hl, hm, by simpa using hz, hcell, hwz⟩⟩
  clear hA0 hval0
  refine (walk a0 len0 cap0 z0 W w0).mono fun e W' ⟨he, bel⟩ => ?_
  subst he
  exact ⟨_, rfl, _, _, _, [], _, [], hW', trodAll_mk1 (shut_bool Try.underlying4 _), (trodAll_cons_mk (Below.trod laidOut (by kernel_rfl) (of_decide_eq_true (by kernel_rfl)) k0 bel lt0) trodAll_mk0), rfl, bel.frame _, fun h => by cases h⟩

theorem over : Rows.fnNamesRow.holds Try.pinned (OpenSpec.ofChange Rows.fnNamesSpec) :=
  OpenClaim.holds_of_wide 4 Try.f4 rfl rfl rfl rfl rfl rfl rfl ⟨rfl, rfl, rfl, rfl, rfl⟩ rfl rfl rfl rfl rfl (by kernel_rfl) Try.func4 (by kernel_rfl)
    (of_decide_eq_true (by kernel_rfl)) (by unfold Func.isWrapper; first | (rw [if_pos (by decide +kernel)]; kernel_rfl) | (rw [if_neg (by decide +kernel)]; exact ⟨rfl, rfl⟩))
    (fun os started H enc _ => lifted os started H enc)

end Go.Proofs.Ytekjnfkmjmmcmab.fnNames
namespace Go.Proofs.Ytekjnfkmjmmcmab
theorem fnNames_holds : Rows.FnNamesSaid := fnNames.over
#print axioms fnNames_holds
end Go.Proofs.Ytekjnfkmjmmcmab
