/- For all bytes the law FnBeginnings returns true: each beginning of a drawn name that is right is one, but the empty one; nothing that was there is turned. Conditions: none beyond the row's own. -/
import Derived.Test.YtekjnfkmjmmcmaiRows
import Derived.Test.YtekjnfkmjmmcmaiNmS
import Derived.Test.YtekjnfkmjmmcmaiNmI
import Derived.Test.YtekjnfkmjmmcmaiNmB
import Derived.Test.YtekjnfkmjmmcmaiDrNm
import Derived.WalkKit
import Derived.ProofKit
import Derived.OpenShut
import Derived.ShutString
import Derived.ChangeOld
import Derived.Below
namespace Go.Proofs.Ytekjnfkmjmmcmai.fnBeginnings
open Go.ChangeShapes Go.WideShapes Go.ChangeAt Go.RowKit
open Go.ChangeMaps (open_string shut_string)
set_option linter.unusedVariables false

theorem own : ownKnob Try.prog.godebug = none := by kernel_rfl
theorem laidOut : laidOutB Try.prog = true := by kernel_rfl

open Wk

set_option maxHeartbeats 2000000 in
set_option maxRecDepth 100000 in
theorem walk (a0 : Option Addr) (len0 cap0 : Nat) (z0 : List Int) (w : World) (w0 : IsRow .u8 w a0 len0 cap0 z0) :
    Calls Try.prog 3 #[.slice a0 len0 cap0] w fun e w' => e = .returned (.bool true) ∧ Below w.heap.size w w' := by
  obtain ⟨l, rfl, hlc, hcm, hr⟩ := w0.rd
  clear w0
  by_cases hb : l.length ≤ 1048576
  · go_enter Try.func3, Try.ntmps3
    go_wp2_with (go_at_call 5; go_in)
    go_wp2_with fail
    refine (drawName a0 cap0 l _ hb hr).mono ?_
    rintro e w1 ⟨s, rfl, hs, hb1⟩
    have cI := fun w => implName s w (by omega)
    have cS := fun w => specName s w (by omega)
    have cN := fun w => implName ⟨#[]⟩ w (by decide)
    rw [Nm.name_nil] at cN
    have cB := fun w => implName (s ++ (⟨#[32]⟩ : ByteArray)) w (by rw [Nm.add_size]; show s.size + 1 ≤ 1048576; omega)
    rw [Nm.name_blank] at cB
    have hadd := Nm.addX s ⟨#[32]⟩ (by show s.size + 1 ≤ 1000; omega)
    generalize s ++ (⟨#[32]⟩ : ByteArray) = T at cB hadd
    have HP : Hid (Nm.name s.data.toList = true → ∀ k : Nat, 1 ≤ k → k ≤ s.size → ∀ w, Calls Try.prog 7 #[.string (s.extract 0 k)] w fun e w' => e = .returned (.bool true) ∧ Below w.heap.size w w') := by
      intro h k h1 hk w
      have := implName (s.extract 0 k) w (by rw [Nm.cut_size s k hk]; omega)
      rw [Nm.name_pre s k h h1 hk] at this
      exact this
    generalize Nm.name s.data.toList = K at cI cS HP
    go_wp2_with fail
    refine (cI _).mono ?_
    rintro e w2 ⟨rfl, hb2⟩
    go_wp2_with fail
    refine (cS _).mono ?_
    rintro e w3 ⟨rfl, rfl⟩
    have hB3 := behindN hb1 hb2
    clear hb1 hb2 cI cS hr hb hcm hlc
    cases K with
    | false =>
      clear HP
      go_wp2
      go_loopw [5] (fun i w' => i = .int .i64 1 ∧ Below w.heap.size w w') (fun _ _ => 0)
      case atStart => exact ⟨rfl, hB3⟩
      case round =>
        obtain ⟨rfl, hB⟩ := hrel
        clear hB3
        by_cases h1 : 1 ≤ s.size
        all_goals
          go_wp2_with (first | (go_at_call_of 7 (Value.string T); refine (cB _).mono ?_; rintro e w5 ⟨rfl, hb5⟩) | (go_at_call 7; refine (cN _).mono ?_; rintro e w4 ⟨rfl, hb4⟩))
          go_ret
          exact ⟨rfl, behindN (behindN hB hb4) hb5⟩
    | true =>
      have HQ := HP.out rfl
      clear HP
      go_wp2
      go_loopw [5] (fun i w' => ∃ k : Nat, 1 ≤ k ∧ k ≤ s.size + 1 ∧ i = .int .i64 k ∧ Below w.heap.size w w') (fun i _ => s.size + 1 - (intOf i).toNat)
      case atStart => exact ⟨1, by omega, by omega, rfl, hB3⟩
      case round =>
        obtain ⟨k, hk1, hk2, rfl, hB⟩ := hrel
        clear hB3
        by_cases hk : k ≤ s.size
        · have cP := HQ k hk1 hk
          clear HQ cN cB hadd
          go_wp2_with (go_at_call 7; refine (cP _).mono ?_; rintro e w4 ⟨rfl, hb4⟩)
          go_roundw
          case rel => exact ⟨k + 1, by omega, by omega, by go_num, behindN hB hb4⟩
          case measure => simp [intOf]; omega
        · clear HQ
          go_wp2_with (first | (go_at_call_of 7 (Value.string T); refine (cB _).mono ?_; rintro e w5 ⟨rfl, hb5⟩) | (go_at_call 7; refine (cN _).mono ?_; rintro e w4 ⟨rfl, hb4⟩))
          go_ret
          exact ⟨rfl, behindN (behindN hB hb4) hb5⟩
  · go_enter Try.func3, Try.ntmps3
    unfold maxLen at hcm
    go_wp2_with (go_at_call 5; go_in)
    go_wp2
    go_ret
    exact ⟨rfl, Below.refl _ _⟩

set_option maxRecDepth 100000 in
theorem lifted (os : Os) (started : os.Started) (H : Type) (enc : TypeId × Value → H) :
    ReturnsInHanded {} Try.checked os 3 .any (Rows.fnBeginningsSpec.pre6 enc Try.prog Try.f3 Rows.fnBeginningsRow.domain false) (Rows.fnBeginningsSpec.post enc Try.prog Try.f3 false true false false) := by
  refine returnsInHanded_of_change (C := Try.checked) own started (by kernel_rfl) Try.func3
    (ChangeSpec.witness6 (enc := enc) (C := Try.checked) false ⟨#[], #[.slice none 0 0], []⟩ 8 (by kernel_rfl) (by kernel_rfl) (by kernel_rfl) (by kernel_rfl)) ?_
  intro W base args ds gs before hval0 hW hcnd _
  have hval : ∀ (j : Nat) t v, Try.f3.params[j]? = some t → args[j]? = some v → Value.okWide Try.prog W .any base t v := hval0
  have hW' := hW
  obtain ⟨p, q, hA0, hV, rfl, hfz, hnd⟩ := hW
  have hA : DataW.TrodAll enc Try.prog W 0 (fun _ => true) true Try.f3.params.toList args.toList ds p := hA0
  rw [Try.params3] at hA hval
  obtain ⟨v0, vs0, d0, ds0, p0, q0, hargs, rfl, rfl, h0, r0⟩ := trodAll_cons hA
  obtain ⟨rfl, rfl, rfl⟩ := trodAll_nil r0
  obtain rfl : args = #[v0] := by cases args; simp_all
  obtain ⟨rfl, rfl⟩ := trodVars_none hV
  obtain ⟨a0, len0, cap0, rfl⟩ := okWide_slice Try.underlying22 (hval 0 22 v0 rfl rfl)
  have k0 := h0
  have lt0 : ∀ x ∈ p0, x.block < W.heap.size := by obtain ⟨m, hm⟩ := k0; exact DataW.trod_lt m _ _ _ hm
  obtain ⟨z0, w0⟩ : ∃ zs, IsRow .u8 W a0 len0 cap0 zs := by
    obtain ⟨fuel, hf⟩ := h0
    rcases open_ints Try.underlying22 Try.underlying5 (by kernel_rfl) hf with ⟨hcs, _⟩ | ⟨x, l, c, zs, hcs, _, hl, hm, hz, _, hcell, hwz⟩
    · simp [Value.cells] at hcs
      obtain ⟨rfl, rfl, rfl⟩ := hcs
      exact ⟨[], .inl ⟨rfl, rfl, rfl, rfl⟩⟩
    · simp [Value.cells] at hcs
      obtain ⟨rfl, rfl, rfl⟩ := hcs
      exact ⟨zs, .inr ⟨_, rfl, hl, hm, by simpa using hz, hcell, hwz⟩⟩
  clear hA0 hval0
  refine (walk a0 len0 cap0 z0 W w0).mono fun e W' ⟨he, bel⟩ => ?_
  subst he
  exact ⟨_, rfl, _, _, _, [], _, [], hW', trodAll_mk1 (shut_bool Try.underlying4 _), (trodAll_cons_mk (Below.trod laidOut (by kernel_rfl) (of_decide_eq_true (by kernel_rfl)) k0 bel lt0) trodAll_mk0), rfl, bel.frame _, fun h => by cases h⟩

theorem over : Rows.fnBeginningsRow.holds Try.pinned (OpenSpec.ofChange Rows.fnBeginningsSpec) :=
  OpenClaim.holds_of_wide 3 Try.f3 rfl rfl rfl rfl rfl rfl rfl ⟨rfl, rfl, rfl, rfl, rfl⟩ rfl rfl rfl rfl rfl (by kernel_rfl) Try.func3 (by kernel_rfl)
    (of_decide_eq_true (by kernel_rfl)) (by unfold Func.isWrapper; first | (rw [if_pos (by decide +kernel)]; kernel_rfl) | (rw [if_neg (by decide +kernel)]; exact ⟨rfl, rfl⟩))
    (fun os started H enc _ => lifted os started H enc)

end Go.Proofs.Ytekjnfkmjmmcmai.fnBeginnings
namespace Go.Proofs.Ytekjnfkmjmmcmai
theorem fnBeginnings_holds : Rows.FnBeginningsSaid := fnBeginnings.over
#print axioms fnBeginnings_holds
end Go.Proofs.Ytekjnfkmjmmcmai
