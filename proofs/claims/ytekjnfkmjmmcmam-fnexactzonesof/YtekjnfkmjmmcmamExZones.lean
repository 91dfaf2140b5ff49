/- For every list of devices the law FnExactZonesOf returns true: the program's ZonesOf answers as the specification's, its argument reads afterwards as before, and its answer is memory of its own that a later call leaves alone. Conditions: none beyond the row's own. -/
import Derived.Test.YtekjnfkmjmmcmamRows
import Derived.Test.YtekjnfkmjmmcmamToDvS
import Derived.Test.YtekjnfkmjmmcmamToDvO
import Derived.Test.YtekjnfkmjmmcmamEqDvS
import Derived.Test.YtekjnfkmjmmcmamZnS
import Derived.Test.YtekjnfkmjmmcmamZnQ
import Derived.Test.YtekjnfkmjmmcmamZnI
import Derived.Test.YtekjnfkmjmmcmamMkDv
import Derived.Test.YtekjnfkmjmmcmamOpDw
import Derived.WalkKit
import Derived.ProofKit
import Derived.OpenShut
import Derived.ShutString
import Derived.ChangeOld
import Derived.Below
namespace Go.Proofs.Ytekjnfkmjmmcmam.fnExactZonesOf
open Go.ChangeShapes Go.WideShapes Go.ChangeAt Go.RowKit
open Go.ChangeMaps (open_string shut_string)
set_option linter.unusedVariables false

theorem own : ownKnob Try.prog.godebug = none := by kernel_rfl
theorem laidOut : laidOutB Try.prog = true := by kernel_rfl

open Wk

theorem keptZ {w w' : World} {base n : Nat} {v : Value} {xs : List Value} {row : Option Nat} (h : w.ownsRow base 3 1 v n xs) (hg : w.grownBy w' row) (hne : ∀ j, v.ownBlock = some j → row ≠ some j) : w'.ownsRow base 3 1 v n xs :=
  h.kept hg (by
    cases hv : v.ownBlock with
    | none => exact .inl rfl
    | some j => exact .inr (fun e => hne j hv e.symm))

set_option maxHeartbeats 2000000 in
set_option maxRecDepth 100000 in
theorem walk (a0 : Option Addr) (len0 cap0 : Nat) (l : List Sm.St) (w : World) (w0 : IsDvz w a0 len0 cap0 l) :
    Calls Try.prog 6 #[.slice a0 len0 cap0] w fun e w' => e = .returned (.bool true) ∧ Below w.heap.size w w' := by
  obtain ⟨rfl, hm, hr, hwf⟩ := w0
  unfold maxLen at hm
  by_cases hb : l.length ≤ 1048576
  · go_enter Try.func6, Try.ntmps6
    go_wp2_with (go_at_call 9; go_in)
    go_wp2_with fail
    refine (toDvS a0 cap0 l _ hb hr).mono ?_
    rintro e w1 ⟨rfl, ho1, hb1⟩
    go_wp2_with fail
    refine (specZones _ _ l _ hb ho1).mono ?_
    rintro e w2 ⟨R, aS, cS, rfl, HS, hS, hb2⟩
    have hB2 := behind hb1 hb2
    have hRl : R.length ≤ 1048576 := Nat.le_trans HS.2.2 hb
    have hSlt : ∀ j, (Value.slice aS R.length cS).ownBlock = some j → j < w2.heap.size := fun j e => (World.ownsRow.lt hS j e).2
    go_wp2_with fail
    refine (toDvO a0 cap0 l _ hb (hr.below hB2)).mono ?_
    rintro e w3 ⟨rfl, ho3, ⟨xs, hx3⟩, hb3⟩
    have hB3 := behind hB2 hb3
    have hg3 : w2.heap.size < w3.heap.size := (World.ownsRow.lt hx3 w2.heap.size rfl).2
    go_wp2_with fail
    refine (implZones _ _ l _ hb ho3 hwf).mono ?_
    rintro e w4 ⟨R', aI, cI, rfl, HI, hI, hb4⟩
    have hE := HI.uniq HS
    subst hE
    have hB4 := behind hB3 hb4
    have hS4 := ownOn (ownOn hS hb3) hb4
    have hIge : ∀ j, (Value.slice aI R'.length cI).ownBlock = some j → w3.heap.size ≤ j := fun j e => (World.ownsRow.lt hI j e).1
    have HR : Hid (Dv.Zs l R') := HI
    clear HI HS
    go_wp2_with fail
    refine (eqZS _ _ _ _ R' _ hRl (Zv_rd hI) (Zv_rd hS4)).mono ?_
    rintro e w5 ⟨rfl, hb5⟩
    have hB5 := behind hB4 hb5
    go_wp2_with fail
    refine (toDvS a0 cap0 l _ hb (hr.below hB5)).mono ?_
    rintro e w6 ⟨rfl, ho6, hb6⟩
    have hB6 := behind hB5 hb6
    have hb46 := behind hb5 hb6
    go_wp2_with fail
    refine (eqDvS _ _ _ _ l _ hb ((ho3.below hb4).below hb46) ho6).mono ?_
    rintro e w7 ⟨rfl, hb7⟩
    have hB7 := behind hB6 hb7
    have hb47 := behind hb46 hb7
    have hI7 := ownOn hI hb47
    have hS7 := ownOn hS4 hb47
    have hx7 := ownOn (ownOn hx3 hb4) hb47
    clear hS4 ho1 ho3 ho6 hx3 hI hS
    go_wp2_with fail
    refine (markDvS _ _ _ _ 1 _ _ hb (by omega) hx7).mono ?_
    rintro e w8 ⟨rfl, -, hg8⟩
    have hI8 := keptZ hI7 hg8 (fun j e h => by have := hIge j e; simp only [Option.some.injEq] at h; omega)
    have hS8 := keptZ hS7 hg8 (fun j e h => by have := hSlt j e; simp only [Option.some.injEq] at h; omega)
    have hB8 : Below w.heap.size w w8 := hB7.grown hg8 hB7.size (fun j e => by cases e; exact hB2.size)
    clear hI7 hS7 hx7
    go_wp2_with fail
    refine (eqZS _ _ _ _ R' _ hRl (Zv_rd hI8) (Zv_rd hS8)).mono ?_
    rintro e w9 ⟨rfl, hb9⟩
    have hB9 := behind hB8 hb9
    have hI9 := ownOn hI8 hb9
    have hS9 := ownOn hS8 hb9
    clear hI8 hS8
    go_wp2_with fail
    refine (markZS _ _ _ 1 _ _ _ hRl (by omega) hI9).mono ?_
    rintro e w10 ⟨rfl, hI10, hg10⟩
    have hS10 := keptZ hS9 hg10 (fun j e h => by have := hSlt j e; have := hIge j h; omega)
    have hB10 : Below w.heap.size w w10 := hB9.grown hg10 hB9.size (fun j e => by have := hIge j e; have := hB3.size; omega)
    have hm10 : RdZ w10 aI (mkz 1 R'.length) := Zv_rd (by rw [mkz_len]; exact hI10)
    clear hI9 hS9 hI10
    go_wp2_with fail
    refine (heldZS _ _ _ 1 _ hRl (by omega) hm10).mono ?_
    rintro e _ ⟨rfl, rfl⟩
    have hq : ¬ ((1 : Int) + (R'.length : Int) < 0) := by omega
    go_wp2_with fail
    refine (toDvS a0 cap0 l _ hb (hr.below hB10)).mono ?_
    rintro e w11 ⟨rfl, ho11, hb11⟩
    have hB11 := behind hB10 hb11
    go_wp2_with fail
    refine (implZones _ _ l _ hb ho11 hwf).mono ?_
    rintro e w12 ⟨R2, aH, cH, rfl, HH, hH, hb12⟩
    have hE := HH.uniq HR.out
    subst hE
    have hB12 := behind hB11 hb12
    have hb1012 := behind hb11 hb12
    have hS12 := ownOn hS10 hb1012
    clear HH HR
    go_wp2_with fail
    refine (eqZS _ _ _ _ R2 _ hRl (Zv_rd hH) (Zv_rd hS12)).mono ?_
    rintro e w13 ⟨rfl, hb13⟩
    have hB13 := behind hB12 hb13
    go_wp2_with fail
    refine (heldZS _ _ _ 1 _ hRl (by omega) (hm10.below (behind hb1012 hb13))).mono ?_
    rintro e _ ⟨rfl, rfl⟩
    go_wp2
    go_ret
    exact ⟨rfl, hB13⟩
  · go_enter Try.func6, Try.ntmps6
    go_wp2_with (go_at_call 9; go_in)
    go_wp2
    go_ret
    exact ⟨rfl, Below.refl _ _⟩

set_option maxRecDepth 100000 in
theorem lifted (os : Os) (started : os.Started) (H : Type) (enc : TypeId × Value → H) :
    ReturnsInHanded {} Try.checked os 6 .any (Rows.fnExactZonesOfSpec.pre6 enc Try.prog Try.f6 Rows.fnExactZonesOfRow.domain false) (Rows.fnExactZonesOfSpec.post enc Try.prog Try.f6 false true false false) := by
  refine returnsInHanded_of_change (C := Try.checked) own started (by kernel_rfl) Try.func6
    (ChangeSpec.witness6 (enc := enc) (C := Try.checked) false ⟨#[], #[.slice none 0 0], []⟩ 8 (by kernel_rfl) (by kernel_rfl) (by kernel_rfl) (by kernel_rfl)) ?_
  intro W base args ds gs before hval0 hW hcnd _
  have hval : ∀ (j : Nat) t v, Try.f6.params[j]? = some t → args[j]? = some v → Value.okWide Try.prog W .any base t v := hval0
  have hW' := hW
  obtain ⟨p, q, hA0, hV, rfl, hfz, hnd⟩ := hW
  have hA : DataW.TrodAll enc Try.prog W 0 (fun _ => true) true Try.f6.params.toList args.toList ds p := hA0
  rw [Try.params6] at hA hval
  obtain ⟨v0, vs0, d0, ds0, p0, q0, hargs, rfl, rfl, h0, r0⟩ := trodAll_cons hA
  obtain ⟨rfl, rfl, rfl⟩ := trodAll_nil r0
  obtain rfl : args = #[v0] := by cases args; simp_all
  obtain ⟨rfl, rfl⟩ := trodVars_none hV
  obtain ⟨a0, len0, cap0, rfl⟩ := okWide_slice Try.underlying23 (hval 0 23 v0 rfl rfl)
  have k0 := h0
  have lt0 : ∀ x ∈ p0, x.block < W.heap.size := by obtain ⟨m, hm⟩ := k0; exact DataW.trod_lt m _ _ _ hm
  obtain ⟨z0, w0⟩ := openDvz h0
  clear hA0 hval0
  refine (walk a0 len0 cap0 z0 W w0).mono fun e W' ⟨he, bel⟩ => ?_
  subst he
  exact ⟨_, rfl, _, _, _, [], _, [], hW', trodAll_mk1 (shut_bool Try.underlying4 _), (trodAll_cons_mk (Below.trod laidOut (by kernel_rfl) (of_decide_eq_true (by kernel_rfl)) k0 bel lt0) trodAll_mk0), rfl, bel.frame _, fun h => by cases h⟩

theorem over : Rows.fnExactZonesOfRow.holds Try.pinned (OpenSpec.ofChange Rows.fnExactZonesOfSpec) :=
  OpenClaim.holds_of_wide 6 Try.f6 rfl rfl rfl rfl rfl rfl rfl ⟨rfl, rfl, rfl, rfl, rfl⟩ rfl rfl rfl rfl rfl (by kernel_rfl) Try.func6 (by kernel_rfl)
    (of_decide_eq_true (by kernel_rfl)) (by unfold Func.isWrapper; first | (rw [if_pos (by decide +kernel)]; kernel_rfl) | (rw [if_neg (by decide +kernel)]; exact ⟨rfl, rfl⟩))
    (fun os started H enc _ => lifted os started H enc)

end Go.Proofs.Ytekjnfkmjmmcmam.fnExactZonesOf
namespace Go.Proofs.Ytekjnfkmjmmcmam
theorem fnExactZonesOf_holds : Rows.FnExactZonesOfSaid := fnExactZonesOf.over
#print axioms fnExactZonesOf_holds
end Go.Proofs.Ytekjnfkmjmmcmam
