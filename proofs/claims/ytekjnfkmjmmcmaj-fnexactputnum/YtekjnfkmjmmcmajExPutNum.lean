/- For every slice of bytes and every int the law FnExactPutNum returns true: the program's PutNum answers as the specification's, in memory of its own, and its argument reads afterwards as before. Conditions: none beyond the row's own. -/
import Derived.Test.YtekjnfkmjmmcmajRows
import Derived.Test.YtekjnfkmjmmcmajByW
import Derived.Test.YtekjnfkmjmmcmajPutNumW
import Derived.Test.YtekjnfkmjmmcmajPutNumI
import Derived.WalkKit
import Derived.ProofKit
import Derived.OpenShut
import Derived.ShutString
import Derived.ChangeOld
import Derived.Below
namespace Go.Proofs.Ytekjnfkmjmmcmaj.fnExactPutNum
open Go.ChangeShapes Go.WideShapes Go.ChangeAt Go.RowKit
open Go.ChangeMaps (open_string shut_string)
set_option linter.unusedVariables false

theorem own : ownKnob Try.prog.godebug = none := by kernel_rfl
theorem laidOut : laidOutB Try.prog = true := by kernel_rfl

open Wk

theorem walk (a0 : Option Addr) (len0 cap0 : Nat) (z0 : List Int) (a1 : Int) (w : World) (w0 : IsRow .u8 w a0 len0 cap0 z0) (w1 : (Lit.int .i64 a1).wf = true) :
    Calls Try.prog 3 #[.slice a0 len0 cap0, .int .i64 a1] w fun e w' => e = .returned (.bool true) ∧ Below w.heap.size w w' := by
  obtain ⟨l, rfl, hlc, hcm, hr⟩ := w0.rd
  clear w0
  by_cases hb : l.length ≤ 1048576
  · have hlen : (l ++ Mt.enc (Mt.clamp a1)).length ≤ 1048581 ∧ 0 < (l ++ Mt.enc (Mt.clamp a1)).length := by
      have := Mt.enc_len (Mt.clamp a1); rw [List.length_append]; omega
    obtain ⟨hL1, hL0⟩ := hlen
    obtain ⟨L, HL⟩ : ∃ L, Hid (l ++ Mt.enc (Mt.clamp a1) = L) := ⟨_, rfl⟩
    rw [HL.out] at hL1 hL0
    go_enter Try.func3, Try.ntmps3
    go_wp2_with fail
    refine (toByteS a0 cap0 l _ hb hr).mono ?_
    rintro e w1 ⟨rfl, ho1, hb1⟩
    go_wp2_with fail
    refine (specPutNum _ _ _ l a1 _ hb (RdA.own ho1)).mono ?_
    rw [HL.out]
    rintro e w2 ⟨v, rfl, hv, hb2⟩
    obtain ⟨gv, cv, rfl, hgv1, hgv2, hcv1, hcv2⟩ := hv.shape hL0
    have hbw2 : Below w.heap.size w w2 := hb1.trans (hb2.mono hb1.size)
    clear ho1
    go_wp2_with fail
    refine (toByteS a0 cap0 l _ hb (hr.below hbw2)).mono ?_
    rintro e w3 ⟨rfl, hx, hb3⟩
    go_wp2_with fail
    refine (implPutNum _ _ _ l a1 _ (by omega) (RdA.own hx)).mono ?_
    rw [HL.out]
    rintro e w4 ⟨u, rfl, hu, hb4⟩
    obtain ⟨gu, cu, rfl, hgu1, hgu2, hcu1, hcu2⟩ := hu.shape hL0
    have hv4 : OwnB w4 w.heap.size (.slice (some ⟨gv, 0, none⟩) L.length cv) L := ownBelow (ownBelow (ownBase hv hb1.size) hb3) hb4
    have hx4 := ownBelow hx hb4
    have hbw4 : Below w.heap.size w w4 := (hbw2.trans (hb3.mono hbw2.size)).trans (hb4.mono (Nat.le_trans hbw2.size hb3.size))
    have hs3 := hb3.size
    have hs2 := hbw2.size
    have hs1 := hb1.size
    have hX3 : w2.heap.size < w3.heap.size := (World.ownsRow.lt hx w2.heap.size rfl).2
    go_wp2_with fail
    refine (eqByteS _ _ _ _ L _ (by omega) (RdA.own hu) (RdA.own hv4)).mono ?_
    rintro e w5 ⟨rfl, n5, rfl⟩
    go_wp2_with fail
    refine (toByteS a0 cap0 l _ hb (hr.below (belowDrewN hbw4 n5))).mono ?_
    rintro e w6 ⟨rfl, ho6, hb6⟩
    go_wp2_with fail
    refine (eqByteS _ _ _ _ l _ (by omega) (RdA.own (ownBelow (ownDrewN hx4 n5) hb6)) (RdA.own ho6)).mono ?_
    rintro e w7 ⟨rfl, n7, rfl⟩
    have hv7 := ownDrewN (ownBelow (ownDrewN hv4 n5) hb6) n7
    have hu7 := ownDrewN (ownBelow (ownDrewN hu n5) hb6) n7
    have hx7 := ownDrewN (ownBelow (ownDrewN hx4 n5) hb6) n7
    have hbw7 : Below w.heap.size w (w6.drewN n7) := belowDrewN ((belowDrewN hbw4 n5).trans (hb6.mono hbw4.size)) n7
    clear hv4 hx4 hu hx hv ho6 hb6
    generalize w6.drewN n7 = W7 at *
    go_wp2_with fail
    refine (markByteS _ _ _ _ 1 _ _ (by omega) (by omega) hx7).mono ?_
    rintro e w8 ⟨rfl, hx8, hg8⟩
    have hv8 := World.ownsRow.kept hv7 hg8 (.inr (by simp [Value.ownBlock]; omega))
    have hu8 := World.ownsRow.kept hu7 hg8 (.inr (by simp [Value.ownBlock]; omega))
    have hbw8 := belowGrown hbw7 hg8 hs2 hbw7.size
    go_wp2_with fail
    refine (eqByteS _ _ _ _ L _ (by omega) (RdA.own hu8) (RdA.own hv8)).mono ?_
    rintro e w9 ⟨rfl, n9, rfl⟩
    have hv9 := ownDrewN hv8 n9
    have hu9 := ownDrewN hu8 n9
    have hbw9 := belowDrewN hbw8 n9
    clear hv8 hu8 hx8 hg8 hv7 hu7 hx7 hbw8 hbw7
    generalize w8.drewN n9 = W9 at *
    go_wp2_with fail
    refine (markByteS _ _ _ _ 1 _ _ (by omega) (by omega) hu9).mono ?_
    rintro e w10 ⟨rfl, hu10, hg10⟩
    have hv10 := World.ownsRow.kept hv9 hg10 (.inr (by simp [Value.ownBlock]; omega))
    have hbw10 := belowGrown hbw9 hg10 (by omega) hbw9.size
    go_wp2_with fail
    refine (heldByteS _ _ _ _ 1 _ (by omega) (by omega) hu10).mono ?_
    rintro e w11 ⟨rfl, rfl⟩
    go_wp2_with fail
    refine (toByteS a0 cap0 l _ hb (hr.below hbw10)).mono ?_
    rintro e w12 ⟨rfl, ho12, hb12⟩
    go_wp2_with fail
    refine (implPutNum _ _ _ l a1 _ (by omega) (RdA.own ho12)).mono ?_
    rw [HL.out]
    rintro e w13 ⟨t, rfl, ht, hb13⟩
    obtain ⟨gt, ct, rfl, hgt1, hgt2, hct1, hct2⟩ := ht.shape hL0
    have hv13 := ownBelow (ownBelow hv10 hb12) hb13
    have hu13 := ownBelow (ownBelow hu10 hb12) hb13
    have hbw12 := hbw10.trans (hb12.mono hbw10.size)
    have hbw13 := hbw12.trans (hb13.mono hbw12.size)
    go_wp2_with fail
    refine (eqByteS _ _ _ _ L _ (by omega) (RdA.own ht) (RdA.own hv13)).mono ?_
    rintro e w14 ⟨rfl, n14, rfl⟩
    go_wp2_with fail
    refine (heldByteS _ _ _ _ 1 _ (by omega) (by omega) (ownDrewN hu13 n14)).mono ?_
    rintro e w15 ⟨rfl, rfl⟩
    go_wp2
    go_ret
    exact ⟨rfl, belowDrewN hbw13 n14⟩
  · go_enter Try.func3, Try.ntmps3
    unfold maxLen at hcm
    go_wp2
    go_ret
    exact ⟨rfl, Below.refl _ _⟩

set_option maxRecDepth 100000 in
theorem lifted (os : Os) (started : os.Started) (H : Type) (enc : TypeId × Value → H) :
    ReturnsInHanded {} Try.checked os 3 .any (Rows.fnExactPutNumSpec.pre6 enc Try.prog Try.f3 Rows.fnExactPutNumRow.domain false) (Rows.fnExactPutNumSpec.post enc Try.prog Try.f3 false true false false) := by
  refine returnsInHanded_of_change (C := Try.checked) own started (by kernel_rfl) Try.func3
    (ChangeSpec.witness6 (enc := enc) (C := Try.checked) false ⟨#[], #[.slice none 0 0, .int .i64 0], []⟩ 8 (by kernel_rfl) (by kernel_rfl) (by kernel_rfl) (by kernel_rfl)) ?_
  intro W base args ds gs before hval0 hW hcnd _
  have hval : ∀ (j : Nat) t v, Try.f3.params[j]? = some t → args[j]? = some v → Value.okWide Try.prog W .any base t v := hval0
  have hW' := hW
  obtain ⟨p, q, hA0, hV, rfl, hfz, hnd⟩ := hW
  have hA : DataW.TrodAll enc Try.prog W 0 (fun _ => true) true Try.f3.params.toList args.toList ds p := hA0
  rw [Try.params3] at hA hval
  obtain ⟨v0, vs0, d0, ds0, p0, q0, hargs, rfl, rfl, h0, r0⟩ := trodAll_cons hA
  obtain ⟨v1, vs1, d1, ds1, p1, q1, rfl, rfl, rfl, h1, r1⟩ := trodAll_cons r0
  obtain ⟨rfl, rfl, rfl⟩ := trodAll_nil r1
  obtain rfl : args = #[v0, v1] := by cases args; simp_all
  obtain ⟨rfl, rfl⟩ := trodVars_none hV
  obtain ⟨a0, len0, cap0, rfl⟩ := okWide_slice Try.underlying22 (hval 0 22 v0 rfl rfl)
  have k0 := h0
  have lt0 : ∀ x ∈ p0, x.block < W.heap.size := by obtain ⟨m, hm⟩ := k0; exact DataW.trod_lt m _ _ _ hm
  obtain ⟨z0, w0⟩ : ∃ zs, IsRow .u8 W a0 len0 cap0 zs := by
    obtain ⟨fuel, hf⟩ := h0
    rcases open_ints Try.underlying22 Try.underlying5 (by kernel_rfl) hf with ⟨hcs, _⟩ | ⟨x, l, c, zs, hcs, _, hl, hm, hz, _, hcell, hwz⟩
    · simp [Value.cells] at hcs
      obtain ⟨rfl, rfl, rfl⟩ := hcs
      exact ⟨[], .inl ⟨rfl, rfl, rfl, rfl⟩⟩
    · simp [Value.cells] at hcs
      obtain ⟨rfl, rfl, rfl⟩ := hcs
      exact ⟨zs, .inr ⟨_, rfl, hl, hm, by simpa using hz, hcell, hwz⟩⟩
  obtain ⟨a1, rfl, rfl, rfl, w1⟩ := open_int Try.underlying3 (hval 1 3 v1 rfl rfl) h1
  clear hA0 hval0
  refine (walk a0 len0 cap0 z0 a1 W w0 w1).mono fun e W' ⟨he, bel⟩ => ?_
  subst he
  exact ⟨_, rfl, _, _, _, [], _, [], hW', trodAll_mk1 (shut_bool Try.underlying4 _), (trodAll_cons_mk (Below.trod laidOut (by kernel_rfl) (of_decide_eq_true (by kernel_rfl)) k0 bel lt0) (trodAll_cons_mk (shut_int Try.underlying3 w1) trodAll_mk0)), rfl, bel.frame _, fun h => by cases h⟩

theorem over : Rows.fnExactPutNumRow.holds Try.pinned (OpenSpec.ofChange Rows.fnExactPutNumSpec) :=
  OpenClaim.holds_of_wide 3 Try.f3 rfl rfl rfl rfl rfl rfl rfl ⟨rfl, rfl, rfl, rfl, rfl⟩ rfl rfl rfl rfl rfl (by kernel_rfl) Try.func3 (by kernel_rfl)
    (of_decide_eq_true (by kernel_rfl)) (by unfold Func.isWrapper; first | (rw [if_pos (by decide +kernel)]; kernel_rfl) | (rw [if_neg (by decide +kernel)]; exact ⟨rfl, rfl⟩))
    (fun os started H enc _ => lifted os started H enc)

end Go.Proofs.Ytekjnfkmjmmcmaj.fnExactPutNum
namespace Go.Proofs.Ytekjnfkmjmmcmaj
theorem fnExactPutNum_holds : Rows.FnExactPutNumSaid := fnExactPutNum.over
#print axioms fnExactPutNum_holds
end Go.Proofs.Ytekjnfkmjmmcmaj
