/- For every slice of bytes the law FnSums returns true: with one bit turned drawn bytes have another sum and another hash, and both are as the specification's; the argument reads afterwards as before. Conditions: none beyond the row's own. -/
import Derived.Test.YtekjnfkmjmmcmaaRows
import Derived.Test.YtekjnfkmjmmcmaaDrawNums
import Derived.Test.YtekjnfkmjmmcmaaSumM
import Derived.Test.YtekjnfkmjmmcmaaAtW
import Derived.Test.YtekjnfkmjmmcmaaHashW
import Derived.Test.YtekjnfkmjmmcmaaCrcW
import Derived.WalkKit
import Derived.ProofKit
import Derived.OpenShut
import Derived.ShutString
import Derived.ChangeOld
import Derived.Below
namespace Go.Proofs.Ytekjnfkmjmmcmaa.fnSums
open Go.ChangeShapes Go.WideShapes Go.ChangeAt Go.RowKit
open Go.ChangeMaps (open_string shut_string)
set_option linter.unusedVariables false

theorem own : ownKnob Try.prog.godebug = none := by kernel_rfl
theorem laidOut : laidOutB Try.prog = true := by kernel_rfl

open Wk

set_option maxHeartbeats 2000000 in
set_option maxRecDepth 100000 in
theorem walk (a0 : Option Addr) (len0 cap0 : Nat) (z0 : List Int) (w : World) (w0 : IsRow .u8 w a0 len0 cap0 z0) :
    Calls Try.prog 4 #[.slice a0 len0 cap0] w fun e w' => e = .returned (.bool true) ∧ Below w.heap.size w w' := by
  obtain ⟨l, rfl, hlc, hcm, hr⟩ := w0.rd
  clear w0
  obtain ⟨i0, hi, hz0, hz1, hz2⟩ := info_parts Try.info5
  by_cases hb : l.length ≤ 1048576
  · go_enter Try.func4, Try.ntmps4
    go_wp2_with (go_at_call 5; go_in)
    go_wp2_with fail
    refine (drawCrc a0 cap0 l _ hb hr).mono ?_
    rintro e w1 ⟨v, r, rfl, hr9, hs1, hb1⟩
    have hsz1 := hb1.size
    go_wp2_with (first | (at_builtin; refine wpList_append_own _ rfl (.tmp 10) (.tmp 11) 22 rfl w.heap.size 5 i0 (.int .u8 0) 1 1 Try.underlying22 hi hz0 hz1 hz2 rfl (by decide) v _ _ rfl (World.ownsRow.alloc hs1.1 _) ⟨_, 0, none⟩ 1 1 [.int .u8 7] rfl rfl one_at one_one (by unfold maxLen; omega) (by omega) (by simp; omega) ?_; intro v2 w2 hown2 hgrow2 hnil2) | fail)
    have hb2 : Below w.heap.size w w2 := below_own hb1 hsz1 hs1.1 hgrow2
    have ho2 : OwnB w2 w.heap.size v2 (r ++ [7]) := OwnB.snoc (c := 7) rfl hown2
    have hlen : (r ++ [7]).length = r.length + 1 := by simp
    have hL0 : 0 < (r ++ [(7 : UInt8)]).length := by omega
    have hL1 : (r ++ [(7 : UInt8)]).length ≤ 10 := by omega
    clear hlen hown2 hgrow2 hnil2
    generalize r ++ [(7 : UInt8)] = L at ho2 hL0 hL1
    obtain ⟨g, cp, rfl, hq1, hq2, hq3, hq4⟩ := ho2.shape hL0
    have hx2 := atV_le l 2
    have hx3 := atV_le l 3
    go_wp2_with fail
    refine (atC a0 cap0 2 l _ hb (by omega) (by omega) (hr.below hb2)).mono ?_
    rintro e w3 ⟨rfl, rfl⟩
    generalize atV l 2 = x2 at hx2
    obtain ⟨hx20, hx21⟩ := hx2
    obtain ⟨k, hk⟩ : ∃ k : Nat, x2 % (L.length : Int) = (k : Int) := ⟨(x2 % (L.length : Int)).toNat, by have := Int.emod_nonneg x2 (show (L.length : Int) ≠ 0 by omega); omega⟩
    have hkL : k < L.length := by have := Int.emod_lt_of_pos x2 (show 0 < (L.length : Int) by omega); omega
    have hown1 : (w3.alloc (.cells #[] 5)).ownsRow w3.heap.size 5 1 (.slice (some ⟨w3.heap.size, 0, none⟩) 0 0) 0 [] := World.ownsRow_made w3 #[] 0 (Nat.le_refl _) (Nat.zero_le _) rfl
    have hr1 : RdA (w3.alloc (.cells #[] 5)) (some ⟨g, 0, none⟩) L := (RdA.own ho2).below ((Below.refl _ _).alloc (Nat.le_refl _) _)
    go_wp2_with (first | (at_builtin; refine wpList_append_own _ rfl (.tmp 18) (.tmp 19) 22 rfl w3.heap.size 5 i0 (.int .u8 0) 1 1 Try.underlying22 hi hz0 hz1 hz2 rfl (by decide) (.slice (some ⟨w3.heap.size, 0, none⟩) 0 0) 0 [] rfl hown1 ⟨g, 0, none⟩ L.length cp (By L) rfl (by simp [By_length]) hr1.news (By_one L) (by unfold maxLen; omega) (by omega) (by simp) ?_; intro xv w4 hown4 hgrow4 hnil4) | fail)
    have hb4 : Below w.heap.size w w4 := hb2.trans ((((Below.refl _ _).alloc (Nat.le_refl _) _).grown hgrow4 (by simp) (fun j hj => (hown1.lt j hj).1)).mono hb2.size)
    have hb34 : Below w3.heap.size w3 w4 := ((Below.refl _ _).alloc (Nat.le_refl _) _).grown hgrow4 (by simp) (fun j hj => (hown1.lt j hj).1)
    have ho4 : OwnB w4 w3.heap.size xv L := OwnB.all hown4
    have hL4 := ownBelow ho2 hb34
    have hrd4 := hr.below hb4
    clear hown4 hgrow4 hnil4 hown1 hr1 hk
    obtain ⟨gx, cx, rfl, hgx1, hgx2, hgx3, hgx4⟩ := ho4.shape hL0
    have hcx : w4.cell? ⟨gx, k, none⟩ = some (.int .u8 (L[k].toNat : Int)) := by rw [World.ownsRow.cellAt ho4 k (by omega)]; exact By_get L k hkL
    have hfx := World.ownsRow.frozenAt ho4 k
    obtain ⟨y, HY, hyne⟩ : ∃ y : UInt8, Hid (bits .xor .u8 (L[k].toNat : Int) (IntKind.u8.wrap (2 ^ min (IntKind.u64.wrap ((atV l 3).tmod 8)).toNat 8)) = (y.toNat : Int)) ∧ y ≠ L[k] := Mt.turned L[k] (atV l 3) hx3.1 hx3.2
    have hcne := Mt.crcN_set L k hkL y hyne
    have hhne := Mt.hashN_set L k hkL y hyne
    have hhl := Mt.hashN_lt L
    have hst := World.ownsRow.stored ho4 k (.int .u8 (y.toNat : Int))
    rw [By_set] at hst
    obtain ⟨hX5, hg5⟩ := hst
    have hL5 := World.ownsRow.kept hL4 hg5 (.inr (by simp [Value.ownBlock]; omega))
    have hb5 := belowGrown hb4 hg5 (by have := hb2.size; omega) hb4.size
    have hlen' : (L.set k y).length = L.length := List.length_set
    have HX5 : Hid ((w4.setCell ⟨gx, k, none⟩ (.int .u8 (y.toNat : Int))).ownsRow w3.heap.size 5 1 (.slice (some ⟨gx, 0, none⟩) (L.set k y).length cx) (L.set k y).length (By (L.set k y))) := by rw [hlen']; exact hX5
    have HL5 : Hid ((w4.setCell ⟨gx, k, none⟩ (.int .u8 (y.toNat : Int))).ownsRow w.heap.size 5 1 (.slice (some ⟨g, 0, none⟩) L.length cp) L.length (By L)) := hL5
    have HB5 : Hid (Below w.heap.size w (w4.setCell ⟨gx, k, none⟩ (.int .u8 (y.toNat : Int)))) := hb5
    have HLen : Hid ((L.set k y).length = L.length) := hlen'
    clear hlen' hX5 hL5 hb5 hg5 hL4 ho2
    go_region_with (go_at_call 13; refine (atC a0 cap0 3 l _ hb (by omega) (by omega) (by exact hrd4)).mono ?_; rintro e w5 ⟨rfl, rfl⟩)
    all_goals
      rw [HY.out]
      clear HY hcx hfx ho4 hrd4 hb34 hb4
      have hX6 := HX5.out
      have hL6 := HL5.out
      have hb6 := HB5.out
      generalize hW : (w4.setCell ⟨gx, k, none⟩ (.int .u8 (y.toNat : Int))).drew = W5
      replace hX6 : W5.ownsRow w3.heap.size 5 1 (.slice (some ⟨gx, 0, none⟩) (L.set k y).length cx) (L.set k y).length (By (L.set k y)) := by rw [← hW]; exact hX6
      replace hL6 : W5.ownsRow w.heap.size 5 1 (.slice (some ⟨g, 0, none⟩) L.length cp) L.length (By L) := by rw [← hW]; exact hL6
      replace hb6 : Below w.heap.size w W5 := by rw [← hW]; exact hb6.drew
      clear hW HX5 HL5 HB5
      have hh1 := implHash ⟨L.toArray⟩ W5 (by show L.length ≤ _; omega)
      have hh2 := specHash ⟨L.toArray⟩
      have hh3 := implHash ⟨(L.set k y).toArray⟩
      have hsz' : (⟨(L.set k y).toArray⟩ : ByteArray).size ≤ 1048576 := by show (L.set k y).length ≤ _; rw [HLen.out]; omega
      simp only at hh1 hh2 hh3
      generalize L.set k y = M at hcne hhne hX6 HLen hh3 hsz'
      have hcv5 := convOwn (cp := cp) (RdA.own hL6) (by simp)
      go_wp2_with fail
      refine hh1.mono ?_
      rintro e w6 ⟨rfl, -, hb7⟩
      clear hh1 hcv5
      have hL7 := ownBelow hL6 hb7
      have hX7 := ownBelow hX6 hb7
      have hbw7 := hb6.trans (hb7.mono hb6.size)
      go_wp2_with fail
      refine (implCrc _ cp L _ (by omega) (RdA.own hL7)).mono ?_
      rintro e w8 ⟨rfl, hb8⟩
      have hL8 := ownBelow hL7 hb8
      have hX8 := ownBelow hX7 hb8
      have hbw8 := hbw7.trans (hb8.mono hbw7.size)
      have hcx8 := implCrc _ cx M _ (by rw [HLen.out]; omega) (RdA.own hX8)
      rw [HLen.out] at hcx8
      go_wp2_with fail
      refine hcx8.mono ?_
      clear hcx8
      rintro e w9 ⟨rfl, hb9⟩
      have hL9 := ownBelow hL8 hb9
      have hX9 := ownBelow hX8 hb9
      have hbw9 := hbw8.trans (hb9.mono hbw8.size)
      have hne1 : (((Mt.crcN L : Nat) : Int) == ((Mt.crcN M : Nat) : Int)) = false := by rw [beq_eq_false_iff_ne]; omega
      clear hL6 hX6 hL7 hX7 hL8 hX8
      go_wp2_with fail
      refine (implCrc _ cp L _ (by omega) (RdA.own hL9)).mono ?_
      rintro e w10 ⟨rfl, hb10⟩
      have hL10 := ownBelow hL9 hb10
      have hX10 := ownBelow hX9 hb10
      have hbw10 := hbw9.trans (hb10.mono hbw9.size)
      clear hL9 hX9
      go_wp2_with fail
      refine (specCrc _ cp L _ (by omega) (RdA.own hL10)).mono ?_
      rintro e w11 ⟨rfl, rfl⟩
      have hcv10 := convOwn (cp := cp) (RdA.own hL10) (by simp)
      have hcv11 := convOwn (cp := cx) (RdA.own hX10) (by simp)
      rw [HLen.out] at hcv11
      go_wp2_with fail
      refine (hh2 _ (by show L.length ≤ _; omega)).mono ?_
      rintro e w12 ⟨rfl, rfl⟩
      go_wp2_with fail
      refine (hh3 _ hsz').mono ?_
      rintro e w13 ⟨rfl, -, hb13⟩
      have hne2 : (((Mt.hashN M : Nat) : Int) == ((Mt.hashN L : Nat) : Int)) = false := by rw [beq_eq_false_iff_ne]; omega
      go_wp2
      go_ret
      have hT : ((((Mt.crcN L : Nat) : Int) != ((Mt.crcN M : Nat) : Int)) && (((Mt.hashN M : Nat) : Int) != ((Mt.hashN L : Nat) : Int))) = true := by rw [bne, bne, hne1, hne2]; rfl
      exact ⟨congrArg (fun b => Ending.returned (Value.bool b)) hT, hbw10.trans (hb13.mono hbw10.size)⟩
  · go_enter Try.func4, Try.ntmps4
    unfold maxLen at hcm
    go_wp2_with (go_at_call 5; go_in)
    go_wp2
    go_ret
    exact ⟨rfl, Below.refl _ _⟩

set_option maxRecDepth 100000 in
theorem lifted (os : Os) (started : os.Started) (H : Type) (enc : TypeId × Value → H) :
    ReturnsInHanded {} Try.checked os 4 .any (Rows.fnSumsSpec.pre6 enc Try.prog Try.f4 Rows.fnSumsRow.domain false) (Rows.fnSumsSpec.post enc Try.prog Try.f4 false true false false) := by
  refine returnsInHanded_of_change (C := Try.checked) own started (by kernel_rfl) Try.func4
    (ChangeSpec.witness6 (enc := enc) (C := Try.checked) false ⟨#[], #[.slice none 0 0], []⟩ 8 (by kernel_rfl) (by kernel_rfl) (by kernel_rfl) (by kernel_rfl)) ?_
  intro W base args ds gs before hval0 hW hcnd _
  have hval : ∀ (j : Nat) t v, Try.f4.params[j]? = some t → args[j]? = some v → Value.okWide Try.prog W .any base t v := hval0
  have hW' := hW
  obtain ⟨p, q, hA0, hV, rfl, hfz, hnd⟩ := hW
  have hA : DataW.TrodAll enc Try.prog W 0 (fun _ => true) true Try.f4.params.toList args.toList ds p := hA0
  rw [Try.params4] at hA hval
  obtain ⟨v0, vs0, d0, ds0, p0, q0, hargs, rfl, rfl, h0, r0⟩ := trodAll_cons hA
  obtain ⟨rfl, rfl, rfl⟩ := trodAll_nil r0
  obtain rfl : args = #[v0] := by cases args; simp_all
  obtain ⟨rfl, rfl⟩ := trodVars_none hV
  obtain ⟨a0, len0, cap0, rfl⟩ := okWide_slice Try.underlying22 (hval 0 22 v0 rfl rfl)
  have k0 := h0
  have lt0 : ∀ x ∈ p0, x.block < W.heap.size := by obtain ⟨m, hm⟩ := k0; exact DataW.trod_lt m _ _ _ hm
  obtain ⟨z0, w0⟩ : ∃ zs, IsRow .u8 W a0 len0 cap0 zs := by
    obtain ⟨fuel, hf⟩ := h0
    rcases open_ints Try.underlying22 Try.underlying5 (by kernel_rfl) hf with ⟨hcs, _⟩ | ⟨x, l, c, zs, hcs, _, hl, hm, hz, _, hcell, hwz⟩
    · simp [Value.cells] at hcs
      obtain ⟨rfl, rfl, rfl⟩ := hcs
      exact ⟨[], .inl ⟨rfl, rfl, rfl, rfl⟩⟩
    · simp [Value.cells] at hcs
      obtain ⟨rfl, rfl, rfl⟩ := hcs
      exact ⟨zs, .inr ⟨_, rfl, hl, hm, by simpa using hz, hcell, hwz⟩⟩
  clear hA0 hval0
  refine (walk a0 len0 cap0 z0 W w0).mono fun e W' ⟨he, bel⟩ => ?_
  subst he
  exact ⟨_, rfl, _, _, _, [], _, [], hW', trodAll_mk1 (shut_bool Try.underlying4 _), (trodAll_cons_mk (Below.trod laidOut (by kernel_rfl) (of_decide_eq_true (by kernel_rfl)) k0 bel lt0) trodAll_mk0), rfl, bel.frame _, fun h => by cases h⟩

theorem over : Rows.fnSumsRow.holds Try.pinned (OpenSpec.ofChange Rows.fnSumsSpec) :=
  OpenClaim.holds_of_wide 4 Try.f4 rfl rfl rfl rfl rfl rfl rfl ⟨rfl, rfl, rfl, rfl, rfl⟩ rfl rfl rfl rfl rfl (by kernel_rfl) Try.func4 (by kernel_rfl)
    (of_decide_eq_true (by kernel_rfl)) (by unfold Func.isWrapper; first | (rw [if_pos (by decide +kernel)]; kernel_rfl) | (rw [if_neg (by decide +kernel)]; exact ⟨rfl, rfl⟩))
    (fun os started H enc _ => lifted os started H enc)

end Go.Proofs.Ytekjnfkmjmmcmaa.fnSums
namespace Go.Proofs.Ytekjnfkmjmmcmaa
theorem fnSums_holds : Rows.FnSumsSaid := fnSums.over
#print axioms fnSums_holds
end Go.Proofs.Ytekjnfkmjmmcmaa
