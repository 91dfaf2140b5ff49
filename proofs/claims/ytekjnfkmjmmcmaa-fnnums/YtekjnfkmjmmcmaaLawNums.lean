/- For every slice of bytes the law FnNums returns true: a drawn number, or the nearest that is kept, comes back of its bytes, cut it does not, and a text comes back of its bytes; the argument reads afterwards as before. Conditions: none beyond the row's own. -/
import Derived.Test.YtekjnfkmjmmcmaaRows
import Derived.Test.YtekjnfkmjmmcmaaDrawNums
import Derived.Test.YtekjnfkmjmmcmaaBackM
import Derived.Test.YtekjnfkmjmmcmaaPutNumI
import Derived.Test.YtekjnfkmjmmcmaaGetNumI
import Derived.Test.YtekjnfkmjmmcmaaPutTextI
import Derived.Test.YtekjnfkmjmmcmaaGetTextI
import Derived.WalkKit
import Derived.ProofKit
import Derived.OpenShut
import Derived.ShutString
import Derived.ChangeOld
import Derived.Below
namespace Go.Proofs.Ytekjnfkmjmmcmaa.fnNums
open Go.ChangeShapes Go.WideShapes Go.ChangeAt Go.RowKit
open Go.ChangeMaps (open_string shut_string)
set_option linter.unusedVariables false

theorem own : ownKnob Try.prog.godebug = none := by kernel_rfl
theorem laidOut : laidOutB Try.prog = true := by kernel_rfl

open Wk

set_option maxHeartbeats 2000000 in
set_option maxRecDepth 100000 in
theorem walk (a0 : Option Addr) (len0 cap0 : Nat) (z0 : List Int) (w : World) (w0 : IsRow .u8 w a0 len0 cap0 z0) :
    Calls Try.prog 3 #[.slice a0 len0 cap0] w fun e w' => e = .returned (.bool true) ∧ Below w.heap.size w w' := by
  obtain ⟨l, rfl, hlc, hcm, hr⟩ := w0.rd
  clear w0
  by_cases hb : l.length ≤ 1048576
  · go_enter Try.func3, Try.ntmps3
    go_wp2_with (go_at_call 5; go_in)
    go_wp2_with fail
    refine (drawPutNum a0 cap0 l _ hb hr).mono ?_
    rintro e w1 ⟨v, r, n, rfl, hr9, hs1, hb1⟩
    obtain ⟨g, cp, rfl, hq1, hq2, hq3, hq4⟩ := hs1.shape
    have hN := Mt.clamp_le n
    have hE := Mt.enc_len (Mt.clamp n)
    have hP1 : (r ++ Mt.enc (Mt.clamp n)).length ≤ 14 := by rw [List.length_append]; omega
    have hP0 : r.length < (r ++ Mt.enc (Mt.clamp n)).length := by rw [List.length_append]; omega
    have HG : Hid (Mt.getNum (r ++ Mt.enc (Mt.clamp n)) (r.length : Int) = some (Mt.clamp n, (r ++ Mt.enc (Mt.clamp n)).length)) := by
      have := Mt.getNum_enc r [] (Mt.clamp n) hN
      rw [List.append_nil] at this; exact this
    have HC : Hid (Mt.getNum ((r ++ Mt.enc (Mt.clamp n)).take ((r ++ Mt.enc (Mt.clamp n)).length - 1)) (r.length : Int) = none) := by
      have := Mt.getNum_cut r (Mt.clamp n)
      rw [← Mt.dropLast_append r (Mt.enc (Mt.clamp n)) hE.1] at this; exact this
    go_wp2_with fail
    refine (implPutNum g 0 cp r n _ (by omega) (RdA.own hs1.1)).mono ?_
    rintro e w2 ⟨p, rfl, hp, hb2⟩
    have hc3 := Mt.clamp3 n
    generalize r ++ Mt.enc (Mt.clamp n) = P at HG HC hp hP1 hP0
    clear hE
    obtain ⟨gp, cpp, rfl, hp1, hp2, hp3, hp4⟩ := hp.shape (by omega)
    go_wp2_with fail
    refine (implGetNum _ cpp P _ _ (by omega) hp3 hp4 (RdA.own hp)).mono ?_
    rw [HG.out]
    rintro e w3 ⟨rfl, rfl⟩
    simp only [numV]
    generalize Mt.clamp n = N at hc3 hN
    unfold maxLen at hp4
    rcases hc3 with ⟨h, rfl⟩ | ⟨h, rfl⟩ | ⟨h, h', rfl⟩
    all_goals
      go_wp2_with fail
      have hcut := implGetNum (some ⟨gp, 0, none⟩) cpp (P.take (P.length - 1)) (r.length : Int) w3 (by rw [List.length_take]; omega) (by rw [List.length_take]; omega) (by unfold maxLen; omega) ((RdA.own hp).take _)
      rw [List.length_take, Nat.min_eq_left (by omega), HC.out] at hcut
      refine hcut.mono ?_
      clear hcut
      rintro e w4 ⟨rfl, rfl⟩
      simp only [numV]
      have hbw2 : Below w.heap.size w w4 := hb1.trans (hb2.mono hb1.size)
      go_wp2_with fail
      refine (drawPutText a0 cap0 l _ hb (hr.below hbw2)).mono ?_
      rintro e w5 ⟨c, rc, t, rfl, hrc9, ht9, hs5, hb5⟩
      obtain ⟨gc, ccp, rfl, hc1, hc2, hc3, hc4⟩ := hs5.shape
      have hts : (⟨t.toArray⟩ : ByteArray).size = t.length := by simp [ByteArray.size]
      have hbw5 := hbw2.trans (hb5.mono hbw2.size)
      have HT : Hid (Mt.getText (putT rc ⟨t.toArray⟩) (rc.length : Int) = some (t, (putT rc ⟨t.toArray⟩).length)) := by
        have hcl : Mt.clamp ((⟨t.toArray⟩ : ByteArray).size : Int) = t.length := by
          rw [hts]; unfold Mt.clamp; rw [if_neg (by omega), if_neg (by omega)]; omega
        have := Mt.getText_enc rc t t.length (by omega) rfl
        show Mt.getText (putT rc ⟨t.toArray⟩) (rc.length : Int) = some (t, (putT rc ⟨t.toArray⟩).length)
        unfold putT
        rw [hcl]
        exact this
      have hQ := putT_len rc ⟨t.toArray⟩ (by omega) (by rw [hts]; omega)
      obtain ⟨hQ1, hQ0⟩ := hQ
      go_wp2_with fail
      refine (implPutText gc 0 ccp rc ⟨t.toArray⟩ _ (by omega) (by rw [hts]; omega) (RdA.own hs5.1)).mono ?_
      clear hts
      rintro e w6 ⟨q, rfl, hq, hb6⟩
      have hbw6 := hbw5.trans (hb6.mono hbw5.size)
      have hQ2 : (putT rc ⟨t.toArray⟩).length ≤ 1048576 := by
        unfold putT
        have := Mt.enc_len (Mt.clamp ((⟨t.toArray⟩ : ByteArray).size : Int))
        rw [List.length_append, List.length_append]
        show rc.length + (Mt.enc (Mt.clamp ((⟨t.toArray⟩ : ByteArray).size : Int))).length + t.length ≤ _
        omega
      generalize putT rc ⟨t.toArray⟩ = Q at HT hq hQ1 hQ0 hQ2
      obtain ⟨gq, cq, rfl, hgq1, hgq2, hgq3, hgq4⟩ := hq.shape hQ0
      go_wp2_with fail
      refine (implGetText _ cq Q _ _ hQ2 hgq3 hgq4 (RdA.own hq)).mono ?_
      rw [HT.out]
      rintro e w7 ⟨rfl, rfl⟩
      simp only [textV]
      go_wp2
      go_ret
      exact ⟨rfl, hbw6⟩
  · go_enter Try.func3, Try.ntmps3
    unfold maxLen at hcm
    go_wp2_with (go_at_call 5; go_in)
    go_wp2
    go_ret
    exact ⟨rfl, Below.refl _ _⟩

set_option maxRecDepth 100000 in
theorem lifted (os : Os) (started : os.Started) (H : Type) (enc : TypeId × Value → H) :
    ReturnsInHanded {} Try.checked os 3 .any (Rows.fnNumsSpec.pre6 enc Try.prog Try.f3 Rows.fnNumsRow.domain false) (Rows.fnNumsSpec.post enc Try.prog Try.f3 false true false false) := by
  refine returnsInHanded_of_change (C := Try.checked) own started (by kernel_rfl) Try.func3
    (ChangeSpec.witness6 (enc := enc) (C := Try.checked) false ⟨#[], #[.slice none 0 0], []⟩ 8 (by kernel_rfl) (by kernel_rfl) (by kernel_rfl) (by kernel_rfl)) ?_
  intro W base args ds gs before hval0 hW hcnd _
  have hval : ∀ (j : Nat) t v, Try.f3.params[j]? = some t → args[j]? = some v → Value.okWide Try.prog W .any base t v := hval0
  have hW' := hW
  obtain ⟨p, q, hA0, hV, rfl, hfz, hnd⟩ := hW
  have hA : DataW.TrodAll enc Try.prog W 0 (fun _ => true) true Try.f3.params.toList args.toList ds p := hA0
  rw [Try.params3] at hA hval
  obtain ⟨v0, vs0, d0, ds0, p0, q0, hargs, rfl, rfl, h0, r0⟩ := trodAll_cons hA
  obtain ⟨rfl, rfl, rfl⟩ := trodAll_nil r0
  obtain rfl : args = #[v0] := by cases args; simp_all
  obtain ⟨rfl, rfl⟩ := trodVars_none hV
  obtain ⟨a0, len0, cap0, rfl⟩ := okWide_slice Try.underlying22 (hval 0 22 v0 rfl rfl)
  have k0 := h0
  have lt0 : ∀ x ∈ p0, x.block < W.heap.size := by obtain ⟨m, hm⟩ := k0; exact DataW.trod_lt m _ _ _ hm
  obtain ⟨z0, w0⟩ : ∃ zs, IsRow .u8 W a0 len0 cap0 zs := by
    obtain ⟨fuel, hf⟩ := h0
    rcases open_ints Try.underlying22 Try.underlying5 (by kernel_rfl) hf with ⟨hcs, _⟩ | ⟨x, l, c, zs, hcs, _, hl, hm, hz, _, hcell, hwz⟩
    · simp [Value.cells] at hcs
      obtain ⟨rfl, rfl, rfl⟩ := hcs
      exact ⟨[], .inl ⟨rfl, rfl, rfl, rfl⟩⟩
    · simp [Value.cells] at hcs
      obtain ⟨rfl, rfl, rfl⟩ := hcs
      exact ⟨zs, .inr ⟨_, rfl, hl, hm, by simpa using hz, hcell, hwz⟩⟩
  clear hA0 hval0
  refine (walk a0 len0 cap0 z0 W w0).mono fun e W' ⟨he, bel⟩ => ?_
  subst he
  exact ⟨_, rfl, _, _, _, [], _, [], hW', trodAll_mk1 (shut_bool Try.underlying4 _), (trodAll_cons_mk (Below.trod laidOut (by kernel_rfl) (of_decide_eq_true (by kernel_rfl)) k0 bel lt0) trodAll_mk0), rfl, bel.frame _, fun h => by cases h⟩

theorem over : Rows.fnNumsRow.holds Try.pinned (OpenSpec.ofChange Rows.fnNumsSpec) :=
  OpenClaim.holds_of_wide 3 Try.f3 rfl rfl rfl rfl rfl rfl rfl ⟨rfl, rfl, rfl, rfl, rfl⟩ rfl rfl rfl rfl rfl (by kernel_rfl) Try.func3 (by kernel_rfl)
    (of_decide_eq_true (by kernel_rfl)) (by unfold Func.isWrapper; first | (rw [if_pos (by decide +kernel)]; kernel_rfl) | (rw [if_neg (by decide +kernel)]; exact ⟨rfl, rfl⟩))
    (fun os started H enc _ => lifted os started H enc)

end Go.Proofs.Ytekjnfkmjmmcmaa.fnNums
namespace Go.Proofs.Ytekjnfkmjmmcmaa
theorem fnNums_holds : Rows.FnNumsSaid := fnNums.over
#print axioms fnNums_holds
end Go.Proofs.Ytekjnfkmjmmcmaa
