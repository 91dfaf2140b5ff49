/- For every slice of bytes the law FnBest returns true: the best device for a drawn part is the one that the specification names; of devices that are right it is one that the part has not, in a new zone if there is such a one, and none such has a lesser share; -1 only where the part has them all. Conditions: none beyond the row's own. -/
import Derived.Test.YtcejeiakgmamdacRows
import Derived.Test.YtcejeiakgmamdacBy
import Derived.Test.YtcejeiakgmamdacBsS
import Derived.Test.YtcejeiakgmamdacBsI
import Derived.Test.YtcejeiakgmamdacPzI
import Derived.Test.YtcejeiakgmamdacLdI
import Derived.Test.YtcejeiakgmamdacAtI
import Derived.Test.YtcejeiakgmamdacLwM
import Derived.Test.YtcejeiakgmamdacLgI
import Derived.Test.YtcejeiakgmamdacDrA
import Derived.Test.YtcejeiakgmamdacApZ
import Derived.Test.YtcejeiakgmamdacApF
import Derived.WalkKit
import Derived.ProofKit
import Derived.OpenShut
import Derived.ShutString
import Derived.ChangeOld
import Derived.Below
namespace Go.Proofs.Ytcejeiakgmamdac.fnBest
open Go.ChangeShapes Go.WideShapes Go.ChangeAt Go.RowKit
open Go.ChangeMaps (open_string shut_string)
set_option linter.unusedVariables false

theorem own : ownKnob Try.prog.godebug = none := by kernel_rfl
theorem laidOut : laidOutB Try.prog = true := by kernel_rfl

open Wk

theorem best_left {l : List Sm.St} (hd : Dv.devs l = true) (ps : List (List Int)) (p : List Int) (h : ¬ Rg.best ps p l = -1) : ∃ e ∈ l, e.1 ∉ p := by
  refine Classical.byContradiction fun hc => h ?_
  have h0 : (Rg.openL p (Rg.zns l p) l).length = 0 := by
    rcases Nat.eq_zero_or_pos (Rg.openL p (Rg.zns l p) l).length with h0 | h0
    · exact h0
    · obtain ⟨d, hm⟩ := List.exists_mem_of_length_pos h0
      have := Rg.open_mem hm
      exact absurd ⟨d, this.1, this.2⟩ hc
  rw [Rg.best_open ps p hd, Rg.lfold_nil h0]
theorem at_minus {l : List Sm.St} (hd : Dv.devs l = true) : Dv.at_ l (-1) = none := by
  cases h : Dv.at_ l (-1) with
  | none => rfl
  | some d =>
    obtain ⟨h1, h2⟩ := Rg.at_mem h
    have := (Rg.devs_weight hd h1).1
    omega
theorem keep5 {w w' : World} {a1 a2 a3 a4 a5 : Addr} {v1 v2 v3 v4 v5 : Value} (h : w.cell? a1 = some v1 ∧ w.cell? a2 = some v2 ∧ w.cell? a3 = some v3 ∧ w.cell? a4 = some v4 ∧ w.cell? a5 = some v5) (hb : Below w.heap.size w w') :
    w'.cell? a1 = some v1 ∧ w'.cell? a2 = some v2 ∧ w'.cell? a3 = some v3 ∧ w'.cell? a4 = some v4 ∧ w'.cell? a5 = some v5 :=
  ⟨by rw [hb.cell (World.block_lt_of_cell? w _ h.1)]; exact h.1, keepR4 h.2 hb⟩
theorem slD {w : World} {b : Nat} {v : Value} (h : Slot1 w b v) : Slot1 w.drew b v := h
theorem hasB (a : Option Addr) (cap : Nat) (R : List Int) (z : Int) (w : World) (hl : R.length ≤ 1048576) (hr : RdZ w a R) :
    Calls Try.prog 24 #[.slice a R.length cap, .int .i64 z] w fun e w' => e = .returned (.bool (decide (z ∈ R))) ∧ Below w.heap.size w w' :=
  (lawHas a cap R z w hl hr).mono fun e w' ⟨h1, h2⟩ => ⟨h1, h2 ▸ Below.refl _ _⟩

set_option maxHeartbeats 8000000 in
set_option maxRecDepth 100000 in
theorem walk (a0 : Option Addr) (len0 cap0 : Nat) (z0 : List Int) (w : World) (w0 : IsRow .u8 w a0 len0 cap0 z0) :
    Calls Try.prog 5 #[.slice a0 len0 cap0] w fun e w' => e = .returned (.bool true) ∧ Below w.heap.size w w' := by
  obtain ⟨l, rfl, hlc, hcm, hr⟩ := w0.rd
  clear w0
  by_cases hb : l.length ≤ 1048576
  · go_enter Try.func5, Try.ntmps5
    go_wp2_with (go_at_call 9; go_in)
    go_wp2_with fail
    refine (drawBest a0 cap0 l _ hb hr).mono ?_
    rintro e w1 ⟨X, g, cp, R, Q, a, ca, p, b, cb, rfl, hX6, hfew, ⟨hR0, hR6⟩, hQ16, hQ4, hp3, hX1, hP1, hZ1, hbc, hB1⟩
    have hwf : Hid (∀ d ∈ X, (Lit.int .i64 d.2.1).wf = true) := fun d hd => few_wf9 (hfew d hd)
    have ht4 := tot4 Q hQ4
    have htot : tot Q ≤ 1048576 := by omega
    clear hfew hr hlc hcm hQ4
    obtain ⟨D, hD⟩ : ∃ D, w1.heap.size = D := ⟨_, rfl⟩
    have s2 := (slot2New w1 (.int .i64 R) (.slice a Q.length ca) 29).below (bel1 _ (.cells #[.slice b p.length cb] 36))
    have q2 := slot1New (w1.alloc (.cells #[.int .i64 R, .slice a Q.length ca] 29)) (.slice b p.length cb) 36
    have b2 := bel2 w1 (.cells #[.int .i64 R, .slice a Q.length ca] 29) (.cells #[.slice b p.length cb] 36)
    rw [World.size_alloc, hD] at q2
    rw [hD] at s2
    have hX2 := hX1.below b2
    have hP2 := hP1.below b2
    have hZ2 := hZ1.below b2
    have hB2 := behind hB1 b2
    clear hX1 hP1 hZ1 hB1
    go_wp2_with fail
    generalize (w1.alloc (.cells #[.int .i64 R, .slice a Q.length ca] 29)).alloc (.cells #[.slice b p.length cb] 36) = wA at s2 q2 b2 hX2 hP2 hZ2 hB2 ⊢
    clear b2
    refine (implBest R a b (some ⟨g, 0, none⟩) ca cb cp Q p X wA (by omega) htot (by omega) (by omega) hP2 hZ2 hX2).mono ?_
    rintro e w3 ⟨rfl, hb3⟩
    have cS := specBest R a b (some ⟨g, 0, none⟩) ca cb cp Q p X w3 (by omega) htot (by omega) (by omega) (hP2.below hb3) (hZ2.below hb3) (hX2.below hb3)
    obtain ⟨x, hx⟩ : ∃ x, Rg.best Q p X = x := ⟨_, rfl⟩
    have HX : Hid (Rg.best Q p X = x) := hx
    rw [hx] at cS ⊢
    obtain ⟨⟨t0, t1⟩, -⟩ := s2.below hb3
    obtain ⟨t2, -⟩ := q2.below hb3
    go_wp2_with fail
    refine cS.mono ?_
    rintro e w4 ⟨rfl, hb4'⟩
    have hb4 := behind hb3 hb4'
    clear cS t0 t1 t2 hb3 hb4' hx
    have s4 := s2.below hb4
    have q4 := q2.below hb4
    have hX4 := hX2.below hb4
    have hP4 := hP2.below hb4
    have hZ4 := hZ2.below hb4
    have hB4 := behind hB2 hb4
    clear s2 q2 hX2 hP2 hZ2 hB2 hb4
    cases hK : Dv.devs X with
    | false =>
      have cD := specDevs (some ⟨g, 0, none⟩) cp X w4 (by omega) hX4
      rw [hK] at cD
      go_wp2_with fail
      refine cD.mono ?_
      rintro e w5 ⟨rfl, hb5⟩
      have cS := specBest R a b (some ⟨g, 0, none⟩) ca cb cp Q p X w5 (by omega) htot (by omega) (by omega) (hP4.below hb5) (hZ4.below hb5) (hX4.below hb5)
      rw [HX.out] at cS
      obtain ⟨⟨t0, t1⟩, -⟩ := s4.below hb5
      obtain ⟨t2, -⟩ := q4.below hb5
      have hB5 := behind hB4 hb5
      clear cD s4 q4 hX4 hP4 hZ4 hB4 hb5
      go_wp2_with fail
      refine cS.mono ?_
      rintro e w6 ⟨rfl, hb6⟩
      have hB6 := behind hB5 hb6
      clear cS t0 t1 t2
      go_wp2
      go_ret
      exact ⟨rfl, hB6⟩
    | true =>
      have cD := specDevs (some ⟨g, 0, none⟩) cp X w4 (by omega) hX4
      rw [hK] at cD
      go_wp2_with fail
      refine cD.mono ?_
      rintro e w5 ⟨rfl, hb5⟩
      have s5 := s4.below hb5
      have q5 := q4.below hb5
      have hX5 := hX4.below hb5
      have hP5 := hP4.below hb5
      have hZ5 := hZ4.below hb5
      have hB5 := behind hB4 hb5
      have cA := implAt (some ⟨g, 0, none⟩) cp X x w5 (by omega) hX5
      have HK : Hid (Dv.devs X = true) := hK
      clear cD s4 q4 hX4 hP4 hZ4 hB4 hb5 hK
      by_cases hm1 : x = -1
      · subst hm1
        rw [at_minus HK.out, show dvAtV none = .tuple #[.agg #[.int .i64 0, .int .i64 0, .int .i64 0], .bool false] from rfl] at cA
        have HM : Hid (∀ e ∈ X, e.1 ∈ p) := Rg.best_none HK.out Q p HX.out
        go_wp2_with fail
        refine cA.mono ?_
        rintro e w6 ⟨rfl, hb6⟩
        have b6 := behind hb6 (bel1 w6 (.cells #[.int .i64 0, .int .i64 0, .int .i64 0] 42))
        have q6 := q5.below b6
        have hX6' := hX5.below b6
        have hZ6 := hZ5.below b6
        have hB6 := behind hB5 b6
        clear cA s5 q5 hX5 hP5 hZ5 hB5 hb6 b6
        go_wp2
        generalize w6.alloc (.cells #[.int .i64 0, .int .i64 0, .int .i64 0] 42) = wC at q6 hX6' hZ6 hB6 ⊢
        go_loopw [9] (fun i wr => ∃ k : Nat, k ≤ X.length ∧ i = .int .i64 k ∧ Below wC.heap.size wC wr) (fun i _ => X.length - (intOf i).toNat)
        case atStart => exact ⟨0, Nat.zero_le _, rfl, Below.refl _ _⟩
        case round =>
          obtain ⟨k, hk, rfl, hbr⟩ := hrel
          by_cases hlt : k < X.length
          · obtain ⟨t2, -⟩ := q6.below hbr
            obtain ⟨b9, off, e, pp⟩ := (hX6'.below hbr) k hlt
            simp only [Option.some.injEq, Addr.mk.injEq, and_true] at e
            obtain ⟨rfl, rfl⟩ := e
            rw [Nat.zero_add] at pp
            obtain ⟨p0, -, -⟩ := pp
            have cH := hasB b cb p X[k].1 wr.drew (by omega) (hZ6.below hbr.drew)
            rw [decide_eq_true (HM.out _ (List.getElem_mem hlt))] at cH
            generalize X[k].1 = idk at p0 cH
            have hkn : (k : Int) < (X.length : Int) := by omega
            have hk0 : (0 : Int) ≤ (k : Int) := by omega
            go_wp2_with fail
            go_region_held3 (fun wy => wy.cell? ⟨D + 1, 0, none⟩ = some (.slice b p.length cb) ∧ wy.cell? ⟨g, k * 3, none⟩ = some (.int .i64 idk))
              (first | exact ⟨t2, p0⟩ | exact keepR2 ‹_› ‹_› | go_keep)
              (first | (go_at_call 24; refine cH.mono ?_; rintro e w7 ⟨rfl, hb7⟩) | fail)
            have hbr7 : Below wC.heap.size wC w7 := behind hbr.drew hb7
            clear cH p0 t2 hb7
            go_wp2
            go_roundw
            case rel => exact ⟨k + 1, by omega, by go_num, hbr7⟩
            case measure => simp [intOf]; omega
          · have hkn : ¬ (k : Int) < (X.length : Int) := by omega
            have hB9 := behind hB6 hbr
            clear q6 hX6' hZ6 hB6 hbr
            go_wp2
            go_ret
            exact ⟨rfl, hB9⟩
      · obtain ⟨⟨i, z, n⟩, hd1, hd2, hd3, hd4, hd5⟩ := Rg.best_is HK.out Q p (best_left HK.out Q p (by rw [HX.out]; exact hm1))
        rw [HX.out] at hd2
        dsimp only at hd2 hd3 hd4 hd5
        subst hd2
        have hat : Dv.at_ X x = some (x, z, n) := Rg.at_self HK.out hd1
        rw [hat, show dvAtV (some (x, z, n)) = .tuple #[.agg #[.int .i64 x, .int .i64 z, .int .i64 n], .bool true] from rfl] at cA
        have hw9 := (Rg.devs_weight HK.out hd1).2
        have hi9 := (Rg.devs_weight HK.out hd1).1
        dsimp only at hw9 hi9
        have HN : Hid (x ∉ p) := hd3
        have HF : Hid ((∃ e ∈ X, e.1 ∉ p ∧ e.2.1 ∉ Rg.zns X p) → z ∉ Rg.zns X p) := hd4
        have HH : Hid (∀ e ∈ X, e.1 ∉ p → (e.2.1 ∉ Rg.zns X p ↔ z ∉ Rg.zns X p) → Rg.NotH Q (x, z, n) e) := hd5
        have HAT : Hid (Dv.at_ X x = some (x, z, n)) := hat
        clear hd1 hd3 hd4 hd5 hat
        go_wp2_with fail
        refine cA.mono ?_
        rintro e w6 ⟨rfl, hb6⟩
        have xE := boxNew w6 x z n 42
        have b6 := behind hb6 (bel1 w6 (.cells #[.int .i64 x, .int .i64 z, .int .i64 n] 42))
        have s6 := s5.below b6
        have q6 := q5.below b6
        have hX6' := hX5.below b6
        have hP6 := hP5.below b6
        have hZ6 := hZ5.below b6
        have hB6 := behind hB5 b6
        obtain ⟨E, hE⟩ : ∃ E, w6.heap.size = E := ⟨_, rfl⟩
        rw [hE] at xE
        clear cA s5 q5 hX5 hP5 hZ5 hB5 hb6 b6
        go_upto_region 15 with fail
        generalize w6.alloc (.cells #[.int .i64 x, .int .i64 z, .int .i64 n] 42) = wD at xE s6 q6 hX6' hP6 hZ6 hB6 ⊢
        obtain ⟨t2, -⟩ := id q6
        have hq6 := q6.lt
        have t2e := (q6.below (bel1 wD (.cells #[] 3))).1
        have hZe := hZ6.below (bel1 wD (.cells #[] 3))
        go_upto_region 16 with (first | (at_builtin; refine wpList_appZ _ rfl (.tmp 67) (.tmp 69) rfl _ _ [] rfl (emptyZ _) b cb p rfl hZe hbc (by simp; omega) (by simp) ?_; intro v1 w7 hown7 hg7; have hz7 := hg7.size) | (at_builtin; refine wpList_appZ _ rfl (.tmp 70) (.tmp 72) rfl _ v1 p rfl (World.ownsRow.alloc hown7 _) _ 1 [x] rfl (oneRd _ _) (by simp) (by simp; omega) (by simp at hz7 ⊢; omega) ?_; intro v2 w8 hown8 hg8; obtain ⟨am, cm, rfl⟩ := Zv_shape hown8) | fail)
        have hb7 : Below wD.heap.size wD w7 := (bel1 wD (.cells #[] 3)).grown hg7 (by simp) (fun j hj => (World.ownsRow.lt (emptyZ wD) j hj).1)
        have hb7' := behind hb7 (bel1 w7 (.cells #[.int .i64 x] 3))
        have hb8 : Below wD.heap.size wD w8 := hb7'.grown hg8 hb7'.size (fun j hj => (World.ownsRow.lt hown7 j hj).1)
        have hRm := Zv_rd hown8
        have hlen : (p ++ [x]).length = p.length + 1 := by simp
        obtain ⟨M, hM⟩ : ∃ M, w8.heap.size = M := ⟨_, rfl⟩
        have xM := slot1New w8 (.slice am (p.length + 1) cm) 36
        have b9 := bel1 w8 (.cells #[.slice am (p.length + 1) cm] 36)
        rw [hM] at xM
        have hb9 := behind hb8 b9
        have s9 := s6.below hb9
        have q9 := q6.below hb9
        have xE9 := xE.below hb9
        have hX9 := hX6'.below hb9
        have hP9 := hP6.below hb9
        have hZ9 := hZ6.below hb9
        have hB9 := behind hB6 hb9
        have hR9 := hRm.below b9
        clear hb7 hb7' hb8 hRm hown7 hown8 hg7 hg8 hz7 s6 q6 xE hX6' hP6 hZ6 hB6 hZe t2 t2e hq6
        generalize w8.alloc (.cells #[.slice am (p.length + 1) cm] 36) = w9 at xM b9 hb9 s9 q9 xE9 hX9 hP9 hZ9 hB9 hR9 ⊢
        clear b9 hb9
        have cH := hasB b cb p x w9 (by omega) hZ9
        rw [decide_eq_false HN.out] at cH
        obtain ⟨t2, -⟩ := id q9
        go_wp2_with fail
        refine cH.mono ?_
        rintro e wa ⟨rfl, hba⟩
        have sa := s9.below hba
        have qa := q9.below hba
        have xMa := xM.below hba
        have xEa := xE9.below hba
        have hXa := hX9.below hba
        have hPa := hP9.below hba
        have hZa := hZ9.below hba
        have hRa := hR9.below hba
        have hBa := behind hB9 hba
        clear cH t2 s9 q9 xM xE9 hX9 hP9 hZ9 hR9 hB9 hba
        have cP := fun (w' : World) (h1 : RdZ w' b p) (h2 : RdS w' (some ⟨g, 0, none⟩) X) => implSpread b (some ⟨g, 0, none⟩) cb cp p X w' (by omega) (by omega) h1 h2 hwf.out
        have cM := fun (w' : World) (h1 : RdZ w' am (p ++ [x])) (h2 : RdS w' (some ⟨g, 0, none⟩) X) => implSpread am (some ⟨g, 0, none⟩) cm cp (p ++ [x]) X w' (by rw [hlen]; omega) (by omega) h1 h2 hwf.out
        rw [hlen] at cM
        have hsn := Rg.zns_snoc (p := p) (d := (x, z, n)) HAT.out
        dsimp only at hsn
        have HSN : Hid (∀ e : Sm.St, Dv.at_ X e.1 = some e → (Rg.zns X (p ++ [e.1])).length = (Rg.zns X p).length + if e.2.1 ∈ Rg.zns X p then 0 else 1) := fun e he => Rg.zns_snoc he
        have HSELF : Hid (∀ e ∈ X, Dv.at_ X e.1 = some e) := fun e he => Rg.at_self HK.out he
        have HWT : Hid (∀ e ∈ X, 1 ≤ e.2.2 ∧ e.2.2 ≤ 1000) := fun e he => (Rg.devs_weight HK.out he).2
        have HLD : Hid (∀ id, Rg.load Q id ≤ 1048576) := fun id => Nat.le_trans (Rg.load_le Q id) htot
        obtain ⟨⟨sa0, sa1⟩, -⟩ := id sa
        obtain ⟨qa0, -⟩ := id qa
        obtain ⟨xm0, -⟩ := id xMa
        obtain ⟨xe0, xe1, xe2⟩ := id xEa
        go_upto_region 18 with fail
        by_cases hF : z ∈ Rg.zns X p
        · rw [if_pos hF] at hsn
          generalize (Rg.zns X (p ++ [x])).length = NM at hsn cM
          obtain ⟨N, hN⟩ : ∃ N, (Rg.zns X p).length = N := ⟨_, rfl⟩
          have HNN : Hid ((Rg.zns X p).length = N) := hN
          rw [hN] at hsn cP
          have hNM : ¬ N < NM := by omega
          have hNMi : ¬ (N : Int) < (NM : Int) := by omega
          clear hN hsn
          go_region_held3 (fun wy => wy.cell? ⟨M, 0, none⟩ = some (.slice am (p.length + 1) cm) ∧ wy.cell? ⟨D + 1, 0, none⟩ = some (.slice b p.length cb))
            (first | exact ⟨xm0, qa0⟩ | exact keepR2 ‹_› ‹_› | go_keep)
            (first | (go_at_call 14; have hy := RdZ.below (w := wa.drew) hZa hbb; refine (cP _ hy (RdS.below (w := wa.drew) hXa hbb)).mono ?_; rintro e wc ⟨rfl, hbc'⟩) | (go_at_call 14; refine (cM _ (by exact hRa) (by exact hXa)).mono ?_; rintro e wb ⟨rfl, hbb⟩) | fail)
          have hbd : Below wa.heap.size wa wc := behind (behind (Below.refl _ _).drew hbb) hbc'
          have sc := sa.below hbd
          have qc := qa.below hbd
          have xEc := xEa.below hbd
          have hXc := hXa.below hbd
          have hPc := hPa.below hbd
          have hZc := hZa.below hbd
          have hBc := behind hBa hbd
          clear cM hRa hbb hbc' hbd sa qa xMa xEa hXa hPa hZa hBa sa0 sa1 qa0 xm0 xe0 xe1 xe2
          go_wp2
          go_loopw [12] (fun i wr => ∃ k : Nat, k ≤ X.length ∧ i = .int .i64 k ∧ Below wc.heap.size wc wr) (fun i _ => X.length - (intOf i).toNat)
          case atStart => exact ⟨0, Nat.zero_le _, rfl, Below.refl _ _⟩
          case round =>
            obtain ⟨k, hk, rfl, hbr⟩ := hrel
            by_cases hlt : k < X.length
            · have sr := sc.below hbr
              have qr := qc.below hbr
              have xEr := xEc.below hbr
              have hXr := hXc.below hbr
              have hPr := hPc.below hbr
              have hZr := hZc.below hbr
              obtain ⟨t2, -⟩ := id qr
              obtain ⟨b9, off, e, pp⟩ := hXr k hlt
              simp only [Option.some.injEq, Addr.mk.injEq, and_true] at e
              obtain ⟨rfl, rfl⟩ := e
              rw [Nat.zero_add] at pp
              have hmem := List.getElem_mem hlt
              have hself := HSELF.out _ hmem
              have hwt := HWT.out _ hmem
              have hFk : X[k].1 ∉ p → X[k].2.1 ∉ Rg.zns X p → z ∉ Rg.zns X p := fun h1 h2 => HF.out ⟨_, hmem, h1, h2⟩
              have hHk : X[k].1 ∉ p → (X[k].2.1 ∉ Rg.zns X p ↔ z ∉ Rg.zns X p) → Rg.NotH Q (x, z, n) X[k] := HH.out _ hmem
              have hsk := HSN.out _ hself
              generalize X[k] = ek at pp hself hwt hFk hHk hsk
              obtain ⟨ik, zk, nk⟩ := ek
              dsimp only at hself hwt hFk hHk hsk
              obtain ⟨p0, p1, p2⟩ := pp
              dsimp only at p0 p1 p2
              have cH := hasB b cb p ik wr.drew (by omega) (by exact hZr)
              have hkn : (k : Int) < (X.length : Int) := by omega
              have hk0 : (0 : Int) ≤ (k : Int) := by omega
              by_cases hin : ik ∈ p
              · rw [decide_eq_true hin] at cH
                go_wp2_with fail
                go_region_held3 (fun wy => wy.cell? ⟨D + 1, 0, none⟩ = some (.slice b p.length cb) ∧ wy.cell? ⟨g, k * 3, none⟩ = some (.int .i64 ik))
                  (first | exact ⟨t2, p0⟩ | exact keepR2 ‹_› ‹_› | go_keep)
                  (first | (go_at_call 24; refine cH.mono ?_; rintro e wd ⟨rfl, hbd⟩) | fail)
                have hbr7 : Below wc.heap.size wc wd := behind hbr.drew hbd
                clear cH p0 p1 p2 t2 hbd sr qr xEr hXr hPr hZr hFk hHk hsk
                go_wp2
                go_roundw
                case rel => exact ⟨k + 1, by omega, by go_num, hbr7⟩
                case measure => simp [intOf]; omega
              · rw [decide_eq_false hin] at cH
                have hFk' := hFk hin
                have hHk' := hHk hin
                go_wp2_with fail
                go_region_held3 (fun wy => wy.cell? ⟨D + 1, 0, none⟩ = some (.slice b p.length cb) ∧ wy.cell? ⟨g, k * 3, none⟩ = some (.int .i64 ik))
                  (first | exact ⟨t2, p0⟩ | exact keepR2 ‹_› ‹_› | go_keep)
                  (first | (go_at_call 24; refine cH.mono ?_; rintro e wd ⟨rfl, hbd'⟩) | fail)
                have hbd : Below wr.heap.size wr wd := behind (Below.refl _ _).drew hbd'
                have hbrd : Below wc.heap.size wc wd := behind hbr hbd
                have p0d := cellOn p0 hbd
                have p2d := cellOn p2 hbd
                clear cH p0 p1 p2 t2 hbd' hFk hHk sr qr xEr hXr hPr hZr
                have qd := qc.below hbrd
                have hZd := hZc.below hbrd
                have hXd := hXc.below hbrd
                have hlen' : (p ++ [ik]).length = p.length + 1 := by simp
                have hsd := sc.below hbrd
                have xEd := xEc.below hbrd
                have hPd := hPc.below hbrd
                go_upto_region 23 with fail
                go_cut [13] (fun v wx => ∃ (Mo : Nat) (ao : Option Addr) (co : Nat), v = .pointer (some ⟨Mo, 0, none⟩) ∧ wx.cell? ⟨Mo, 0, none⟩ = some (.slice ao (p.length + 1) co) ∧ RdZ wx ao (p ++ [ik]) ∧ Below wd.heap.size wd wx)
                case first =>
                  obtain ⟨td, -⟩ := id qd
                  have HS23 : Hid (wd.cell? ⟨D + 1, 0, none⟩ = some (.slice b p.length cb) ∧ wd.cell? ⟨g, k * 3, none⟩ = some (.int .i64 ik)) := ⟨td, p0d⟩
                  have HS23d : Hid (wd.drew.cell? ⟨D + 1, 0, none⟩ = some (.slice b p.length cb) ∧ wd.drew.cell? ⟨g, k * 3, none⟩ = some (.int .i64 ik)) := ⟨td, p0d⟩
                  go_region_held3 (fun wy => wy.cell? ⟨D + 1, 0, none⟩ = some (.slice b p.length cb) ∧ wy.cell? ⟨g, k * 3, none⟩ = some (.int .i64 ik))
                    (first | with_reducible exact HS23.out | with_reducible exact HS23d.out | with_reducible exact keepR2 HS23.out (bel1 _ _).drew | with_reducible exact keepR2 HS23.out (bel2 _ _ _).drew | with_reducible exact keepR2 HS23.out (bel3 _ _ _ _).drew | with_reducible exact keepR2 HS23.out hb8 | with_reducible exact keepR2 HS23.out (behind hb8 (bel1 _ _)) | with_reducible exact keepR2 HS23.out hb7 | with_reducible exact keepR2 HS23.out (behind hb7 (bel1 _ _)) | with_reducible exact keepR2 HS23.out (behind hb7 (bel2 _ _ _)) | exact keepR2 HS23.out (Below.setCell hb8 (by dsimp only; omega) _) | fail)
                    (first | (refine step_appL (wd.alloc (.cells #[] 3)).drew (by rfl) (.tmp 104) (.tmp 106) (by rfl) wd (bel1 wd (.cells #[] 3)).drew _ [] (by rfl) (emp1 wd) b cb p (by rfl) (by exact rdD (RdZ.below hZd (bel1 wd (.cells #[] 3)))) hbc (by simp; omega) ?_; intro v1 w7 hown7 hg7 hat7 hb7; simp only [List.nil_append] at hown7; have hz7 := hg7.size; have hzL := hb7.size) | (refine step_appL ((wd.alloc (.cells #[] 3)).alloc (.cells #[.int .i64 ik] 3)).drew (by rfl) (.tmp 104) (.tmp 106) (by rfl) wd (bel2 wd (.cells #[] 3) (.cells #[.int .i64 ik] 3)).drew _ [] (by rfl) (emp2b wd (.cells #[.int .i64 ik] 3)) b cb p (by rfl) (by exact rdD (RdZ.below hZd (bel2 wd (.cells #[] 3) (.cells #[.int .i64 ik] 3)))) hbc (by simp; omega) ?_; intro v1 w7 hown7 hg7 hat7 hb7; simp only [List.nil_append] at hown7; have hz7 := hg7.size; have hzL := hb7.size; have i7 : Slot1 w7 (wd.heap.size + 1) (.int .i64 ik) := Slot1.grw (w := ((wd.alloc (.cells #[] 3)).alloc (.cells #[.int .i64 ik] 3)).drew) (sx2 wd (.cells #[] 3) (.int .i64 ik) 3) hg7 (by simp only [Value.ownBlock, ne_eq, Option.some.injEq]; omega); have iz7 := i7.rd) | (refine step_appL ((wd.alloc (.cells #[] 3)).alloc (.cells #[.slice none 0 0] 36)).drew (by rfl) (.tmp 104) (.tmp 106) (by rfl) wd (bel2 wd (.cells #[] 3) (.cells #[.slice none 0 0] 36)).drew _ [] (by rfl) (emp2b wd (.cells #[.slice none 0 0] 36)) b cb p (by rfl) (by exact rdD (RdZ.below hZd (bel2 wd (.cells #[] 3) (.cells #[.slice none 0 0] 36)))) hbc (by simp; omega) ?_; intro v1 w7 hown7 hg7 hat7 hb7; simp only [List.nil_append] at hown7; have hz7 := hg7.size; have hzL := hb7.size; have x7 : Slot1 w7 (wd.heap.size + 1) (.slice none 0 0) := Slot1.grw (w := ((wd.alloc (.cells #[] 3)).alloc (.cells #[.slice none 0 0] 36)).drew) (sx2 wd (.cells #[] 3) (.slice none 0 0) 36) hg7 (by simp only [Value.ownBlock, ne_eq, Option.some.injEq]; omega); have nx7 : v1.ownBlock ≠ some (wd.heap.size + 1) := (fun e => by rcases hat7 with h | h <;> rw [h] at e <;> simp only [Value.ownBlock, World.size_drew, World.size_alloc, Option.some.injEq] at e <;> omega)) | (refine step_appL ((wd.alloc (.cells #[.int .i64 ik] 3)).alloc (.cells #[] 3)).drew (by rfl) (.tmp 104) (.tmp 106) (by rfl) wd (bel2 wd (.cells #[.int .i64 ik] 3) (.cells #[] 3)).drew _ [] (by rfl) (emp2a wd (.cells #[.int .i64 ik] 3)) b cb p (by rfl) (by exact rdD (RdZ.below hZd (bel2 wd (.cells #[.int .i64 ik] 3) (.cells #[] 3)))) hbc (by simp; omega) ?_; intro v1 w7 hown7 hg7 hat7 hb7; simp only [List.nil_append] at hown7; have hz7 := hg7.size; have hzL := hb7.size; have i7 : Slot1 w7 (wd.heap.size) (.int .i64 ik) := Slot1.grw (w := ((wd.alloc (.cells #[.int .i64 ik] 3)).alloc (.cells #[] 3)).drew) (Slot1.al (sx1 wd  (.int .i64 ik) 3) (.cells #[] 3)) hg7 (by simp only [Value.ownBlock, ne_eq, Option.some.injEq]; omega); have iz7 := i7.rd) | (refine step_appL ((wd.alloc (.cells #[.slice none 0 0] 36)).alloc (.cells #[] 3)).drew (by rfl) (.tmp 104) (.tmp 106) (by rfl) wd (bel2 wd (.cells #[.slice none 0 0] 36) (.cells #[] 3)).drew _ [] (by rfl) (emp2a wd (.cells #[.slice none 0 0] 36)) b cb p (by rfl) (by exact rdD (RdZ.below hZd (bel2 wd (.cells #[.slice none 0 0] 36) (.cells #[] 3)))) hbc (by simp; omega) ?_; intro v1 w7 hown7 hg7 hat7 hb7; simp only [List.nil_append] at hown7; have hz7 := hg7.size; have hzL := hb7.size; have x7 : Slot1 w7 (wd.heap.size) (.slice none 0 0) := Slot1.grw (w := ((wd.alloc (.cells #[.slice none 0 0] 36)).alloc (.cells #[] 3)).drew) (Slot1.al (sx1 wd  (.slice none 0 0) 36) (.cells #[] 3)) hg7 (by simp only [Value.ownBlock, ne_eq, Option.some.injEq]; omega); have nx7 : v1.ownBlock ≠ some (wd.heap.size) := (fun e => by rcases hat7 with h | h <;> rw [h] at e <;> simp only [Value.ownBlock, World.size_drew, World.size_alloc, Option.some.injEq] at e <;> omega)) | (refine step_appL (((wd.alloc (.cells #[] 3)).alloc (.cells #[.int .i64 ik] 3)).alloc (.cells #[.slice none 0 0] 36)).drew (by rfl) (.tmp 104) (.tmp 106) (by rfl) wd (bel3 wd (.cells #[] 3) (.cells #[.int .i64 ik] 3) (.cells #[.slice none 0 0] 36)).drew _ [] (by rfl) (emp3c wd (.cells #[.int .i64 ik] 3) (.cells #[.slice none 0 0] 36)) b cb p (by rfl) (by exact rdD (RdZ.below hZd (bel3 wd (.cells #[] 3) (.cells #[.int .i64 ik] 3) (.cells #[.slice none 0 0] 36)))) hbc (by simp; omega) ?_; intro v1 w7 hown7 hg7 hat7 hb7; simp only [List.nil_append] at hown7; have hz7 := hg7.size; have hzL := hb7.size; have i7 : Slot1 w7 (wd.heap.size + 1) (.int .i64 ik) := Slot1.grw (w := (((wd.alloc (.cells #[] 3)).alloc (.cells #[.int .i64 ik] 3)).alloc (.cells #[.slice none 0 0] 36)).drew) (Slot1.al (sx2 wd (.cells #[] 3) (.int .i64 ik) 3) (.cells #[.slice none 0 0] 36)) hg7 (by simp only [Value.ownBlock, ne_eq, Option.some.injEq]; omega); have iz7 := i7.rd; have x7 : Slot1 w7 (wd.heap.size + 1 + 1) (.slice none 0 0) := Slot1.grw (w := (((wd.alloc (.cells #[] 3)).alloc (.cells #[.int .i64 ik] 3)).alloc (.cells #[.slice none 0 0] 36)).drew) (sx3 wd (.cells #[] 3) (.cells #[.int .i64 ik] 3) (.slice none 0 0) 36) hg7 (by simp only [Value.ownBlock, ne_eq, Option.some.injEq]; omega); have nx7 : v1.ownBlock ≠ some (wd.heap.size + 1 + 1) := (fun e => by rcases hat7 with h | h <;> rw [h] at e <;> simp only [Value.ownBlock, World.size_drew, World.size_alloc, Option.some.injEq] at e <;> omega)) | (refine step_appL (((wd.alloc (.cells #[] 3)).alloc (.cells #[.slice none 0 0] 36)).alloc (.cells #[.int .i64 ik] 3)).drew (by rfl) (.tmp 104) (.tmp 106) (by rfl) wd (bel3 wd (.cells #[] 3) (.cells #[.slice none 0 0] 36) (.cells #[.int .i64 ik] 3)).drew _ [] (by rfl) (emp3c wd (.cells #[.slice none 0 0] 36) (.cells #[.int .i64 ik] 3)) b cb p (by rfl) (by exact rdD (RdZ.below hZd (bel3 wd (.cells #[] 3) (.cells #[.slice none 0 0] 36) (.cells #[.int .i64 ik] 3)))) hbc (by simp; omega) ?_; intro v1 w7 hown7 hg7 hat7 hb7; simp only [List.nil_append] at hown7; have hz7 := hg7.size; have hzL := hb7.size; have i7 : Slot1 w7 (wd.heap.size + 1 + 1) (.int .i64 ik) := Slot1.grw (w := (((wd.alloc (.cells #[] 3)).alloc (.cells #[.slice none 0 0] 36)).alloc (.cells #[.int .i64 ik] 3)).drew) (sx3 wd (.cells #[] 3) (.cells #[.slice none 0 0] 36) (.int .i64 ik) 3) hg7 (by simp only [Value.ownBlock, ne_eq, Option.some.injEq]; omega); have iz7 := i7.rd; have x7 : Slot1 w7 (wd.heap.size + 1) (.slice none 0 0) := Slot1.grw (w := (((wd.alloc (.cells #[] 3)).alloc (.cells #[.slice none 0 0] 36)).alloc (.cells #[.int .i64 ik] 3)).drew) (Slot1.al (sx2 wd (.cells #[] 3) (.slice none 0 0) 36) (.cells #[.int .i64 ik] 3)) hg7 (by simp only [Value.ownBlock, ne_eq, Option.some.injEq]; omega); have nx7 : v1.ownBlock ≠ some (wd.heap.size + 1) := (fun e => by rcases hat7 with h | h <;> rw [h] at e <;> simp only [Value.ownBlock, World.size_drew, World.size_alloc, Option.some.injEq] at e <;> omega)) | (refine step_appL (((wd.alloc (.cells #[.int .i64 ik] 3)).alloc (.cells #[] 3)).alloc (.cells #[.slice none 0 0] 36)).drew (by rfl) (.tmp 104) (.tmp 106) (by rfl) wd (bel3 wd (.cells #[.int .i64 ik] 3) (.cells #[] 3) (.cells #[.slice none 0 0] 36)).drew _ [] (by rfl) (emp3b wd (.cells #[.int .i64 ik] 3) (.cells #[.slice none 0 0] 36)) b cb p (by rfl) (by exact rdD (RdZ.below hZd (bel3 wd (.cells #[.int .i64 ik] 3) (.cells #[] 3) (.cells #[.slice none 0 0] 36)))) hbc (by simp; omega) ?_; intro v1 w7 hown7 hg7 hat7 hb7; simp only [List.nil_append] at hown7; have hz7 := hg7.size; have hzL := hb7.size; have i7 : Slot1 w7 (wd.heap.size) (.int .i64 ik) := Slot1.grw (w := (((wd.alloc (.cells #[.int .i64 ik] 3)).alloc (.cells #[] 3)).alloc (.cells #[.slice none 0 0] 36)).drew) (Slot1.al (Slot1.al (sx1 wd  (.int .i64 ik) 3) (.cells #[] 3)) (.cells #[.slice none 0 0] 36)) hg7 (by simp only [Value.ownBlock, ne_eq, Option.some.injEq]; omega); have iz7 := i7.rd; have x7 : Slot1 w7 (wd.heap.size + 1 + 1) (.slice none 0 0) := Slot1.grw (w := (((wd.alloc (.cells #[.int .i64 ik] 3)).alloc (.cells #[] 3)).alloc (.cells #[.slice none 0 0] 36)).drew) (sx3 wd (.cells #[.int .i64 ik] 3) (.cells #[] 3) (.slice none 0 0) 36) hg7 (by simp only [Value.ownBlock, ne_eq, Option.some.injEq]; omega); have nx7 : v1.ownBlock ≠ some (wd.heap.size + 1 + 1) := (fun e => by rcases hat7 with h | h <;> rw [h] at e <;> simp only [Value.ownBlock, World.size_drew, World.size_alloc, Option.some.injEq] at e <;> omega)) | (refine step_appL (((wd.alloc (.cells #[.int .i64 ik] 3)).alloc (.cells #[.slice none 0 0] 36)).alloc (.cells #[] 3)).drew (by rfl) (.tmp 104) (.tmp 106) (by rfl) wd (bel3 wd (.cells #[.int .i64 ik] 3) (.cells #[.slice none 0 0] 36) (.cells #[] 3)).drew _ [] (by rfl) (emp3a wd (.cells #[.int .i64 ik] 3) (.cells #[.slice none 0 0] 36)) b cb p (by rfl) (by exact rdD (RdZ.below hZd (bel3 wd (.cells #[.int .i64 ik] 3) (.cells #[.slice none 0 0] 36) (.cells #[] 3)))) hbc (by simp; omega) ?_; intro v1 w7 hown7 hg7 hat7 hb7; simp only [List.nil_append] at hown7; have hz7 := hg7.size; have hzL := hb7.size; have i7 : Slot1 w7 (wd.heap.size) (.int .i64 ik) := Slot1.grw (w := (((wd.alloc (.cells #[.int .i64 ik] 3)).alloc (.cells #[.slice none 0 0] 36)).alloc (.cells #[] 3)).drew) (Slot1.al (Slot1.al (sx1 wd  (.int .i64 ik) 3) (.cells #[.slice none 0 0] 36)) (.cells #[] 3)) hg7 (by simp only [Value.ownBlock, ne_eq, Option.some.injEq]; omega); have iz7 := i7.rd; have x7 : Slot1 w7 (wd.heap.size + 1) (.slice none 0 0) := Slot1.grw (w := (((wd.alloc (.cells #[.int .i64 ik] 3)).alloc (.cells #[.slice none 0 0] 36)).alloc (.cells #[] 3)).drew) (Slot1.al (sx2 wd (.cells #[.int .i64 ik] 3) (.slice none 0 0) 36) (.cells #[] 3)) hg7 (by simp only [Value.ownBlock, ne_eq, Option.some.injEq]; omega); have nx7 : v1.ownBlock ≠ some (wd.heap.size + 1) := (fun e => by rcases hat7 with h | h <;> rw [h] at e <;> simp only [Value.ownBlock, World.size_drew, World.size_alloc, Option.some.injEq] at e <;> omega)) | (refine step_appL (((wd.alloc (.cells #[.slice none 0 0] 36)).alloc (.cells #[] 3)).alloc (.cells #[.int .i64 ik] 3)).drew (by rfl) (.tmp 104) (.tmp 106) (by rfl) wd (bel3 wd (.cells #[.slice none 0 0] 36) (.cells #[] 3) (.cells #[.int .i64 ik] 3)).drew _ [] (by rfl) (emp3b wd (.cells #[.slice none 0 0] 36) (.cells #[.int .i64 ik] 3)) b cb p (by rfl) (by exact rdD (RdZ.below hZd (bel3 wd (.cells #[.slice none 0 0] 36) (.cells #[] 3) (.cells #[.int .i64 ik] 3)))) hbc (by simp; omega) ?_; intro v1 w7 hown7 hg7 hat7 hb7; simp only [List.nil_append] at hown7; have hz7 := hg7.size; have hzL := hb7.size; have i7 : Slot1 w7 (wd.heap.size + 1 + 1) (.int .i64 ik) := Slot1.grw (w := (((wd.alloc (.cells #[.slice none 0 0] 36)).alloc (.cells #[] 3)).alloc (.cells #[.int .i64 ik] 3)).drew) (sx3 wd (.cells #[.slice none 0 0] 36) (.cells #[] 3) (.int .i64 ik) 3) hg7 (by simp only [Value.ownBlock, ne_eq, Option.some.injEq]; omega); have iz7 := i7.rd; have x7 : Slot1 w7 (wd.heap.size) (.slice none 0 0) := Slot1.grw (w := (((wd.alloc (.cells #[.slice none 0 0] 36)).alloc (.cells #[] 3)).alloc (.cells #[.int .i64 ik] 3)).drew) (Slot1.al (Slot1.al (sx1 wd  (.slice none 0 0) 36) (.cells #[] 3)) (.cells #[.int .i64 ik] 3)) hg7 (by simp only [Value.ownBlock, ne_eq, Option.some.injEq]; omega); have nx7 : v1.ownBlock ≠ some (wd.heap.size) := (fun e => by rcases hat7 with h | h <;> rw [h] at e <;> simp only [Value.ownBlock, World.size_drew, World.size_alloc, Option.some.injEq] at e <;> omega)) | (refine step_appL (((wd.alloc (.cells #[.slice none 0 0] 36)).alloc (.cells #[.int .i64 ik] 3)).alloc (.cells #[] 3)).drew (by rfl) (.tmp 104) (.tmp 106) (by rfl) wd (bel3 wd (.cells #[.slice none 0 0] 36) (.cells #[.int .i64 ik] 3) (.cells #[] 3)).drew _ [] (by rfl) (emp3a wd (.cells #[.slice none 0 0] 36) (.cells #[.int .i64 ik] 3)) b cb p (by rfl) (by exact rdD (RdZ.below hZd (bel3 wd (.cells #[.slice none 0 0] 36) (.cells #[.int .i64 ik] 3) (.cells #[] 3)))) hbc (by simp; omega) ?_; intro v1 w7 hown7 hg7 hat7 hb7; simp only [List.nil_append] at hown7; have hz7 := hg7.size; have hzL := hb7.size; have i7 : Slot1 w7 (wd.heap.size + 1) (.int .i64 ik) := Slot1.grw (w := (((wd.alloc (.cells #[.slice none 0 0] 36)).alloc (.cells #[.int .i64 ik] 3)).alloc (.cells #[] 3)).drew) (Slot1.al (sx2 wd (.cells #[.slice none 0 0] 36) (.int .i64 ik) 3) (.cells #[] 3)) hg7 (by simp only [Value.ownBlock, ne_eq, Option.some.injEq]; omega); have iz7 := i7.rd; have x7 : Slot1 w7 (wd.heap.size) (.slice none 0 0) := Slot1.grw (w := (((wd.alloc (.cells #[.slice none 0 0] 36)).alloc (.cells #[.int .i64 ik] 3)).alloc (.cells #[] 3)).drew) (Slot1.al (Slot1.al (sx1 wd  (.slice none 0 0) 36) (.cells #[.int .i64 ik] 3)) (.cells #[] 3)) hg7 (by simp only [Value.ownBlock, ne_eq, Option.some.injEq]; omega); have nx7 : v1.ownBlock ≠ some (wd.heap.size) := (fun e => by rcases hat7 with h | h <;> rw [h] at e <;> simp only [Value.ownBlock, World.size_drew, World.size_alloc, Option.some.injEq] at e <;> omega)) | (refine step_appL w7 (by rfl) (.tmp 107) (.tmp 113) (by rfl) wd hb7 v1 p (by rfl) hown7 _ 1 [ik] (by rfl) iz7 (fun e => by cases e) (by simp; omega) ?_; intro v2 w8 hown8 hg8 hat8 hb8; rw [hlen'] at hown8; obtain ⟨a8, c8, rfl⟩ := Zv_shape hown8; have hR8 : RdZ w8 a8 (p ++ [ik]) := Zv_rd (base := wd.heap.size) (cap := c8) (e := 3) (by rw [hlen']; exact hown8); (first | (have x8 := Slot1.grw x7 hg8 (fun e => nx7 e.symm); obtain ⟨k8, f8⟩ := id x8) | skip)) | (refine step_appL (w7.alloc (.cells #[.slice none 0 0] 36)) (by rfl) (.tmp 107) (.tmp 113) (by rfl) wd (behind hb7 (bel1 w7 (.cells #[.slice none 0 0] 36))) v1 p (by rfl) (World.ownsRow.alloc hown7 (.cells #[.slice none 0 0] 36)) _ 1 [ik] (by rfl) (RdZ.below iz7 (bel1 w7 (.cells #[.slice none 0 0] 36))) (fun e => by cases e) (by simp; omega) ?_; intro v2 w8 hown8 hg8 hat8 hb8; rw [hlen'] at hown8; obtain ⟨a8, c8, rfl⟩ := Zv_shape hown8; have hR8 : RdZ w8 a8 (p ++ [ik]) := Zv_rd (base := wd.heap.size) (cap := c8) (e := 3) (by rw [hlen']; exact hown8); have x8 := Slot1.grw (sx1 w7 (.slice none 0 0) 36) hg8 (fun e => by have h9 := (World.ownsRow.lt hown7 _ e.symm).2; omega); obtain ⟨k8, f8⟩ := id x8) | (refine step_appL (w7.alloc (.cells #[.int .i64 ik] 3)) (by rfl) (.tmp 107) (.tmp 113) (by rfl) wd (behind hb7 (bel1 w7 (.cells #[.int .i64 ik] 3))) v1 p (by rfl) (World.ownsRow.alloc hown7 (.cells #[.int .i64 ik] 3)) _ 1 [ik] (by rfl) (Slot1.rd (sx1 w7 (.int .i64 ik) 3)) (fun e => by cases e) (by simp; omega) ?_; intro v2 w8 hown8 hg8 hat8 hb8; rw [hlen'] at hown8; obtain ⟨a8, c8, rfl⟩ := Zv_shape hown8; have hR8 : RdZ w8 a8 (p ++ [ik]) := Zv_rd (base := wd.heap.size) (cap := c8) (e := 3) (by rw [hlen']; exact hown8); (first | (have x8 := Slot1.grw (Slot1.al x7 (.cells #[.int .i64 ik] 3)) hg8 (fun e => nx7 e.symm); obtain ⟨k8, f8⟩ := id x8) | skip)) | (refine step_appL ((w7.alloc (.cells #[.int .i64 ik] 3)).alloc (.cells #[.slice none 0 0] 36)) (by rfl) (.tmp 107) (.tmp 113) (by rfl) wd (behind hb7 (bel2 w7 (.cells #[.int .i64 ik] 3) (.cells #[.slice none 0 0] 36))) v1 p (by rfl) (World.ownsRow.alloc (World.ownsRow.alloc hown7 (.cells #[.int .i64 ik] 3)) (.cells #[.slice none 0 0] 36)) _ 1 [ik] (by rfl) (Slot1.rd (Slot1.al (sx1 w7 (.int .i64 ik) 3) (.cells #[.slice none 0 0] 36))) (fun e => by cases e) (by simp; omega) ?_; intro v2 w8 hown8 hg8 hat8 hb8; rw [hlen'] at hown8; obtain ⟨a8, c8, rfl⟩ := Zv_shape hown8; have hR8 : RdZ w8 a8 (p ++ [ik]) := Zv_rd (base := wd.heap.size) (cap := c8) (e := 3) (by rw [hlen']; exact hown8); have x8 := Slot1.grw (sx2 w7 (.cells #[.int .i64 ik] 3) (.slice none 0 0) 36) hg8 (fun e => by have h9 := (World.ownsRow.lt hown7 _ e.symm).2; omega); obtain ⟨k8, f8⟩ := id x8) | (refine step_appL ((w7.alloc (.cells #[.slice none 0 0] 36)).alloc (.cells #[.int .i64 ik] 3)) (by rfl) (.tmp 107) (.tmp 113) (by rfl) wd (behind hb7 (bel2 w7 (.cells #[.slice none 0 0] 36) (.cells #[.int .i64 ik] 3))) v1 p (by rfl) (World.ownsRow.alloc (World.ownsRow.alloc hown7 (.cells #[.slice none 0 0] 36)) (.cells #[.int .i64 ik] 3)) _ 1 [ik] (by rfl) (Slot1.rd (sx2 w7 (.cells #[.slice none 0 0] 36) (.int .i64 ik) 3)) (fun e => by cases e) (by simp; omega) ?_; intro v2 w8 hown8 hg8 hat8 hb8; rw [hlen'] at hown8; obtain ⟨a8, c8, rfl⟩ := Zv_shape hown8; have hR8 : RdZ w8 a8 (p ++ [ik]) := Zv_rd (base := wd.heap.size) (cap := c8) (e := 3) (by rw [hlen']; exact hown8); have x8 := Slot1.grw (Slot1.al (sx1 w7 (.slice none 0 0) 36) (.cells #[.int .i64 ik] 3)) hg8 (fun e => by have h9 := (World.ownsRow.lt hown7 _ e.symm).2; omega); obtain ⟨k8, f8⟩ := id x8) | fail)
                  all_goals
                    go_wp2_with fail
                    go_meet
                    first
                      | exact ⟨w8.heap.size, a8, c8, rfl, (slot1New w8 _ _).1, RdZ.below hR8 (bel1 _ _), behind hb8 (bel1 _ _)⟩
                      | exact ⟨_, a8, c8, rfl, World.cell?_setCell_same' _ _ _ (by rw [k8]; rfl), own_farF hown8 hlen' k8, hb8.setCell (by dsimp only; omega) _⟩
                case rest =>
                  obtain ⟨Mo, ao, co, rfl, ko, hRo, hbo⟩ := hcut
                  have so := hsd.below hbo
                  have qo := qd.below hbo
                  have xEo := xEd.below hbo
                  have hXo := hXd.below hbo
                  have hPo := hPd.below hbo
                  have hZo := hZd.below hbo
                  have p0o := cellOn p0d hbo
                  have p2o := cellOn p2d hbo
                  have hbro := behind hbrd hbo
                  obtain ⟨tq, -⟩ := id qo
                  have cO := fun (w' : World) (h1 : RdZ w' ao (p ++ [ik])) (h2 : RdS w' (some ⟨g, 0, none⟩) X) => implSpread ao (some ⟨g, 0, none⟩) co cp (p ++ [ik]) X w' (by rw [hlen']; omega) (by omega) h1 h2 hwf.out
                  rw [hlen'] at cO
                  rw [HNN.out] at hsk
                  clear qd hsd xEd hXd hPd hZd p0d p2d hbo hbrd hbd
                  have hzk : zk ∈ Rg.zns X p := Classical.byContradiction fun h => (hFk' h) hF
                  have hcmp := hHk' ⟨fun h => absurd hzk h, fun h => absurd hF h⟩
                  rw [if_pos hzk] at hsk
                  generalize (Rg.zns X (p ++ [ik])).length = NO at hsk cO
                  have hNO : ¬ N < NO := by omega
                  have hNOi : ¬ (N : Int) < (NO : Int) := by omega
                  clear hsk
                  go_upto_region 24 with fail
                  go_region_held3 (fun wy => wy.cell? ⟨Mo, 0, none⟩ = some (.slice ao (p.length + 1) co) ∧ wy.cell? ⟨D + 1, 0, none⟩ = some (.slice b p.length cb))
                    (first | exact ⟨ko, tq⟩ | exact keepR2 ‹_› ‹_› | go_keep)
                    (first | (go_at_call 14; have hy := RdZ.below hZo hbe; refine (cP _ hy (RdS.below hXo hbe)).mono ?_; rintro e wf ⟨rfl, hbf⟩) | (go_at_call 14; refine (cO _ (by exact hRo) (by exact hXo)).mono ?_; rintro e we ⟨rfl, hbe'⟩; have hbe := behind (Below.refl _ _).drew hbe') | fail)
                  have hbg := behind hbe hbf
                  have sg := so.below hbg
                  have xEg := xEo.below hbg
                  have hPg := hPo.below hbg
                  have p0g := cellOn p0o hbg
                  have p2g := cellOn p2o hbg
                  have hbrg := behind hbro hbg
                  clear hbe' hbe hbf hbg so qo xEo hXo hPo hZo p0o p2o tq hRo ko cO hbro
                  have c1 := fun (w' : World) (h : RdP w' a Q) => implLoad R a ca Q ik w' (by omega) htot h
                  have c2 := fun (w' : World) (h : RdP w' a Q) => implLoad R a ca Q x w' (by omega) htot h
                  have hA1 := HLD.out ik
                  have hA2 := HLD.out x
                  unfold Rg.NotH at hcmp
                  dsimp only at hcmp
                  generalize Rg.load Q ik = A1 at c1 hA1 hcmp
                  generalize Rg.load Q x = A2 at c2 hA2 hcmp
                  obtain ⟨e1, e2⟩ := shareL A1 n hA1 hw9.1 hw9.2
                  obtain ⟨e3, e4⟩ := shareL A2 nk hA2 hwt.1 hwt.2
                  obtain ⟨M1, hM1⟩ : ∃ M, ((A1 : Int) + 1) * n = M := ⟨_, rfl⟩
                  obtain ⟨M2, hM2⟩ : ∃ M, ((A2 : Int) + 1) * nk = M := ⟨_, rfl⟩
                  rw [hM1] at e2 hcmp
                  rw [hM2] at e4 hcmp
                  obtain ⟨⟨g0, g1⟩, -⟩ := id sg
                  obtain ⟨-, -, x2⟩ := id xEg
                  go_upto_region 25 with fail
                  refine wp_region_held_drew (S := fun wy => wy.cell? ⟨D, 0, none⟩ = some (.int .i64 R) ∧ wy.cell? ⟨D, 1, none⟩ = some (.slice a Q.length ca) ∧ wy.cell? ⟨E, 2, none⟩ = some (.int .i64 n) ∧ wy.cell? ⟨g, k * 3, none⟩ = some (.int .i64 ik) ∧ wy.cell? ⟨g, k * 3 + 2, none⟩ = some (.int .i64 nk)) (by kernel_rfl) ⟨g0, g1, x2, p0g, p2g⟩ (fun hHeld => ?_)
                  refine wpAnyH_take (i := 0) (oi := ?_) (v := ?_) ?_ ?_ ?_ ?_ ?_ ?_ (by assumption) ?_
                  rotate_left 2
                  · simp only [List.getElem?_toArray, List.getElem?_cons_zero]
                    rfl
                  · kernel_rfl
                  · kernel_rfl
                  · kernel_rfl
                  · exact fun _ _ _ h => h
                  · refine Or.inl ⟨by kernel_rfl, ?_⟩
                    intro wS hSw
                    try dsimp only at hSw
                    go_simp
                    try with_reducible rfl
                  simp only [Act.put, List.setIfInBounds_toArray, List.set_cons_zero, List.set_cons_succ]
                  refine wpAnyH_take (i := 1) (oi := ?_) (v := ?_) ?_ ?_ ?_ ?_ ?_ ?_ (by assumption) ?_
                  rotate_left 2
                  · simp only [List.getElem?_toArray, List.getElem?_cons_succ, List.getElem?_cons_zero]
                    rfl
                  · kernel_rfl
                  · kernel_rfl
                  · kernel_rfl
                  · exact fun _ _ _ h => h
                  · refine Or.inl ⟨by kernel_rfl, ?_⟩
                    intro wS hSw
                    try dsimp only at hSw
                    go_simp
                    try with_reducible rfl
                  simp only [Act.put, List.setIfInBounds_toArray, List.set_cons_zero, List.set_cons_succ]
                  refine wpAnyH_take (i := 2) (oi := ?_) (v := undef) ?_ ?_ ?_ ?_ ?_ ?_ (by assumption) ?_
                  rotate_left 1
                  · simp only [List.getElem?_toArray, List.getElem?_cons_succ, List.getElem?_cons_zero]
                    rfl
                  · kernel_rfl
                  · kernel_rfl
                  · kernel_rfl
                  · exact fun _ _ _ h => h
                  · exact Or.inr ⟨by kernel_rfl, rfl⟩
                  simp only [Act.put, List.setIfInBounds_toArray, List.set_cons_zero, List.set_cons_succ]
                  refine wpAnyH_take (i := 3) (oi := ?_) (v := undef) ?_ ?_ ?_ ?_ ?_ ?_ (by assumption) ?_
                  rotate_left 1
                  · simp only [List.getElem?_toArray, List.getElem?_cons_succ, List.getElem?_cons_zero]
                    rfl
                  · kernel_rfl
                  · kernel_rfl
                  · kernel_rfl
                  · exact fun _ _ _ h => h
                  · exact Or.inr ⟨by kernel_rfl, rfl⟩
                  simp only [Act.put, List.setIfInBounds_toArray, List.set_cons_zero, List.set_cons_succ]
                  refine wpAnyH_take (i := 4) (oi := ?_) (v := ?_) ?_ ?_ ?_ ?_ ?_ ?_ (by assumption) ?_
                  rotate_left 2
                  · simp only [List.getElem?_toArray, List.getElem?_cons_succ, List.getElem?_cons_zero]
                    rfl
                  · kernel_rfl
                  · kernel_rfl
                  · kernel_rfl
                  · exact fun _ _ _ h => h
                  · refine Or.inl ⟨by kernel_rfl, ?_⟩
                    intro wS hSw
                    try dsimp only at hSw
                    go_simp
                    try with_reducible rfl
                  simp only [Act.put, List.setIfInBounds_toArray, List.set_cons_zero, List.set_cons_succ]
                  refine wpAnyH_take (i := 5) (oi := ?_) (v := ?_) ?_ ?_ ?_ ?_ ?_ ?_ (by assumption) ?_
                  rotate_left 2
                  · simp only [List.getElem?_toArray, List.getElem?_cons_succ, List.getElem?_cons_zero]
                    rfl
                  · kernel_rfl
                  · kernel_rfl
                  · kernel_rfl
                  · exact fun _ _ _ h => h
                  · refine Or.inl ⟨by kernel_rfl, ?_⟩
                    intro wS hSw
                    try dsimp only at hSw
                    go_simp
                    try with_reducible rfl
                  simp only [Act.put, List.setIfInBounds_toArray, List.set_cons_zero, List.set_cons_succ]
                  refine wpAnyH_take (i := 6) (oi := ?_) (v := ?_) ?_ ?_ ?_ ?_ ?_ ?_ (by assumption) ?_
                  rotate_left 2
                  · simp only [List.getElem?_toArray, List.getElem?_cons_succ, List.getElem?_cons_zero]
                    rfl
                  · kernel_rfl
                  · kernel_rfl
                  · kernel_rfl
                  · exact fun _ _ _ h => h
                  · refine Or.inl ⟨by kernel_rfl, ?_⟩
                    intro wS hSw
                    try dsimp only at hSw
                    go_simp
                    try with_reducible rfl
                  simp only [Act.put, List.setIfInBounds_toArray, List.set_cons_zero, List.set_cons_succ]
                  refine wpAnyH_take (i := 7) (oi := ?_) (v := ?_) ?_ ?_ ?_ ?_ ?_ ?_ (by assumption) ?_
                  rotate_left 2
                  · simp only [List.getElem?_toArray, List.getElem?_cons_succ, List.getElem?_cons_zero]
                    rfl
                  · kernel_rfl
                  · kernel_rfl
                  · kernel_rfl
                  · exact fun _ _ _ h => h
                  · refine Or.inl ⟨by kernel_rfl, ?_⟩
                    intro wS hSw
                    try dsimp only at hSw
                    go_simp
                    try with_reducible rfl
                  simp only [Act.put, List.setIfInBounds_toArray, List.set_cons_zero, List.set_cons_succ]
                  refine wpAnyH_take (i := 8) (oi := ?_) (v := ?_) ?_ ?_ ?_ ?_ ?_ ?_ (by assumption) ?_
                  rotate_left 2
                  · simp only [List.getElem?_toArray, List.getElem?_cons_succ, List.getElem?_cons_zero]
                    rfl
                  · kernel_rfl
                  · kernel_rfl
                  · kernel_rfl
                  · exact fun _ _ _ h => h
                  · refine Or.inl ⟨by kernel_rfl, ?_⟩
                    intro wS hSw
                    try dsimp only at hSw
                    go_simp
                    try with_reducible rfl
                  simp only [Act.put, List.setIfInBounds_toArray, List.set_cons_zero, List.set_cons_succ]
                  refine wpAnyH_take (i := 9) (oi := ?_) (v := ?_) ?_ ?_ ?_ ?_ ?_ ?_ (by assumption) ?_
                  rotate_left 2
                  · simp only [List.getElem?_toArray, List.getElem?_cons_succ, List.getElem?_cons_zero]
                    rfl
                  · kernel_rfl
                  · kernel_rfl
                  · kernel_rfl
                  · exact fun _ _ _ h => h
                  · refine Or.inl ⟨by kernel_rfl, ?_⟩
                    intro wS hSw
                    try dsimp only at hSw
                    go_simp
                    try with_reducible rfl
                  simp only [Act.put, List.setIfInBounds_toArray, List.set_cons_zero, List.set_cons_succ]
                  refine wpAnyH_take (i := 10) (oi := ?_) (v := ?_) ?_ ?_ ?_ ?_ ?_ ?_ (by assumption) ?_
                  rotate_left 2
                  · simp only [List.getElem?_toArray, List.getElem?_cons_succ, List.getElem?_cons_zero]
                    rfl
                  · kernel_rfl
                  · kernel_rfl
                  · kernel_rfl
                  · exact fun _ _ _ h => h
                  · refine Or.inl ⟨by kernel_rfl, ?_⟩
                    intro wS hSw
                    try dsimp only at hSw
                    go_simp
                    try with_reducible rfl
                  simp only [Act.put, List.setIfInBounds_toArray, List.set_cons_zero, List.set_cons_succ]
                  refine wpAnyH_take (i := 11) (oi := ?_) (v := ?_) ?_ ?_ ?_ ?_ ?_ ?_ (by assumption) ?_
                  rotate_left 2
                  · simp only [List.getElem?_toArray, List.getElem?_cons_succ, List.getElem?_cons_zero]
                    rfl
                  · kernel_rfl
                  · kernel_rfl
                  · kernel_rfl
                  · exact fun _ _ _ h => h
                  · refine Or.inl ⟨by kernel_rfl, ?_⟩
                    intro wS hSw
                    try dsimp only at hSw
                    go_simp
                    try with_reducible rfl
                  simp only [Act.put, List.setIfInBounds_toArray, List.set_cons_zero, List.set_cons_succ]
                  refine wpAnyH_take (i := 12) (oi := ?_) (v := ?_) ?_ ?_ ?_ ?_ ?_ ?_ (by assumption) ?_
                  rotate_left 2
                  · simp only [List.getElem?_toArray, List.getElem?_cons_succ, List.getElem?_cons_zero]
                    rfl
                  · kernel_rfl
                  · kernel_rfl
                  · kernel_rfl
                  · exact fun _ _ _ h => h
                  · refine Or.inl ⟨by kernel_rfl, ?_⟩
                    intro wS hSw
                    try dsimp only at hSw
                    go_simp
                    try with_reducible rfl
                  simp only [Act.put, List.setIfInBounds_toArray, List.set_cons_zero, List.set_cons_succ]
                  refine wpAnyH_take (i := 13) (oi := ?_) (v := ?_) ?_ ?_ ?_ ?_ ?_ ?_ (by assumption) ?_
                  rotate_left 2
                  · simp only [List.getElem?_toArray, List.getElem?_cons_succ, List.getElem?_cons_zero]
                    rfl
                  · kernel_rfl
                  · kernel_rfl
                  · kernel_rfl
                  · exact fun _ _ _ h => h
                  · refine Or.inl ⟨by kernel_rfl, ?_⟩
                    intro wS hSw
                    try dsimp only at hSw
                    go_simp
                    try with_reducible rfl
                  simp only [Act.put, List.setIfInBounds_toArray, List.set_cons_zero, List.set_cons_succ]
                  refine wpAnyH_take (i := 14) (oi := ?_) (v := ?_) ?_ ?_ ?_ ?_ ?_ ?_ (by assumption) ?_
                  rotate_left 2
                  · simp only [List.getElem?_toArray, List.getElem?_cons_succ, List.getElem?_cons_zero]
                    rfl
                  · kernel_rfl
                  · kernel_rfl
                  · kernel_rfl
                  · exact fun _ _ _ h => h
                  · refine Or.inl ⟨by kernel_rfl, ?_⟩
                    intro wS hSw
                    try dsimp only at hSw
                    go_simp
                    try with_reducible rfl
                  simp only [Act.put, List.setIfInBounds_toArray, List.set_cons_zero, List.set_cons_succ]
                  refine wpAnyH_take (i := 15) (oi := ?_) (v := ?_) ?_ ?_ ?_ ?_ ?_ ?_ (by assumption) ?_
                  rotate_left 2
                  · simp only [List.getElem?_toArray, List.getElem?_cons_succ, List.getElem?_cons_zero]
                    rfl
                  · kernel_rfl
                  · kernel_rfl
                  · kernel_rfl
                  · exact fun _ _ _ h => h
                  · refine Or.inl ⟨by kernel_rfl, ?_⟩
                    intro wS hSw
                    try dsimp only at hSw
                    go_simp
                    try with_reducible rfl
                  simp only [Act.put, List.setIfInBounds_toArray, List.set_cons_zero, List.set_cons_succ]
                  refine wpAnyH_take (i := 18) (oi := ?_) (v := ?_) ?_ ?_ ?_ ?_ ?_ ?_ (by assumption) ?_
                  rotate_left 2
                  · simp only [List.getElem?_toArray, List.getElem?_cons_succ, List.getElem?_cons_zero]
                    rfl
                  · kernel_rfl
                  · kernel_rfl
                  · kernel_rfl
                  · exact fun _ _ _ h => h
                  · refine Or.inl ⟨by kernel_rfl, ?_⟩
                    intro wS hSw
                    try dsimp only at hSw
                    go_simp
                    try with_reducible rfl
                  simp only [Act.put, List.setIfInBounds_toArray, List.set_cons_zero, List.set_cons_succ]
                  refine wpAnyH_take (i := 19) (oi := ?_) (v := ?_) ?_ ?_ ?_ ?_ ?_ ?_ (by assumption) ?_
                  rotate_left 2
                  · simp only [List.getElem?_toArray, List.getElem?_cons_succ, List.getElem?_cons_zero]
                    rfl
                  · kernel_rfl
                  · kernel_rfl
                  · kernel_rfl
                  · exact fun _ _ _ h => h
                  · refine Or.inl ⟨by kernel_rfl, ?_⟩
                    intro wS hSw
                    try dsimp only at hSw
                    go_simp
                    try with_reducible rfl
                  simp only [Act.put, List.setIfInBounds_toArray, List.set_cons_zero, List.set_cons_succ]
                  refine wpAnyH_take (i := 21) (oi := ?_) (v := ?_) ?_ ?_ ?_ ?_ ?_ ?_ (by assumption) ?_
                  rotate_left 2
                  · simp only [List.getElem?_toArray, List.getElem?_cons_succ, List.getElem?_cons_zero]
                    rfl
                  · kernel_rfl
                  · kernel_rfl
                  · kernel_rfl
                  · exact fun _ _ _ h => h
                  · refine Or.inl ⟨by kernel_rfl, ?_⟩
                    intro wS hSw
                    try dsimp only at hSw
                    go_simp
                    try with_reducible rfl
                  simp only [Act.put, List.setIfInBounds_toArray, List.set_cons_zero, List.set_cons_succ]
                  refine wpAnyH_take (i := 22) (oi := ?_) (v := ?_) ?_ ?_ ?_ ?_ ?_ ?_ (by assumption) ?_
                  rotate_left 2
                  · simp only [List.getElem?_toArray, List.getElem?_cons_succ, List.getElem?_cons_zero]
                    rfl
                  · kernel_rfl
                  · kernel_rfl
                  · kernel_rfl
                  · exact fun _ _ _ h => h
                  · refine Or.inl ⟨by kernel_rfl, ?_⟩
                    intro wS hSw
                    try dsimp only at hSw
                    go_simp
                    try with_reducible rfl
                  simp only [Act.put, List.setIfInBounds_toArray, List.set_cons_zero, List.set_cons_succ]
                  refine wpAnyH_take (i := 25) (oi := ?_) (v := ?_) ?_ ?_ ?_ ?_ ?_ ?_ (by assumption) ?_
                  rotate_left 2
                  · simp only [List.getElem?_toArray, List.getElem?_cons_succ, List.getElem?_cons_zero]
                    rfl
                  · kernel_rfl
                  · kernel_rfl
                  · kernel_rfl
                  · exact fun _ _ _ h => h
                  · refine Or.inl ⟨by kernel_rfl, ?_⟩
                    intro wS hSw
                    try dsimp only at hSw
                    go_simp
                    try with_reducible rfl
                  simp only [Act.put, List.setIfInBounds_toArray, List.set_cons_zero, List.set_cons_succ]
                  refine wpAnyH_take (i := 26) (oi := ?_) (v := ?_) ?_ ?_ ?_ ?_ ?_ ?_ (by assumption) ?_
                  rotate_left 2
                  · simp only [List.getElem?_toArray, List.getElem?_cons_succ, List.getElem?_cons_zero]
                    rfl
                  · kernel_rfl
                  · kernel_rfl
                  · kernel_rfl
                  · exact fun _ _ _ h => h
                  · refine Or.inl ⟨by kernel_rfl, ?_⟩
                    intro wS hSw
                    try dsimp only at hSw
                    go_simp
                    try with_reducible rfl
                  simp only [Act.put, List.setIfInBounds_toArray, List.set_cons_zero, List.set_cons_succ]
                  refine wpAnyH_take (i := 27) (oi := ?_) (v := ?_) ?_ ?_ ?_ ?_ ?_ ?_ (by assumption) ?_
                  rotate_left 2
                  · simp only [List.getElem?_toArray, List.getElem?_cons_succ, List.getElem?_cons_zero]
                    rfl
                  · kernel_rfl
                  · kernel_rfl
                  · kernel_rfl
                  · exact fun _ _ _ h => h
                  · refine Or.inl ⟨by kernel_rfl, ?_⟩
                    intro wS hSw
                    try dsimp only at hSw
                    go_simp
                    try with_reducible rfl
                  simp only [Act.put, List.setIfInBounds_toArray, List.set_cons_zero, List.set_cons_succ]
                  refine wpAnyH_take (i := 28) (oi := ?_) (v := ?_) ?_ ?_ ?_ ?_ ?_ ?_ (by assumption) ?_
                  rotate_left 2
                  · simp only [List.getElem?_toArray, List.getElem?_cons_succ, List.getElem?_cons_zero]
                    rfl
                  · kernel_rfl
                  · kernel_rfl
                  · kernel_rfl
                  · exact fun _ _ _ h => h
                  · refine Or.inl ⟨by kernel_rfl, ?_⟩
                    intro wS hSw
                    try dsimp only at hSw
                    go_simp
                    try with_reducible rfl
                  simp only [Act.put, List.setIfInBounds_toArray, List.set_cons_zero, List.set_cons_succ]
                  refine wpAnyH_take (i := 29) (oi := ?_) (v := ?_) ?_ ?_ ?_ ?_ ?_ ?_ (by assumption) ?_
                  rotate_left 2
                  · simp only [List.getElem?_toArray, List.getElem?_cons_succ, List.getElem?_cons_zero]
                    rfl
                  · kernel_rfl
                  · kernel_rfl
                  · kernel_rfl
                  · exact fun _ _ _ h => h
                  · refine Or.inl ⟨by kernel_rfl, ?_⟩
                    intro wS hSw
                    try dsimp only at hSw
                    go_simp
                    try with_reducible rfl
                  simp only [Act.put, List.setIfInBounds_toArray, List.set_cons_zero, List.set_cons_succ]
                  refine wpAnyH_ready (rs := [16]) (by kernel_rfl) (by simp) ?_
                  refine AllReadyH.cons rfl (fun K hK => ?_) ?_
                  rotate_left
                  · exact AllReadyH.nil
                  go_simp
                  refine (c1 _ (by exact hPg)).mono ?_
                  rintro e wh ⟨rfl, hbh⟩
                  go_wp2_with fail
                  refine hK.out _ _ ?_ (fun hHeld => ?_)
                  · exact keep5 hHeld hbh
                  clear hK K
                  try simp only [Act.put, List.setIfInBounds_toArray, List.set_cons_zero, List.set_cons_succ]
                  refine wpAnyH_take (i := 17) (oi := ?_) (v := ?_) ?_ ?_ ?_ ?_ ?_ ?_ (by assumption) ?_
                  rotate_left 2
                  · simp only [List.getElem?_toArray, List.getElem?_cons_succ, List.getElem?_cons_zero]
                    rfl
                  · kernel_rfl
                  · kernel_rfl
                  · kernel_rfl
                  · exact fun _ _ _ h => h
                  · refine Or.inl ⟨by kernel_rfl, ?_⟩
                    intro wS hSw
                    try dsimp only at hSw
                    go_simp
                    try with_reducible rfl
                  simp only [Act.put, List.setIfInBounds_toArray, List.set_cons_zero, List.set_cons_succ]
                  refine wpAnyH_take (i := 20) (oi := ?_) (v := ?_) ?_ ?_ ?_ ?_ ?_ ?_ (by assumption) ?_
                  rotate_left 2
                  · simp only [List.getElem?_toArray, List.getElem?_cons_succ, List.getElem?_cons_zero]
                    rfl
                  · kernel_rfl
                  · kernel_rfl
                  · kernel_rfl
                  · exact fun _ _ _ h => h
                  · refine Or.inl ⟨by kernel_rfl, ?_⟩
                    intro wS hSw
                    try dsimp only at hSw
                    go_simp
                    try with_reducible rfl
                  simp only [Act.put, List.setIfInBounds_toArray, List.set_cons_zero, List.set_cons_succ]
                  refine wpAnyH_ready (rs := [23]) (by kernel_rfl) (by simp) ?_
                  refine AllReadyH.cons rfl (fun K hK => ?_) ?_
                  rotate_left
                  · exact AllReadyH.nil
                  go_simp
                  refine (c2 _ (RdP.below (by exact RdP.drew hPg) hbh)).mono ?_
                  rintro e wi ⟨rfl, hbi⟩
                  go_wp2_with fail
                  refine hK.out _ _ ?_ (fun hHeld => ?_)
                  · exact keep5 hHeld hbi
                  clear hK K
                  try simp only [Act.put, List.setIfInBounds_toArray, List.set_cons_zero, List.set_cons_succ]
                  refine wpAnyH_take (i := 24) (oi := ?_) (v := ?_) ?_ ?_ ?_ ?_ ?_ ?_ (by assumption) ?_
                  rotate_left 2
                  · simp only [List.getElem?_toArray, List.getElem?_cons_succ, List.getElem?_cons_zero]
                    rfl
                  · kernel_rfl
                  · kernel_rfl
                  · kernel_rfl
                  · exact fun _ _ _ h => h
                  · refine Or.inl ⟨by kernel_rfl, ?_⟩
                    intro wS hSw
                    try dsimp only at hSw
                    go_simp
                    try with_reducible rfl
                  simp only [Act.put, List.setIfInBounds_toArray, List.set_cons_zero, List.set_cons_succ]
                  refine wpAnyH_take (i := 30) (oi := ?_) (v := ?_) ?_ ?_ ?_ ?_ ?_ ?_ (by assumption) ?_
                  rotate_left 2
                  · simp only [List.getElem?_toArray, List.getElem?_cons_succ, List.getElem?_cons_zero]
                    rfl
                  · kernel_rfl
                  · kernel_rfl
                  · kernel_rfl
                  · exact fun _ _ _ h => h
                  · refine Or.inl ⟨by kernel_rfl, ?_⟩
                    intro wS hSw
                    try dsimp only at hSw
                    go_simp
                    try with_reducible rfl
                  simp only [Act.put, List.setIfInBounds_toArray, List.set_cons_zero, List.set_cons_succ]
                  refine wpAnyH_take (i := 31) (oi := ?_) (v := ?_) ?_ ?_ ?_ ?_ ?_ ?_ (by assumption) ?_
                  rotate_left 2
                  · simp only [List.getElem?_toArray, List.getElem?_cons_succ, List.getElem?_cons_zero]
                    rfl
                  · kernel_rfl
                  · kernel_rfl
                  · kernel_rfl
                  · exact fun _ _ _ h => h
                  · refine Or.inl ⟨by kernel_rfl, ?_⟩
                    intro wS hSw
                    try dsimp only at hSw
                    go_simp
                    try with_reducible rfl
                  simp only [Act.put, List.setIfInBounds_toArray, List.set_cons_zero, List.set_cons_succ]
                  refine wpAnyH_take (i := 32) (oi := ?_) (v := ?_) ?_ ?_ ?_ ?_ ?_ ?_ (by assumption) ?_
                  rotate_left 2
                  · simp only [List.getElem?_toArray, List.getElem?_cons_succ, List.getElem?_cons_zero]
                    rfl
                  · kernel_rfl
                  · kernel_rfl
                  · kernel_rfl
                  · exact fun _ _ _ h => h
                  · refine Or.inl ⟨by kernel_rfl, ?_⟩
                    intro wS hSw
                    try dsimp only at hSw
                    go_simp
                    try with_reducible rfl
                  simp only [Act.put, List.setIfInBounds_toArray, List.set_cons_zero, List.set_cons_succ]
                  refine wpAnyH_take (i := 33) (oi := ?_) (v := ?_) ?_ ?_ ?_ ?_ ?_ ?_ (by assumption) ?_
                  rotate_left 2
                  · simp only [List.getElem?_toArray, List.getElem?_cons_succ, List.getElem?_cons_zero]
                    rfl
                  · kernel_rfl
                  · kernel_rfl
                  · kernel_rfl
                  · exact fun _ _ _ h => h
                  · refine Or.inl ⟨by kernel_rfl, ?_⟩
                    intro wS hSw
                    try dsimp only at hSw
                    go_simp
                    try with_reducible rfl
                  simp only [Act.put, List.setIfInBounds_toArray, List.set_cons_zero, List.set_cons_succ]
                  refine wpAnyH_done (by kernel_rfl) ?_ _
                  have hbz := behind (behind hbrg.drew hbh) hbi
                  go_wp2
                  go_roundw
                  case rel => exact ⟨k + 1, by omega, by go_num, hbz⟩
                  case measure => simp [intOf]; omega
            · have hkn : ¬ (k : Int) < (X.length : Int) := by omega
              have hB9 := behind hBc hbr
              clear sc qc xEc hXc hPc hZc hBc hbr
              go_wp2
              go_ret
              exact ⟨rfl, hB9⟩
        · rw [if_neg hF] at hsn
          generalize (Rg.zns X (p ++ [x])).length = NM at hsn cM
          obtain ⟨N, hN⟩ : ∃ N, (Rg.zns X p).length = N := ⟨_, rfl⟩
          have HNN : Hid ((Rg.zns X p).length = N) := hN
          rw [hN] at hsn cP
          have hNM : N < NM := by omega
          have hNMi : (N : Int) < (NM : Int) := by omega
          clear hN hsn
          go_region_held3 (fun wy => wy.cell? ⟨M, 0, none⟩ = some (.slice am (p.length + 1) cm) ∧ wy.cell? ⟨D + 1, 0, none⟩ = some (.slice b p.length cb))
            (first | exact ⟨xm0, qa0⟩ | exact keepR2 ‹_› ‹_› | go_keep)
            (first | (go_at_call 14; have hy := RdZ.below (w := wa.drew) hZa hbb; refine (cP _ hy (RdS.below (w := wa.drew) hXa hbb)).mono ?_; rintro e wc ⟨rfl, hbc'⟩) | (go_at_call 14; refine (cM _ (by exact hRa) (by exact hXa)).mono ?_; rintro e wb ⟨rfl, hbb⟩) | fail)
          have hbd : Below wa.heap.size wa wc := behind (behind (Below.refl _ _).drew hbb) hbc'
          have sc := sa.below hbd
          have qc := qa.below hbd
          have xEc := xEa.below hbd
          have hXc := hXa.below hbd
          have hPc := hPa.below hbd
          have hZc := hZa.below hbd
          have hBc := behind hBa hbd
          clear cM hRa hbb hbc' hbd sa qa xMa xEa hXa hPa hZa hBa sa0 sa1 qa0 xm0 xe0 xe1 xe2
          go_wp2
          go_loopw [12] (fun i wr => ∃ k : Nat, k ≤ X.length ∧ i = .int .i64 k ∧ Below wc.heap.size wc wr) (fun i _ => X.length - (intOf i).toNat)
          case atStart => exact ⟨0, Nat.zero_le _, rfl, Below.refl _ _⟩
          case round =>
            obtain ⟨k, hk, rfl, hbr⟩ := hrel
            by_cases hlt : k < X.length
            · have sr := sc.below hbr
              have qr := qc.below hbr
              have xEr := xEc.below hbr
              have hXr := hXc.below hbr
              have hPr := hPc.below hbr
              have hZr := hZc.below hbr
              obtain ⟨t2, -⟩ := id qr
              obtain ⟨b9, off, e, pp⟩ := hXr k hlt
              simp only [Option.some.injEq, Addr.mk.injEq, and_true] at e
              obtain ⟨rfl, rfl⟩ := e
              rw [Nat.zero_add] at pp
              have hmem := List.getElem_mem hlt
              have hself := HSELF.out _ hmem
              have hwt := HWT.out _ hmem
              have hFk : X[k].1 ∉ p → X[k].2.1 ∉ Rg.zns X p → z ∉ Rg.zns X p := fun h1 h2 => HF.out ⟨_, hmem, h1, h2⟩
              have hHk : X[k].1 ∉ p → (X[k].2.1 ∉ Rg.zns X p ↔ z ∉ Rg.zns X p) → Rg.NotH Q (x, z, n) X[k] := HH.out _ hmem
              have hsk := HSN.out _ hself
              generalize X[k] = ek at pp hself hwt hFk hHk hsk
              obtain ⟨ik, zk, nk⟩ := ek
              dsimp only at hself hwt hFk hHk hsk
              obtain ⟨p0, p1, p2⟩ := pp
              dsimp only at p0 p1 p2
              have cH := hasB b cb p ik wr.drew (by omega) (by exact hZr)
              have hkn : (k : Int) < (X.length : Int) := by omega
              have hk0 : (0 : Int) ≤ (k : Int) := by omega
              by_cases hin : ik ∈ p
              · rw [decide_eq_true hin] at cH
                go_wp2_with fail
                go_region_held3 (fun wy => wy.cell? ⟨D + 1, 0, none⟩ = some (.slice b p.length cb) ∧ wy.cell? ⟨g, k * 3, none⟩ = some (.int .i64 ik))
                  (first | exact ⟨t2, p0⟩ | exact keepR2 ‹_› ‹_› | go_keep)
                  (first | (go_at_call 24; refine cH.mono ?_; rintro e wd ⟨rfl, hbd⟩) | fail)
                have hbr7 : Below wc.heap.size wc wd := behind hbr.drew hbd
                clear cH p0 p1 p2 t2 hbd sr qr xEr hXr hPr hZr hFk hHk hsk
                go_wp2
                go_roundw
                case rel => exact ⟨k + 1, by omega, by go_num, hbr7⟩
                case measure => simp [intOf]; omega
              · rw [decide_eq_false hin] at cH
                have hFk' := hFk hin
                have hHk' := hHk hin
                go_wp2_with fail
                go_region_held3 (fun wy => wy.cell? ⟨D + 1, 0, none⟩ = some (.slice b p.length cb) ∧ wy.cell? ⟨g, k * 3, none⟩ = some (.int .i64 ik))
                  (first | exact ⟨t2, p0⟩ | exact keepR2 ‹_› ‹_› | go_keep)
                  (first | (go_at_call 24; refine cH.mono ?_; rintro e wd ⟨rfl, hbd'⟩) | fail)
                have hbd : Below wr.heap.size wr wd := behind (Below.refl _ _).drew hbd'
                have hbrd : Below wc.heap.size wc wd := behind hbr hbd
                have p0d := cellOn p0 hbd
                have p2d := cellOn p2 hbd
                clear cH p0 p1 p2 t2 hbd' hFk hHk sr qr xEr hXr hPr hZr
                have qd := qc.below hbrd
                have hZd := hZc.below hbrd
                have hXd := hXc.below hbrd
                have hlen' : (p ++ [ik]).length = p.length + 1 := by simp
                have hsd := sc.below hbrd
                have xEd := xEc.below hbrd
                have hPd := hPc.below hbrd
                go_upto_region 23 with fail
                go_cut [13] (fun v wx => ∃ (Mo : Nat) (ao : Option Addr) (co : Nat), v = .pointer (some ⟨Mo, 0, none⟩) ∧ wx.cell? ⟨Mo, 0, none⟩ = some (.slice ao (p.length + 1) co) ∧ RdZ wx ao (p ++ [ik]) ∧ Below wd.heap.size wd wx)
                case first =>
                  obtain ⟨td, -⟩ := id qd
                  have HS23 : Hid (wd.cell? ⟨D + 1, 0, none⟩ = some (.slice b p.length cb) ∧ wd.cell? ⟨g, k * 3, none⟩ = some (.int .i64 ik)) := ⟨td, p0d⟩
                  have HS23d : Hid (wd.drew.cell? ⟨D + 1, 0, none⟩ = some (.slice b p.length cb) ∧ wd.drew.cell? ⟨g, k * 3, none⟩ = some (.int .i64 ik)) := ⟨td, p0d⟩
                  go_region_held3 (fun wy => wy.cell? ⟨D + 1, 0, none⟩ = some (.slice b p.length cb) ∧ wy.cell? ⟨g, k * 3, none⟩ = some (.int .i64 ik))
                    (first | with_reducible exact HS23.out | with_reducible exact HS23d.out | with_reducible exact keepR2 HS23.out (bel1 _ _).drew | with_reducible exact keepR2 HS23.out (bel2 _ _ _).drew | with_reducible exact keepR2 HS23.out (bel3 _ _ _ _).drew | with_reducible exact keepR2 HS23.out hb8 | with_reducible exact keepR2 HS23.out (behind hb8 (bel1 _ _)) | with_reducible exact keepR2 HS23.out hb7 | with_reducible exact keepR2 HS23.out (behind hb7 (bel1 _ _)) | with_reducible exact keepR2 HS23.out (behind hb7 (bel2 _ _ _)) | exact keepR2 HS23.out (Below.setCell hb8 (by dsimp only; omega) _) | fail)
                    (first | (refine step_appL (wd.alloc (.cells #[] 3)).drew (by rfl) (.tmp 104) (.tmp 106) (by rfl) wd (bel1 wd (.cells #[] 3)).drew _ [] (by rfl) (emp1 wd) b cb p (by rfl) (by exact rdD (RdZ.below hZd (bel1 wd (.cells #[] 3)))) hbc (by simp; omega) ?_; intro v1 w7 hown7 hg7 hat7 hb7; simp only [List.nil_append] at hown7; have hz7 := hg7.size; have hzL := hb7.size) | (refine step_appL ((wd.alloc (.cells #[] 3)).alloc (.cells #[.int .i64 ik] 3)).drew (by rfl) (.tmp 104) (.tmp 106) (by rfl) wd (bel2 wd (.cells #[] 3) (.cells #[.int .i64 ik] 3)).drew _ [] (by rfl) (emp2b wd (.cells #[.int .i64 ik] 3)) b cb p (by rfl) (by exact rdD (RdZ.below hZd (bel2 wd (.cells #[] 3) (.cells #[.int .i64 ik] 3)))) hbc (by simp; omega) ?_; intro v1 w7 hown7 hg7 hat7 hb7; simp only [List.nil_append] at hown7; have hz7 := hg7.size; have hzL := hb7.size; have i7 : Slot1 w7 (wd.heap.size + 1) (.int .i64 ik) := Slot1.grw (w := ((wd.alloc (.cells #[] 3)).alloc (.cells #[.int .i64 ik] 3)).drew) (sx2 wd (.cells #[] 3) (.int .i64 ik) 3) hg7 (by simp only [Value.ownBlock, ne_eq, Option.some.injEq]; omega); have iz7 := i7.rd) | (refine step_appL ((wd.alloc (.cells #[] 3)).alloc (.cells #[.slice none 0 0] 36)).drew (by rfl) (.tmp 104) (.tmp 106) (by rfl) wd (bel2 wd (.cells #[] 3) (.cells #[.slice none 0 0] 36)).drew _ [] (by rfl) (emp2b wd (.cells #[.slice none 0 0] 36)) b cb p (by rfl) (by exact rdD (RdZ.below hZd (bel2 wd (.cells #[] 3) (.cells #[.slice none 0 0] 36)))) hbc (by simp; omega) ?_; intro v1 w7 hown7 hg7 hat7 hb7; simp only [List.nil_append] at hown7; have hz7 := hg7.size; have hzL := hb7.size; have x7 : Slot1 w7 (wd.heap.size + 1) (.slice none 0 0) := Slot1.grw (w := ((wd.alloc (.cells #[] 3)).alloc (.cells #[.slice none 0 0] 36)).drew) (sx2 wd (.cells #[] 3) (.slice none 0 0) 36) hg7 (by simp only [Value.ownBlock, ne_eq, Option.some.injEq]; omega); have nx7 : v1.ownBlock ≠ some (wd.heap.size + 1) := (fun e => by rcases hat7 with h | h <;> rw [h] at e <;> simp only [Value.ownBlock, World.size_drew, World.size_alloc, Option.some.injEq] at e <;> omega)) | (refine step_appL ((wd.alloc (.cells #[.int .i64 ik] 3)).alloc (.cells #[] 3)).drew (by rfl) (.tmp 104) (.tmp 106) (by rfl) wd (bel2 wd (.cells #[.int .i64 ik] 3) (.cells #[] 3)).drew _ [] (by rfl) (emp2a wd (.cells #[.int .i64 ik] 3)) b cb p (by rfl) (by exact rdD (RdZ.below hZd (bel2 wd (.cells #[.int .i64 ik] 3) (.cells #[] 3)))) hbc (by simp; omega) ?_; intro v1 w7 hown7 hg7 hat7 hb7; simp only [List.nil_append] at hown7; have hz7 := hg7.size; have hzL := hb7.size; have i7 : Slot1 w7 (wd.heap.size) (.int .i64 ik) := Slot1.grw (w := ((wd.alloc (.cells #[.int .i64 ik] 3)).alloc (.cells #[] 3)).drew) (Slot1.al (sx1 wd  (.int .i64 ik) 3) (.cells #[] 3)) hg7 (by simp only [Value.ownBlock, ne_eq, Option.some.injEq]; omega); have iz7 := i7.rd) | (refine step_appL ((wd.alloc (.cells #[.slice none 0 0] 36)).alloc (.cells #[] 3)).drew (by rfl) (.tmp 104) (.tmp 106) (by rfl) wd (bel2 wd (.cells #[.slice none 0 0] 36) (.cells #[] 3)).drew _ [] (by rfl) (emp2a wd (.cells #[.slice none 0 0] 36)) b cb p (by rfl) (by exact rdD (RdZ.below hZd (bel2 wd (.cells #[.slice none 0 0] 36) (.cells #[] 3)))) hbc (by simp; omega) ?_; intro v1 w7 hown7 hg7 hat7 hb7; simp only [List.nil_append] at hown7; have hz7 := hg7.size; have hzL := hb7.size; have x7 : Slot1 w7 (wd.heap.size) (.slice none 0 0) := Slot1.grw (w := ((wd.alloc (.cells #[.slice none 0 0] 36)).alloc (.cells #[] 3)).drew) (Slot1.al (sx1 wd  (.slice none 0 0) 36) (.cells #[] 3)) hg7 (by simp only [Value.ownBlock, ne_eq, Option.some.injEq]; omega); have nx7 : v1.ownBlock ≠ some (wd.heap.size) := (fun e => by rcases hat7 with h | h <;> rw [h] at e <;> simp only [Value.ownBlock, World.size_drew, World.size_alloc, Option.some.injEq] at e <;> omega)) | (refine step_appL (((wd.alloc (.cells #[] 3)).alloc (.cells #[.int .i64 ik] 3)).alloc (.cells #[.slice none 0 0] 36)).drew (by rfl) (.tmp 104) (.tmp 106) (by rfl) wd (bel3 wd (.cells #[] 3) (.cells #[.int .i64 ik] 3) (.cells #[.slice none 0 0] 36)).drew _ [] (by rfl) (emp3c wd (.cells #[.int .i64 ik] 3) (.cells #[.slice none 0 0] 36)) b cb p (by rfl) (by exact rdD (RdZ.below hZd (bel3 wd (.cells #[] 3) (.cells #[.int .i64 ik] 3) (.cells #[.slice none 0 0] 36)))) hbc (by simp; omega) ?_; intro v1 w7 hown7 hg7 hat7 hb7; simp only [List.nil_append] at hown7; have hz7 := hg7.size; have hzL := hb7.size; have i7 : Slot1 w7 (wd.heap.size + 1) (.int .i64 ik) := Slot1.grw (w := (((wd.alloc (.cells #[] 3)).alloc (.cells #[.int .i64 ik] 3)).alloc (.cells #[.slice none 0 0] 36)).drew) (Slot1.al (sx2 wd (.cells #[] 3) (.int .i64 ik) 3) (.cells #[.slice none 0 0] 36)) hg7 (by simp only [Value.ownBlock, ne_eq, Option.some.injEq]; omega); have iz7 := i7.rd; have x7 : Slot1 w7 (wd.heap.size + 1 + 1) (.slice none 0 0) := Slot1.grw (w := (((wd.alloc (.cells #[] 3)).alloc (.cells #[.int .i64 ik] 3)).alloc (.cells #[.slice none 0 0] 36)).drew) (sx3 wd (.cells #[] 3) (.cells #[.int .i64 ik] 3) (.slice none 0 0) 36) hg7 (by simp only [Value.ownBlock, ne_eq, Option.some.injEq]; omega); have nx7 : v1.ownBlock ≠ some (wd.heap.size + 1 + 1) := (fun e => by rcases hat7 with h | h <;> rw [h] at e <;> simp only [Value.ownBlock, World.size_drew, World.size_alloc, Option.some.injEq] at e <;> omega)) | (refine step_appL (((wd.alloc (.cells #[] 3)).alloc (.cells #[.slice none 0 0] 36)).alloc (.cells #[.int .i64 ik] 3)).drew (by rfl) (.tmp 104) (.tmp 106) (by rfl) wd (bel3 wd (.cells #[] 3) (.cells #[.slice none 0 0] 36) (.cells #[.int .i64 ik] 3)).drew _ [] (by rfl) (emp3c wd (.cells #[.slice none 0 0] 36) (.cells #[.int .i64 ik] 3)) b cb p (by rfl) (by exact rdD (RdZ.below hZd (bel3 wd (.cells #[] 3) (.cells #[.slice none 0 0] 36) (.cells #[.int .i64 ik] 3)))) hbc (by simp; omega) ?_; intro v1 w7 hown7 hg7 hat7 hb7; simp only [List.nil_append] at hown7; have hz7 := hg7.size; have hzL := hb7.size; have i7 : Slot1 w7 (wd.heap.size + 1 + 1) (.int .i64 ik) := Slot1.grw (w := (((wd.alloc (.cells #[] 3)).alloc (.cells #[.slice none 0 0] 36)).alloc (.cells #[.int .i64 ik] 3)).drew) (sx3 wd (.cells #[] 3) (.cells #[.slice none 0 0] 36) (.int .i64 ik) 3) hg7 (by simp only [Value.ownBlock, ne_eq, Option.some.injEq]; omega); have iz7 := i7.rd; have x7 : Slot1 w7 (wd.heap.size + 1) (.slice none 0 0) := Slot1.grw (w := (((wd.alloc (.cells #[] 3)).alloc (.cells #[.slice none 0 0] 36)).alloc (.cells #[.int .i64 ik] 3)).drew) (Slot1.al (sx2 wd (.cells #[] 3) (.slice none 0 0) 36) (.cells #[.int .i64 ik] 3)) hg7 (by simp only [Value.ownBlock, ne_eq, Option.some.injEq]; omega); have nx7 : v1.ownBlock ≠ some (wd.heap.size + 1) := (fun e => by rcases hat7 with h | h <;> rw [h] at e <;> simp only [Value.ownBlock, World.size_drew, World.size_alloc, Option.some.injEq] at e <;> omega)) | (refine step_appL (((wd.alloc (.cells #[.int .i64 ik] 3)).alloc (.cells #[] 3)).alloc (.cells #[.slice none 0 0] 36)).drew (by rfl) (.tmp 104) (.tmp 106) (by rfl) wd (bel3 wd (.cells #[.int .i64 ik] 3) (.cells #[] 3) (.cells #[.slice none 0 0] 36)).drew _ [] (by rfl) (emp3b wd (.cells #[.int .i64 ik] 3) (.cells #[.slice none 0 0] 36)) b cb p (by rfl) (by exact rdD (RdZ.below hZd (bel3 wd (.cells #[.int .i64 ik] 3) (.cells #[] 3) (.cells #[.slice none 0 0] 36)))) hbc (by simp; omega) ?_; intro v1 w7 hown7 hg7 hat7 hb7; simp only [List.nil_append] at hown7; have hz7 := hg7.size; have hzL := hb7.size; have i7 : Slot1 w7 (wd.heap.size) (.int .i64 ik) := Slot1.grw (w := (((wd.alloc (.cells #[.int .i64 ik] 3)).alloc (.cells #[] 3)).alloc (.cells #[.slice none 0 0] 36)).drew) (Slot1.al (Slot1.al (sx1 wd  (.int .i64 ik) 3) (.cells #[] 3)) (.cells #[.slice none 0 0] 36)) hg7 (by simp only [Value.ownBlock, ne_eq, Option.some.injEq]; omega); have iz7 := i7.rd; have x7 : Slot1 w7 (wd.heap.size + 1 + 1) (.slice none 0 0) := Slot1.grw (w := (((wd.alloc (.cells #[.int .i64 ik] 3)).alloc (.cells #[] 3)).alloc (.cells #[.slice none 0 0] 36)).drew) (sx3 wd (.cells #[.int .i64 ik] 3) (.cells #[] 3) (.slice none 0 0) 36) hg7 (by simp only [Value.ownBlock, ne_eq, Option.some.injEq]; omega); have nx7 : v1.ownBlock ≠ some (wd.heap.size + 1 + 1) := (fun e => by rcases hat7 with h | h <;> rw [h] at e <;> simp only [Value.ownBlock, World.size_drew, World.size_alloc, Option.some.injEq] at e <;> omega)) | (refine step_appL (((wd.alloc (.cells #[.int .i64 ik] 3)).alloc (.cells #[.slice none 0 0] 36)).alloc (.cells #[] 3)).drew (by rfl) (.tmp 104) (.tmp 106) (by rfl) wd (bel3 wd (.cells #[.int .i64 ik] 3) (.cells #[.slice none 0 0] 36) (.cells #[] 3)).drew _ [] (by rfl) (emp3a wd (.cells #[.int .i64 ik] 3) (.cells #[.slice none 0 0] 36)) b cb p (by rfl) (by exact rdD (RdZ.below hZd (bel3 wd (.cells #[.int .i64 ik] 3) (.cells #[.slice none 0 0] 36) (.cells #[] 3)))) hbc (by simp; omega) ?_; intro v1 w7 hown7 hg7 hat7 hb7; simp only [List.nil_append] at hown7; have hz7 := hg7.size; have hzL := hb7.size; have i7 : Slot1 w7 (wd.heap.size) (.int .i64 ik) := Slot1.grw (w := (((wd.alloc (.cells #[.int .i64 ik] 3)).alloc (.cells #[.slice none 0 0] 36)).alloc (.cells #[] 3)).drew) (Slot1.al (Slot1.al (sx1 wd  (.int .i64 ik) 3) (.cells #[.slice none 0 0] 36)) (.cells #[] 3)) hg7 (by simp only [Value.ownBlock, ne_eq, Option.some.injEq]; omega); have iz7 := i7.rd; have x7 : Slot1 w7 (wd.heap.size + 1) (.slice none 0 0) := Slot1.grw (w := (((wd.alloc (.cells #[.int .i64 ik] 3)).alloc (.cells #[.slice none 0 0] 36)).alloc (.cells #[] 3)).drew) (Slot1.al (sx2 wd (.cells #[.int .i64 ik] 3) (.slice none 0 0) 36) (.cells #[] 3)) hg7 (by simp only [Value.ownBlock, ne_eq, Option.some.injEq]; omega); have nx7 : v1.ownBlock ≠ some (wd.heap.size + 1) := (fun e => by rcases hat7 with h | h <;> rw [h] at e <;> simp only [Value.ownBlock, World.size_drew, World.size_alloc, Option.some.injEq] at e <;> omega)) | (refine step_appL (((wd.alloc (.cells #[.slice none 0 0] 36)).alloc (.cells #[] 3)).alloc (.cells #[.int .i64 ik] 3)).drew (by rfl) (.tmp 104) (.tmp 106) (by rfl) wd (bel3 wd (.cells #[.slice none 0 0] 36) (.cells #[] 3) (.cells #[.int .i64 ik] 3)).drew _ [] (by rfl) (emp3b wd (.cells #[.slice none 0 0] 36) (.cells #[.int .i64 ik] 3)) b cb p (by rfl) (by exact rdD (RdZ.below hZd (bel3 wd (.cells #[.slice none 0 0] 36) (.cells #[] 3) (.cells #[.int .i64 ik] 3)))) hbc (by simp; omega) ?_; intro v1 w7 hown7 hg7 hat7 hb7; simp only [List.nil_append] at hown7; have hz7 := hg7.size; have hzL := hb7.size; have i7 : Slot1 w7 (wd.heap.size + 1 + 1) (.int .i64 ik) := Slot1.grw (w := (((wd.alloc (.cells #[.slice none 0 0] 36)).alloc (.cells #[] 3)).alloc (.cells #[.int .i64 ik] 3)).drew) (sx3 wd (.cells #[.slice none 0 0] 36) (.cells #[] 3) (.int .i64 ik) 3) hg7 (by simp only [Value.ownBlock, ne_eq, Option.some.injEq]; omega); have iz7 := i7.rd; have x7 : Slot1 w7 (wd.heap.size) (.slice none 0 0) := Slot1.grw (w := (((wd.alloc (.cells #[.slice none 0 0] 36)).alloc (.cells #[] 3)).alloc (.cells #[.int .i64 ik] 3)).drew) (Slot1.al (Slot1.al (sx1 wd  (.slice none 0 0) 36) (.cells #[] 3)) (.cells #[.int .i64 ik] 3)) hg7 (by simp only [Value.ownBlock, ne_eq, Option.some.injEq]; omega); have nx7 : v1.ownBlock ≠ some (wd.heap.size) := (fun e => by rcases hat7 with h | h <;> rw [h] at e <;> simp only [Value.ownBlock, World.size_drew, World.size_alloc, Option.some.injEq] at e <;> omega)) | (refine step_appL (((wd.alloc (.cells #[.slice none 0 0] 36)).alloc (.cells #[.int .i64 ik] 3)).alloc (.cells #[] 3)).drew (by rfl) (.tmp 104) (.tmp 106) (by rfl) wd (bel3 wd (.cells #[.slice none 0 0] 36) (.cells #[.int .i64 ik] 3) (.cells #[] 3)).drew _ [] (by rfl) (emp3a wd (.cells #[.slice none 0 0] 36) (.cells #[.int .i64 ik] 3)) b cb p (by rfl) (by exact rdD (RdZ.below hZd (bel3 wd (.cells #[.slice none 0 0] 36) (.cells #[.int .i64 ik] 3) (.cells #[] 3)))) hbc (by simp; omega) ?_; intro v1 w7 hown7 hg7 hat7 hb7; simp only [List.nil_append] at hown7; have hz7 := hg7.size; have hzL := hb7.size; have i7 : Slot1 w7 (wd.heap.size + 1) (.int .i64 ik) := Slot1.grw (w := (((wd.alloc (.cells #[.slice none 0 0] 36)).alloc (.cells #[.int .i64 ik] 3)).alloc (.cells #[] 3)).drew) (Slot1.al (sx2 wd (.cells #[.slice none 0 0] 36) (.int .i64 ik) 3) (.cells #[] 3)) hg7 (by simp only [Value.ownBlock, ne_eq, Option.some.injEq]; omega); have iz7 := i7.rd; have x7 : Slot1 w7 (wd.heap.size) (.slice none 0 0) := Slot1.grw (w := (((wd.alloc (.cells #[.slice none 0 0] 36)).alloc (.cells #[.int .i64 ik] 3)).alloc (.cells #[] 3)).drew) (Slot1.al (Slot1.al (sx1 wd  (.slice none 0 0) 36) (.cells #[.int .i64 ik] 3)) (.cells #[] 3)) hg7 (by simp only [Value.ownBlock, ne_eq, Option.some.injEq]; omega); have nx7 : v1.ownBlock ≠ some (wd.heap.size) := (fun e => by rcases hat7 with h | h <;> rw [h] at e <;> simp only [Value.ownBlock, World.size_drew, World.size_alloc, Option.some.injEq] at e <;> omega)) | (refine step_appL w7 (by rfl) (.tmp 107) (.tmp 113) (by rfl) wd hb7 v1 p (by rfl) hown7 _ 1 [ik] (by rfl) iz7 (fun e => by cases e) (by simp; omega) ?_; intro v2 w8 hown8 hg8 hat8 hb8; rw [hlen'] at hown8; obtain ⟨a8, c8, rfl⟩ := Zv_shape hown8; have hR8 : RdZ w8 a8 (p ++ [ik]) := Zv_rd (base := wd.heap.size) (cap := c8) (e := 3) (by rw [hlen']; exact hown8); (first | (have x8 := Slot1.grw x7 hg8 (fun e => nx7 e.symm); obtain ⟨k8, f8⟩ := id x8) | skip)) | (refine step_appL (w7.alloc (.cells #[.slice none 0 0] 36)) (by rfl) (.tmp 107) (.tmp 113) (by rfl) wd (behind hb7 (bel1 w7 (.cells #[.slice none 0 0] 36))) v1 p (by rfl) (World.ownsRow.alloc hown7 (.cells #[.slice none 0 0] 36)) _ 1 [ik] (by rfl) (RdZ.below iz7 (bel1 w7 (.cells #[.slice none 0 0] 36))) (fun e => by cases e) (by simp; omega) ?_; intro v2 w8 hown8 hg8 hat8 hb8; rw [hlen'] at hown8; obtain ⟨a8, c8, rfl⟩ := Zv_shape hown8; have hR8 : RdZ w8 a8 (p ++ [ik]) := Zv_rd (base := wd.heap.size) (cap := c8) (e := 3) (by rw [hlen']; exact hown8); have x8 := Slot1.grw (sx1 w7 (.slice none 0 0) 36) hg8 (fun e => by have h9 := (World.ownsRow.lt hown7 _ e.symm).2; omega); obtain ⟨k8, f8⟩ := id x8) | (refine step_appL (w7.alloc (.cells #[.int .i64 ik] 3)) (by rfl) (.tmp 107) (.tmp 113) (by rfl) wd (behind hb7 (bel1 w7 (.cells #[.int .i64 ik] 3))) v1 p (by rfl) (World.ownsRow.alloc hown7 (.cells #[.int .i64 ik] 3)) _ 1 [ik] (by rfl) (Slot1.rd (sx1 w7 (.int .i64 ik) 3)) (fun e => by cases e) (by simp; omega) ?_; intro v2 w8 hown8 hg8 hat8 hb8; rw [hlen'] at hown8; obtain ⟨a8, c8, rfl⟩ := Zv_shape hown8; have hR8 : RdZ w8 a8 (p ++ [ik]) := Zv_rd (base := wd.heap.size) (cap := c8) (e := 3) (by rw [hlen']; exact hown8); (first | (have x8 := Slot1.grw (Slot1.al x7 (.cells #[.int .i64 ik] 3)) hg8 (fun e => nx7 e.symm); obtain ⟨k8, f8⟩ := id x8) | skip)) | (refine step_appL ((w7.alloc (.cells #[.int .i64 ik] 3)).alloc (.cells #[.slice none 0 0] 36)) (by rfl) (.tmp 107) (.tmp 113) (by rfl) wd (behind hb7 (bel2 w7 (.cells #[.int .i64 ik] 3) (.cells #[.slice none 0 0] 36))) v1 p (by rfl) (World.ownsRow.alloc (World.ownsRow.alloc hown7 (.cells #[.int .i64 ik] 3)) (.cells #[.slice none 0 0] 36)) _ 1 [ik] (by rfl) (Slot1.rd (Slot1.al (sx1 w7 (.int .i64 ik) 3) (.cells #[.slice none 0 0] 36))) (fun e => by cases e) (by simp; omega) ?_; intro v2 w8 hown8 hg8 hat8 hb8; rw [hlen'] at hown8; obtain ⟨a8, c8, rfl⟩ := Zv_shape hown8; have hR8 : RdZ w8 a8 (p ++ [ik]) := Zv_rd (base := wd.heap.size) (cap := c8) (e := 3) (by rw [hlen']; exact hown8); have x8 := Slot1.grw (sx2 w7 (.cells #[.int .i64 ik] 3) (.slice none 0 0) 36) hg8 (fun e => by have h9 := (World.ownsRow.lt hown7 _ e.symm).2; omega); obtain ⟨k8, f8⟩ := id x8) | (refine step_appL ((w7.alloc (.cells #[.slice none 0 0] 36)).alloc (.cells #[.int .i64 ik] 3)) (by rfl) (.tmp 107) (.tmp 113) (by rfl) wd (behind hb7 (bel2 w7 (.cells #[.slice none 0 0] 36) (.cells #[.int .i64 ik] 3))) v1 p (by rfl) (World.ownsRow.alloc (World.ownsRow.alloc hown7 (.cells #[.slice none 0 0] 36)) (.cells #[.int .i64 ik] 3)) _ 1 [ik] (by rfl) (Slot1.rd (sx2 w7 (.cells #[.slice none 0 0] 36) (.int .i64 ik) 3)) (fun e => by cases e) (by simp; omega) ?_; intro v2 w8 hown8 hg8 hat8 hb8; rw [hlen'] at hown8; obtain ⟨a8, c8, rfl⟩ := Zv_shape hown8; have hR8 : RdZ w8 a8 (p ++ [ik]) := Zv_rd (base := wd.heap.size) (cap := c8) (e := 3) (by rw [hlen']; exact hown8); have x8 := Slot1.grw (Slot1.al (sx1 w7 (.slice none 0 0) 36) (.cells #[.int .i64 ik] 3)) hg8 (fun e => by have h9 := (World.ownsRow.lt hown7 _ e.symm).2; omega); obtain ⟨k8, f8⟩ := id x8) | fail)
                  all_goals
                    go_wp2_with fail
                    go_meet
                    first
                      | exact ⟨w8.heap.size, a8, c8, rfl, (slot1New w8 _ _).1, RdZ.below hR8 (bel1 _ _), behind hb8 (bel1 _ _)⟩
                      | exact ⟨_, a8, c8, rfl, World.cell?_setCell_same' _ _ _ (by rw [k8]; rfl), own_farF hown8 hlen' k8, hb8.setCell (by dsimp only; omega) _⟩
                case rest =>
                  obtain ⟨Mo, ao, co, rfl, ko, hRo, hbo⟩ := hcut
                  have so := hsd.below hbo
                  have qo := qd.below hbo
                  have xEo := xEd.below hbo
                  have hXo := hXd.below hbo
                  have hPo := hPd.below hbo
                  have hZo := hZd.below hbo
                  have p0o := cellOn p0d hbo
                  have p2o := cellOn p2d hbo
                  have hbro := behind hbrd hbo
                  obtain ⟨tq, -⟩ := id qo
                  have cO := fun (w' : World) (h1 : RdZ w' ao (p ++ [ik])) (h2 : RdS w' (some ⟨g, 0, none⟩) X) => implSpread ao (some ⟨g, 0, none⟩) co cp (p ++ [ik]) X w' (by rw [hlen']; omega) (by omega) h1 h2 hwf.out
                  rw [hlen'] at cO
                  rw [HNN.out] at hsk
                  clear qd hsd xEd hXd hPd hZd p0d p2d hbo hbrd hbd
                  by_cases hzk : zk ∈ Rg.zns X p
                  · rw [if_pos hzk] at hsk
                    generalize (Rg.zns X (p ++ [ik])).length = NO at hsk cO
                    have hNO : ¬ N < NO := by omega
                    have hNOi : ¬ (N : Int) < (NO : Int) := by omega
                    clear hsk
                    go_upto_region 24 with fail
                    go_region_held3 (fun wy => wy.cell? ⟨Mo, 0, none⟩ = some (.slice ao (p.length + 1) co) ∧ wy.cell? ⟨D + 1, 0, none⟩ = some (.slice b p.length cb))
                      (first | exact ⟨ko, tq⟩ | exact keepR2 ‹_› ‹_› | go_keep)
                      (first | (go_at_call 14; have hy := RdZ.below hZo hbe; refine (cP _ hy (RdS.below hXo hbe)).mono ?_; rintro e wf ⟨rfl, hbf⟩) | (go_at_call 14; refine (cO _ (by exact hRo) (by exact hXo)).mono ?_; rintro e we ⟨rfl, hbe'⟩; have hbe := behind (Below.refl _ _).drew hbe') | fail)
                    have hbg := behind hbe hbf
                    have sg := so.below hbg
                    have xEg := xEo.below hbg
                    have hPg := hPo.below hbg
                    have p0g := cellOn p0o hbg
                    have p2g := cellOn p2o hbg
                    have hbrg := behind hbro hbg
                    clear hbe' hbe hbf hbg so qo xEo hXo hPo hZo p0o p2o tq hRo ko cO hbro
                    obtain ⟨⟨g0, g1⟩, -⟩ := id sg
                    obtain ⟨-, -, x2⟩ := id xEg
                    go_upto_region 25 with fail
                    refine wp_region_held_drew (S := fun wy => wy.cell? ⟨D, 0, none⟩ = some (.int .i64 R) ∧ wy.cell? ⟨D, 1, none⟩ = some (.slice a Q.length ca) ∧ wy.cell? ⟨E, 2, none⟩ = some (.int .i64 n) ∧ wy.cell? ⟨g, k * 3, none⟩ = some (.int .i64 ik) ∧ wy.cell? ⟨g, k * 3 + 2, none⟩ = some (.int .i64 nk)) (by kernel_rfl) ⟨g0, g1, x2, p0g, p2g⟩ (fun hHeld => ?_)
                    refine wpAnyH_take (i := 0) (oi := ?_) (v := ?_) ?_ ?_ ?_ ?_ ?_ ?_ (by assumption) ?_
                    rotate_left 2
                    · simp only [List.getElem?_toArray, List.getElem?_cons_zero]
                      rfl
                    · kernel_rfl
                    · kernel_rfl
                    · kernel_rfl
                    · exact fun _ _ _ h => h
                    · refine Or.inl ⟨by kernel_rfl, ?_⟩
                      intro wS hSw
                      try dsimp only at hSw
                      go_simp
                      try with_reducible rfl
                    simp only [Act.put, List.setIfInBounds_toArray, List.set_cons_zero, List.set_cons_succ]
                    refine wpAnyH_take (i := 1) (oi := ?_) (v := ?_) ?_ ?_ ?_ ?_ ?_ ?_ (by assumption) ?_
                    rotate_left 2
                    · simp only [List.getElem?_toArray, List.getElem?_cons_succ, List.getElem?_cons_zero]
                      rfl
                    · kernel_rfl
                    · kernel_rfl
                    · kernel_rfl
                    · exact fun _ _ _ h => h
                    · refine Or.inl ⟨by kernel_rfl, ?_⟩
                      intro wS hSw
                      try dsimp only at hSw
                      go_simp
                      try with_reducible rfl
                    simp only [Act.put, List.setIfInBounds_toArray, List.set_cons_zero, List.set_cons_succ]
                    refine wpAnyH_take (i := 2) (oi := ?_) (v := undef) ?_ ?_ ?_ ?_ ?_ ?_ (by assumption) ?_
                    rotate_left 1
                    · simp only [List.getElem?_toArray, List.getElem?_cons_succ, List.getElem?_cons_zero]
                      rfl
                    · kernel_rfl
                    · kernel_rfl
                    · kernel_rfl
                    · exact fun _ _ _ h => h
                    · exact Or.inr ⟨by kernel_rfl, rfl⟩
                    simp only [Act.put, List.setIfInBounds_toArray, List.set_cons_zero, List.set_cons_succ]
                    refine wpAnyH_take (i := 3) (oi := ?_) (v := undef) ?_ ?_ ?_ ?_ ?_ ?_ (by assumption) ?_
                    rotate_left 1
                    · simp only [List.getElem?_toArray, List.getElem?_cons_succ, List.getElem?_cons_zero]
                      rfl
                    · kernel_rfl
                    · kernel_rfl
                    · kernel_rfl
                    · exact fun _ _ _ h => h
                    · exact Or.inr ⟨by kernel_rfl, rfl⟩
                    simp only [Act.put, List.setIfInBounds_toArray, List.set_cons_zero, List.set_cons_succ]
                    refine wpAnyH_take (i := 4) (oi := ?_) (v := ?_) ?_ ?_ ?_ ?_ ?_ ?_ (by assumption) ?_
                    rotate_left 2
                    · simp only [List.getElem?_toArray, List.getElem?_cons_succ, List.getElem?_cons_zero]
                      rfl
                    · kernel_rfl
                    · kernel_rfl
                    · kernel_rfl
                    · exact fun _ _ _ h => h
                    · refine Or.inl ⟨by kernel_rfl, ?_⟩
                      intro wS hSw
                      try dsimp only at hSw
                      go_simp
                      try with_reducible rfl
                    simp only [Act.put, List.setIfInBounds_toArray, List.set_cons_zero, List.set_cons_succ]
                    refine wpAnyH_take (i := 5) (oi := ?_) (v := ?_) ?_ ?_ ?_ ?_ ?_ ?_ (by assumption) ?_
                    rotate_left 2
                    · simp only [List.getElem?_toArray, List.getElem?_cons_succ, List.getElem?_cons_zero]
                      rfl
                    · kernel_rfl
                    · kernel_rfl
                    · kernel_rfl
                    · exact fun _ _ _ h => h
                    · refine Or.inl ⟨by kernel_rfl, ?_⟩
                      intro wS hSw
                      try dsimp only at hSw
                      go_simp
                      try with_reducible rfl
                    simp only [Act.put, List.setIfInBounds_toArray, List.set_cons_zero, List.set_cons_succ]
                    refine wpAnyH_take (i := 6) (oi := ?_) (v := ?_) ?_ ?_ ?_ ?_ ?_ ?_ (by assumption) ?_
                    rotate_left 2
                    · simp only [List.getElem?_toArray, List.getElem?_cons_succ, List.getElem?_cons_zero]
                      rfl
                    · kernel_rfl
                    · kernel_rfl
                    · kernel_rfl
                    · exact fun _ _ _ h => h
                    · refine Or.inl ⟨by kernel_rfl, ?_⟩
                      intro wS hSw
                      try dsimp only at hSw
                      go_simp
                      try with_reducible rfl
                    simp only [Act.put, List.setIfInBounds_toArray, List.set_cons_zero, List.set_cons_succ]
                    refine wpAnyH_take (i := 7) (oi := ?_) (v := ?_) ?_ ?_ ?_ ?_ ?_ ?_ (by assumption) ?_
                    rotate_left 2
                    · simp only [List.getElem?_toArray, List.getElem?_cons_succ, List.getElem?_cons_zero]
                      rfl
                    · kernel_rfl
                    · kernel_rfl
                    · kernel_rfl
                    · exact fun _ _ _ h => h
                    · refine Or.inl ⟨by kernel_rfl, ?_⟩
                      intro wS hSw
                      try dsimp only at hSw
                      go_simp
                      try with_reducible rfl
                    simp only [Act.put, List.setIfInBounds_toArray, List.set_cons_zero, List.set_cons_succ]
                    refine wpAnyH_take (i := 8) (oi := ?_) (v := ?_) ?_ ?_ ?_ ?_ ?_ ?_ (by assumption) ?_
                    rotate_left 2
                    · simp only [List.getElem?_toArray, List.getElem?_cons_succ, List.getElem?_cons_zero]
                      rfl
                    · kernel_rfl
                    · kernel_rfl
                    · kernel_rfl
                    · exact fun _ _ _ h => h
                    · refine Or.inl ⟨by kernel_rfl, ?_⟩
                      intro wS hSw
                      try dsimp only at hSw
                      go_simp
                      try with_reducible rfl
                    simp only [Act.put, List.setIfInBounds_toArray, List.set_cons_zero, List.set_cons_succ]
                    refine wpAnyH_take (i := 9) (oi := ?_) (v := ?_) ?_ ?_ ?_ ?_ ?_ ?_ (by assumption) ?_
                    rotate_left 2
                    · simp only [List.getElem?_toArray, List.getElem?_cons_succ, List.getElem?_cons_zero]
                      rfl
                    · kernel_rfl
                    · kernel_rfl
                    · kernel_rfl
                    · exact fun _ _ _ h => h
                    · refine Or.inl ⟨by kernel_rfl, ?_⟩
                      intro wS hSw
                      try dsimp only at hSw
                      go_simp
                      try with_reducible rfl
                    simp only [Act.put, List.setIfInBounds_toArray, List.set_cons_zero, List.set_cons_succ]
                    refine wpAnyH_take (i := 10) (oi := ?_) (v := undef) ?_ ?_ ?_ ?_ ?_ ?_ (by assumption) ?_
                    rotate_left 1
                    · simp only [List.getElem?_toArray, List.getElem?_cons_succ, List.getElem?_cons_zero]
                      rfl
                    · kernel_rfl
                    · kernel_rfl
                    · kernel_rfl
                    · exact fun _ _ _ h => h
                    · exact Or.inr ⟨by kernel_rfl, rfl⟩
                    simp only [Act.put, List.setIfInBounds_toArray, List.set_cons_zero, List.set_cons_succ]
                    refine wpAnyH_take (i := 11) (oi := ?_) (v := undef) ?_ ?_ ?_ ?_ ?_ ?_ (by assumption) ?_
                    rotate_left 1
                    · simp only [List.getElem?_toArray, List.getElem?_cons_succ, List.getElem?_cons_zero]
                      rfl
                    · kernel_rfl
                    · kernel_rfl
                    · kernel_rfl
                    · exact fun _ _ _ h => h
                    · exact Or.inr ⟨by kernel_rfl, rfl⟩
                    simp only [Act.put, List.setIfInBounds_toArray, List.set_cons_zero, List.set_cons_succ]
                    refine wpAnyH_take (i := 12) (oi := ?_) (v := undef) ?_ ?_ ?_ ?_ ?_ ?_ (by assumption) ?_
                    rotate_left 1
                    · simp only [List.getElem?_toArray, List.getElem?_cons_succ, List.getElem?_cons_zero]
                      rfl
                    · kernel_rfl
                    · kernel_rfl
                    · kernel_rfl
                    · exact fun _ _ _ h => h
                    · exact Or.inr ⟨by kernel_rfl, rfl⟩
                    simp only [Act.put, List.setIfInBounds_toArray, List.set_cons_zero, List.set_cons_succ]
                    refine wpAnyH_take (i := 13) (oi := ?_) (v := undef) ?_ ?_ ?_ ?_ ?_ ?_ (by assumption) ?_
                    rotate_left 1
                    · simp only [List.getElem?_toArray, List.getElem?_cons_succ, List.getElem?_cons_zero]
                      rfl
                    · kernel_rfl
                    · kernel_rfl
                    · kernel_rfl
                    · exact fun _ _ _ h => h
                    · exact Or.inr ⟨by kernel_rfl, rfl⟩
                    simp only [Act.put, List.setIfInBounds_toArray, List.set_cons_zero, List.set_cons_succ]
                    refine wpAnyH_take (i := 14) (oi := ?_) (v := undef) ?_ ?_ ?_ ?_ ?_ ?_ (by assumption) ?_
                    rotate_left 1
                    · simp only [List.getElem?_toArray, List.getElem?_cons_succ, List.getElem?_cons_zero]
                      rfl
                    · kernel_rfl
                    · kernel_rfl
                    · kernel_rfl
                    · exact fun _ _ _ h => h
                    · exact Or.inr ⟨by kernel_rfl, rfl⟩
                    simp only [Act.put, List.setIfInBounds_toArray, List.set_cons_zero, List.set_cons_succ]
                    refine wpAnyH_take (i := 15) (oi := ?_) (v := undef) ?_ ?_ ?_ ?_ ?_ ?_ (by assumption) ?_
                    rotate_left 1
                    · simp only [List.getElem?_toArray, List.getElem?_cons_succ, List.getElem?_cons_zero]
                      rfl
                    · kernel_rfl
                    · kernel_rfl
                    · kernel_rfl
                    · exact fun _ _ _ h => h
                    · exact Or.inr ⟨by kernel_rfl, rfl⟩
                    simp only [Act.put, List.setIfInBounds_toArray, List.set_cons_zero, List.set_cons_succ]
                    refine wpAnyH_take (i := 16) (oi := ?_) (v := undef) ?_ ?_ ?_ ?_ ?_ ?_ (by assumption) ?_
                    rotate_left 1
                    · simp only [List.getElem?_toArray, List.getElem?_cons_succ, List.getElem?_cons_zero]
                      rfl
                    · kernel_rfl
                    · kernel_rfl
                    · kernel_rfl
                    · exact fun _ _ _ h => h
                    · exact Or.inr ⟨by kernel_rfl, rfl⟩
                    simp only [Act.put, List.setIfInBounds_toArray, List.set_cons_zero, List.set_cons_succ]
                    refine wpAnyH_take (i := 17) (oi := ?_) (v := undef) ?_ ?_ ?_ ?_ ?_ ?_ (by assumption) ?_
                    rotate_left 1
                    · simp only [List.getElem?_toArray, List.getElem?_cons_succ, List.getElem?_cons_zero]
                      rfl
                    · kernel_rfl
                    · kernel_rfl
                    · kernel_rfl
                    · exact fun _ _ _ h => h
                    · exact Or.inr ⟨by kernel_rfl, rfl⟩
                    simp only [Act.put, List.setIfInBounds_toArray, List.set_cons_zero, List.set_cons_succ]
                    refine wpAnyH_take (i := 18) (oi := ?_) (v := undef) ?_ ?_ ?_ ?_ ?_ ?_ (by assumption) ?_
                    rotate_left 1
                    · simp only [List.getElem?_toArray, List.getElem?_cons_succ, List.getElem?_cons_zero]
                      rfl
                    · kernel_rfl
                    · kernel_rfl
                    · kernel_rfl
                    · exact fun _ _ _ h => h
                    · exact Or.inr ⟨by kernel_rfl, rfl⟩
                    simp only [Act.put, List.setIfInBounds_toArray, List.set_cons_zero, List.set_cons_succ]
                    refine wpAnyH_take (i := 19) (oi := ?_) (v := undef) ?_ ?_ ?_ ?_ ?_ ?_ (by assumption) ?_
                    rotate_left 1
                    · simp only [List.getElem?_toArray, List.getElem?_cons_succ, List.getElem?_cons_zero]
                      rfl
                    · kernel_rfl
                    · kernel_rfl
                    · kernel_rfl
                    · exact fun _ _ _ h => h
                    · exact Or.inr ⟨by kernel_rfl, rfl⟩
                    simp only [Act.put, List.setIfInBounds_toArray, List.set_cons_zero, List.set_cons_succ]
                    refine wpAnyH_take (i := 20) (oi := ?_) (v := undef) ?_ ?_ ?_ ?_ ?_ ?_ (by assumption) ?_
                    rotate_left 1
                    · simp only [List.getElem?_toArray, List.getElem?_cons_succ, List.getElem?_cons_zero]
                      rfl
                    · kernel_rfl
                    · kernel_rfl
                    · kernel_rfl
                    · exact fun _ _ _ h => h
                    · exact Or.inr ⟨by kernel_rfl, rfl⟩
                    simp only [Act.put, List.setIfInBounds_toArray, List.set_cons_zero, List.set_cons_succ]
                    refine wpAnyH_take (i := 21) (oi := ?_) (v := undef) ?_ ?_ ?_ ?_ ?_ ?_ (by assumption) ?_
                    rotate_left 1
                    · simp only [List.getElem?_toArray, List.getElem?_cons_succ, List.getElem?_cons_zero]
                      rfl
                    · kernel_rfl
                    · kernel_rfl
                    · kernel_rfl
                    · exact fun _ _ _ h => h
                    · exact Or.inr ⟨by kernel_rfl, rfl⟩
                    simp only [Act.put, List.setIfInBounds_toArray, List.set_cons_zero, List.set_cons_succ]
                    refine wpAnyH_take (i := 22) (oi := ?_) (v := undef) ?_ ?_ ?_ ?_ ?_ ?_ (by assumption) ?_
                    rotate_left 1
                    · simp only [List.getElem?_toArray, List.getElem?_cons_succ, List.getElem?_cons_zero]
                      rfl
                    · kernel_rfl
                    · kernel_rfl
                    · kernel_rfl
                    · exact fun _ _ _ h => h
                    · exact Or.inr ⟨by kernel_rfl, rfl⟩
                    simp only [Act.put, List.setIfInBounds_toArray, List.set_cons_zero, List.set_cons_succ]
                    refine wpAnyH_take (i := 23) (oi := ?_) (v := undef) ?_ ?_ ?_ ?_ ?_ ?_ (by assumption) ?_
                    rotate_left 1
                    · simp only [List.getElem?_toArray, List.getElem?_cons_succ, List.getElem?_cons_zero]
                      rfl
                    · kernel_rfl
                    · kernel_rfl
                    · kernel_rfl
                    · exact fun _ _ _ h => h
                    · exact Or.inr ⟨by kernel_rfl, rfl⟩
                    simp only [Act.put, List.setIfInBounds_toArray, List.set_cons_zero, List.set_cons_succ]
                    refine wpAnyH_take (i := 24) (oi := ?_) (v := undef) ?_ ?_ ?_ ?_ ?_ ?_ (by assumption) ?_
                    rotate_left 1
                    · simp only [List.getElem?_toArray, List.getElem?_cons_succ, List.getElem?_cons_zero]
                      rfl
                    · kernel_rfl
                    · kernel_rfl
                    · kernel_rfl
                    · exact fun _ _ _ h => h
                    · exact Or.inr ⟨by kernel_rfl, rfl⟩
                    simp only [Act.put, List.setIfInBounds_toArray, List.set_cons_zero, List.set_cons_succ]
                    refine wpAnyH_take (i := 25) (oi := ?_) (v := undef) ?_ ?_ ?_ ?_ ?_ ?_ (by assumption) ?_
                    rotate_left 1
                    · simp only [List.getElem?_toArray, List.getElem?_cons_succ, List.getElem?_cons_zero]
                      rfl
                    · kernel_rfl
                    · kernel_rfl
                    · kernel_rfl
                    · exact fun _ _ _ h => h
                    · exact Or.inr ⟨by kernel_rfl, rfl⟩
                    simp only [Act.put, List.setIfInBounds_toArray, List.set_cons_zero, List.set_cons_succ]
                    refine wpAnyH_take (i := 26) (oi := ?_) (v := undef) ?_ ?_ ?_ ?_ ?_ ?_ (by assumption) ?_
                    rotate_left 1
                    · simp only [List.getElem?_toArray, List.getElem?_cons_succ, List.getElem?_cons_zero]
                      rfl
                    · kernel_rfl
                    · kernel_rfl
                    · kernel_rfl
                    · exact fun _ _ _ h => h
                    · exact Or.inr ⟨by kernel_rfl, rfl⟩
                    simp only [Act.put, List.setIfInBounds_toArray, List.set_cons_zero, List.set_cons_succ]
                    refine wpAnyH_take (i := 27) (oi := ?_) (v := undef) ?_ ?_ ?_ ?_ ?_ ?_ (by assumption) ?_
                    rotate_left 1
                    · simp only [List.getElem?_toArray, List.getElem?_cons_succ, List.getElem?_cons_zero]
                      rfl
                    · kernel_rfl
                    · kernel_rfl
                    · kernel_rfl
                    · exact fun _ _ _ h => h
                    · exact Or.inr ⟨by kernel_rfl, rfl⟩
                    simp only [Act.put, List.setIfInBounds_toArray, List.set_cons_zero, List.set_cons_succ]
                    refine wpAnyH_take (i := 28) (oi := ?_) (v := undef) ?_ ?_ ?_ ?_ ?_ ?_ (by assumption) ?_
                    rotate_left 1
                    · simp only [List.getElem?_toArray, List.getElem?_cons_succ, List.getElem?_cons_zero]
                      rfl
                    · kernel_rfl
                    · kernel_rfl
                    · kernel_rfl
                    · exact fun _ _ _ h => h
                    · exact Or.inr ⟨by kernel_rfl, rfl⟩
                    simp only [Act.put, List.setIfInBounds_toArray, List.set_cons_zero, List.set_cons_succ]
                    refine wpAnyH_take (i := 29) (oi := ?_) (v := undef) ?_ ?_ ?_ ?_ ?_ ?_ (by assumption) ?_
                    rotate_left 1
                    · simp only [List.getElem?_toArray, List.getElem?_cons_succ, List.getElem?_cons_zero]
                      rfl
                    · kernel_rfl
                    · kernel_rfl
                    · kernel_rfl
                    · exact fun _ _ _ h => h
                    · exact Or.inr ⟨by kernel_rfl, rfl⟩
                    simp only [Act.put, List.setIfInBounds_toArray, List.set_cons_zero, List.set_cons_succ]
                    refine wpAnyH_take (i := 30) (oi := ?_) (v := undef) ?_ ?_ ?_ ?_ ?_ ?_ (by assumption) ?_
                    rotate_left 1
                    · simp only [List.getElem?_toArray, List.getElem?_cons_succ, List.getElem?_cons_zero]
                      rfl
                    · kernel_rfl
                    · kernel_rfl
                    · kernel_rfl
                    · exact fun _ _ _ h => h
                    · exact Or.inr ⟨by kernel_rfl, rfl⟩
                    simp only [Act.put, List.setIfInBounds_toArray, List.set_cons_zero, List.set_cons_succ]
                    refine wpAnyH_take (i := 31) (oi := ?_) (v := undef) ?_ ?_ ?_ ?_ ?_ ?_ (by assumption) ?_
                    rotate_left 1
                    · simp only [List.getElem?_toArray, List.getElem?_cons_succ, List.getElem?_cons_zero]
                      rfl
                    · kernel_rfl
                    · kernel_rfl
                    · kernel_rfl
                    · exact fun _ _ _ h => h
                    · exact Or.inr ⟨by kernel_rfl, rfl⟩
                    simp only [Act.put, List.setIfInBounds_toArray, List.set_cons_zero, List.set_cons_succ]
                    refine wpAnyH_take (i := 32) (oi := ?_) (v := ?_) ?_ ?_ ?_ ?_ ?_ ?_ (by assumption) ?_
                    rotate_left 2
                    · simp only [List.getElem?_toArray, List.getElem?_cons_succ, List.getElem?_cons_zero]
                      rfl
                    · kernel_rfl
                    · kernel_rfl
                    · kernel_rfl
                    · exact fun _ _ _ h => h
                    · refine Or.inl ⟨by kernel_rfl, ?_⟩
                      intro wS hSw
                      try dsimp only at hSw
                      go_simp
                      try with_reducible rfl
                    simp only [Act.put, List.setIfInBounds_toArray, List.set_cons_zero, List.set_cons_succ]
                    refine wpAnyH_take (i := 33) (oi := ?_) (v := ?_) ?_ ?_ ?_ ?_ ?_ ?_ (by assumption) ?_
                    rotate_left 2
                    · simp only [List.getElem?_toArray, List.getElem?_cons_succ, List.getElem?_cons_zero]
                      rfl
                    · kernel_rfl
                    · kernel_rfl
                    · kernel_rfl
                    · exact fun _ _ _ h => h
                    · refine Or.inl ⟨by kernel_rfl, ?_⟩
                      intro wS hSw
                      try dsimp only at hSw
                      go_simp
                      try with_reducible rfl
                    simp only [Act.put, List.setIfInBounds_toArray, List.set_cons_zero, List.set_cons_succ]
                    refine wpAnyH_done (by kernel_rfl) ?_ _
                    have hbz := behind hbrg (Below.refl _ _).drew
                    go_wp2
                    go_roundw
                    case rel => exact ⟨k + 1, by omega, by go_num, hbz⟩
                    case measure => simp [intOf]; omega
                  · have hcmp := hHk' ⟨fun _ => hF, fun _ => hzk⟩
                    rw [if_neg hzk] at hsk
                    generalize (Rg.zns X (p ++ [ik])).length = NO at hsk cO
                    have hNO : N < NO := by omega
                    have hNOi : (N : Int) < (NO : Int) := by omega
                    clear hsk
                    go_upto_region 24 with fail
                    go_region_held3 (fun wy => wy.cell? ⟨Mo, 0, none⟩ = some (.slice ao (p.length + 1) co) ∧ wy.cell? ⟨D + 1, 0, none⟩ = some (.slice b p.length cb))
                      (first | exact ⟨ko, tq⟩ | exact keepR2 ‹_› ‹_› | go_keep)
                      (first | (go_at_call 14; have hy := RdZ.below hZo hbe; refine (cP _ hy (RdS.below hXo hbe)).mono ?_; rintro e wf ⟨rfl, hbf⟩) | (go_at_call 14; refine (cO _ (by exact hRo) (by exact hXo)).mono ?_; rintro e we ⟨rfl, hbe'⟩; have hbe := behind (Below.refl _ _).drew hbe') | fail)
                    have hbg := behind hbe hbf
                    have sg := so.below hbg
                    have xEg := xEo.below hbg
                    have hPg := hPo.below hbg
                    have p0g := cellOn p0o hbg
                    have p2g := cellOn p2o hbg
                    have hbrg := behind hbro hbg
                    clear hbe' hbe hbf hbg so qo xEo hXo hPo hZo p0o p2o tq hRo ko cO hbro
                    have c1 := fun (w' : World) (h : RdP w' a Q) => implLoad R a ca Q ik w' (by omega) htot h
                    have c2 := fun (w' : World) (h : RdP w' a Q) => implLoad R a ca Q x w' (by omega) htot h
                    have hA1 := HLD.out ik
                    have hA2 := HLD.out x
                    unfold Rg.NotH at hcmp
                    dsimp only at hcmp
                    generalize Rg.load Q ik = A1 at c1 hA1 hcmp
                    generalize Rg.load Q x = A2 at c2 hA2 hcmp
                    obtain ⟨e1, e2⟩ := shareL A1 n hA1 hw9.1 hw9.2
                    obtain ⟨e3, e4⟩ := shareL A2 nk hA2 hwt.1 hwt.2
                    obtain ⟨M1, hM1⟩ : ∃ M, ((A1 : Int) + 1) * n = M := ⟨_, rfl⟩
                    obtain ⟨M2, hM2⟩ : ∃ M, ((A2 : Int) + 1) * nk = M := ⟨_, rfl⟩
                    rw [hM1] at e2 hcmp
                    rw [hM2] at e4 hcmp
                    obtain ⟨⟨g0, g1⟩, -⟩ := id sg
                    obtain ⟨-, -, x2⟩ := id xEg
                    go_upto_region 25 with fail
                    refine wp_region_held_drew (S := fun wy => wy.cell? ⟨D, 0, none⟩ = some (.int .i64 R) ∧ wy.cell? ⟨D, 1, none⟩ = some (.slice a Q.length ca) ∧ wy.cell? ⟨E, 2, none⟩ = some (.int .i64 n) ∧ wy.cell? ⟨g, k * 3, none⟩ = some (.int .i64 ik) ∧ wy.cell? ⟨g, k * 3 + 2, none⟩ = some (.int .i64 nk)) (by kernel_rfl) ⟨g0, g1, x2, p0g, p2g⟩ (fun hHeld => ?_)
                    refine wpAnyH_take (i := 0) (oi := ?_) (v := ?_) ?_ ?_ ?_ ?_ ?_ ?_ (by assumption) ?_
                    rotate_left 2
                    · simp only [List.getElem?_toArray, List.getElem?_cons_zero]
                      rfl
                    · kernel_rfl
                    · kernel_rfl
                    · kernel_rfl
                    · exact fun _ _ _ h => h
                    · refine Or.inl ⟨by kernel_rfl, ?_⟩
                      intro wS hSw
                      try dsimp only at hSw
                      go_simp
                      try with_reducible rfl
                    simp only [Act.put, List.setIfInBounds_toArray, List.set_cons_zero, List.set_cons_succ]
                    refine wpAnyH_take (i := 1) (oi := ?_) (v := ?_) ?_ ?_ ?_ ?_ ?_ ?_ (by assumption) ?_
                    rotate_left 2
                    · simp only [List.getElem?_toArray, List.getElem?_cons_succ, List.getElem?_cons_zero]
                      rfl
                    · kernel_rfl
                    · kernel_rfl
                    · kernel_rfl
                    · exact fun _ _ _ h => h
                    · refine Or.inl ⟨by kernel_rfl, ?_⟩
                      intro wS hSw
                      try dsimp only at hSw
                      go_simp
                      try with_reducible rfl
                    simp only [Act.put, List.setIfInBounds_toArray, List.set_cons_zero, List.set_cons_succ]
                    refine wpAnyH_take (i := 2) (oi := ?_) (v := ?_) ?_ ?_ ?_ ?_ ?_ ?_ (by assumption) ?_
                    rotate_left 2
                    · simp only [List.getElem?_toArray, List.getElem?_cons_succ, List.getElem?_cons_zero]
                      rfl
                    · kernel_rfl
                    · kernel_rfl
                    · kernel_rfl
                    · exact fun _ _ _ h => h
                    · refine Or.inl ⟨by kernel_rfl, ?_⟩
                      intro wS hSw
                      try dsimp only at hSw
                      go_simp
                      try with_reducible rfl
                    simp only [Act.put, List.setIfInBounds_toArray, List.set_cons_zero, List.set_cons_succ]
                    refine wpAnyH_take (i := 3) (oi := ?_) (v := ?_) ?_ ?_ ?_ ?_ ?_ ?_ (by assumption) ?_
                    rotate_left 2
                    · simp only [List.getElem?_toArray, List.getElem?_cons_succ, List.getElem?_cons_zero]
                      rfl
                    · kernel_rfl
                    · kernel_rfl
                    · kernel_rfl
                    · exact fun _ _ _ h => h
                    · refine Or.inl ⟨by kernel_rfl, ?_⟩
                      intro wS hSw
                      try dsimp only at hSw
                      go_simp
                      try with_reducible rfl
                    simp only [Act.put, List.setIfInBounds_toArray, List.set_cons_zero, List.set_cons_succ]
                    refine wpAnyH_take (i := 4) (oi := ?_) (v := ?_) ?_ ?_ ?_ ?_ ?_ ?_ (by assumption) ?_
                    rotate_left 2
                    · simp only [List.getElem?_toArray, List.getElem?_cons_succ, List.getElem?_cons_zero]
                      rfl
                    · kernel_rfl
                    · kernel_rfl
                    · kernel_rfl
                    · exact fun _ _ _ h => h
                    · refine Or.inl ⟨by kernel_rfl, ?_⟩
                      intro wS hSw
                      try dsimp only at hSw
                      go_simp
                      try with_reducible rfl
                    simp only [Act.put, List.setIfInBounds_toArray, List.set_cons_zero, List.set_cons_succ]
                    refine wpAnyH_take (i := 5) (oi := ?_) (v := ?_) ?_ ?_ ?_ ?_ ?_ ?_ (by assumption) ?_
                    rotate_left 2
                    · simp only [List.getElem?_toArray, List.getElem?_cons_succ, List.getElem?_cons_zero]
                      rfl
                    · kernel_rfl
                    · kernel_rfl
                    · kernel_rfl
                    · exact fun _ _ _ h => h
                    · refine Or.inl ⟨by kernel_rfl, ?_⟩
                      intro wS hSw
                      try dsimp only at hSw
                      go_simp
                      try with_reducible rfl
                    simp only [Act.put, List.setIfInBounds_toArray, List.set_cons_zero, List.set_cons_succ]
                    refine wpAnyH_take (i := 6) (oi := ?_) (v := ?_) ?_ ?_ ?_ ?_ ?_ ?_ (by assumption) ?_
                    rotate_left 2
                    · simp only [List.getElem?_toArray, List.getElem?_cons_succ, List.getElem?_cons_zero]
                      rfl
                    · kernel_rfl
                    · kernel_rfl
                    · kernel_rfl
                    · exact fun _ _ _ h => h
                    · refine Or.inl ⟨by kernel_rfl, ?_⟩
                      intro wS hSw
                      try dsimp only at hSw
                      go_simp
                      try with_reducible rfl
                    simp only [Act.put, List.setIfInBounds_toArray, List.set_cons_zero, List.set_cons_succ]
                    refine wpAnyH_take (i := 7) (oi := ?_) (v := ?_) ?_ ?_ ?_ ?_ ?_ ?_ (by assumption) ?_
                    rotate_left 2
                    · simp only [List.getElem?_toArray, List.getElem?_cons_succ, List.getElem?_cons_zero]
                      rfl
                    · kernel_rfl
                    · kernel_rfl
                    · kernel_rfl
                    · exact fun _ _ _ h => h
                    · refine Or.inl ⟨by kernel_rfl, ?_⟩
                      intro wS hSw
                      try dsimp only at hSw
                      go_simp
                      try with_reducible rfl
                    simp only [Act.put, List.setIfInBounds_toArray, List.set_cons_zero, List.set_cons_succ]
                    refine wpAnyH_take (i := 8) (oi := ?_) (v := ?_) ?_ ?_ ?_ ?_ ?_ ?_ (by assumption) ?_
                    rotate_left 2
                    · simp only [List.getElem?_toArray, List.getElem?_cons_succ, List.getElem?_cons_zero]
                      rfl
                    · kernel_rfl
                    · kernel_rfl
                    · kernel_rfl
                    · exact fun _ _ _ h => h
                    · refine Or.inl ⟨by kernel_rfl, ?_⟩
                      intro wS hSw
                      try dsimp only at hSw
                      go_simp
                      try with_reducible rfl
                    simp only [Act.put, List.setIfInBounds_toArray, List.set_cons_zero, List.set_cons_succ]
                    refine wpAnyH_take (i := 9) (oi := ?_) (v := ?_) ?_ ?_ ?_ ?_ ?_ ?_ (by assumption) ?_
                    rotate_left 2
                    · simp only [List.getElem?_toArray, List.getElem?_cons_succ, List.getElem?_cons_zero]
                      rfl
                    · kernel_rfl
                    · kernel_rfl
                    · kernel_rfl
                    · exact fun _ _ _ h => h
                    · refine Or.inl ⟨by kernel_rfl, ?_⟩
                      intro wS hSw
                      try dsimp only at hSw
                      go_simp
                      try with_reducible rfl
                    simp only [Act.put, List.setIfInBounds_toArray, List.set_cons_zero, List.set_cons_succ]
                    refine wpAnyH_take (i := 10) (oi := ?_) (v := ?_) ?_ ?_ ?_ ?_ ?_ ?_ (by assumption) ?_
                    rotate_left 2
                    · simp only [List.getElem?_toArray, List.getElem?_cons_succ, List.getElem?_cons_zero]
                      rfl
                    · kernel_rfl
                    · kernel_rfl
                    · kernel_rfl
                    · exact fun _ _ _ h => h
                    · refine Or.inl ⟨by kernel_rfl, ?_⟩
                      intro wS hSw
                      try dsimp only at hSw
                      go_simp
                      try with_reducible rfl
                    simp only [Act.put, List.setIfInBounds_toArray, List.set_cons_zero, List.set_cons_succ]
                    refine wpAnyH_take (i := 11) (oi := ?_) (v := ?_) ?_ ?_ ?_ ?_ ?_ ?_ (by assumption) ?_
                    rotate_left 2
                    · simp only [List.getElem?_toArray, List.getElem?_cons_succ, List.getElem?_cons_zero]
                      rfl
                    · kernel_rfl
                    · kernel_rfl
                    · kernel_rfl
                    · exact fun _ _ _ h => h
                    · refine Or.inl ⟨by kernel_rfl, ?_⟩
                      intro wS hSw
                      try dsimp only at hSw
                      go_simp
                      try with_reducible rfl
                    simp only [Act.put, List.setIfInBounds_toArray, List.set_cons_zero, List.set_cons_succ]
                    refine wpAnyH_take (i := 12) (oi := ?_) (v := ?_) ?_ ?_ ?_ ?_ ?_ ?_ (by assumption) ?_
                    rotate_left 2
                    · simp only [List.getElem?_toArray, List.getElem?_cons_succ, List.getElem?_cons_zero]
                      rfl
                    · kernel_rfl
                    · kernel_rfl
                    · kernel_rfl
                    · exact fun _ _ _ h => h
                    · refine Or.inl ⟨by kernel_rfl, ?_⟩
                      intro wS hSw
                      try dsimp only at hSw
                      go_simp
                      try with_reducible rfl
                    simp only [Act.put, List.setIfInBounds_toArray, List.set_cons_zero, List.set_cons_succ]
                    refine wpAnyH_take (i := 13) (oi := ?_) (v := ?_) ?_ ?_ ?_ ?_ ?_ ?_ (by assumption) ?_
                    rotate_left 2
                    · simp only [List.getElem?_toArray, List.getElem?_cons_succ, List.getElem?_cons_zero]
                      rfl
                    · kernel_rfl
                    · kernel_rfl
                    · kernel_rfl
                    · exact fun _ _ _ h => h
                    · refine Or.inl ⟨by kernel_rfl, ?_⟩
                      intro wS hSw
                      try dsimp only at hSw
                      go_simp
                      try with_reducible rfl
                    simp only [Act.put, List.setIfInBounds_toArray, List.set_cons_zero, List.set_cons_succ]
                    refine wpAnyH_take (i := 14) (oi := ?_) (v := ?_) ?_ ?_ ?_ ?_ ?_ ?_ (by assumption) ?_
                    rotate_left 2
                    · simp only [List.getElem?_toArray, List.getElem?_cons_succ, List.getElem?_cons_zero]
                      rfl
                    · kernel_rfl
                    · kernel_rfl
                    · kernel_rfl
                    · exact fun _ _ _ h => h
                    · refine Or.inl ⟨by kernel_rfl, ?_⟩
                      intro wS hSw
                      try dsimp only at hSw
                      go_simp
                      try with_reducible rfl
                    simp only [Act.put, List.setIfInBounds_toArray, List.set_cons_zero, List.set_cons_succ]
                    refine wpAnyH_take (i := 15) (oi := ?_) (v := ?_) ?_ ?_ ?_ ?_ ?_ ?_ (by assumption) ?_
                    rotate_left 2
                    · simp only [List.getElem?_toArray, List.getElem?_cons_succ, List.getElem?_cons_zero]
                      rfl
                    · kernel_rfl
                    · kernel_rfl
                    · kernel_rfl
                    · exact fun _ _ _ h => h
                    · refine Or.inl ⟨by kernel_rfl, ?_⟩
                      intro wS hSw
                      try dsimp only at hSw
                      go_simp
                      try with_reducible rfl
                    simp only [Act.put, List.setIfInBounds_toArray, List.set_cons_zero, List.set_cons_succ]
                    refine wpAnyH_take (i := 18) (oi := ?_) (v := ?_) ?_ ?_ ?_ ?_ ?_ ?_ (by assumption) ?_
                    rotate_left 2
                    · simp only [List.getElem?_toArray, List.getElem?_cons_succ, List.getElem?_cons_zero]
                      rfl
                    · kernel_rfl
                    · kernel_rfl
                    · kernel_rfl
                    · exact fun _ _ _ h => h
                    · refine Or.inl ⟨by kernel_rfl, ?_⟩
                      intro wS hSw
                      try dsimp only at hSw
                      go_simp
                      try with_reducible rfl
                    simp only [Act.put, List.setIfInBounds_toArray, List.set_cons_zero, List.set_cons_succ]
                    refine wpAnyH_take (i := 19) (oi := ?_) (v := ?_) ?_ ?_ ?_ ?_ ?_ ?_ (by assumption) ?_
                    rotate_left 2
                    · simp only [List.getElem?_toArray, List.getElem?_cons_succ, List.getElem?_cons_zero]
                      rfl
                    · kernel_rfl
                    · kernel_rfl
                    · kernel_rfl
                    · exact fun _ _ _ h => h
                    · refine Or.inl ⟨by kernel_rfl, ?_⟩
                      intro wS hSw
                      try dsimp only at hSw
                      go_simp
                      try with_reducible rfl
                    simp only [Act.put, List.setIfInBounds_toArray, List.set_cons_zero, List.set_cons_succ]
                    refine wpAnyH_take (i := 21) (oi := ?_) (v := ?_) ?_ ?_ ?_ ?_ ?_ ?_ (by assumption) ?_
                    rotate_left 2
                    · simp only [List.getElem?_toArray, List.getElem?_cons_succ, List.getElem?_cons_zero]
                      rfl
                    · kernel_rfl
                    · kernel_rfl
                    · kernel_rfl
                    · exact fun _ _ _ h => h
                    · refine Or.inl ⟨by kernel_rfl, ?_⟩
                      intro wS hSw
                      try dsimp only at hSw
                      go_simp
                      try with_reducible rfl
                    simp only [Act.put, List.setIfInBounds_toArray, List.set_cons_zero, List.set_cons_succ]
                    refine wpAnyH_take (i := 22) (oi := ?_) (v := ?_) ?_ ?_ ?_ ?_ ?_ ?_ (by assumption) ?_
                    rotate_left 2
                    · simp only [List.getElem?_toArray, List.getElem?_cons_succ, List.getElem?_cons_zero]
                      rfl
                    · kernel_rfl
                    · kernel_rfl
                    · kernel_rfl
                    · exact fun _ _ _ h => h
                    · refine Or.inl ⟨by kernel_rfl, ?_⟩
                      intro wS hSw
                      try dsimp only at hSw
                      go_simp
                      try with_reducible rfl
                    simp only [Act.put, List.setIfInBounds_toArray, List.set_cons_zero, List.set_cons_succ]
                    refine wpAnyH_take (i := 25) (oi := ?_) (v := ?_) ?_ ?_ ?_ ?_ ?_ ?_ (by assumption) ?_
                    rotate_left 2
                    · simp only [List.getElem?_toArray, List.getElem?_cons_succ, List.getElem?_cons_zero]
                      rfl
                    · kernel_rfl
                    · kernel_rfl
                    · kernel_rfl
                    · exact fun _ _ _ h => h
                    · refine Or.inl ⟨by kernel_rfl, ?_⟩
                      intro wS hSw
                      try dsimp only at hSw
                      go_simp
                      try with_reducible rfl
                    simp only [Act.put, List.setIfInBounds_toArray, List.set_cons_zero, List.set_cons_succ]
                    refine wpAnyH_take (i := 26) (oi := ?_) (v := ?_) ?_ ?_ ?_ ?_ ?_ ?_ (by assumption) ?_
                    rotate_left 2
                    · simp only [List.getElem?_toArray, List.getElem?_cons_succ, List.getElem?_cons_zero]
                      rfl
                    · kernel_rfl
                    · kernel_rfl
                    · kernel_rfl
                    · exact fun _ _ _ h => h
                    · refine Or.inl ⟨by kernel_rfl, ?_⟩
                      intro wS hSw
                      try dsimp only at hSw
                      go_simp
                      try with_reducible rfl
                    simp only [Act.put, List.setIfInBounds_toArray, List.set_cons_zero, List.set_cons_succ]
                    refine wpAnyH_take (i := 27) (oi := ?_) (v := ?_) ?_ ?_ ?_ ?_ ?_ ?_ (by assumption) ?_
                    rotate_left 2
                    · simp only [List.getElem?_toArray, List.getElem?_cons_succ, List.getElem?_cons_zero]
                      rfl
                    · kernel_rfl
                    · kernel_rfl
                    · kernel_rfl
                    · exact fun _ _ _ h => h
                    · refine Or.inl ⟨by kernel_rfl, ?_⟩
                      intro wS hSw
                      try dsimp only at hSw
                      go_simp
                      try with_reducible rfl
                    simp only [Act.put, List.setIfInBounds_toArray, List.set_cons_zero, List.set_cons_succ]
                    refine wpAnyH_take (i := 28) (oi := ?_) (v := ?_) ?_ ?_ ?_ ?_ ?_ ?_ (by assumption) ?_
                    rotate_left 2
                    · simp only [List.getElem?_toArray, List.getElem?_cons_succ, List.getElem?_cons_zero]
                      rfl
                    · kernel_rfl
                    · kernel_rfl
                    · kernel_rfl
                    · exact fun _ _ _ h => h
                    · refine Or.inl ⟨by kernel_rfl, ?_⟩
                      intro wS hSw
                      try dsimp only at hSw
                      go_simp
                      try with_reducible rfl
                    simp only [Act.put, List.setIfInBounds_toArray, List.set_cons_zero, List.set_cons_succ]
                    refine wpAnyH_take (i := 29) (oi := ?_) (v := ?_) ?_ ?_ ?_ ?_ ?_ ?_ (by assumption) ?_
                    rotate_left 2
                    · simp only [List.getElem?_toArray, List.getElem?_cons_succ, List.getElem?_cons_zero]
                      rfl
                    · kernel_rfl
                    · kernel_rfl
                    · kernel_rfl
                    · exact fun _ _ _ h => h
                    · refine Or.inl ⟨by kernel_rfl, ?_⟩
                      intro wS hSw
                      try dsimp only at hSw
                      go_simp
                      try with_reducible rfl
                    simp only [Act.put, List.setIfInBounds_toArray, List.set_cons_zero, List.set_cons_succ]
                    refine wpAnyH_ready (rs := [16]) (by kernel_rfl) (by simp) ?_
                    refine AllReadyH.cons rfl (fun K hK => ?_) ?_
                    rotate_left
                    · exact AllReadyH.nil
                    go_simp
                    refine (c1 _ (by exact hPg)).mono ?_
                    rintro e wh ⟨rfl, hbh⟩
                    go_wp2_with fail
                    refine hK.out _ _ ?_ (fun hHeld => ?_)
                    · exact keep5 hHeld hbh
                    clear hK K
                    try simp only [Act.put, List.setIfInBounds_toArray, List.set_cons_zero, List.set_cons_succ]
                    refine wpAnyH_take (i := 17) (oi := ?_) (v := ?_) ?_ ?_ ?_ ?_ ?_ ?_ (by assumption) ?_
                    rotate_left 2
                    · simp only [List.getElem?_toArray, List.getElem?_cons_succ, List.getElem?_cons_zero]
                      rfl
                    · kernel_rfl
                    · kernel_rfl
                    · kernel_rfl
                    · exact fun _ _ _ h => h
                    · refine Or.inl ⟨by kernel_rfl, ?_⟩
                      intro wS hSw
                      try dsimp only at hSw
                      go_simp
                      try with_reducible rfl
                    simp only [Act.put, List.setIfInBounds_toArray, List.set_cons_zero, List.set_cons_succ]
                    refine wpAnyH_take (i := 20) (oi := ?_) (v := ?_) ?_ ?_ ?_ ?_ ?_ ?_ (by assumption) ?_
                    rotate_left 2
                    · simp only [List.getElem?_toArray, List.getElem?_cons_succ, List.getElem?_cons_zero]
                      rfl
                    · kernel_rfl
                    · kernel_rfl
                    · kernel_rfl
                    · exact fun _ _ _ h => h
                    · refine Or.inl ⟨by kernel_rfl, ?_⟩
                      intro wS hSw
                      try dsimp only at hSw
                      go_simp
                      try with_reducible rfl
                    simp only [Act.put, List.setIfInBounds_toArray, List.set_cons_zero, List.set_cons_succ]
                    refine wpAnyH_ready (rs := [23]) (by kernel_rfl) (by simp) ?_
                    refine AllReadyH.cons rfl (fun K hK => ?_) ?_
                    rotate_left
                    · exact AllReadyH.nil
                    go_simp
                    refine (c2 _ (RdP.below (by exact RdP.drew hPg) hbh)).mono ?_
                    rintro e wi ⟨rfl, hbi⟩
                    go_wp2_with fail
                    refine hK.out _ _ ?_ (fun hHeld => ?_)
                    · exact keep5 hHeld hbi
                    clear hK K
                    try simp only [Act.put, List.setIfInBounds_toArray, List.set_cons_zero, List.set_cons_succ]
                    refine wpAnyH_take (i := 24) (oi := ?_) (v := ?_) ?_ ?_ ?_ ?_ ?_ ?_ (by assumption) ?_
                    rotate_left 2
                    · simp only [List.getElem?_toArray, List.getElem?_cons_succ, List.getElem?_cons_zero]
                      rfl
                    · kernel_rfl
                    · kernel_rfl
                    · kernel_rfl
                    · exact fun _ _ _ h => h
                    · refine Or.inl ⟨by kernel_rfl, ?_⟩
                      intro wS hSw
                      try dsimp only at hSw
                      go_simp
                      try with_reducible rfl
                    simp only [Act.put, List.setIfInBounds_toArray, List.set_cons_zero, List.set_cons_succ]
                    refine wpAnyH_take (i := 30) (oi := ?_) (v := ?_) ?_ ?_ ?_ ?_ ?_ ?_ (by assumption) ?_
                    rotate_left 2
                    · simp only [List.getElem?_toArray, List.getElem?_cons_succ, List.getElem?_cons_zero]
                      rfl
                    · kernel_rfl
                    · kernel_rfl
                    · kernel_rfl
                    · exact fun _ _ _ h => h
                    · refine Or.inl ⟨by kernel_rfl, ?_⟩
                      intro wS hSw
                      try dsimp only at hSw
                      go_simp
                      try with_reducible rfl
                    simp only [Act.put, List.setIfInBounds_toArray, List.set_cons_zero, List.set_cons_succ]
                    refine wpAnyH_take (i := 31) (oi := ?_) (v := ?_) ?_ ?_ ?_ ?_ ?_ ?_ (by assumption) ?_
                    rotate_left 2
                    · simp only [List.getElem?_toArray, List.getElem?_cons_succ, List.getElem?_cons_zero]
                      rfl
                    · kernel_rfl
                    · kernel_rfl
                    · kernel_rfl
                    · exact fun _ _ _ h => h
                    · refine Or.inl ⟨by kernel_rfl, ?_⟩
                      intro wS hSw
                      try dsimp only at hSw
                      go_simp
                      try with_reducible rfl
                    simp only [Act.put, List.setIfInBounds_toArray, List.set_cons_zero, List.set_cons_succ]
                    refine wpAnyH_take (i := 32) (oi := ?_) (v := ?_) ?_ ?_ ?_ ?_ ?_ ?_ (by assumption) ?_
                    rotate_left 2
                    · simp only [List.getElem?_toArray, List.getElem?_cons_succ, List.getElem?_cons_zero]
                      rfl
                    · kernel_rfl
                    · kernel_rfl
                    · kernel_rfl
                    · exact fun _ _ _ h => h
                    · refine Or.inl ⟨by kernel_rfl, ?_⟩
                      intro wS hSw
                      try dsimp only at hSw
                      go_simp
                      try with_reducible rfl
                    simp only [Act.put, List.setIfInBounds_toArray, List.set_cons_zero, List.set_cons_succ]
                    refine wpAnyH_take (i := 33) (oi := ?_) (v := ?_) ?_ ?_ ?_ ?_ ?_ ?_ (by assumption) ?_
                    rotate_left 2
                    · simp only [List.getElem?_toArray, List.getElem?_cons_succ, List.getElem?_cons_zero]
                      rfl
                    · kernel_rfl
                    · kernel_rfl
                    · kernel_rfl
                    · exact fun _ _ _ h => h
                    · refine Or.inl ⟨by kernel_rfl, ?_⟩
                      intro wS hSw
                      try dsimp only at hSw
                      go_simp
                      try with_reducible rfl
                    simp only [Act.put, List.setIfInBounds_toArray, List.set_cons_zero, List.set_cons_succ]
                    refine wpAnyH_done (by kernel_rfl) ?_ _
                    have hbz := behind (behind hbrg.drew hbh) hbi
                    go_wp2
                    go_roundw
                    case rel => exact ⟨k + 1, by omega, by go_num, hbz⟩
                    case measure => simp [intOf]; omega
            · have hkn : ¬ (k : Int) < (X.length : Int) := by omega
              have hB9 := behind hBc hbr
              clear sc qc xEc hXc hPc hZc hBc hbr
              go_wp2
              go_ret
              exact ⟨rfl, hB9⟩
  · go_enter Try.func5, Try.ntmps5
    go_wp2_with (go_at_call 9; go_in)
    go_wp2
    go_ret
    exact ⟨rfl, Below.refl _ _⟩

set_option maxRecDepth 100000 in
theorem lifted (os : Os) (started : os.Started) (H : Type) (enc : TypeId × Value → H) :
    ReturnsInHanded {} Try.checked os 5 .any (Rows.fnBestSpec.pre6 enc Try.prog Try.f5 Rows.fnBestRow.domain false) (Rows.fnBestSpec.post enc Try.prog Try.f5 false true false false) := by
  refine returnsInHanded_of_change (C := Try.checked) own started (by kernel_rfl) Try.func5
    (ChangeSpec.witness6 (enc := enc) (C := Try.checked) false ⟨#[], #[.slice none 0 0], []⟩ 8 (by kernel_rfl) (by kernel_rfl) (by kernel_rfl) (by kernel_rfl)) ?_
  intro W base args ds gs before hval0 hW hcnd _
  have hval : ∀ (j : Nat) t v, Try.f5.params[j]? = some t → args[j]? = some v → Value.okWide Try.prog W .any base t v := hval0
  have hW' := hW
  obtain ⟨p, q, hA0, hV, rfl, hfz, hnd⟩ := hW
  have hA : DataW.TrodAll enc Try.prog W 0 (fun _ => true) true Try.f5.params.toList args.toList ds p := hA0
  rw [Try.params5] at hA hval
  obtain ⟨v0, vs0, d0, ds0, p0, q0, hargs, rfl, rfl, h0, r0⟩ := trodAll_cons hA
  obtain ⟨rfl, rfl, rfl⟩ := trodAll_nil r0
  obtain rfl : args = #[v0] := by cases args; simp_all
  obtain ⟨rfl, rfl⟩ := trodVars_none hV
  obtain ⟨a0, len0, cap0, rfl⟩ := okWide_slice Try.underlying22 (hval 0 22 v0 rfl rfl)
  have k0 := h0
  have lt0 : ∀ x ∈ p0, x.block < W.heap.size := by obtain ⟨m, hm⟩ := k0; exact DataW.trod_lt m _ _ _ hm
  obtain ⟨z0, w0⟩ : ∃ zs, IsRow .u8 W a0 len0 cap0 zs := by
    obtain ⟨fuel, hf⟩ := h0
    rcases open_ints Try.underlying22 Try.underlying5 (by kernel_rfl) hf with ⟨hcs, _⟩ | ⟨x, l, c, zs, hcs, _, hl, hm, hz, _, hcell, hwz⟩
    · simp [Value.cells] at hcs
      obtain ⟨rfl, rfl, rfl⟩ := hcs
      exact ⟨[], .inl ⟨rfl, rfl, rfl, rfl⟩⟩
    · simp [Value.cells] at hcs
      obtain ⟨rfl, rfl, rfl⟩ := hcs
      exact ⟨zs, .inr ⟨_, rfl, hl, hm, by simpa using hz, hcell, hwz⟩⟩
  clear hA0 hval0
  refine (walk a0 len0 cap0 z0 W w0).mono fun e W' ⟨he, bel⟩ => ?_
  subst he
  exact ⟨_, rfl, _, _, _, [], _, [], hW', trodAll_mk1 (shut_bool Try.underlying4 _), (trodAll_cons_mk (Below.trod laidOut (by kernel_rfl) (of_decide_eq_true (by kernel_rfl)) k0 bel lt0) trodAll_mk0), rfl, bel.frame _, fun h => by cases h⟩

theorem over : Rows.fnBestRow.holds Try.pinned (OpenSpec.ofChange Rows.fnBestSpec) :=
  OpenClaim.holds_of_wide 5 Try.f5 rfl rfl rfl rfl rfl rfl rfl ⟨rfl, rfl, rfl, rfl, rfl⟩ rfl rfl rfl rfl rfl (by kernel_rfl) Try.func5 (by kernel_rfl)
    (of_decide_eq_true (by kernel_rfl)) (by unfold Func.isWrapper; first | (rw [if_pos (by decide +kernel)]; kernel_rfl) | (rw [if_neg (by decide +kernel)]; exact ⟨rfl, rfl⟩))
    (fun os started H enc _ => lifted os started H enc)

end Go.Proofs.Ytcejeiakgmamdac.fnBest
namespace Go.Proofs.Ytcejeiakgmamdac
theorem fnBest_holds : Rows.FnBestSaid := fnBest.over
#print axioms fnBest_holds
end Go.Proofs.Ytcejeiakgmamdac
