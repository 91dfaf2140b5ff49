/- What l6Heavy of the specification comes to. -/
import Derived.Test.YtoemblcheahbeacAtS
import Derived.Test.YtoemblcheahbeacLdS
import Derived.Test.YtoemblcheahbeacRbM
import Derived.Deep.RegionHeld3
import Derived.BigQuiet
import Derived.Deep.QuietTactic
namespace Go.Proofs.Ytoemblcheahbeac.Wk
set_option linter.unusedVariables false
open Go.ChangeShapes Go.WideShapes Go.ChangeAt Go.RowKit

theorem heavy_none {Q : List (List Int)} {l : List Sm.St} {b z x : Int} (h : Dv.at_ l x = none) : Rg.heavyB Q l b z x = false := by unfold Rg.heavyB; rw [h]
theorem heavy_zone {Q : List (List Int)} {l : List Sm.St} {b z x : Int} {d : Sm.St} (h : Dv.at_ l x = some d) (hz : ¬ d.2.1 = z) : Rg.heavyB Q l b z x = false := by unfold Rg.heavyB; rw [h]; simp [hz]
theorem heavy_less {Q : List (List Int)} {l : List Sm.St} {b z x : Int} {d : Sm.St} (h : Dv.at_ l x = some d) (hg : ¬ 2 ≤ (Rg.load Q x : Int) - (Rg.load Q b : Int)) : Rg.heavyB Q l b z x = false := by
  unfold Rg.heavyB; rw [h]; simp only [Bool.and_eq_false_iff]; right; exact decide_eq_false hg
theorem heavy_yes {Q : List (List Int)} {l : List Sm.St} {b z x : Int} {d : Sm.St} (h : Dv.at_ l x = some d) (hz : d.2.1 = z) (hg : 2 ≤ (Rg.load Q x : Int) - (Rg.load Q b : Int)) : Rg.heavyB Q l b z x = true := by
  unfold Rg.heavyB; rw [h]; simp only [Bool.and_eq_true]; exact ⟨decide_eq_true hz, decide_eq_true hg⟩
theorem keepH {w w' : World} {a1 a2 a3 a4 a5 : Addr} {v1 v2 v3 v4 v5 : Value} (h : w.cell? a1 = some v1 ∧ w.cell? a2 = some v2 ∧ w.cell? a3 = some v3 ∧ w.cell? a4 = some v4 ∧ w.cell? a5 = some v5) (hb : Below w.heap.size w w') :
    w'.cell? a1 = some v1 ∧ w'.cell? a2 = some v2 ∧ w'.cell? a3 = some v3 ∧ w'.cell? a4 = some v4 ∧ w'.cell? a5 = some v5 :=
  ⟨by rw [hb.cell (World.block_lt_of_cell? w _ h.1)]; exact h.1, keepR4 h.2 hb⟩
theorem belowQ5 {B : Nat} {a w : World} (h : Below B a w) (n : Nat) : Below B a (w.drewN n) := h.trans ⟨rfl, rfl, rfl, Nat.le_refl _, fun _ _ => rfl⟩
theorem wrapH (n : Int) (h0 : -9223372036854775808 ≤ n) (h1 : n < 9223372036854775808) : IntKind.i64.wrap n = n := by
  simp only [IntKind.wrap, IntKind.bits, IntKind.signed]
  simp
  omega
/-- a share, and that it fits -/
theorem at_id {l : List Sm.St} {x : Int} {d : Sm.St} (h : Dv.at_ l x = some d) : d.1 = x := (Rg.at_mem h).2

set_option maxHeartbeats 4000000 in
set_option maxRecDepth 100000 in
theorem specHeavy (reps : Int) (a b c : Option Addr) (ca cb cc : Nat) (Q : List (List Int)) (p : List Int) (l : List Sm.St) (idn : Int) (w : World) (hQ : Q.length ≤ 1048576) (ht : tot Q ≤ 1048576) (hp : p.length ≤ 1048576) (hl : l.length ≤ 1048576) (hrQ : RdP w a Q) (hr : RdZ w b p) (hs : RdS w c l) :
    Calls Try.prog 58 #[.agg #[.int .i64 reps, .slice a Q.length ca], .agg #[.slice b p.length cb], .slice c l.length cc, .int .i64 idn] w fun e w' => e = .returned (.int .i64 (Rg.idxI (Rg.heavyK Q l p idn))) ∧ Below w.heap.size w w' := by
  have sQ := (slot2New w (.int .i64 reps) (.slice a Q.length ca) 29).below (bel1 _ (.cells #[.slice b p.length cb] 36))
  have sP := slot1New (w.alloc (.cells #[.int .i64 reps, .slice a Q.length ca] 29)) (.slice b p.length cb) 36
  have hB0 := bel2 w (.cells #[.int .i64 reps, .slice a Q.length ca] 29) (.cells #[.slice b p.length cb] 36)
  have hQ0 := hrQ.below hB0
  have hr0 := hr.below hB0
  have hs0 := hs.below hB0
  rw [World.size_alloc] at sP
  have HL : Hid (∀ x, Rg.load Q x ≤ 1048576) := fun x => Nat.le_trans (Rg.load_le Q x) ht
  cases hd : Dv.at_ l idn with
  | none =>
    have eK : Rg.heavyK Q l p idn = none := by unfold Rg.heavyK; rw [hd]
    rw [eK]
    clear eK
    have cA := fun w' h => specAt c cc l idn w' hl h
    rw [hd] at cA
    dsimp only [dvAtV] at cA
    clear hd
    by_cases hpl : 0 < p.length
    all_goals
      go_enter Try.func58, Try.ntmps58
      go_wp2_with fail
      generalize (w.alloc (.cells #[.int .i64 reps, .slice a Q.length ca] 29)).alloc (.cells #[.slice b p.length cb] 36) = w0 at sQ sP hB0 hQ0 hr0 hs0 ⊢
      refine (cA _ hs0).mono ?_
      rintro e w1 ⟨rfl, hb1⟩
      have hB1 := behind (behind hB0 hb1) (bel1 w1 (.cells #[.int .i64 0, .int .i64 0, .int .i64 0] 42))
      obtain ⟨c0, -⟩ := (sP.below hb1).below (bel1 w1 (.cells #[.int .i64 0, .int .i64 0, .int .i64 0] 42))
      clear sQ hB0 hQ0 hr0 hs0
      go_wp2
      go_loopw [11] (fun i wr => i = .int .i64 0 ∧ wr = w1.alloc (.cells #[.int .i64 0, .int .i64 0, .int .i64 0] 42)) (fun i _ => 0)
      case atStart => exact ⟨rfl, rfl⟩
      case round =>
        obtain ⟨rfl, rfl⟩ := hrel
        go_wp2
        go_ret
        exact ⟨rfl, hB1⟩
  | some d =>
    obtain ⟨i0, z0, n0⟩ := d
    have eK : Rg.heavyK Q l p idn = p.findIdx? (Rg.heavyB Q l idn z0) := by unfold Rg.heavyK; rw [hd]
    rw [eK]
    clear eK
    have cA := fun w' h => specAt c cc l idn w' hl h
    rw [hd] at cA
    dsimp only [dvAtV] at cA
    clear hd
    obtain ⟨K, hK⟩ : ∃ K, Rg.idxI (p.findIdx? (Rg.heavyB Q l idn z0)) = K := ⟨_, rfl⟩
    have HK : Hid (Rg.idxI (p.findIdx? (Rg.heavyB Q l idn z0)) = K) := hK
    rw [hK]
    clear hK
    go_enter Try.func58, Try.ntmps58
    go_wp2_with fail
    generalize (w.alloc (.cells #[.int .i64 reps, .slice a Q.length ca] 29)).alloc (.cells #[.slice b p.length cb] 36) = w0 at sQ sP hB0 hQ0 hr0 hs0 ⊢
    refine (cA _ hs0).mono ?_
    rintro e w1 ⟨rfl, hb1⟩
    have bN := bel1 w1 (.cells #[.int .i64 i0, .int .i64 z0, .int .i64 n0] 42)
    have xD := boxNew w1 i0 z0 n0 42
    have hB1 := behind (behind hB0 hb1) bN
    have sQ := (sQ.below hb1).below bN
    have sP := (sP.below hb1).below bN
    have hQ0 := (hQ0.below hb1).below bN
    have hr0 := (hr0.below hb1).below bN
    have hs0 := (hs0.below hb1).below bN
    clear hB0 hb1 cA
    go_wp2
    generalize w1.alloc (.cells #[.int .i64 i0, .int .i64 z0, .int .i64 n0] 42) = wA at bN xD hB1 sQ sP hQ0 hr0 hs0 ⊢
    clear bN
    go_loopw [11] (fun i wr => ∃ k : Nat, k ≤ p.length ∧ i = .int .i64 k ∧ Hid (((p.take k).all fun x => !Rg.heavyB Q l idn z0 x) = true) ∧ Below wA.heap.size wA wr) (fun i _ => p.length - (intOf i).toNat)
    case atStart => exact ⟨0, Nat.zero_le _, rfl, rfl, Below.refl _ _⟩
    case round =>
      obtain ⟨k, hk, rfl, HA, hb⟩ := hrel
      obtain ⟨c0, -⟩ := sP.below hb
      by_cases hlt : k < p.length
      · have HY : Hid (Rg.heavyB Q l idn z0 p[k] = true → K = k) := fun h => by rw [← HK.out, Rg.find_hit hlt HA.out h]; rfl
        have HN : Hid (Rg.heavyB Q l idn z0 p[k] = false → ((p.take (k + 1)).all fun x => !Rg.heavyB Q l idn z0 x) = true) := fun h => Rg.find_step hlt HA.out h
        obtain ⟨b1, o1, rfl, hx⟩ := (hr0.below hb) k hlt
        generalize p[k] = x at HY HN hx
        have cX := specAt c cc l x _ hl (hs0.below hb)
        cases hd : Dv.at_ l x with
        | none =>
          rw [hd] at cX
          dsimp only [dvAtV] at cX
          have HT' : Hid (((p.take (k + 1)).all fun x => !Rg.heavyB Q l idn z0 x) = true) := HN.out (heavy_none hd)
          clear HY HN hd
          go_wp2_with fail
          refine cX.mono ?_
          rintro e w4 ⟨rfl, hb4⟩
          go_wp2_with fail
          go_quiet (fail)
          go_wp2
          go_roundw
          case rel => exact ⟨k + 1, by omega, by go_num, HT', belowQ5 (behind (behind hb hb4) (bel1 _ _)) nq⟩
          case measure => simp [intOf]; omega
        | some d =>
          rw [hd] at cX
          have hi := at_id hd
          obtain ⟨i, z, n⟩ := d
          dsimp only at hi
          subst hi
          dsimp only [dvAtV] at cX
          by_cases hz : z = z0
          · subst hz
            have HG : Hid (2 ≤ (Rg.load Q i : Int) - (Rg.load Q idn : Int) → K = k) := fun h => HY.out (heavy_yes hd rfl h)
            have HM : Hid (¬ 2 ≤ (Rg.load Q i : Int) - (Rg.load Q idn : Int) → ((p.take (k + 1)).all fun x => !Rg.heavyB Q l idn z x) = true) := fun h => HN.out (heavy_less hd h)
            have hLi := HL.out i
            have hLd := HL.out idn
            have cL := fun (w' : World) (h : RdP w' a Q) => specLoad reps a ca Q i w' hQ ht h
            have cM := fun (w' : World) (h : RdP w' a Q) => specLoad reps a ca Q idn w' hQ ht h
            generalize Rg.load Q i = Li at HG HM hLi cL
            generalize Rg.load Q idn = Ld at HG HM hLd cM
            clear HY HN hd
            go_wp2_with fail
            refine cX.mono ?_
            rintro e w4 ⟨rfl, hb4⟩
            have bX := bel1 w4 (.cells #[.int .i64 i, .int .i64 z, .int .i64 n] 42)
            have xX := boxNew w4 i z n 42
            have hB4 := behind (behind hb hb4) bX
            obtain ⟨⟨q0, q1⟩, -⟩ := sQ.below hB4
            obtain ⟨t0, t1, t2⟩ := xD.below hB4
            obtain ⟨y0, y1, y2⟩ := id xX
            have hQ4 := hQ0.below hB4
            clear hx c0 cX
            go_upto_region 6 with fail
            generalize w4.alloc (.cells #[.int .i64 i, .int .i64 z, .int .i64 n] 42) = w5 at bX xX hB4 q0 q1 t0 t1 t2 y0 y1 y2 hQ4 ⊢
            -- @region
            refine wp_region_held_drew (S := fun wy => wy.cell? ⟨w.heap.size, 0, none⟩ = some (.int .i64 reps) ∧ wy.cell? ⟨w.heap.size, 1, none⟩ = some (.slice a Q.length ca) ∧ wy.cell? ⟨w1.heap.size, 1, none⟩ = some (.int .i64 z) ∧ wy.cell? ⟨w4.heap.size, 0, none⟩ = some (.int .i64 i) ∧ wy.cell? ⟨w4.heap.size, 1, none⟩ = some (.int .i64 z)) (by kernel_rfl) ⟨q0, q1, t1, y0, y1⟩ (fun hHeld => ?_)
            refine wpAnyH_take (i := 0) (oi := ?_) (v := ?_) ?_ ?_ ?_ ?_ ?_ ?_ (by assumption) ?_
            rotate_left 2
            · simp only [List.getElem?_toArray, List.getElem?_cons_zero]
              rfl
            · kernel_rfl
            · kernel_rfl
            · kernel_rfl
            · exact fun _ _ _ h => h
            · refine Or.inl ⟨by kernel_rfl, ?_⟩
              intro wS hSw
              try dsimp only at hSw
              go_simp
              try with_reducible rfl
            simp only [Act.put, List.setIfInBounds_toArray, List.set_cons_zero, List.set_cons_succ]
            refine wpAnyH_take (i := 1) (oi := ?_) (v := ?_) ?_ ?_ ?_ ?_ ?_ ?_ (by assumption) ?_
            rotate_left 2
            · simp only [List.getElem?_toArray, List.getElem?_cons_succ, List.getElem?_cons_zero]
              rfl
            · kernel_rfl
            · kernel_rfl
            · kernel_rfl
            · exact fun _ _ _ h => h
            · refine Or.inl ⟨by kernel_rfl, ?_⟩
              intro wS hSw
              try dsimp only at hSw
              go_simp
              try with_reducible rfl
            simp only [Act.put, List.setIfInBounds_toArray, List.set_cons_zero, List.set_cons_succ]
            refine wpAnyH_take (i := 2) (oi := ?_) (v := ?_) ?_ ?_ ?_ ?_ ?_ ?_ (by assumption) ?_
            rotate_left 2
            · simp only [List.getElem?_toArray, List.getElem?_cons_succ, List.getElem?_cons_zero]
              rfl
            · kernel_rfl
            · kernel_rfl
            · kernel_rfl
            · exact fun _ _ _ h => h
            · refine Or.inl ⟨by kernel_rfl, ?_⟩
              intro wS hSw
              try dsimp only at hSw
              go_simp
              try with_reducible rfl
            simp only [Act.put, List.setIfInBounds_toArray, List.set_cons_zero, List.set_cons_succ]
            refine wpAnyH_take (i := 3) (oi := ?_) (v := ?_) ?_ ?_ ?_ ?_ ?_ ?_ (by assumption) ?_
            rotate_left 2
            · simp only [List.getElem?_toArray, List.getElem?_cons_succ, List.getElem?_cons_zero]
              rfl
            · kernel_rfl
            · kernel_rfl
            · kernel_rfl
            · exact fun _ _ _ h => h
            · refine Or.inl ⟨by kernel_rfl, ?_⟩
              intro wS hSw
              try dsimp only at hSw
              go_simp
              try with_reducible rfl
            simp only [Act.put, List.setIfInBounds_toArray, List.set_cons_zero, List.set_cons_succ]
            refine wpAnyH_take (i := 4) (oi := ?_) (v := ?_) ?_ ?_ ?_ ?_ ?_ ?_ (by assumption) ?_
            rotate_left 2
            · simp only [List.getElem?_toArray, List.getElem?_cons_succ, List.getElem?_cons_zero]
              rfl
            · kernel_rfl
            · kernel_rfl
            · kernel_rfl
            · exact fun _ _ _ h => h
            · refine Or.inl ⟨by kernel_rfl, ?_⟩
              intro wS hSw
              try dsimp only at hSw
              go_simp
              try with_reducible rfl
            simp only [Act.put, List.setIfInBounds_toArray, List.set_cons_zero, List.set_cons_succ]
            refine wpAnyH_take (i := 5) (oi := ?_) (v := ?_) ?_ ?_ ?_ ?_ ?_ ?_ (by assumption) ?_
            rotate_left 2
            · simp only [List.getElem?_toArray, List.getElem?_cons_succ, List.getElem?_cons_zero]
              rfl
            · kernel_rfl
            · kernel_rfl
            · kernel_rfl
            · exact fun _ _ _ h => h
            · refine Or.inl ⟨by kernel_rfl, ?_⟩
              intro wS hSw
              try dsimp only at hSw
              go_simp
              try with_reducible rfl
            simp only [Act.put, List.setIfInBounds_toArray, List.set_cons_zero, List.set_cons_succ]
            refine wpAnyH_take (i := 6) (oi := ?_) (v := ?_) ?_ ?_ ?_ ?_ ?_ ?_ (by assumption) ?_
            rotate_left 2
            · simp only [List.getElem?_toArray, List.getElem?_cons_succ, List.getElem?_cons_zero]
              rfl
            · kernel_rfl
            · kernel_rfl
            · kernel_rfl
            · exact fun _ _ _ h => h
            · refine Or.inl ⟨by kernel_rfl, ?_⟩
              intro wS hSw
              try dsimp only at hSw
              go_simp
              try with_reducible rfl
            simp only [Act.put, List.setIfInBounds_toArray, List.set_cons_zero, List.set_cons_succ]
            refine wpAnyH_take (i := 7) (oi := ?_) (v := ?_) ?_ ?_ ?_ ?_ ?_ ?_ (by assumption) ?_
            rotate_left 2
            · simp only [List.getElem?_toArray, List.getElem?_cons_succ, List.getElem?_cons_zero]
              rfl
            · kernel_rfl
            · kernel_rfl
            · kernel_rfl
            · exact fun _ _ _ h => h
            · refine Or.inl ⟨by kernel_rfl, ?_⟩
              intro wS hSw
              try dsimp only at hSw
              go_simp
              try with_reducible rfl
            simp only [Act.put, List.setIfInBounds_toArray, List.set_cons_zero, List.set_cons_succ]
            refine wpAnyH_take (i := 8) (oi := ?_) (v := ?_) ?_ ?_ ?_ ?_ ?_ ?_ (by assumption) ?_
            rotate_left 2
            · simp only [List.getElem?_toArray, List.getElem?_cons_succ, List.getElem?_cons_zero]
              rfl
            · kernel_rfl
            · kernel_rfl
            · kernel_rfl
            · exact fun _ _ _ h => h
            · refine Or.inl ⟨by kernel_rfl, ?_⟩
              intro wS hSw
              try dsimp only at hSw
              go_simp
              try with_reducible rfl
            simp only [Act.put, List.setIfInBounds_toArray, List.set_cons_zero, List.set_cons_succ]
            refine wpAnyH_take (i := 9) (oi := ?_) (v := ?_) ?_ ?_ ?_ ?_ ?_ ?_ (by assumption) ?_
            rotate_left 2
            · simp only [List.getElem?_toArray, List.getElem?_cons_succ, List.getElem?_cons_zero]
              rfl
            · kernel_rfl
            · kernel_rfl
            · kernel_rfl
            · exact fun _ _ _ h => h
            · refine Or.inl ⟨by kernel_rfl, ?_⟩
              intro wS hSw
              try dsimp only at hSw
              go_simp
              try with_reducible rfl
            simp only [Act.put, List.setIfInBounds_toArray, List.set_cons_zero, List.set_cons_succ]
            refine wpAnyH_take (i := 10) (oi := ?_) (v := ?_) ?_ ?_ ?_ ?_ ?_ ?_ (by assumption) ?_
            rotate_left 2
            · simp only [List.getElem?_toArray, List.getElem?_cons_succ, List.getElem?_cons_zero]
              rfl
            · kernel_rfl
            · kernel_rfl
            · kernel_rfl
            · exact fun _ _ _ h => h
            · refine Or.inl ⟨by kernel_rfl, ?_⟩
              intro wS hSw
              try dsimp only at hSw
              go_simp
              try with_reducible rfl
            simp only [Act.put, List.setIfInBounds_toArray, List.set_cons_zero, List.set_cons_succ]
            refine wpAnyH_take (i := 11) (oi := ?_) (v := ?_) ?_ ?_ ?_ ?_ ?_ ?_ (by assumption) ?_
            rotate_left 2
            · simp only [List.getElem?_toArray, List.getElem?_cons_succ, List.getElem?_cons_zero]
              rfl
            · kernel_rfl
            · kernel_rfl
            · kernel_rfl
            · exact fun _ _ _ h => h
            · refine Or.inl ⟨by kernel_rfl, ?_⟩
              intro wS hSw
              try dsimp only at hSw
              go_simp
              try with_reducible rfl
            simp only [Act.put, List.setIfInBounds_toArray, List.set_cons_zero, List.set_cons_succ]
            refine wpAnyH_take (i := 13) (oi := ?_) (v := ?_) ?_ ?_ ?_ ?_ ?_ ?_ (by assumption) ?_
            rotate_left 2
            · simp only [List.getElem?_toArray, List.getElem?_cons_succ, List.getElem?_cons_zero]
              rfl
            · kernel_rfl
            · kernel_rfl
            · kernel_rfl
            · exact fun _ _ _ h => h
            · refine Or.inl ⟨by kernel_rfl, ?_⟩
              intro wS hSw
              try dsimp only at hSw
              go_simp
              try with_reducible rfl
            simp only [Act.put, List.setIfInBounds_toArray, List.set_cons_zero, List.set_cons_succ]
            refine wpAnyH_take (i := 14) (oi := ?_) (v := ?_) ?_ ?_ ?_ ?_ ?_ ?_ (by assumption) ?_
            rotate_left 2
            · simp only [List.getElem?_toArray, List.getElem?_cons_succ, List.getElem?_cons_zero]
              rfl
            · kernel_rfl
            · kernel_rfl
            · kernel_rfl
            · exact fun _ _ _ h => h
            · refine Or.inl ⟨by kernel_rfl, ?_⟩
              intro wS hSw
              try dsimp only at hSw
              go_simp
              try with_reducible rfl
            simp only [Act.put, List.setIfInBounds_toArray, List.set_cons_zero, List.set_cons_succ]
            refine wpAnyH_ready (rs := [12]) (by kernel_rfl) (by simp) ?_
            refine AllReadyH.cons rfl (fun K hK => ?_) ?_
            rotate_left
            · exact AllReadyH.nil
            go_simp
            refine (cL _ (by exact hQ4)).mono ?_
            rintro e w6 ⟨rfl, hb6⟩
            go_wp2_with fail
            refine hK.out _ _ ?_ (fun hHeld => ?_)
            · exact keepH hHeld hb6
            clear hK K
            try simp only [Act.put, List.setIfInBounds_toArray, List.set_cons_zero, List.set_cons_succ]
            refine wpAnyH_ready (rs := [15]) (by kernel_rfl) (by simp) ?_
            refine AllReadyH.cons rfl (fun K hK => ?_) ?_
            rotate_left
            · exact AllReadyH.nil
            go_simp
            refine (cM _ (RdP.below (w := w5.drew) (by exact hQ4) hb6)).mono ?_
            rintro e w7 ⟨rfl, hb7⟩
            go_wp2_with fail
            refine hK.out _ _ ?_ (fun hHeld => ?_)
            · exact keepH hHeld hb7
            clear hK K
            try simp only [Act.put, List.setIfInBounds_toArray, List.set_cons_zero, List.set_cons_succ]
            refine wpAnyH_take (i := 16) (oi := ?_) (v := ?_) ?_ ?_ ?_ ?_ ?_ ?_ (by assumption) ?_
            rotate_left 2
            · simp only [List.getElem?_toArray, List.getElem?_cons_succ, List.getElem?_cons_zero]
              rfl
            · kernel_rfl
            · kernel_rfl
            · kernel_rfl
            · exact fun _ _ _ h => h
            · refine Or.inl ⟨by kernel_rfl, ?_⟩
              intro wS hSw
              try dsimp only at hSw
              go_simp
              try with_reducible rfl
            simp only [Act.put, List.setIfInBounds_toArray, List.set_cons_zero, List.set_cons_succ]
            refine wpAnyH_take (i := 17) (oi := ?_) (v := ?_) ?_ ?_ ?_ ?_ ?_ ?_ (by assumption) ?_
            rotate_left 2
            · simp only [List.getElem?_toArray, List.getElem?_cons_succ, List.getElem?_cons_zero]
              rfl
            · kernel_rfl
            · kernel_rfl
            · kernel_rfl
            · exact fun _ _ _ h => h
            · refine Or.inl ⟨by kernel_rfl, ?_⟩
              intro wS hSw
              try dsimp only at hSw
              go_simp
              try with_reducible rfl
            simp only [Act.put, List.setIfInBounds_toArray, List.set_cons_zero, List.set_cons_succ]
            refine wpAnyH_take (i := 18) (oi := ?_) (v := ?_) ?_ ?_ ?_ ?_ ?_ ?_ (by assumption) ?_
            rotate_left 2
            · simp only [List.getElem?_toArray, List.getElem?_cons_succ, List.getElem?_cons_zero]
              rfl
            · kernel_rfl
            · kernel_rfl
            · kernel_rfl
            · exact fun _ _ _ h => h
            · refine Or.inl ⟨by kernel_rfl, ?_⟩
              intro wS hSw
              try dsimp only at hSw
              go_simp
              try with_reducible rfl
            simp only [Act.put, List.setIfInBounds_toArray, List.set_cons_zero, List.set_cons_succ]
            refine wpAnyH_done (by kernel_rfl) ?_ _
            -- @end
            have hw : IntKind.i64.wrap ((Li : Int) - (Ld : Int)) = (Li : Int) - (Ld : Int) := wrapH _ (by omega) (by omega)
            by_cases hge : 2 ≤ (Li : Int) - (Ld : Int)
            · have eK := HG.out hge
              subst eK
              clear HG HM HK HA
              go_wp2
              go_ret
              exact ⟨rfl, behind (behind (behind hB1 hB4).drew hb6) hb7⟩
            · have HT' : Hid (((p.take (k + 1)).all fun x => !Rg.heavyB Q l idn z x) = true) := HM.out (by omega)
              clear HG HM
              go_wp2
              go_roundw
              case rel => exact ⟨k + 1, by omega, by go_num, HT', behind (behind hB4.drew hb6) hb7⟩
              case measure => simp [intOf]; omega
          · have HT' : Hid (((p.take (k + 1)).all fun x => !Rg.heavyB Q l idn z0 x) = true) := HN.out (heavy_zone hd hz)
            clear HY HN hd
            go_wp2_with fail
            refine cX.mono ?_
            rintro e w4 ⟨rfl, hb4⟩
            have bX := bel1 w4 (.cells #[.int .i64 i, .int .i64 z, .int .i64 n] 42)
            have hB4 := behind (behind hb hb4) bX
            obtain ⟨t0, t1, t2⟩ := xD.below hB4
            have hzb : (z == z0) = false := by simpa using hz
            go_wp2_with fail
            go_quiet (fail)
            go_wp2
            go_roundw
            case rel => exact ⟨k + 1, by omega, by go_num, HT', belowQ5 hB4 nq⟩
            case measure => simp [intOf]; omega
      · have eK : K = -1 := by rw [← HK.out, Rg.find_end hlt HA.out]; rfl
        subst eK
        clear HK HA
        go_wp2
        go_ret
        exact ⟨rfl, behind hB1 hb⟩
end Go.Proofs.Ytoemblcheahbeac.Wk
