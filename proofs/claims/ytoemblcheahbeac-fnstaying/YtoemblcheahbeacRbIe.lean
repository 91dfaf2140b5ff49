/- What firstHeavier of the program comes to. -/
import Derived.Test.YtoemblcheahbeacRbId
import Derived.Test.YtoemblcheahbeacRbSb
import Derived.Test.YtoemblcheahbeacLdI
import Derived.Deep.RegionHeld3
import Derived.BigQuiet
import Derived.Deep.QuietTactic
namespace Go.Proofs.Ytoemblcheahbeac.Wk
set_option linter.unusedVariables false
open Go.ChangeShapes Go.WideShapes Go.ChangeAt Go.RowKit

set_option maxHeartbeats 4000000 in
set_option maxRecDepth 100000 in
theorem heavyFn (Bl Bt Br Bb : Nat) (reps : Int) (a c : Option Addr) (ca cc : Nat) (Q : List (List Int)) (l : List Sm.St) (idn z0 x : Int) (w : World) (hQ : Q.length ≤ 1048576) (ht : tot Q ≤ 1048576) (hl : l.length ≤ 1048576) (hrQ : RdP w a Q) (hs : RdS w c l)
    (k0 : w.cell? ⟨Bl, 0, none⟩ = some (.slice c l.length cc)) (k1 : w.cell? ⟨Bt, 1, none⟩ = some (.int .i64 z0)) (k2 : w.cell? ⟨Br, 0, none⟩ = some (.int .i64 reps)) (k3 : w.cell? ⟨Br, 1, none⟩ = some (.slice a Q.length ca)) (k4 : w.cell? ⟨Bb, 0, none⟩ = some (.int .i64 idn)) :
    Calls Try.prog 81 #[.int .i64 x, .pointer (some ⟨Bl, 0, none⟩), .pointer (some ⟨Bt, 0, none⟩), .pointer (some ⟨Br, 0, none⟩), .pointer (some ⟨Bb, 0, none⟩)] w fun e w' => e = .returned (.bool (Rg.heavyB Q l idn z0 x)) ∧ Below w.heap.size w w' := by
  have HL : Hid (∀ x, Rg.load Q x ≤ 1048576) := fun x => Nat.le_trans (Rg.load_le Q x) ht
  have cX := implAt c cc l x w hl hs
  obtain ⟨K, hK⟩ : ∃ K, Rg.heavyB Q l idn z0 x = K := ⟨_, rfl⟩
  have HK : Hid (Rg.heavyB Q l idn z0 x = K) := hK
  rw [hK]
  clear hK
  cases hd : Dv.at_ l x with
  | none =>
    have eK : K = false := by rw [← HK.out]; exact heavy_none hd
    subst eK
    rw [hd] at cX
    dsimp only [dvAtV] at cX
    clear hd HK
    go_enter Try.func81, Try.ntmps81
    go_wp2_with fail
    refine cX.mono ?_
    rintro e w4 ⟨rfl, hb4⟩
    go_wp2_with fail
    go_quiet (fail)
    go_wp2
    go_ret
    exact ⟨rfl, belowQ5 (behind hb4 (bel1 _ _)) nq⟩
  | some d =>
    rw [hd] at cX
    have hi := at_id hd
    obtain ⟨i, z, n⟩ := d
    dsimp only at hi
    subst hi
    dsimp only [dvAtV] at cX
    by_cases hz : z = z0
    · subst hz
      have HG : Hid (2 ≤ (Rg.load Q i : Int) - (Rg.load Q idn : Int) → K = true) := fun h => by rw [← HK.out]; exact heavy_yes hd rfl h
      have HM : Hid (¬ 2 ≤ (Rg.load Q i : Int) - (Rg.load Q idn : Int) → K = false) := fun h => by rw [← HK.out]; exact heavy_less hd h
      have hLi := HL.out i
      have hLd := HL.out idn
      have cL := fun (w' : World) (h : RdP w' a Q) => implLoad reps a ca Q i w' hQ ht h
      have cM := fun (w' : World) (h : RdP w' a Q) => implLoad reps a ca Q idn w' hQ ht h
      generalize Rg.load Q i = Li at HG HM hLi cL
      generalize Rg.load Q idn = Ld at HG HM hLd cM
      clear hd HK HL
      go_enter Try.func81, Try.ntmps81
      go_wp2_with fail
      refine cX.mono ?_
      rintro e w4 ⟨rfl, hb4⟩
      have bX := bel1 w4 (.cells #[.int .i64 i, .int .i64 z, .int .i64 n] 42)
      have xX := boxNew w4 i z n 42
      have hB4 := behind hb4 bX
      have t1 := cellOn k1 hB4
      have q0 := cellOn k2 hB4
      have q1 := cellOn k3 hB4
      have t4 := cellOn k4 hB4
      obtain ⟨y0, y1, y2⟩ := id xX
      have hQ4 := hrQ.below hB4
      clear cX k0 k1 k2 k3 k4
      go_upto_region 2 with fail
      generalize w4.alloc (.cells #[.int .i64 i, .int .i64 z, .int .i64 n] 42) = w5 at bX xX hB4 q0 q1 t1 t4 y0 y1 y2 hQ4 ⊢
      -- @region
      refine wp_region_held_drew (S := fun wy => wy.cell? ⟨Br, 0, none⟩ = some (.int .i64 reps) ∧ wy.cell? ⟨Br, 1, none⟩ = some (.slice a Q.length ca) ∧ wy.cell? ⟨Bt, 1, none⟩ = some (.int .i64 z) ∧ wy.cell? ⟨Bb, 0, none⟩ = some (.int .i64 idn) ∧ wy.cell? ⟨w4.heap.size, 1, none⟩ = some (.int .i64 z)) (by kernel_rfl) ⟨q0, q1, t1, t4, y1⟩ (fun hHeld => ?_)
      refine wpAnyH_take (i := 0) (oi := ?_) (v := ?_) ?_ ?_ ?_ ?_ ?_ ?_ (by assumption) ?_
      rotate_left 2
      · simp only [List.getElem?_toArray, List.getElem?_cons_zero]
        rfl
      · kernel_rfl
      · kernel_rfl
      · kernel_rfl
      · exact fun _ _ _ h => h
      · refine Or.inl ⟨by kernel_rfl, ?_⟩
        intro wS hSw
        try dsimp only at hSw
        go_simp
        try with_reducible rfl
      simp only [Act.put, List.setIfInBounds_toArray, List.set_cons_zero, List.set_cons_succ]
      refine wpAnyH_take (i := 1) (oi := ?_) (v := ?_) ?_ ?_ ?_ ?_ ?_ ?_ (by assumption) ?_
      rotate_left 2
      · simp only [List.getElem?_toArray, List.getElem?_cons_succ, List.getElem?_cons_zero]
        rfl
      · kernel_rfl
      · kernel_rfl
      · kernel_rfl
      · exact fun _ _ _ h => h
      · refine Or.inl ⟨by kernel_rfl, ?_⟩
        intro wS hSw
        try dsimp only at hSw
        go_simp
        try with_reducible rfl
      simp only [Act.put, List.setIfInBounds_toArray, List.set_cons_zero, List.set_cons_succ]
      refine wpAnyH_take (i := 2) (oi := ?_) (v := ?_) ?_ ?_ ?_ ?_ ?_ ?_ (by assumption) ?_
      rotate_left 2
      · simp only [List.getElem?_toArray, List.getElem?_cons_succ, List.getElem?_cons_zero]
        rfl
      · kernel_rfl
      · kernel_rfl
      · kernel_rfl
      · exact fun _ _ _ h => h
      · refine Or.inl ⟨by kernel_rfl, ?_⟩
        intro wS hSw
        try dsimp only at hSw
        go_simp
        try with_reducible rfl
      simp only [Act.put, List.setIfInBounds_toArray, List.set_cons_zero, List.set_cons_succ]
      refine wpAnyH_take (i := 3) (oi := ?_) (v := ?_) ?_ ?_ ?_ ?_ ?_ ?_ (by assumption) ?_
      rotate_left 2
      · simp only [List.getElem?_toArray, List.getElem?_cons_succ, List.getElem?_cons_zero]
        rfl
      · kernel_rfl
      · kernel_rfl
      · kernel_rfl
      · exact fun _ _ _ h => h
      · refine Or.inl ⟨by kernel_rfl, ?_⟩
        intro wS hSw
        try dsimp only at hSw
        go_simp
        try with_reducible rfl
      simp only [Act.put, List.setIfInBounds_toArray, List.set_cons_zero, List.set_cons_succ]
      refine wpAnyH_take (i := 4) (oi := ?_) (v := ?_) ?_ ?_ ?_ ?_ ?_ ?_ (by assumption) ?_
      rotate_left 2
      · simp only [List.getElem?_toArray, List.getElem?_cons_succ, List.getElem?_cons_zero]
        rfl
      · kernel_rfl
      · kernel_rfl
      · kernel_rfl
      · exact fun _ _ _ h => h
      · refine Or.inl ⟨by kernel_rfl, ?_⟩
        intro wS hSw
        try dsimp only at hSw
        go_simp
        try with_reducible rfl
      simp only [Act.put, List.setIfInBounds_toArray, List.set_cons_zero, List.set_cons_succ]
      refine wpAnyH_take (i := 5) (oi := ?_) (v := ?_) ?_ ?_ ?_ ?_ ?_ ?_ (by assumption) ?_
      rotate_left 2
      · simp only [List.getElem?_toArray, List.getElem?_cons_succ, List.getElem?_cons_zero]
        rfl
      · kernel_rfl
      · kernel_rfl
      · kernel_rfl
      · exact fun _ _ _ h => h
      · refine Or.inl ⟨by kernel_rfl, ?_⟩
        intro wS hSw
        try dsimp only at hSw
        go_simp
        try with_reducible rfl
      simp only [Act.put, List.setIfInBounds_toArray, List.set_cons_zero, List.set_cons_succ]
      refine wpAnyH_take (i := 6) (oi := ?_) (v := ?_) ?_ ?_ ?_ ?_ ?_ ?_ (by assumption) ?_
      rotate_left 2
      · simp only [List.getElem?_toArray, List.getElem?_cons_succ, List.getElem?_cons_zero]
        rfl
      · kernel_rfl
      · kernel_rfl
      · kernel_rfl
      · exact fun _ _ _ h => h
      · refine Or.inl ⟨by kernel_rfl, ?_⟩
        intro wS hSw
        try dsimp only at hSw
        go_simp
        try with_reducible rfl
      simp only [Act.put, List.setIfInBounds_toArray, List.set_cons_zero, List.set_cons_succ]
      refine wpAnyH_take (i := 7) (oi := ?_) (v := ?_) ?_ ?_ ?_ ?_ ?_ ?_ (by assumption) ?_
      rotate_left 2
      · simp only [List.getElem?_toArray, List.getElem?_cons_succ, List.getElem?_cons_zero]
        rfl
      · kernel_rfl
      · kernel_rfl
      · kernel_rfl
      · exact fun _ _ _ h => h
      · refine Or.inl ⟨by kernel_rfl, ?_⟩
        intro wS hSw
        try dsimp only at hSw
        go_simp
        try with_reducible rfl
      simp only [Act.put, List.setIfInBounds_toArray, List.set_cons_zero, List.set_cons_succ]
      refine wpAnyH_take (i := 8) (oi := ?_) (v := ?_) ?_ ?_ ?_ ?_ ?_ ?_ (by assumption) ?_
      rotate_left 2
      · simp only [List.getElem?_toArray, List.getElem?_cons_succ, List.getElem?_cons_zero]
        rfl
      · kernel_rfl
      · kernel_rfl
      · kernel_rfl
      · exact fun _ _ _ h => h
      · refine Or.inl ⟨by kernel_rfl, ?_⟩
        intro wS hSw
        try dsimp only at hSw
        go_simp
        try with_reducible rfl
      simp only [Act.put, List.setIfInBounds_toArray, List.set_cons_zero, List.set_cons_succ]
      refine wpAnyH_take (i := 9) (oi := ?_) (v := ?_) ?_ ?_ ?_ ?_ ?_ ?_ (by assumption) ?_
      rotate_left 2
      · simp only [List.getElem?_toArray, List.getElem?_cons_succ, List.getElem?_cons_zero]
        rfl
      · kernel_rfl
      · kernel_rfl
      · kernel_rfl
      · exact fun _ _ _ h => h
      · refine Or.inl ⟨by kernel_rfl, ?_⟩
        intro wS hSw
        try dsimp only at hSw
        go_simp
        try with_reducible rfl
      simp only [Act.put, List.setIfInBounds_toArray, List.set_cons_zero, List.set_cons_succ]
      refine wpAnyH_take (i := 10) (oi := ?_) (v := ?_) ?_ ?_ ?_ ?_ ?_ ?_ (by assumption) ?_
      rotate_left 2
      · simp only [List.getElem?_toArray, List.getElem?_cons_succ, List.getElem?_cons_zero]
        rfl
      · kernel_rfl
      · kernel_rfl
      · kernel_rfl
      · exact fun _ _ _ h => h
      · refine Or.inl ⟨by kernel_rfl, ?_⟩
        intro wS hSw
        try dsimp only at hSw
        go_simp
        try with_reducible rfl
      simp only [Act.put, List.setIfInBounds_toArray, List.set_cons_zero, List.set_cons_succ]
      refine wpAnyH_take (i := 12) (oi := ?_) (v := ?_) ?_ ?_ ?_ ?_ ?_ ?_ (by assumption) ?_
      rotate_left 2
      · simp only [List.getElem?_toArray, List.getElem?_cons_succ, List.getElem?_cons_zero]
        rfl
      · kernel_rfl
      · kernel_rfl
      · kernel_rfl
      · exact fun _ _ _ h => h
      · refine Or.inl ⟨by kernel_rfl, ?_⟩
        intro wS hSw
        try dsimp only at hSw
        go_simp
        try with_reducible rfl
      simp only [Act.put, List.setIfInBounds_toArray, List.set_cons_zero, List.set_cons_succ]
      refine wpAnyH_take (i := 13) (oi := ?_) (v := ?_) ?_ ?_ ?_ ?_ ?_ ?_ (by assumption) ?_
      rotate_left 2
      · simp only [List.getElem?_toArray, List.getElem?_cons_succ, List.getElem?_cons_zero]
        rfl
      · kernel_rfl
      · kernel_rfl
      · kernel_rfl
      · exact fun _ _ _ h => h
      · refine Or.inl ⟨by kernel_rfl, ?_⟩
        intro wS hSw
        try dsimp only at hSw
        go_simp
        try with_reducible rfl
      simp only [Act.put, List.setIfInBounds_toArray, List.set_cons_zero, List.set_cons_succ]
      refine wpAnyH_ready (rs := [11]) (by kernel_rfl) (by simp) ?_
      refine AllReadyH.cons rfl (fun K hK => ?_) ?_
      rotate_left
      · exact AllReadyH.nil
      go_simp
      refine (cL _ (by exact hQ4)).mono ?_
      rintro e w6 ⟨rfl, hb6⟩
      go_wp2_with fail
      refine hK.out _ _ ?_ (fun hHeld => ?_)
      · exact keepH hHeld hb6
      clear hK K
      try simp only [Act.put, List.setIfInBounds_toArray, List.set_cons_zero, List.set_cons_succ]
      refine wpAnyH_ready (rs := [14]) (by kernel_rfl) (by simp) ?_
      refine AllReadyH.cons rfl (fun K hK => ?_) ?_
      rotate_left
      · exact AllReadyH.nil
      go_simp
      refine (cM _ (RdP.below (w := w5.drew) (by exact hQ4) hb6)).mono ?_
      rintro e w7 ⟨rfl, hb7⟩
      go_wp2_with fail
      refine hK.out _ _ ?_ (fun hHeld => ?_)
      · exact keepH hHeld hb7
      clear hK K
      try simp only [Act.put, List.setIfInBounds_toArray, List.set_cons_zero, List.set_cons_succ]
      refine wpAnyH_take (i := 15) (oi := ?_) (v := ?_) ?_ ?_ ?_ ?_ ?_ ?_ (by assumption) ?_
      rotate_left 2
      · simp only [List.getElem?_toArray, List.getElem?_cons_succ, List.getElem?_cons_zero]
        rfl
      · kernel_rfl
      · kernel_rfl
      · kernel_rfl
      · exact fun _ _ _ h => h
      · refine Or.inl ⟨by kernel_rfl, ?_⟩
        intro wS hSw
        try dsimp only at hSw
        go_simp
        try with_reducible rfl
      simp only [Act.put, List.setIfInBounds_toArray, List.set_cons_zero, List.set_cons_succ]
      refine wpAnyH_take (i := 16) (oi := ?_) (v := ?_) ?_ ?_ ?_ ?_ ?_ ?_ (by assumption) ?_
      rotate_left 2
      · simp only [List.getElem?_toArray, List.getElem?_cons_succ, List.getElem?_cons_zero]
        rfl
      · kernel_rfl
      · kernel_rfl
      · kernel_rfl
      · exact fun _ _ _ h => h
      · refine Or.inl ⟨by kernel_rfl, ?_⟩
        intro wS hSw
        try dsimp only at hSw
        go_simp
        try with_reducible rfl
      simp only [Act.put, List.setIfInBounds_toArray, List.set_cons_zero, List.set_cons_succ]
      refine wpAnyH_take (i := 17) (oi := ?_) (v := ?_) ?_ ?_ ?_ ?_ ?_ ?_ (by assumption) ?_
      rotate_left 2
      · simp only [List.getElem?_toArray, List.getElem?_cons_succ, List.getElem?_cons_zero]
        rfl
      · kernel_rfl
      · kernel_rfl
      · kernel_rfl
      · exact fun _ _ _ h => h
      · refine Or.inl ⟨by kernel_rfl, ?_⟩
        intro wS hSw
        try dsimp only at hSw
        go_simp
        try with_reducible rfl
      simp only [Act.put, List.setIfInBounds_toArray, List.set_cons_zero, List.set_cons_succ]
      refine wpAnyH_take (i := 18) (oi := ?_) (v := ?_) ?_ ?_ ?_ ?_ ?_ ?_ (by assumption) ?_
      rotate_left 2
      · simp only [List.getElem?_toArray, List.getElem?_cons_succ, List.getElem?_cons_zero]
        rfl
      · kernel_rfl
      · kernel_rfl
      · kernel_rfl
      · exact fun _ _ _ h => h
      · refine Or.inl ⟨by kernel_rfl, ?_⟩
        intro wS hSw
        try dsimp only at hSw
        go_simp
        try with_reducible rfl
      simp only [Act.put, List.setIfInBounds_toArray, List.set_cons_zero, List.set_cons_succ]
      refine wpAnyH_done (by kernel_rfl) ?_ _
      -- @end
      have hw : IntKind.i64.wrap ((Li : Int) - (Ld : Int)) = (Li : Int) - (Ld : Int) := wrapH _ (by omega) (by omega)
      by_cases hge : 2 ≤ (Li : Int) - (Ld : Int)
      · have eK := HG.out hge
        subst eK
        clear HG HM
        go_wp2
        go_ret
        exact ⟨show Ending.returned (.bool (decide (2 ≤ IntKind.i64.wrap ((Li : Int) - (Ld : Int))))) = _ from ret_bool (by rw [hw]; exact decide_eq_true hge), behind (behind hB4.drew hb6) hb7⟩
      · have eK := HM.out (by omega)
        subst eK
        clear HG HM
        go_wp2
        go_ret
        exact ⟨show Ending.returned (.bool (decide (2 ≤ (Li : Int) - (Ld : Int)))) = _ from ret_bool (decide_eq_false (by omega)), behind (behind hB4.drew hb6) hb7⟩
    · have eK : K = false := by rw [← HK.out]; exact heavy_zone hd hz
      subst eK
      have hzb : (z == z0) = false := by simpa using hz
      clear hd HK HL
      go_enter Try.func81, Try.ntmps81
      go_wp2_with fail
      refine cX.mono ?_
      rintro e w4 ⟨rfl, hb4⟩
      have bX := bel1 w4 (.cells #[.int .i64 i, .int .i64 z, .int .i64 n] 42)
      have hB4 := behind hb4 bX
      have t1 := cellOn k1 hB4
      go_wp2_with fail
      go_quiet (fail)
      go_wp2
      go_ret
      exact ⟨rfl, belowQ5 hB4 nq⟩

set_option maxHeartbeats 4000000 in
set_option maxRecDepth 100000 in
theorem implHeavy (reps : Int) (a b c : Option Addr) (ca cb cc : Nat) (Q : List (List Int)) (p : List Int) (l : List Sm.St) (idn : Int) (w : World) (hQ : Q.length ≤ 1048576) (ht : tot Q ≤ 1048576) (hp : p.length ≤ 1048576) (hl : l.length ≤ 1048576) (hrQ : RdP w a Q) (hr : RdZ w b p) (hs : RdS w c l) :
    Calls Try.prog 73 #[.agg #[.int .i64 reps, .slice a Q.length ca], .agg #[.slice b p.length cb], .slice c l.length cc, .int .i64 idn] w fun e w' => e = .returned (.int .i64 (Rg.idxI (Rg.heavyK Q l p idn))) ∧ Below w.heap.size w w' := by
  have sQ := slot2New w (.int .i64 reps) (.slice a Q.length ca) 29
  have sP := slot1New (w.alloc (.cells #[.int .i64 reps, .slice a Q.length ca] 29)) (.slice b p.length cb) 36
  have b1 := bel1 w (.cells #[.int .i64 reps, .slice a Q.length ca] 29)
  have b2 := bel1 (w.alloc (.cells #[.int .i64 reps, .slice a Q.length ca] 29)) (.cells #[.slice b p.length cb] 36)
  have hS1 : (w.alloc (.cells #[.int .i64 reps, .slice a Q.length ca] 29)).heap.size = w.heap.size + 1 := by simp
  obtain ⟨w1, hw1⟩ : ∃ w1, w.alloc (.cells #[.int .i64 reps, .slice a Q.length ca] 29) = w1 := ⟨_, rfl⟩
  rw [hw1] at sQ sP b1 b2 hS1
  obtain ⟨w2, hw2⟩ : ∃ w2, w1.alloc (.cells #[.slice b p.length cb] 36) = w2 := ⟨_, rfl⟩
  have hS2 : w2.heap.size = w.heap.size + 1 + 1 := by rw [← hw2]; simp [hS1]
  rw [hw2] at sP b2
  have sL := slot1New w2 (.slice c l.length cc) 24
  have b3 := bel1 w2 (.cells #[.slice c l.length cc] 24)
  obtain ⟨w3, hw3⟩ : ∃ w3, w2.alloc (.cells #[.slice c l.length cc] 24) = w3 := ⟨_, rfl⟩
  have hS3 : w3.heap.size = w.heap.size + 1 + 1 + 1 := by rw [← hw3]; simp [hS2]
  rw [hw3] at sL b3
  have sI := slot1New w3 (.int .i64 idn) 3
  have b4 := bel1 w3 (.cells #[.int .i64 idn] 3)
  obtain ⟨w0, hw0⟩ : ∃ w0, w3.alloc (.cells #[.int .i64 idn] 3) = w0 := ⟨_, rfl⟩
  rw [hw0] at sI b4
  rw [hS1] at sP
  rw [hS2] at sL
  rw [hS3] at sI
  have hB0 := behind (behind (behind b1 b2) b3) b4
  have sQ := ((sQ.below b2).below b3).below b4
  have sP := (sP.below b3).below b4
  have sL := sL.below b4
  have hQ0 := hrQ.below hB0
  have hr0 := hr.below hB0
  have hs0 := hs.below hB0
  have hW : (((w.alloc (.cells #[.int .i64 reps, .slice a Q.length ca] 29)).alloc (.cells #[.slice b p.length cb] 36)).alloc (.cells #[.slice c l.length cc] 24)).alloc (.cells #[.int .i64 idn] 3) = w0 := by rw [hw1, hw2, hw3, hw0]
  clear hw1 hw2 hw3 hw0 b1 b2 b3 b4 hS1 hS2 hS3 hrQ hr hs
  have cA := fun w' h => implAt c cc l idn w' hl h
  obtain ⟨k0, -⟩ := id sL
  obtain ⟨k1, -⟩ := id sI
  cases hd : Dv.at_ l idn with
  | none =>
    have eK : Rg.heavyK Q l p idn = none := by unfold Rg.heavyK; rw [hd]
    rw [eK]
    clear eK
    rw [hd] at cA
    dsimp only [dvAtV] at cA
    clear hd
    go_enter Try.func73, Try.ntmps73
    go_wp2_with fail
    refine (cA _ hs0).mono ?_
    rintro e w4 ⟨rfl, hb4⟩
    go_wp2
    go_ret
    exact ⟨rfl, behind (behind hB0 hb4) (bel1 _ _)⟩
  | some d =>
    obtain ⟨i0, z0, n0⟩ := d
    have eK : Rg.heavyK Q l p idn = p.findIdx? (Rg.heavyB Q l idn z0) := by unfold Rg.heavyK; rw [hd]
    rw [eK]
    clear eK
    rw [hd] at cA
    dsimp only [dvAtV] at cA
    clear hd
    go_enter Try.func73, Try.ntmps73
    go_wp2_with fail
    refine (cA _ hs0).mono ?_
    rintro e w4 ⟨rfl, hb4⟩
    have bN := bel1 w4 (.cells #[.int .i64 i0, .int .i64 z0, .int .i64 n0] 42)
    have xD := boxNew w4 i0 z0 n0 42
    have hB4 := behind hb4 bN
    have sQ := sQ.below hB4
    have sP := sP.below hB4
    have sL := sL.below hB4
    have sI := sI.below hB4
    have hQ0 := hQ0.below hB4
    have hr0 := hr0.below hB4
    have hs0 := hs0.below hB4
    obtain ⟨p0, -⟩ := id sP
    clear cA k0 k1
    go_wp2_with fail
    generalize w4.alloc (.cells #[.int .i64 i0, .int .i64 z0, .int .i64 n0] 42) = w5 at bN xD hB4 sQ sP sL sI hQ0 hr0 hs0 p0 ⊢
    refine (idxFuncZ 81 #[.pointer (some ⟨w.heap.size + 1 + 1, 0, none⟩), .pointer (some ⟨w4.heap.size, 0, none⟩), .pointer (some ⟨w.heap.size, 0, none⟩), .pointer (some ⟨w.heap.size + 1 + 1 + 1, 0, none⟩)] (enters_of Try.func81 (by kernel_rfl) rfl) (Rg.heavyB Q l idn z0) b cb p _ hp hr0
      (fun W x hb => heavyFn _ _ _ _ reps a c ca cc Q l idn z0 x W hQ ht hl (hQ0.below hb) (hs0.below hb) (sL.below hb).1 (xD.below hb).2.1 (sQ.below hb).1.1 (sQ.below hb).1.2 (sI.below hb).1)).mono ?_
    rintro e w6 ⟨rfl, hb6⟩
    go_wp2
    go_ret
    exact ⟨rfl, behind (behind hB0 hB4) hb6⟩
end Go.Proofs.Ytoemblcheahbeac.Wk
