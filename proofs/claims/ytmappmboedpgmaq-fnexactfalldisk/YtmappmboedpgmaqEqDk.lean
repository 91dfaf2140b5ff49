/- What the laws' eqNamed, eqNamedS and eqDisk come to where both are the same: true. -/
import Derived.Test.YtmappmboedpgmaqByW
import Derived.Test.YtmappmboedpgmaqDnS
import Derived.Deep.CutBlock
import Derived.Deep.DeepCutAuto
import Derived.Deep.RegionHeld3
namespace Go.Proofs.Ytmappmboedpgmaq.Wk
set_option linter.unusedVariables false
open Go.ChangeShapes Go.WideShapes Go.ChangeAt Go.RowKit

set_option maxHeartbeats 1000000 in
set_option maxRecDepth 100000 in
theorem eqNamed (s : ByteArray) (a a' : Option Addr) (c c' : Nat) (p : List UInt8) (w : World) (hl : p.length ≤ 1048576) (hr : RdA w a p) (hr' : RdA w a' p) :
    Calls Try.prog 58 #[.agg #[.string s, .slice a p.length c], .agg #[.string s, .slice a' p.length c']] w fun e w' => e = .returned (.bool true) ∧ Below w.heap.size w w' := by
  have b0 := bel2 w (.cells #[.string s, .slice a p.length c] 57) (.cells #[.string s, .slice a' p.length c'] 57)
  have bb := bel1 (w.alloc (.cells #[.string s, .slice a p.length c] 57)) (.cells #[.string s, .slice a' p.length c'] 57)
  have q0 : (w.alloc (.cells #[.string s, .slice a p.length c] 57)).cell? ⟨w.heap.size, 0, none⟩ = some (.string s) := by rw [World.cell?_alloc_at _ _ _ _ rfl]; rfl
  have q1 : (w.alloc (.cells #[.string s, .slice a p.length c] 57)).cell? ⟨w.heap.size, 1, none⟩ = some (.slice a p.length c) := by rw [World.cell?_alloc_at _ _ _ _ rfl]; rfl
  have r0 : ((w.alloc (.cells #[.string s, .slice a p.length c] 57)).alloc (.cells #[.string s, .slice a' p.length c'] 57)).cell? ⟨w.heap.size + 1, 0, none⟩ = some (.string s) := by rw [World.cell?_alloc_at _ _ _ _ (by simp)]; rfl
  have r1 : ((w.alloc (.cells #[.string s, .slice a p.length c] 57)).alloc (.cells #[.string s, .slice a' p.length c'] 57)).cell? ⟨w.heap.size + 1, 1, none⟩ = some (.slice a' p.length c') := by rw [World.cell?_alloc_at _ _ _ _ (by simp)]; rfl
  have Q0 := cellNd q0 bb
  have Q1 := cellNd q1 bb
  have hR := hr.below b0
  have hR' := hr'.below b0
  clear q0 q1 bb
  go_enter Try.func58, Try.ntmps58
  go_upto_region 1 with fail
  generalize (w.alloc (.cells #[.string s, .slice a p.length c] 57)).alloc (.cells #[.string s, .slice a' p.length c'] 57) = wA at *
  go_wp2_with fail
  go_at_call 71
  refine (eqByteS a a' c c' p wA (by omega) hR hR').mono ?_
  rintro e w2 ⟨rfl, n, rfl⟩
  go_wp2
  go_ret
  exact ⟨rfl, b0.os, b0.tape, b0.output, b0.size, b0.block⟩

set_option maxHeartbeats 4000000 in
set_option maxRecDepth 100000 in
theorem eqNamedS (a a' : Option Addr) (ca ca' : Nat) (l : List Nd) (w : World) (hl : l.length ≤ 2097152) (hz : ∀ x ∈ l, x.2.length ≤ 1048576) (hr : RdNd w a l) (hr' : RdNd w a' l) :
    Calls Try.prog 35 #[.slice a l.length ca, .slice a' l.length ca'] w fun e w' => e = .returned (.bool true) ∧ Below w.heap.size w w' := by
  go_enter Try.func35, Try.ntmps35
  go_wp2
  go_loopw [5] (fun i wr => ∃ k : Nat, k ≤ l.length ∧ i = .int .i64 k ∧ Below w.heap.size w wr) (fun i _ => l.length - (intOf i).toNat)
  case atStart => exact ⟨0, Nat.zero_le _, rfl, Below.refl _ _⟩
  case round =>
    obtain ⟨k, hk, rfl, hb⟩ := hrel
    by_cases hlt : k < l.length
    · obtain ⟨b, off, ai, ci, rfl, c1, c2, hz1, -, -⟩ := (hr.below hb) k hlt
      obtain ⟨b', off', ai', ci', rfl, c1', c2', hz2, -, -⟩ := (hr'.below hb) k hlt
      have hx := hz l[k] (List.getElem_mem hlt)
      have hw1 : IntKind.i64.wrap (k : Int) = (k : Int) := by simp only [IntKind.wrap, IntKind.bits, IntKind.signed]; simp; omega
      have hk0 : (0 : Int) ≤ (k : Int) := by omega
      have hk1 : (k : Int) < (l.length : Int) := by omega
      have cE := eqNamed l[k].1 ai ai' ci ci' l[k].2 wr.drew hx hz1 hz2
      generalize l[k].1 = s at *
      generalize l[k].2.length = n at *
      clear hz1 hz2 hx
      go_upto_region 6 with fail
      refine wp_region_held_drew (S := fun wy => wy.cell? ⟨b, off + k * 2, none⟩ = some (.string s) ∧ wy.cell? ⟨b, off + k * 2 + 1, none⟩ = some (.slice ai n ci) ∧ wy.cell? ⟨b', off' + k * 2, none⟩ = some (.string s) ∧ wy.cell? ⟨b', off' + k * 2 + 1, none⟩ = some (.slice ai' n ci')) (by kernel_rfl) ⟨c1, c2, c1', c2'⟩ (fun hHeld => ?_)
      refine wpAnyH_take (i := 0) (oi := ?_) (v := ?_) ?_ ?_ ?_ ?_ ?_ ?_ (by assumption) ?_
      rotate_left 2
      · simp only [List.getElem?_toArray, List.getElem?_cons_zero]
        rfl
      · kernel_rfl
      · kernel_rfl
      · kernel_rfl
      · exact fun _ _ _ h => h
      · refine Or.inl ⟨by kernel_rfl, ?_⟩
        intro wS hSw
        try dsimp only at hSw
        go_simp
        try with_reducible rfl
      simp only [Act.put, List.setIfInBounds_toArray, List.set_cons_zero, List.set_cons_succ]
      refine wpAnyH_take (i := 1) (oi := ?_) (v := ?_) ?_ ?_ ?_ ?_ ?_ ?_ (by assumption) ?_
      rotate_left 2
      · simp only [List.getElem?_toArray, List.getElem?_cons_succ, List.getElem?_cons_zero]
        rfl
      · kernel_rfl
      · kernel_rfl
      · kernel_rfl
      · exact fun _ _ _ h => h
      · refine Or.inl ⟨by kernel_rfl, ?_⟩
        intro wS hSw
        try dsimp only at hSw
        go_simp
        try with_reducible rfl
      simp only [Act.put, List.setIfInBounds_toArray, List.set_cons_zero, List.set_cons_succ]
      refine wpAnyH_take (i := 2) (oi := ?_) (v := ?_) ?_ ?_ ?_ ?_ ?_ ?_ (by assumption) ?_
      rotate_left 2
      · simp only [List.getElem?_toArray, List.getElem?_cons_succ, List.getElem?_cons_zero]
        rfl
      · kernel_rfl
      · kernel_rfl
      · kernel_rfl
      · exact fun _ _ _ h => h
      · refine Or.inl ⟨by kernel_rfl, ?_⟩
        intro wS hSw
        try dsimp only at hSw
        go_simp
        try with_reducible rfl
      simp only [Act.put, List.setIfInBounds_toArray, List.set_cons_zero, List.set_cons_succ]
      refine wpAnyH_take (i := 3) (oi := ?_) (v := ?_) ?_ ?_ ?_ ?_ ?_ ?_ (by assumption) ?_
      rotate_left 2
      · simp only [List.getElem?_toArray, List.getElem?_cons_succ, List.getElem?_cons_zero]
        rfl
      · kernel_rfl
      · kernel_rfl
      · kernel_rfl
      · exact fun _ _ _ h => h
      · refine Or.inl ⟨by kernel_rfl, ?_⟩
        intro wS hSw
        try dsimp only at hSw
        go_simp
        try with_reducible rfl
      simp only [Act.put, List.setIfInBounds_toArray, List.set_cons_zero, List.set_cons_succ]
      refine wpAnyH_take (i := 4) (oi := ?_) (v := ?_) ?_ ?_ ?_ ?_ ?_ ?_ (by assumption) ?_
      rotate_left 2
      · simp only [List.getElem?_toArray, List.getElem?_cons_succ, List.getElem?_cons_zero]
        rfl
      · kernel_rfl
      · kernel_rfl
      · kernel_rfl
      · exact fun _ _ _ h => h
      · refine Or.inl ⟨by kernel_rfl, ?_⟩
        intro wS hSw
        try dsimp only at hSw
        go_simp
        try with_reducible rfl
      simp only [Act.put, List.setIfInBounds_toArray, List.set_cons_zero, List.set_cons_succ]
      refine wpAnyH_take (i := 5) (oi := ?_) (v := ?_) ?_ ?_ ?_ ?_ ?_ ?_ (by assumption) ?_
      rotate_left 2
      · simp only [List.getElem?_toArray, List.getElem?_cons_succ, List.getElem?_cons_zero]
        rfl
      · kernel_rfl
      · kernel_rfl
      · kernel_rfl
      · exact fun _ _ _ h => h
      · refine Or.inl ⟨by kernel_rfl, ?_⟩
        intro wS hSw
        try dsimp only at hSw
        go_simp
        try with_reducible rfl
      simp only [Act.put, List.setIfInBounds_toArray, List.set_cons_zero, List.set_cons_succ]
      refine wpAnyH_take (i := 6) (oi := ?_) (v := ?_) ?_ ?_ ?_ ?_ ?_ ?_ (by assumption) ?_
      rotate_left 2
      · simp only [List.getElem?_toArray, List.getElem?_cons_succ, List.getElem?_cons_zero]
        rfl
      · kernel_rfl
      · kernel_rfl
      · kernel_rfl
      · exact fun _ _ _ h => h
      · refine Or.inl ⟨by kernel_rfl, ?_⟩
        intro wS hSw
        try dsimp only at hSw
        go_simp
        try with_reducible rfl
      simp only [Act.put, List.setIfInBounds_toArray, List.set_cons_zero, List.set_cons_succ]
      refine wpAnyH_take (i := 7) (oi := ?_) (v := ?_) ?_ ?_ ?_ ?_ ?_ ?_ (by assumption) ?_
      rotate_left 2
      · simp only [List.getElem?_toArray, List.getElem?_cons_succ, List.getElem?_cons_zero]
        rfl
      · kernel_rfl
      · kernel_rfl
      · kernel_rfl
      · exact fun _ _ _ h => h
      · refine Or.inl ⟨by kernel_rfl, ?_⟩
        intro wS hSw
        try dsimp only at hSw
        go_simp
        try with_reducible rfl
      simp only [Act.put, List.setIfInBounds_toArray, List.set_cons_zero, List.set_cons_succ]
      refine wpAnyH_ready (rs := [8]) (by kernel_rfl) (by simp) ?_
      refine AllReadyH.cons rfl (fun K hK => ?_) ?_
      rotate_left
      · exact AllReadyH.nil
      go_simp
      refine cE.mono ?_
      rintro e w4 ⟨rfl, hb4⟩
      go_wp2_with fail
      refine hK.out _ _ ?_ (fun hHeld => ?_)
      · exact ⟨cellNd hHeld.1 hb4, cellNd hHeld.2.1 hb4, cellNd hHeld.2.2.1 hb4, cellNd hHeld.2.2.2 hb4⟩
      clear hK K
      try simp only [Act.put, List.setIfInBounds_toArray, List.set_cons_zero, List.set_cons_succ]
      refine wpAnyH_take (i := 9) (oi := ?_) (v := ?_) ?_ ?_ ?_ ?_ ?_ ?_ (by assumption) ?_
      rotate_left 2
      · simp only [List.getElem?_toArray, List.getElem?_cons_succ, List.getElem?_cons_zero]
        rfl
      · kernel_rfl
      · kernel_rfl
      · kernel_rfl
      · exact fun _ _ _ h => h
      · refine Or.inl ⟨by kernel_rfl, ?_⟩
        intro wS hSw
        try dsimp only at hSw
        go_simp
        try with_reducible rfl
      simp only [Act.put, List.setIfInBounds_toArray, List.set_cons_zero, List.set_cons_succ]
      refine wpAnyH_done (by kernel_rfl) ?_ _
      have hB4 : Below w.heap.size w w4 := behind hb.drew hb4
      go_wp2
      go_roundw
      case rel => exact ⟨k + 1, by omega, by go_num, hB4⟩
      case measure => simp [intOf]; omega
    · go_wp2
      go_ret
      exact ⟨rfl, hb⟩

set_option maxHeartbeats 1000000 in
set_option maxRecDepth 100000 in
theorem eqDisk (a1 a2 b1 b2 : Option Addr) (c1 c2 d1 d2 : Nat) (l1 l2 : List Nd) (w : World) (h1 : l1.length ≤ 2097152) (h2 : l2.length ≤ 2097152) (z1 : ∀ x ∈ l1, x.2.length ≤ 1048576) (z2 : ∀ x ∈ l2, x.2.length ≤ 1048576)
    (r1 : RdNd w a1 l1) (r2 : RdNd w a2 l2) (q1 : RdNd w b1 l1) (q2 : RdNd w b2 l2) :
    Calls Try.prog 11 #[.agg #[.slice a1 l1.length c1, .slice a2 l2.length c2], .agg #[.slice b1 l1.length d1, .slice b2 l2.length d2]] w fun e w' => e = .returned (.bool true) ∧ Below w.heap.size w w' := by
  have b0 := bel2 w (.cells #[.slice a1 l1.length c1, .slice a2 l2.length c2] 28) (.cells #[.slice b1 l1.length d1, .slice b2 l2.length d2] 28)
  have s0 := (slot2dNew w (.slice a1 l1.length c1) (.slice a2 l2.length c2) 28).below (bel1 _ (.cells #[.slice b1 l1.length d1, .slice b2 l2.length d2] 28))
  have s1 := slot2dNew (w.alloc (.cells #[.slice a1 l1.length c1, .slice a2 l2.length c2] 28)) (.slice b1 l1.length d1) (.slice b2 l2.length d2) 28
  rw [World.size_alloc] at s1
  have e1 := fun (W : World) (h : Below w.heap.size w W) => eqNamedS a1 b1 c1 d1 l1 W h1 z1 (r1.below h) (q1.below h)
  have e2 := fun (W : World) (h : Below w.heap.size w W) => eqNamedS a2 b2 c2 d2 l2 W h2 z2 (r2.below h) (q2.below h)
  clear r1 r2 q1 q2 z1 z2 h1 h2
  generalize l1.length = n1 at *
  generalize l2.length = n2 at *
  go_enter Try.func11, Try.ntmps11
  go_upto_region 1 with fail
  generalize (w.alloc (.cells #[.slice a1 n1 c1, .slice a2 n2 c2] 28)).alloc (.cells #[.slice b1 n1 d1, .slice b2 n2 d2] 28) = wA at *
  obtain ⟨⟨x0, x1⟩, -⟩ := id s0
  obtain ⟨⟨y0, y1⟩, -⟩ := id s1
  go_wp2_with fail
  go_at_call 35
  refine (e1 _ b0).mono ?_
  rintro e w2 ⟨rfl, hb2⟩
  have B2 := behind b0 hb2
  obtain ⟨⟨x0', x1'⟩, -⟩ := s0.below hb2
  obtain ⟨⟨y0', y1'⟩, -⟩ := s1.below hb2
  clear x0 x1 y0 y1
  go_wp2_with fail
  go_at_call 35
  refine (e2 _ B2).mono ?_
  rintro e w3 ⟨rfl, hb3⟩
  go_wp2
  go_ret
  exact ⟨rfl, behind B2 hb3⟩
end Go.Proofs.Ytmappmboedpgmaq.Wk
