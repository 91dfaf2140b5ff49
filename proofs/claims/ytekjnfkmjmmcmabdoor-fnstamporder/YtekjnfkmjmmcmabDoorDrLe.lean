/- What DrawLessStamp comes to: two stamps. -/
import Derived.Test.YtekjnfkmjmmcmabDoorDrPa
import Derived.Deep.RegionHeld3
import Derived.RegionTactic
import Derived.BigRegion
namespace Go.Proofs.YtekjnfkmjmmcmabDoor.Wk
set_option linter.unusedVariables false
open Go.ChangeShapes Go.WideShapes Go.ChangeAt Go.RowKit

theorem keep3set {w : World} {bx b' o : Nat} {u v1 v2 v3 : Value} (h : w.cell? ⟨bx, 0, none⟩ = some v1 ∧ w.cell? ⟨bx, 1, none⟩ = some v2 ∧ w.cell? ⟨bx, 2, none⟩ = some v3) (hne : b' ≠ bx) :
    (w.setCell ⟨b', o, none⟩ u).cell? ⟨bx, 0, none⟩ = some v1 ∧ (w.setCell ⟨b', o, none⟩ u).cell? ⟨bx, 1, none⟩ = some v2 ∧ (w.setCell ⟨b', o, none⟩ u).cell? ⟨bx, 2, none⟩ = some v3 := by
  have ne : ∀ j, (⟨b', o, none⟩ : Addr) ≠ ⟨bx, j, none⟩ := fun j e => hne (congrArg Addr.block e)
  exact ⟨by rw [World.cell?_setCell_other _ _ _ _ (ne _)]; exact h.1, by rw [World.cell?_setCell_other _ _ _ _ (ne _)]; exact h.2.1, by rw [World.cell?_setCell_other _ _ _ _ (ne _)]; exact h.2.2⟩

set_option maxHeartbeats 1000000 in
set_option maxRecDepth 100000 in
theorem drawLess (a : Option Addr) (cap : Nat) (l : List UInt8) (w : World) (hl : l.length ≤ 1048576) (hr : RdA w a l) :
    Calls Tryd.prog 7 #[.slice a l.length cap] w fun e w' => ∃ t q n t' q' n' : Int, e = .returned (.tuple #[.agg #[.int .i64 t, .int .i64 q, .int .i64 n], .agg #[.int .i64 t', .int .i64 q', .int .i64 n']]) ∧ Below w.heap.size w w' := by
  have r0 := (slotNew w 0 0 0 25).below (bel1 _ (.cells #[.int .i64 0, .int .i64 0, .int .i64 0] 25))
  have s0 := slotNew (w.alloc (.cells #[.int .i64 0, .int .i64 0, .int .i64 0] 25)) 0 0 0 25
  have hb0 := bel2 w (.cells #[.int .i64 0, .int .i64 0, .int .i64 0] 25) (.cells #[.int .i64 0, .int .i64 0, .int .i64 0] 25)
  simp only [World.size_alloc] at s0
  go_enter Tryd.func7, Tryd.ntmps7
  go_wp2_with fail
  refine (l1New a cap l _ hl (hr.below hb0)).mono ?_
  rintro e w1 ⟨rfl, hc1, hb1⟩
  simp only [World.size_alloc] at hc1
  have r1 := r0.below hb1
  have s1 := s0.below hb1
  have hB1 := behind hb0 hb1
  go_wp2_with fail
  refine (l2Any (w.heap.size + 1 + 1) l _ hc1).mono ?_
  rintro e w2 ⟨t, q, n, rfl, ht, hq, hn, hc2, hg2⟩
  have hz2 := hc2.lt
  have r2 := (r1.grown hg2 (by omega)).below (bel1 _ (.cells #[.int .i64 t, .int .i64 q, .int .i64 n] 25))
  have s2 := (s1.grown hg2 (by omega)).below (bel1 _ (.cells #[.int .i64 t, .int .i64 q, .int .i64 n] 25))
  have x2 := slotNew w2 t q n 25
  have hB2 := behind (belowOf hB1 hg2 (by omega)) (bel1 _ (.cells #[.int .i64 t, .int .i64 q, .int .i64 n] 25))
  go_wp2_with fail
  refine (l1Once (w.heap.size + 1 + 1) l 4 _ (hc2.below (bel1 _ _)) (by omega)).mono ?_
  rintro e w3 ⟨B, rfl, hc3, hg3⟩
  have r3 := r2.grown hg3 (by omega)
  have s3 := s2.grown hg3 (by omega)
  have x3 := x2.grown hg3 (by omega)
  have hB3 := belowOf hB2 hg3 (by omega)
  clear r0 s0 r1 s1 r2 s2 x2 hc1 hc2 hb0 hb1 hB1 hB2 hg2 hg3 ht hq hn
  obtain ⟨⟨p0, p1, p2⟩, -⟩ := id x3
  obtain ⟨⟨a0, a1, a2⟩, f0, f1, f2⟩ := id r3
  obtain ⟨⟨b0, b1, b2⟩, g0, g1, g2⟩ := id s3
  cases B with
  | true =>
    go_upto_region 4 with fail
    go_region
    go_wp2
    obtain ⟨⟨u0, u1, u2⟩, -⟩ := (r3.set t q n).other (b' := w.heap.size + 1) (by omega) (.int .i64 t) (.int .i64 q) (.int .i64 n)
    obtain ⟨⟨v0, v1, v2⟩, -⟩ := (s3.other (b' := w.heap.size) (by omega) (.int .i64 t) (.int .i64 q) (.int .i64 n)).set t q n
    exact bodyPost_ret (v := .tuple #[.agg #[.int .i64 t, .int .i64 q, .int .i64 n], .agg #[.int .i64 t, .int .i64 q, .int .i64 n]]) (by simp [results, Tryd.results7, go_sem, u0, u1, u2, v0, v1, v2]) rfl ⟨_, _, _, _, _, _, rfl, (set3 (set3 hB3 (Nat.le_refl _)) (by omega)).drew⟩
  | false =>
    clear a0 a1 a2 f0 f1 f2 b0 b1 b2 g0 g1 g2
    go_upto_region 5 with fail
    go_region_with (go_at_call 22; refine (l2Any (w.heap.size + 1 + 1) l _ (by exact hc3)).mono ?_; rintro e w4 ⟨t', q', n', rfl, ht', hq', hn', hc4, hg4⟩; have r4 := r3.drew.grown hg4 (by omega); have s4 := s3.drew.grown hg4 (by omega); have x4 := x3.drew.grown hg4 (by omega); have hB4 := belowOf hB3.drew hg4 (by omega); obtain ⟨⟨m0, m1, m2⟩, -⟩ := id x4; obtain ⟨⟨a0, a1, a2⟩, f0, f1, f2⟩ := id r4; obtain ⟨⟨b0, b1, b2⟩, g0, g1, g2⟩ := id s4)
    all_goals
      go_wp2
      obtain ⟨⟨u0, u1, u2⟩, -⟩ := (r4.set t q n).other (b' := w.heap.size + 1) (by omega) (.int .i64 t') (.int .i64 q') (.int .i64 n')
      obtain ⟨⟨v0, v1, v2⟩, -⟩ := (s4.other (b' := w.heap.size) (by omega) (.int .i64 t) (.int .i64 q) (.int .i64 n)).set t' q' n'
      obtain ⟨⟨c0, c1, c2⟩, -⟩ := (r4.other (b' := w.heap.size + 1) (by omega) (.int .i64 t') (.int .i64 q') (.int .i64 n')).set t q n
      obtain ⟨⟨d0, d1, d2⟩, -⟩ := (s4.set t' q' n').other (b' := w.heap.size) (by omega) (.int .i64 t) (.int .i64 q) (.int .i64 n)
      first
        | exact bodyPost_ret (v := .tuple #[.agg #[.int .i64 t, .int .i64 q, .int .i64 n], .agg #[.int .i64 t', .int .i64 q', .int .i64 n']]) (by simp [results, Tryd.results7, go_sem, u0, u1, u2, v0, v1, v2]) rfl ⟨_, _, _, _, _, _, rfl, set3 (set3 hB4 (Nat.le_refl _)) (by omega)⟩
        | exact bodyPost_ret (v := .tuple #[.agg #[.int .i64 t, .int .i64 q, .int .i64 n], .agg #[.int .i64 t', .int .i64 q', .int .i64 n']]) (by simp [results, Tryd.results7, go_sem, c0, c1, c2, d0, d1, d2]) rfl ⟨_, _, _, _, _, _, rfl, set3 (set3 hB4 (by omega)) (Nat.le_refl _)⟩
end Go.Proofs.YtekjnfkmjmmcmabDoor.Wk
