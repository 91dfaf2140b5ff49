/- What moveOne of the program comes to. -/
import Derived.Test.YtoemblcheahbeacRbIe
import Derived.Test.YtoemblcheahbeacRbIf
import Derived.Test.YtoemblcheahbeacBsI
import Derived.Deep.RegionHeld3
namespace Go.Proofs.Ytoemblcheahbeac.Wk
set_option linter.unusedVariables false
open Go.ChangeShapes Go.WideShapes Go.ChangeAt Go.RowKit

/-- five numbers as an array's value -/
def arr (p : List Int) : Value := .agg #[.int .i64 (gd p 0), .int .i64 (gd p 1), .int .i64 (gd p 2), .int .i64 (gd p 3), .int .i64 (gd p 4)]
theorem mv_lost {Q : List (List Int)} {l : List Sm.St} {p : List Int} {k : Nat} (h : p.findIdx? (Rg.lostB l) = some k) : Rg.mvOne Q l p = some (k, Rg.best Q (p.eraseIdx k) l) := by unfold Rg.mvOne; rw [h]
theorem mv_heavy {Q : List (List Int)} {l : List Sm.St} {p : List Int} (h : p.findIdx? (Rg.lostB l) = none) : Rg.mvOne Q l p = (Rg.heavyK Q l p (Rg.best Q p l)).map fun k => (k, Rg.best Q p l) := by unfold Rg.mvOne; rw [h]
theorem keepSet3 {w : World} {a1 a2 a3 : Addr} {v1 v2 v3 v : Value} {b o : Nat} (h : w.cell? a1 = some v1 ∧ w.cell? a2 = some v2 ∧ w.cell? a3 = some v3) (n1 : a1.block ≠ b) (n2 : a2.block ≠ b) (n3 : a3.block ≠ b) :
    (w.setCell ⟨b, o, none⟩ v).cell? a1 = some v1 ∧ (w.setCell ⟨b, o, none⟩ v).cell? a2 = some v2 ∧ (w.setCell ⟨b, o, none⟩ v).cell? a3 = some v3 :=
  ⟨by rw [World.cell?_setCell_other _ _ _ _ (fun e => n1 (congrArg Addr.block e).symm)]; exact h.1, by rw [World.cell?_setCell_other _ _ _ _ (fun e => n2 (congrArg Addr.block e).symm)]; exact h.2.1, by rw [World.cell?_setCell_other _ _ _ _ (fun e => n3 (congrArg Addr.block e).symm)]; exact h.2.2⟩
theorem heavy_lt {Q : List (List Int)} {l : List Sm.St} {p : List Int} {b : Int} {k : Nat} (h : Rg.heavyK Q l p b = some k) : k < p.length := by
  unfold Rg.heavyK at h
  split at h
  · cases h
  · exact (Rg.find_lt h).1

set_option maxHeartbeats 4000000 in
set_option maxRecDepth 100000 in
theorem implOne (reps : Int) (a b c : Option Addr) (ca cb cc : Nat) (Q : List (List Int)) (p : List Int) (l : List Sm.St) (w : World) (hQ : Q.length ≤ 1048576) (ht : tot Q ≤ 1048576) (hp1 : 1 ≤ p.length) (hp5 : p.length ≤ 5) (hl : l.length ≤ 1048576) (hrQ : RdP w a Q) (hr : RdZ w b p) (hs : RdS w c l) :
    Calls Try.prog 54 #[arr p, .agg #[.int .i64 reps, .slice a Q.length ca], .agg #[.slice b p.length cb], .slice c l.length cc] w fun e w' => e = .returned (arr (Rg.mvTo p (Rg.mvOne Q l p))) ∧ Below w.heap.size w w' := by
  have s0 : Slot5 (w.alloc (.cells #[.int .i64 (gd p 0), .int .i64 (gd p 1), .int .i64 (gd p 2), .int .i64 (gd p 3), .int .i64 (gd p 4)] 82)) w.heap.size p := slot5New w p 82
  have b0 := bel1 w (.cells #[.int .i64 (gd p 0), .int .i64 (gd p 1), .int .i64 (gd p 2), .int .i64 (gd p 3), .int .i64 (gd p 4)] 82)
  have hS1 : (w.alloc (.cells #[.int .i64 (gd p 0), .int .i64 (gd p 1), .int .i64 (gd p 2), .int .i64 (gd p 3), .int .i64 (gd p 4)] 82)).heap.size = w.heap.size + 1 := by simp
  obtain ⟨w1, hw1⟩ : ∃ w1, w.alloc (.cells #[.int .i64 (gd p 0), .int .i64 (gd p 1), .int .i64 (gd p 2), .int .i64 (gd p 3), .int .i64 (gd p 4)] 82) = w1 := ⟨_, rfl⟩
  rw [hw1] at s0 b0 hS1
  have s1 := slot2New w1 (.int .i64 reps) (.slice a Q.length ca) 29
  have b1 := bel1 w1 (.cells #[.int .i64 reps, .slice a Q.length ca] 29)
  have hS2 : (w1.alloc (.cells #[.int .i64 reps, .slice a Q.length ca] 29)).heap.size = w.heap.size + 1 + 1 := by simp [hS1]
  obtain ⟨w2, hw2⟩ : ∃ w2, w1.alloc (.cells #[.int .i64 reps, .slice a Q.length ca] 29) = w2 := ⟨_, rfl⟩
  rw [hw2] at s1 b1 hS2
  have s2 := slot1New w2 (.slice b p.length cb) 36
  have b2 := bel1 w2 (.cells #[.slice b p.length cb] 36)
  have hS3 : (w2.alloc (.cells #[.slice b p.length cb] 36)).heap.size = w.heap.size + 1 + 1 + 1 := by simp [hS2]
  obtain ⟨w3, hw3⟩ : ∃ w3, w2.alloc (.cells #[.slice b p.length cb] 36) = w3 := ⟨_, rfl⟩
  rw [hw3] at s2 b2 hS3
  have s3 : Slot5 (w3.alloc (.cells #[.int .i64 0, .int .i64 0, .int .i64 0, .int .i64 0, .int .i64 0] 82)) w3.heap.size [] := slot5New w3 [] 82
  have b3 := bel1 w3 (.cells #[.int .i64 0, .int .i64 0, .int .i64 0, .int .i64 0, .int .i64 0] 82)
  obtain ⟨w0, hw0⟩ : ∃ w0, w3.alloc (.cells #[.int .i64 0, .int .i64 0, .int .i64 0, .int .i64 0, .int .i64 0] 82) = w0 := ⟨_, rfl⟩
  rw [hw0] at s3 b3
  rw [hS1] at s1
  rw [hS2] at s2
  rw [hS3] at s3
  have hW : (((w.alloc (.cells #[.int .i64 (gd p 0), .int .i64 (gd p 1), .int .i64 (gd p 2), .int .i64 (gd p 3), .int .i64 (gd p 4)] 82)).alloc (.cells #[.int .i64 reps, .slice a Q.length ca] 29)).alloc (.cells #[.slice b p.length cb] 36)).alloc (.cells #[.int .i64 0, .int .i64 0, .int .i64 0, .int .i64 0, .int .i64 0] 82) = w0 := by rw [hw1, hw2, hw3, hw0]
  have hB0 := behind (behind (behind b0 b1) b2) b3
  have s0 := ((s0.below b1).below b2).below b3
  have s1 := (s1.below b2).below b3
  have s2 := s2.below b3
  have hQ0 := hrQ.below hB0
  have hr0 := hr.below hB0
  have hs0 := hs.below hB0
  clear hw1 hw2 hw3 hw0 b0 b1 b2 b3 hS1 hS2 hS3 hrQ hr hs
  have cG := fun w' h1 h2 => implGone b c cb cc p l w' (by omega) hl h1 h2
  obtain ⟨t0, -⟩ := id s2
  unfold arr
  cases hg : p.findIdx? (Rg.lostB l) with
  | some k =>
    rw [mv_lost hg]
    rw [hg] at cG
    obtain ⟨hk, -⟩ := Rg.find_lt hg
    dsimp only [Rg.mvTo, Rg.idxI] at cG ⊢
    have hel : (p.eraseIdx k).length ≤ 1048576 := by have := List.length_eraseIdx_le p k; omega
    have cB := fun (b5 : Option Addr) (c5 : Nat) (w' : World) (h1 : RdP w' a Q) (h2 : RdZ w' b5 (p.eraseIdx k)) (h3 : RdS w' c l) => implBest reps a b5 c ca c5 cc Q (p.eraseIdx k) l w' hQ ht hel hl h1 h2 h3
    generalize Rg.best Q (p.eraseIdx k) l = x at cB ⊢
    have hk5 : k < 5 := by omega
    obtain ⟨q, hq⟩ : ∃ q, p.set k x = q := ⟨_, rfl⟩
    have HQ : Hid (p.set k x = q) := hq
    rw [hq]
    clear hq
    have ne1 : w.heap.size + 1 ≠ w.heap.size := by omega
    have ne2 : w.heap.size + 1 + 1 ≠ w.heap.size := by omega
    have hk0 : (0 : Int) ≤ (k : Int) := by omega
    have hk5i : (k : Int) < 5 := by omega
    clear hg
    go_enter Try.func54, Try.ntmps54
    go_wp2_with fail
    refine (cG _ hr0 hs0).mono ?_
    rintro e w4 ⟨rfl, hb4⟩
    have hB4 := behind hB0 hb4
    have s0 := s0.below hb4
    have s1 := s1.below hb4
    have s2 := s2.below hb4
    have s3 := s3.below hb4
    have hQ4 := hQ0.below hb4
    have hr4 := hr0.below hb4
    have hs4 := hs0.below hb4
    clear cG hb4 t0 hQ0 hr0 hs0
    obtain ⟨t0, -⟩ := id s2
    obtain ⟨⟨g0, g1⟩, -⟩ := id s1
    go_upto_region 3 with fail
    go_region_held3 (fun wy => wy.cell? ⟨w.heap.size + 1, 0, none⟩ = some (.int .i64 reps) ∧ wy.cell? ⟨w.heap.size + 1, 1, none⟩ = some (.slice a Q.length ca) ∧ wy.cell? ⟨w.heap.size + 1 + 1, 0, none⟩ = some (.slice b p.length cb))
      (first | exact ⟨g0, g1, t0⟩ | exact keepR3 ‹_› ‹_› | exact keepSet3 ‹_› ne1 ne1 ne2 | go_keep)
      (first | (go_at_call 72; refine (implWithout b cb k p _ (by omega) hk (by exact hr4)).mono ?_; rintro e w5 ⟨b5, c5, rfl, hr5, hb5⟩) | (go_at_call 19; refine (cB b5 c5 _ (by exact RdP.below (w := w4.drew) hQ4 hb5) (by exact hr5) (by exact RdS.below (w := w4.drew) hs4 hb5)).mono ?_; rintro e w6 ⟨rfl, hb6⟩; have q6 := Slot5.below (w := w4.drew) s0 (behind hb5 hb6); obtain ⟨u0, u1⟩ := q6 k hk5) | fail)
    have hB6 := behind (behind hB4.drew hb5) hb6
    have r6 := (Slot5.below (w := w4.drew) s3 (behind hb5 hb6)).far (b' := w.heap.size) (o := k) (x := .int .i64 x) (by omega)
    have q9 := q6.put hk hk5 x
    rw [HQ.out] at q9
    have hB9 : Below w.heap.size w (w6.setCell ⟨w.heap.size, k, none⟩ (.int .i64 x)) := hB6.setCell (Nat.le_refl _) _
    clear u0 u1 q6 hB6 hb5 hb6 hr5 s0 s1 s2 s3 hQ4 hr4 hs4 cB t0 g0 g1
    generalize w6.setCell ⟨w.heap.size, k, none⟩ (.int .i64 x) = w9 at r6 q9 hB9 ⊢
    obtain ⟨⟨c0, c1, c2, c3, c4⟩, -⟩ := q9.out
    obtain ⟨⟨d0, d1, d2, d3, d4⟩, f0, f1, f2, f3, f4⟩ := r6.out
    go_wp2
    obtain ⟨e0, e1, e2, e3, e4⟩ := store5 r6 (.int .i64 (gd q 0)) (.int .i64 (gd q 1)) (.int .i64 (gd q 2)) (.int .i64 (gd q 3)) (.int .i64 (gd q 4))
    refine bodyPost_ret (v := .agg #[.int .i64 (gd q 0), .int .i64 (gd q 1), .int .i64 (gd q 2), .int .i64 (gd q 3), .int .i64 (gd q 4)]) (by simp [results, Try.results54, go_sem, e0, e1, e2, e3, e4]) rfl ⟨rfl, below5 hB9 (by omega) _ _ _ _ _⟩
  | none =>
    rw [mv_heavy hg]
    rw [hg] at cG
    dsimp only [Rg.idxI] at cG
    have cB := fun (w' : World) (h1 : RdP w' a Q) (h2 : RdZ w' b p) (h3 : RdS w' c l) => implBest reps a b c ca cb cc Q p l w' hQ ht (by omega) hl h1 h2 h3
    generalize Rg.best Q p l = x at cB ⊢
    have cH := fun (w' : World) (h1 : RdP w' a Q) (h2 : RdZ w' b p) (h3 : RdS w' c l) => implHeavy reps a b c ca cb cc Q p l x w' hQ ht (by omega) hl h1 h2 h3
    clear hg
    cases hh : Rg.heavyK Q l p x with
    | none =>
      rw [hh] at cH
      dsimp only [Rg.idxI, Option.map, Rg.mvTo] at cH ⊢
      clear hh
      go_enter Try.func54, Try.ntmps54
      go_wp2_with fail
      refine (cG _ hr0 hs0).mono ?_
      rintro e w4 ⟨rfl, hb4⟩
      have hB4 := behind hB0 hb4
      have s0 := s0.below hb4
      have s1 := s1.below hb4
      have s2 := s2.below hb4
      have s3 := s3.below hb4
      have hQ4 := hQ0.below hb4
      have hr4 := hr0.below hb4
      have hs4 := hs0.below hb4
      clear cG hb4 t0 hQ0 hr0 hs0 hB0
      obtain ⟨t0, -⟩ := id s2
      obtain ⟨⟨g0, g1⟩, -⟩ := id s1
      go_wp2_with fail
      refine (cB _ hQ4 hr4 hs4).mono ?_
      rintro e w5 ⟨rfl, hb5⟩
      have hB5 := behind hB4 hb5
      have s0 := s0.below hb5
      have s1 := s1.below hb5
      have s2 := s2.below hb5
      have s3 := s3.below hb5
      have hQ5 := hQ4.below hb5
      have hr5 := hr4.below hb5
      have hs5 := hs4.below hb5
      clear cB hb5 t0 g0 g1 hQ4 hr4 hs4 hB4
      obtain ⟨t0, -⟩ := id s2
      obtain ⟨⟨g0, g1⟩, -⟩ := id s1
      go_wp2_with fail
      refine (cH _ hQ5 hr5 hs5).mono ?_
      rintro e w6 ⟨rfl, hb6⟩
      have hB9 := behind hB5 hb6
      have q9 := s0.below hb6
      have r6 := s3.below hb6
      clear cH hb6 t0 g0 g1 hQ5 hr5 hs5 s0 s1 s2 s3 hB5
      obtain ⟨⟨c0, c1, c2, c3, c4⟩, -⟩ := q9.out
      obtain ⟨⟨d0, d1, d2, d3, d4⟩, f0, f1, f2, f3, f4⟩ := r6.out
      go_wp2
      obtain ⟨e0, e1, e2, e3, e4⟩ := store5 r6 (.int .i64 (gd p 0)) (.int .i64 (gd p 1)) (.int .i64 (gd p 2)) (.int .i64 (gd p 3)) (.int .i64 (gd p 4))
      refine bodyPost_ret (v := .agg #[.int .i64 (gd p 0), .int .i64 (gd p 1), .int .i64 (gd p 2), .int .i64 (gd p 3), .int .i64 (gd p 4)]) (by simp [results, Try.results54, go_sem, e0, e1, e2, e3, e4]) rfl ⟨rfl, below5 hB9 (by omega) _ _ _ _ _⟩
    | some k =>
      rw [hh] at cH
      have hk := heavy_lt hh
      dsimp only [Rg.idxI, Option.map, Rg.mvTo] at cH ⊢
      have hk5 : k < 5 := by omega
      obtain ⟨q, hq⟩ : ∃ q, p.set k x = q := ⟨_, rfl⟩
      have HQ : Hid (p.set k x = q) := hq
      rw [hq]
      clear hq
      have ne1 : w.heap.size + 1 ≠ w.heap.size := by omega
      have ne2 : w.heap.size + 1 + 1 ≠ w.heap.size := by omega
      have hk0 : (0 : Int) ≤ (k : Int) := by omega
      have hk5i : (k : Int) < 5 := by omega
      clear hh
      go_enter Try.func54, Try.ntmps54
      go_wp2_with fail
      refine (cG _ hr0 hs0).mono ?_
      rintro e w4 ⟨rfl, hb4⟩
      have hB4 := behind hB0 hb4
      have s0 := s0.below hb4
      have s1 := s1.below hb4
      have s2 := s2.below hb4
      have s3 := s3.below hb4
      have hQ4 := hQ0.below hb4
      have hr4 := hr0.below hb4
      have hs4 := hs0.below hb4
      clear cG hb4 t0 hQ0 hr0 hs0 hB0
      obtain ⟨t0, -⟩ := id s2
      obtain ⟨⟨g0, g1⟩, -⟩ := id s1
      go_wp2_with fail
      refine (cB _ hQ4 hr4 hs4).mono ?_
      rintro e w5 ⟨rfl, hb5⟩
      have hB5 := behind hB4 hb5
      have s0 := s0.below hb5
      have s1 := s1.below hb5
      have s2 := s2.below hb5
      have s3 := s3.below hb5
      have hQ5 := hQ4.below hb5
      have hr5 := hr4.below hb5
      have hs5 := hs4.below hb5
      clear cB hb5 t0 g0 g1 hQ4 hr4 hs4 hB4
      obtain ⟨t0, -⟩ := id s2
      obtain ⟨⟨g0, g1⟩, -⟩ := id s1
      go_wp2_with fail
      refine (cH _ hQ5 hr5 hs5).mono ?_
      rintro e w6 ⟨rfl, hb6⟩
      have hB6 := behind hB5 hb6
      have q6 := s0.below hb6
      have r5 := s3.below hb6
      clear cH hb6 t0 g0 g1 hQ5 hr5 hs5 s0 s1 s2 s3 hB5
      obtain ⟨u0, u1⟩ := q6 k hk5
      have r6 := r5.far (b' := w.heap.size) (o := k) (x := .int .i64 x) (by omega)
      have q9 := q6.put hk hk5 x
      rw [HQ.out] at q9
      have hB9 : Below w.heap.size w (w6.setCell ⟨w.heap.size, k, none⟩ (.int .i64 x)) := hB6.setCell (Nat.le_refl _) _
      go_upto_region 9 with fail
      generalize w6.setCell ⟨w.heap.size, k, none⟩ (.int .i64 x) = w9 at r6 q9 hB9 ⊢
      obtain ⟨⟨c0, c1, c2, c3, c4⟩, -⟩ := q9.out
      obtain ⟨⟨d0, d1, d2, d3, d4⟩, f0, f1, f2, f3, f4⟩ := r6.out
      clear u0 u1 q6 r5
      go_wp2
      obtain ⟨e0, e1, e2, e3, e4⟩ := store5 r6 (.int .i64 (gd q 0)) (.int .i64 (gd q 1)) (.int .i64 (gd q 2)) (.int .i64 (gd q 3)) (.int .i64 (gd q 4))
      refine bodyPost_ret (v := .agg #[.int .i64 (gd q 0), .int .i64 (gd q 1), .int .i64 (gd q 2), .int .i64 (gd q 3), .int .i64 (gd q 4)]) (by simp [results, Try.results54, go_sem, e0, e1, e2, e3, e4]) rfl ⟨rfl, below5 hB9 (by omega) _ _ _ _ _⟩
end Go.Proofs.Ytoemblcheahbeac.Wk
