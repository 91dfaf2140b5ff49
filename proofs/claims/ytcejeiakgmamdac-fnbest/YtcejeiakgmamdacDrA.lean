/- What DrawBest of the specification comes to: some ring, some part, some devices, as they read. -/
import Derived.Test.YtcejeiakgmamdacDr9
namespace Go.Proofs.Ytcejeiakgmamdac.Wk
set_option linter.unusedVariables false
open Go.ChangeShapes Go.WideShapes Go.ChangeAt Go.RowKit

theorem none_cap {w : World} {base n cap : Nat} {a : Option Addr} {xs : List Value} (h : w.ownsRow base 3 1 (.slice a n cap) n xs) : a = none → cap = 0 := by
  rintro rfl
  rcases h.2 with ⟨e, _⟩ | ⟨g, cap', cur, e, _⟩
  · simp only [Value.slice.injEq] at e
    exact e.2.2
  · simp at e
set_option maxHeartbeats 4000000 in
set_option maxRecDepth 100000 in
theorem drawBest (a0 : Option Addr) (cap0 : Nat) (l : List UInt8) (w : World) (hl : l.length ≤ 1048576) (hr : RdA w a0 l) :
    Calls Try.prog 19 #[.slice a0 l.length cap0] w fun e w' => ∃ (X : List Sm.St) (g cp : Nat) (R : Int) (Q : List (List Int)) (a : Option Addr) (ca : Nat) (p : List Int) (b : Option Addr) (cb : Nat), e = .returned (.tuple #[.agg #[.int .i64 R, .slice a Q.length ca], .agg #[.slice b p.length cb], .slice (some ⟨g, 0, none⟩) X.length cp]) ∧
      X.length ≤ 6 ∧ (∀ d ∈ X, Few d) ∧ (0 ≤ R ∧ R ≤ 6) ∧ Q.length ≤ 16 ∧ (∀ q ∈ Q, q.length ≤ 4) ∧ p.length ≤ 3 ∧ RdS w' (some ⟨g, 0, none⟩) X ∧ RdP w' a Q ∧ RdZ w' b p ∧ (b = none → cb = 0) ∧ Below w.heap.size w w' := by
  obtain ⟨j0, hj0, hy0, hy1, hy2⟩ := info_parts infoZ
  obtain ⟨A, hA⟩ : ∃ A, w.heap.size = A := ⟨_, rfl⟩
  have s0 := (slot2New w (.int .i64 0) (.slice none 0 0) 29).below (bel1 _ (.cells #[.slice none 0 0] 36))
  have q0 := slot1New (w.alloc (.cells #[.int .i64 0, .slice none 0 0] 29)) (.slice none 0 0) 36
  have b0 := bel2 w (.cells #[.int .i64 0, .slice none 0 0] 29) (.cells #[.slice none 0 0] 36)
  have hr0 := hr.below b0
  have hs0 : ((w.alloc (.cells #[.int .i64 0, .slice none 0 0] 29)).alloc (.cells #[.slice none 0 0] 36)).heap.size = w.heap.size + 2 := by simp
  rw [World.size_alloc] at q0
  go_enter Try.func19, Try.ntmps19
  go_wp2_with fail
  generalize (w.alloc (.cells #[.int .i64 0, .slice none 0 0] 29)).alloc (.cells #[.slice none 0 0] 36) = wA at s0 q0 b0 hr0 hs0 ⊢
  rw [hA] at s0 q0 hs0
  refine (l1New a0 cap0 l _ hl hr0).mono ?_
  rintro e w1 ⟨rfl, hc1, hb1⟩
  rw [hs0] at hc1
  have hC1 := hc1.lt
  have hB1 := behind b0 hb1
  have s1 := s0.below hb1
  have q1 := q0.below hb1
  clear s0 q0 hr0 hb1 b0
  go_wp2_with fail
  refine (l5Any (A + 2) l _ hc1).mono ?_
  rintro e w2 ⟨X, g, cp, R, Q, a, ca, rfl, hX6, hfew, hR, hQ16, hQ4, hgg, hX2, hP2, hc2, hg2⟩
  have s2 := Slot2.grown s1 hg2 (fun e => by simp only [Option.some.injEq] at e; omega)
  have q2 := Slot1.grown q1 hg2 (fun e => by simp only [Option.some.injEq] at e; omega)
  have hB2 := belowOf hB1 hg2 (by omega)
  obtain ⟨B, hB⟩ : ∃ B, w2.heap.size = B := ⟨_, rfl⟩
  have sB := (slot2New w2 (.int .i64 R) (.slice a Q.length ca) 29).below (bel1 _ (.cells #[.slice none 0 0] 36))
  have sP := slot1New (w2.alloc (.cells #[.int .i64 R, .slice a Q.length ca] 29)) (.slice none 0 0) 36
  have bB := bel2 w2 (.cells #[.int .i64 R, .slice a Q.length ca] 29) (.cells #[.slice none 0 0] 36)
  have hCs := hc2.lt
  rw [World.size_alloc, hB] at sP
  rw [hB] at sB hCs
  have hcB := hc2.below bB
  have hHB : w2.grownBy ((w2.alloc (.cells #[.int .i64 R, .slice a Q.length ca] 29)).alloc (.cells #[.slice none 0 0] 36)) (some (A + 2)) := ⟨bB.os, bB.tape, bB.output, bB.size, fun k hk _ => bB.block k hk⟩
  clear s1 q1 hc1 hc2 hg2 hB1 hr
  go_wp2_with fail
  generalize (w2.alloc (.cells #[.int .i64 R, .slice a Q.length ca] 29)).alloc (.cells #[.slice none 0 0] 36) = wB at sB sP bB hcB hHB ⊢
  clear bB
  refine (l1Below (A + 2) l 4 _ hcB (by omega)).mono ?_
  rintro e w3 ⟨n, rfl, hn0, hn1, -, hc3, hg3⟩
  have hn4 := hn1 (by omega)
  obtain ⟨n, rfl⟩ := Int.eq_ofNat_of_zero_le hn0
  have sB3 := Slot2.grown sB hg3 (fun e => by simp only [Option.some.injEq] at e; omega)
  have sP3 := Slot1.grown sP hg3 (fun e => by simp only [Option.some.injEq] at e; omega)
  have hH3 := grownTrans hHB hg3
  clear sB sP hcB hHB hg3 hn0 hn1
  go_wp2
  go_loopw [9] (fun i wr => ∃ (k : Nat) (p : List Int) (v : Value), p.length + k ≤ 3 ∧ i = .int .i64 k ∧ Slot2 wr B (.int .i64 R) (.slice a Q.length ca) ∧ Slot1 wr (B + 1) v ∧ wr.ownsRow (B + 2) 3 1 v p.length (Zv p) ∧ Cur wr (A + 2) l ∧ w2.grownBy wr (some (A + 2))) (fun i _ => (intOf i).toNat)
  case atStart => exact ⟨n, [], .slice none 0 0, by simp; omega, rfl, sB3, sP3, World.ownsRow_nil _ _ _ _, hc3, hH3⟩
  case round =>
    obtain ⟨k, p, v, hk, rfl, sB4, sP4, hv4, hc4, hH4⟩ := hrel
    clear sB3 sP3 hc3 hH3
    obtain ⟨av, cv, rfl⟩ := Zv_shape hv4
    by_cases hk1 : 0 < k
    · obtain ⟨k, rfl⟩ : ∃ k', k = k' + 1 := ⟨k - 1, by omega⟩
      have cB := l1Below (A + 2) l 7 wr.drew hc4 (by omega)
      have hne4 : ∀ b : Nat, b < B + 2 → some b ≠ (Value.slice av p.length cv).ownBlock := fun b h e => by
        have := (World.ownsRow.lt hv4 b e.symm).1
        omega
      have hz4 := sP4.lt
      have FAR : Hid (∀ (z : Int) (w6 : World), wr.drew.grownBy w6 (some (A + 2)) → Cur w6 (A + 2) l → ∀ g7 cap7 w7, w7.ownsRow (B + 2) 3 1 (.slice (some ⟨g7, 0, none⟩) (p.length + 1) cap7) (p.length + 1) (Zv p ++ [.int .i64 z]) → (w6.alloc (.cells #[.int .i64 z] 3)).grownBy w7 (Value.slice av p.length cv).ownBlock →
          ((Value.slice av p.length cv).ownBlock = some g7 ∨ g7 = (w6.alloc (.cells #[.int .i64 z] 3)).heap.size) →
          Slot2 (w7.setCell ⟨B + 1, 0, none⟩ (.slice (some ⟨g7, 0, none⟩) (p.length + 1) cap7)) B (.int .i64 R) (.slice a Q.length ca) ∧
          Slot1 (w7.setCell ⟨B + 1, 0, none⟩ (.slice (some ⟨g7, 0, none⟩) (p.length + 1) cap7)) (B + 1) (.slice (some ⟨g7, 0, none⟩) (p.length + 1) cap7) ∧
          (w7.setCell ⟨B + 1, 0, none⟩ (.slice (some ⟨g7, 0, none⟩) (p.length + 1) cap7)).ownsRow (B + 2) 3 1 (.slice (some ⟨g7, 0, none⟩) (p.length + 1) cap7) (p.length + 1) (Zv (p ++ [z])) ∧
          Cur (w7.setCell ⟨B + 1, 0, none⟩ (.slice (some ⟨g7, 0, none⟩) (p.length + 1) cap7)) (A + 2) l ∧ w2.grownBy (w7.setCell ⟨B + 1, 0, none⟩ (.slice (some ⟨g7, 0, none⟩) (p.length + 1) cap7)) (some (A + 2))) := by
        intro z w6 hg6 hc6 g7 cap7 w7 hown7 hg7 hat7
        have hg6' : wr.grownBy w6 (some (A + 2)) := ⟨hg6.os, hg6.tape, hg6.output, hg6.size, hg6.block⟩
        have bA := bel1 w6 (.cells #[.int .i64 z] 3)
        have hz6 := hg6'.size
        have P7 := Slot1.grown ((Slot1.grown sP4 hg6' (by simp; omega)).below bA) hg7 (hne4 _ (by omega))
        have gG := grownSet w7 (B + 1) 0 (.slice (some ⟨g7, 0, none⟩) (p.length + 1) cap7)
        have hlow : ∀ j, (Value.slice av p.length cv).ownBlock = some j → B + 2 ≤ j := fun j e => (World.ownsRow.lt hv4 j e).1
        have hg7b : B + 2 ≤ g7 := (World.ownsRow.lt hown7 g7 rfl).1
        refine ⟨(Slot2.grown ((Slot2.grown sB4 hg6' (by simp; omega)).below bA) hg7 (hne4 _ (by omega))).far (by omega), ⟨World.cell?_setCell_same' _ _ _ (by rw [P7.1]; rfl), by rw [World.frozen?_setCell]; exact P7.2⟩, ?_, ?_, ?_⟩
        · rw [Zv_snoc]
          exact ownFar hown7 (by simp only [Value.ownBlock, ne_eq, Option.some.injEq]; omega)
        · exact ((hc6.below bA).keep hg7 (fun j e => by have := hlow j e; omega)).keep gG (fun j e => by cases e; omega)
        · exact grownVia (grownVia (grownBelow (grownTrans hH4 hg6') bA) hg7 (fun j e => by have := hlow j e; omega)) gG (fun j e => by cases e; omega)
      obtain ⟨z0, z1⟩ := id sP4
      have hkn : (0 : Int) < ((k + 1 : Nat) : Int) := by omega
      clear hX2 hP2 s2 q2 hB2 hH4 hc4 sB4
      go_wp2_with fail
      go_region_law (first | (refine step_append_lies _ (by rfl) (.tmp 25) (.tmp 29) 32 (by rfl) (B + 2) 3 j0 _ 1 8 Try.underlying32 hj0 hy0 hy1 hy2 rfl (by decide) _ _ _ (by rfl) (by exact uA) ⟨_, 0, none⟩ 1 1 [.int .i64 z] (by rfl) rfl oneZ_at oneZ_one (by omega) (by unfold maxLen; omega) (by omega) (by simp; omega) _ rfl ?_; intro g7 cap7 w7 hown7 hgrow7 hat7 hlt7; obtain ⟨a2, b2⟩ := Slot1.grown sP6 hgrow7 (hne4 _ (by omega))) | (go_simp; go_at_call 49; refine cB.mono ?_; rintro e w6 ⟨y, rfl, hy0', hy9', -, hc6, hg6⟩; have hy9 := hy9' (by omega); obtain ⟨z, hz⟩ : ∃ z, 1 + y = z := ⟨_, rfl⟩; have hwz : IntKind.i64.wrap z = z := Mt.wrap_i64 _ (by omega) (by omega); have hg6' : wr.grownBy w6 (some (A + 2)) := ⟨hg6.os, hg6.tape, hg6.output, hg6.size, hg6.block⟩; have hs6 : B + 1 < w6.heap.size := Nat.lt_of_lt_of_le hz4 hg6'.size; have sP6' := Slot1.grown sP4 hg6' (by simp; omega); obtain ⟨u0, u1⟩ := id sP6'; have sP6 := sP6'.below (bel1 w6 (.cells #[.int .i64 z] 3)); have uA := ownOn (World.ownsRow.kept hv4 hg6' (.inr (fun e => hne4 (A + 2) (by omega) e.symm))) (bel1 w6 (.cells #[.int .i64 z] 3))) | fail)
      all_goals
        obtain ⟨x1, x2, x3, x4, x5⟩ := FAR.out z w6 hg6 hc6 g7 cap7 w7 hown7 hgrow7 hat7
        clear FAR hown7 hgrow7 hat7 hlt7 a2 b2 uA sP6 sP6' u0 u1 sP4 cB z0 z1 hg6 hg6' hc6 hne4 hv4
        go_wp2
        go_roundw
        case rel => exact ⟨k, p ++ [z], _, by simp; omega, by go_num, x1, x2, by rw [List.length_append]; exact x3, x4, x5⟩
        case measure => simp [intOf]
    · have hke : k = 0 := by omega
      subst hke
      have s4 := Slot2.grown s2 hH4 (fun e => by simp only [Option.some.injEq] at e; omega)
      have q4 := Slot1.grown q2 hH4 (fun e => by simp only [Option.some.injEq] at e; omega)
      have hX4 := rdsG7 hX2 hH4 (by omega)
      have hP4 := hP2.grown hH4 (by omega)
      have hB4 := belowOf hB2 hH4 (by omega)
      obtain ⟨⟨t0, t1⟩, t2, t3⟩ := id s4
      obtain ⟨t4, t5⟩ := id q4
      obtain ⟨⟨v0, v1⟩, -⟩ := id sB4
      obtain ⟨v2, -⟩ := id sP4
      have hk0 : ¬ (0 : Int) < ((0 : Nat) : Int) := by omega
      have FIN : Hid (∀ w9, w9 = ((wr.setCell ⟨A, 0, none⟩ (.int .i64 R)).setCell ⟨A, 1, none⟩ (.slice a Q.length ca)).setCell ⟨A + 1, 0, none⟩ (.slice av p.length cv) →
          (wr.setCell ⟨A, 0, none⟩ (.int .i64 R)).cell? ⟨A, 0, none⟩ = some (.int .i64 R) ∧ ((wr.setCell ⟨A, 0, none⟩ (.int .i64 R)).setCell ⟨A, 1, none⟩ (.slice a Q.length ca)).cell? ⟨A, 1, none⟩ = some (.slice a Q.length ca) ∧
          w9.cell? ⟨A + 1, 0, none⟩ = some (.slice av p.length cv) ∧ RdS w9 (some ⟨g, 0, none⟩) X ∧ RdP w9 a Q ∧ RdZ w9 av p ∧ (av = none → cv = 0) ∧ Below w.heap.size w w9) := by
        rintro w9 rfl
        have gA : wr.grownBy ((wr.setCell ⟨A, 0, none⟩ (.int .i64 R)).setCell ⟨A, 1, none⟩ (.slice a Q.length ca)) (some A) := grownTrans (grownSet wr A 0 _) (grownSet _ A 1 _)
        have gB := grownSet ((wr.setCell ⟨A, 0, none⟩ (.int .i64 R)).setCell ⟨A, 1, none⟩ (.slice a Q.length ca)) (A + 1) 0 (.slice av p.length cv)
        refine ⟨World.cell?_setCell_same' _ _ _ (by rw [t0]; rfl), World.cell?_setCell_same' _ _ _ (by rw [World.cell?_setCell_other _ _ _ _ (by simp), t1]; rfl), World.cell?_setCell_same' _ _ _ (by rw [World.cell?_setCell_other _ _ _ _ (by simp), World.cell?_setCell_other _ _ _ _ (by simp), t4]; rfl), rdsG7 (rdsG7 hX4 gA (by omega)) gB (by omega), (((hP4.far (by omega)).far (by omega)).far (by omega)).rd, ?_, none_cap hv4, ?_⟩
        · have hne : ∀ b, b < B + 2 → (Value.slice av p.length cv).ownBlock ≠ some b := fun b h e => by
            have := (World.ownsRow.lt hv4 b e).1
            omega
          exact Zv_rd (ownFar (ownFar (ownFar hv4 (hne A (by omega))) (hne A (by omega))) (hne (A + 1) (by omega)))
        · exact ((hB4.setCell (by show w.heap.size ≤ A; omega) _).setCell (by show w.heap.size ≤ A; omega) _).setCell (by show w.heap.size ≤ A + 1; omega) _
      clear hX2 hP2 hB2 hX4 hP4 hB4 hv4 hc4 hH4 s2 q2
      go_upto_region 8 with fail
      go_region
      all_goals
        go_wp2
        obtain ⟨e0, e1, e2, e3, e4, e5, e7, e6⟩ := FIN.out _ rfl
        refine bodyPost_ret (v := .tuple #[.agg #[.int .i64 R, .slice a Q.length ca], .agg #[.slice av p.length cv], .slice (some ⟨g, 0, none⟩) X.length cp]) ?_ rfl ?_
        · simp [results, Try.results19, go_sem, e0, e1, e2]
        · exact ⟨X, g, cp, R, Q, a, ca, p, av, cv, rfl, hX6, fun x y z h => hfew _ h, hR, hQ16, hQ4, by omega, e3, e4, e5, e7, by have h := e6.drew; rw [hA] at h; exact h⟩
end Go.Proofs.Ytcejeiakgmamdac.Wk
