/- What l5Copy of the specification comes to: the same ring in memory of its own. -/
import Derived.Test.YtoemblcheahbeacRbW
import Derived.Test.YtoemblcheahbeacApZ
import Derived.Test.YtoemblcheahbeacRgZ
import Derived.Test.YtoemblcheahbeacBuS
import Derived.Deep.AppendLies
import Derived.Deep.RegionLaw
namespace Go.Proofs.Ytoemblcheahbeac.Wk
set_option linter.unusedVariables false
open Go.ChangeShapes Go.WideShapes Go.ChangeAt Go.RowKit

theorem oneS_one (a : Option Addr) (n c : Nat) : ∀ u ∈ [Value.slice a n c], u.oneCell' = true := by
  intro u hu
  simp at hu
  subst hu
  rfl
set_option maxHeartbeats 4000000 in
set_option maxRecDepth 100000 in
theorem specCopy (reps : Int) (a : Option Addr) (ca : Nat) (Q : List (List Int)) (w : World) (hQ : Q.length ≤ 1048576) (hpp : ∀ p ∈ Q, p.length ≤ 1048576) (hr : RdN w a Q) :
    Calls Try.prog 55 #[.agg #[.int .i64 reps, .slice a Q.length ca]] w fun e w' => ∃ (a' : Option Addr) (ca' : Nat), e = .returned (.agg #[.int .i64 reps, .slice a' Q.length ca']) ∧
      OwnP w' w.heap.size (.slice a' Q.length ca') Q ∧ Below w.heap.size w w' := by
  obtain ⟨i0, hi0, hz0, hz1, hz2⟩ := info_parts infoPt
  have s0 := (slot2New w (.int .i64 reps) (.slice a Q.length ca) 29).below (bel1 _ (.cells #[.int .i64 0, .slice none 0 0] 29))
  have r0 := slot2New (w.alloc (.cells #[.int .i64 reps, .slice a Q.length ca] 29)) (.int .i64 0) (.slice none 0 0) 29
  have hB0 := bel2 w (.cells #[.int .i64 reps, .slice a Q.length ca] 29) (.cells #[.int .i64 0, .slice none 0 0] 29)
  have hr0 := hr.below hB0
  have hs0 : ((w.alloc (.cells #[.int .i64 reps, .slice a Q.length ca] 29)).alloc (.cells #[.int .i64 0, .slice none 0 0] 29)).heap.size = w.heap.size + 2 := by simp
  rw [World.size_alloc] at r0
  go_enter Try.func55, Try.ntmps55
  go_wp2
  generalize (w.alloc (.cells #[.int .i64 reps, .slice a Q.length ca] 29)).alloc (.cells #[.int .i64 0, .slice none 0 0] 29) = w2 at s0 r0 hB0 hr0 hs0 ⊢
  have o0 := slot2New w2 (.int .i64 reps) (.slice none 0 0) 29
  have hO0 := bel1 w2 (.cells #[.int .i64 reps, .slice none 0 0] 29)
  rw [hs0] at o0
  go_loopw [4] (fun i wr => ∃ (k : Nat) (v : Value), k ≤ Q.length ∧ i = .int .i64 k ∧ Slot2 wr (w.heap.size + 2) (.int .i64 reps) v ∧ OwnP wr (w.heap.size + 3) v (Q.take k) ∧ Below w2.heap.size w2 wr) (fun i _ => Q.length - (intOf i).toNat)
  case atStart => exact ⟨0, .slice none 0 0, Nat.zero_le _, rfl, o0, ⟨[], World.ownsRow_nil _ _ _ _, fun i hi => by simp at hi, fun i j ui uj hi => by simp at hi⟩, hO0⟩
  case round =>
    obtain ⟨k, v, hk, rfl, sk, hO, hb⟩ := hrel
    clear o0 hO0
    have sB := s0.below hb
    have hwr : w.heap.size + 3 ≤ wr.heap.size := sk.lt
    by_cases hlt : k < Q.length
    · obtain ⟨vs, hrow, hE⟩ := hO
      have htl : (Q.take k).length = k := by rw [List.length_take]; omega
      have HT : Hid (Q.take (k + 1) = Q.take k ++ [Q[k]]) := List.take_succ_eq_append_getElem hlt
      have hpl := hpp Q[k] (List.getElem_mem hlt)
      obtain ⟨b, off, ai, ci, rfl, hc, hz, hcap, hnil⟩ := (hr0.below hb) k hlt
      generalize Q[k] = p at HT hpl hc hz hcap
      rw [htl] at hrow
      obtain ⟨av, cv, rfl⟩ := Zv_shape hrow
      have hneV : some (w.heap.size + 2) ≠ (Value.slice av k cv).ownBlock := fun e => by
        have := (World.ownsRow.lt hrow _ e.symm).1
        omega
      have hneW : (Value.slice av k cv).ownBlock ≠ some wr.heap.size := fun e => by
        have := (World.ownsRow.lt hrow _ e).2
        omega
      have hkc : (k : Int) < (Q.length : Int) := by omega
      have bA := bel1 wr (.cells #[] 3)
      have skA := sk.below bA
      have rowA := ownOn hrow bA
      have hzA := hz.below bA
      have hE9 : Hid (OwnE wr (w.heap.size + 3) (Value.slice av k cv).ownBlock vs (Q.take k) (Q.take k).length) := hE
      obtain ⟨⟨g0, g1⟩, f0, f1⟩ := id sk
      obtain ⟨⟨x0, x1⟩, -⟩ := id sB
      have FIN : Hid (∀ (a7 : Option Addr) (c7 : Nat) (w7 : World), w7.ownsRow wr.heap.size 3 1 (.slice a7 p.length c7) p.length (Zv p) → (wr.alloc (.cells #[] 3)).grownBy w7 (some wr.heap.size) →
          ∀ (g9 cap9 : Nat) (w9 : World), w9.ownsRow (w.heap.size + 3) 36 1 (.slice (some ⟨g9, 0, none⟩) (k + 1) cap9) (k + 1) (vs ++ [.slice a7 p.length c7]) →
          (w7.alloc (.cells #[.slice a7 p.length c7] 36)).grownBy w9 (Value.slice av k cv).ownBlock → ((Value.slice av k cv).ownBlock = some g9 ∨ g9 = (w7.alloc (.cells #[.slice a7 p.length c7] 36)).heap.size) →
          Slot2 (w9.setCell ⟨w.heap.size + 2, 1, none⟩ (.slice (some ⟨g9, 0, none⟩) (k + 1) cap9)) (w.heap.size + 2) (.int .i64 reps) (.slice (some ⟨g9, 0, none⟩) (k + 1) cap9) ∧
          OwnP (w9.setCell ⟨w.heap.size + 2, 1, none⟩ (.slice (some ⟨g9, 0, none⟩) (k + 1) cap9)) (w.heap.size + 3) (.slice (some ⟨g9, 0, none⟩) (k + 1) cap9) (Q.take (k + 1)) ∧
          Below w2.heap.size w2 (w9.setCell ⟨w.heap.size + 2, 1, none⟩ (.slice (some ⟨g9, 0, none⟩) (k + 1) cap9))) := by
        intro a7 c7 w7 hown7 hg7 g9 cap9 w9 hown9 hg9 hat9
        have hb7 : Below wr.heap.size wr w7 := bA.grown hg7 (by simp) (fun j e => by cases e; exact Nat.le_refl _)
        have b9 := bel1 w7 (.cells #[.slice a7 p.length c7] 36)
        have hb8 := behind hb7 b9
        have s9 := Slot2.grown (sk.below hb8) hg9 hneV
        refine ⟨s9.put1 _, ?_, ?_⟩
        · have hE' := OwnE.snocL (v' := .slice (some ⟨g9, 0, none⟩) (k + 1) cap9) (p := p) (by rw [htl]; exact hrow) hE9.out hb8 ((ownOn hown7 b9).mono (by omega)) (fun j e => (World.ownsRow.lt hown7 j e).1) hg9 (by rcases hat9 with h | h; exact .inl h.symm; exact .inr (congrArg some h))
          rw [← HT.out] at hE'
          have hl : (Q.take (k + 1)).length = k + 1 := by rw [List.length_take]; omega
          have hP : OwnP w9 (w.heap.size + 3) (.slice (some ⟨g9, 0, none⟩) (k + 1) cap9) (Q.take (k + 1)) := ⟨_, by rw [hl]; exact hown9, hE'⟩
          exact hP.far (by omega)
        · have h8 : Below w2.heap.size w2 (w7.alloc (.cells #[.slice a7 p.length c7] 36)) := behind hb hb8
          exact (h8.grown hg9 h8.size (fun j e => by have := (World.ownsRow.lt hrow j e).1; omega)).setCell (by show w2.heap.size ≤ w.heap.size + 2; omega) _
      obtain ⟨⟨xA0, xA1⟩, -⟩ := id (sB.below bA)
      obtain ⟨⟨gA0, gA1⟩, fA0, fA1⟩ := id skA
      have hcA := cellOn hc bA
      clear hE
      go_wp2_with fail
      go_region_law (first | (refine step_appZ _ (by rfl) (.tmp 17) (.tmp 23) (by rfl) wr.heap.size _ [] (by rfl) (by exact emptyB wr _ (Nat.le_refl _)) ai ci p (by rfl) (by exact hzA) hnil (by simp; omega) (by simp) ?_; intro v7 w7 hown7 hgrow7; simp only [List.nil_append] at hown7; obtain ⟨a7, c7, rfl⟩ := Zv_shape hown7; have hg7 : (wr.alloc (.cells #[] 3)).grownBy w7 (some wr.heap.size) := ⟨hgrow7.os, hgrow7.tape, hgrow7.output, hgrow7.size, hgrow7.block⟩; clear hgrow7; have sk7 := Slot2.grown skA hg7 (by simp only [ne_eq, Option.some.injEq]; omega); obtain ⟨⟨a0, a1⟩, b0, b1⟩ := id sk7; have row7 := ownOn (World.ownsRow.kept rowA hg7 (.inr hneW)) (bel1 w7 (.cells #[.slice a7 p.length c7] 36)); have sk8 := sk7.below (bel1 w7 (.cells #[.slice a7 p.length c7] 36)); have hz7 := hg7.size; obtain ⟨⟨a2, a3⟩, b2, b3⟩ := id sk8) | (refine step_append_lies _ (by rfl) (.tmp 16) (.tmp 26) 27 (by rfl) (w.heap.size + 3) 36 i0 _ 1 24 Try.underlying27 hi0 hz0 hz1 hz2 rfl (by decide) _ _ _ (by rfl) (by exact row7) ⟨_, 0, none⟩ 1 1 [.slice a7 p.length c7] (by rfl) rfl oneZ_at (oneS_one _ _ _) (by omega) (by unfold maxLen; omega) (by omega) (by simp at hz7 ⊢; omega) _ rfl ?_; intro g9 cap9 w9 hown9 hgrow9 hat9 hlt9; have hg9 : (w7.alloc (.cells #[.slice a7 p.length c7] 36)).grownBy w9 (Value.slice av k cv).ownBlock := ⟨hgrow9.os, hgrow9.tape, hgrow9.output, hgrow9.size, hgrow9.block⟩; clear hgrow9; obtain ⟨⟨m0, m1⟩, n0, n1⟩ := Slot2.grown sk8 hg9 hneV) | fail)
      all_goals
        obtain ⟨x1, x2, x3⟩ := FIN.out a7 c7 w7 hown7 hg7 g9 cap9 w9 hown9 hg9 hat9
        clear xA0 xA1 gA0 gA1 fA0 fA1 hcA FIN hown7 hg7 hown9 hg9 hat9 a0 a1 b0 b1 a2 a3 b2 b3 m0 m1 n0 n1 sk7 sk8 row7 hz7 hlt9 g0 g1 f0 f1
        go_wp2
        go_roundw
        case rel => exact ⟨k + 1, _, by omega, by go_num, x1, x2, x3⟩
        case measure => simp [intOf]; omega
    · have hke : k = Q.length := by omega
      subst hke
      rw [List.take_length] at hO
      obtain ⟨av, cv, rfl⟩ : ∃ av cv, v = .slice av Q.length cv := by
        obtain ⟨vs, hrow, -⟩ := hO
        exact Zv_shape hrow
      obtain ⟨⟨t0, t1⟩, t2, t3⟩ := r0.below hb
      obtain ⟨⟨x0, x1⟩, -⟩ := id sB
      obtain ⟨⟨g0, g1⟩, -⟩ := id sk
      go_wp2
      have e0 : ((wr.setCell ⟨w.heap.size + 1, 0, none⟩ (.int .i64 reps)).setCell ⟨w.heap.size + 1, 1, none⟩ (.slice av Q.length cv)).cell? ⟨w.heap.size + 1, 0, none⟩ = some (.int .i64 reps) := by
        rw [World.cell?_setCell_other _ _ _ _ (by simp)]
        exact World.cell?_setCell_same' _ _ _ (by rw [t0]; rfl)
      have e1 : ((wr.setCell ⟨w.heap.size + 1, 0, none⟩ (.int .i64 reps)).setCell ⟨w.heap.size + 1, 1, none⟩ (.slice av Q.length cv)).cell? ⟨w.heap.size + 1, 1, none⟩ = some (.slice av Q.length cv) :=
        World.cell?_setCell_same' _ _ _ (by rw [World.cell?_setCell_other _ _ _ _ (by simp), t1]; rfl)
      refine bodyPost_ret (v := .agg #[.int .i64 reps, .slice av Q.length cv]) (by simp [results, Try.results55, go_sem, e0, e1]) rfl ⟨av, cv, rfl, ?_, ?_⟩
      · exact ((hO.far (by omega)).far (by omega)).mono (by omega)
      · exact ((behind hB0 hb).setCell (by show w.heap.size ≤ w.heap.size + 1; omega) _).setCell (by show w.heap.size ≤ w.heap.size + 1; omega) _
end Go.Proofs.Ytoemblcheahbeac.Wk
