/- What DrawHandoffs of the specification comes to: some ring, some devices, some text, as they read. -/
import Derived.Test.YtcejeiakgmamdacDr9
import Derived.Test.YtcejeiakgmamdacDrNm
import Derived.Test.YtcejeiakgmamdacRbW
import Derived.Deep.RegionHeld3
namespace Go.Proofs.Ytcejeiakgmamdac.Wk
set_option linter.unusedVariables false
open Go.ChangeShapes Go.WideShapes Go.ChangeAt Go.RowKit

theorem RdU.rdN {lo : Nat} {w : World} {a : Option Addr} {ps : List (List Int)} (h : RdU lo w a ps) : RdN w a ps := fun i hi =>
  let ⟨b, off, ai, ci, h1, _, h3, h4, _, h6, h7⟩ := h i hi; ⟨b, off, ai, ci, h1, h3, h4, h6, h7⟩

theorem keepFar22 {w : World} {A B : Nat} {x y u v : Value} (h0 : w.cell? ⟨B, 0, none⟩ = some x) (h1 : w.cell? ⟨B, 1, none⟩ = some y) (hne : A ≠ B) :
    ((w.setCell ⟨A, 0, none⟩ u).setCell ⟨A, 1, none⟩ v).cell? ⟨B, 0, none⟩ = some x ∧ ((w.setCell ⟨A, 0, none⟩ u).setCell ⟨A, 1, none⟩ v).cell? ⟨B, 1, none⟩ = some y := by
  have f : ∀ (w : World) (o o' : Nat) (u : Value), (w.setCell ⟨A, o, none⟩ u).cell? ⟨B, o', none⟩ = w.cell? ⟨B, o', none⟩ := fun w o o' u => World.cell?_setCell_other _ _ _ _ (fun e => hne (congrArg Addr.block e))
  exact ⟨by rw [f, f]; exact h0, by rw [f, f]; exact h1⟩

set_option maxHeartbeats 4000000 in
set_option maxRecDepth 100000 in
theorem drawHand (a0 : Option Addr) (cap0 : Nat) (l : List UInt8) (w : World) (hl : l.length ≤ 1048576) (hr : RdA w a0 l) :
    Calls Try.prog 30 #[.slice a0 l.length cap0] w fun e w' => ∃ (X : List Sm.St) (g cp : Nat) (R : Int) (Q : List (List Int)) (a : Option Addr) (ca : Nat) (s : ByteArray), e = .returned (.tuple #[.agg #[.int .i64 R, .slice a Q.length ca], .slice (some ⟨g, 0, none⟩) X.length cp, .string s]) ∧
      X.length ≤ 6 ∧ (∀ d ∈ X, Few d) ∧ (0 ≤ R ∧ R ≤ 6) ∧ Q.length ≤ 16 ∧ (∀ q ∈ Q, q.length ≤ 4) ∧ s.size ≤ 100 ∧ RdS w' (some ⟨g, 0, none⟩) X ∧ RdN w' a Q ∧ Below w.heap.size w w' := by
  obtain ⟨A, hA⟩ : ∃ A, w.heap.size = A := ⟨_, rfl⟩
  have s0 := slot2New w (.int .i64 0) (.slice none 0 0) 29
  have b0 := bel1 w (.cells #[.int .i64 0, .slice none 0 0] 29)
  have hr0 := hr.below b0
  have hs0 : (w.alloc (.cells #[.int .i64 0, .slice none 0 0] 29)).heap.size = w.heap.size + 1 := by simp
  go_enter Try.func30, Try.ntmps30
  go_wp2_with fail
  generalize w.alloc (.cells #[.int .i64 0, .slice none 0 0] 29) = wA at s0 b0 hr0 hs0 ⊢
  rw [hA] at s0 hs0
  refine (l1New a0 cap0 l _ hl hr0).mono ?_
  rintro e w1 ⟨rfl, hc1, hb1⟩
  rw [hs0] at hc1
  have hC1 := hc1.lt
  have hB1 := behind b0 hb1
  have s1 := s0.below hb1
  clear s0 hr0 hb1 b0
  go_wp2_with fail
  refine (l5Any (A + 1) l _ hc1).mono ?_
  rintro e w2 ⟨X, g, cp, R, Q, a, ca, rfl, hX6, hfew, hR, hQ16, hQ4, hgg, hX2, hP2, hc2, hg2⟩
  have s2 := Slot2.grown s1 hg2 (fun e => by simp only [Option.some.injEq] at e; omega)
  have hB2 := belowOf hB1 hg2 (by omega)
  have sB := slot2New w2 (.int .i64 R) (.slice a Q.length ca) 29
  have bB := bel1 w2 (.cells #[.int .i64 R, .slice a Q.length ca] 29)
  have sA := s2.below bB
  have hXB := hX2.below bB
  have hPB := hP2.below bB
  have hBB := behind hB2 bB
  have hcB := hc2.below bB
  have hCl := hc2.lt
  clear s1 s2 hX2 hP2 hc1 hc2 hg2 hB1 hB2 hr
  go_upto_region 3 with fail
  obtain ⟨B, hBe⟩ : ∃ B, w2.heap.size = B := ⟨_, rfl⟩
  rw [hBe] at sB hCl ⊢
  generalize w2.alloc (.cells #[.int .i64 R, .slice a Q.length ca] 29) = wB at sA sB bB hXB hPB hBB hcB ⊢
  clear bB
  obtain ⟨⟨t0, t1⟩, t2, t3⟩ := id sA
  obtain ⟨⟨v0, v1⟩, -⟩ := id sB
  have hAB : A ≠ B := by have := sA.lt; omega
  have FIN : Hid (∀ (w3 w9 : World), wB.grownBy w3 (some (A + 1)) → w9 = ((w3.setCell ⟨A, 0, none⟩ (.int .i64 R)).setCell ⟨A, 1, none⟩ (.slice a Q.length ca)) →
      w9.cell? ⟨A, 0, none⟩ = some (.int .i64 R) ∧ w9.cell? ⟨A, 1, none⟩ = some (.slice a Q.length ca) ∧ RdS w9 (some ⟨g, 0, none⟩) X ∧ RdN w9 a Q ∧ Below w.heap.size w w9) := by
    rintro w3 w9 hg3 rfl
    obtain ⟨⟨y0, y1⟩, -⟩ := Slot2.grown sA hg3 (fun e => by simp only [Option.some.injEq] at e; omega)
    have gA : w3.grownBy ((w3.setCell ⟨A, 0, none⟩ (.int .i64 R)).setCell ⟨A, 1, none⟩ (.slice a Q.length ca)) (some A) := grownTrans (grownSet w3 A 0 _) (grownSet _ A 1 _)
    refine ⟨?_, World.cell?_setCell_same' _ _ _ (by rw [World.cell?_setCell_other _ _ _ _ (by simp), y1]; rfl), rdsG7 (rdsG7 hXB hg3 (by omega)) gA (by omega), (((hPB.grown hg3 (by omega)).far (by omega)).far (by omega)).rdN, ?_⟩
    · rw [World.cell?_setCell_other _ _ _ _ (by simp)]
      exact World.cell?_setCell_same' _ _ _ (by rw [y0]; rfl)
    · exact ((belowOf hBB hg3 (by omega)).setCell (by show w.heap.size ≤ A; omega) _).setCell (by show w.heap.size ≤ A; omega) _
  go_region_held3 (fun wy => wy.cell? ⟨B, 0, none⟩ = some (.int .i64 R) ∧ wy.cell? ⟨B, 1, none⟩ = some (.slice a Q.length ca))
    (first | with_reducible exact ⟨v0, v1⟩ | with_reducible exact ⟨v03, v13⟩ | with_reducible exact keepFar22 v03 v13 hAB | go_keep)
    (first | (go_at_call 69; refine (l3Any (A + 1) l wB.drew hcB).mono ?_; rintro e w3 ⟨s, rfl, hs, hc3, hg3⟩; have hg3' : wB.grownBy w3 (some (A + 1)) := ⟨hg3.os, hg3.tape, hg3.output, hg3.size, hg3.block⟩; obtain ⟨⟨v03, v13⟩, -⟩ := Slot2.grown sB hg3' (fun e => by simp only [Option.some.injEq] at e; omega); obtain ⟨⟨y0, y1⟩, y2, y3⟩ := Slot2.grown sA hg3' (fun e => by simp only [Option.some.injEq] at e; omega)) | fail)
  obtain ⟨e0, e1, e2, e3, e4⟩ := FIN.out w3 _ hg3' rfl
  go_wp2
  exact bodyPost_ret (v := .tuple #[.agg #[.int .i64 R, .slice a Q.length ca], .slice (some ⟨g, 0, none⟩) X.length cp, .string s]) (by simp [results, Try.results30, go_sem, e0, e1]) rfl ⟨X, g, cp, R, Q, a, ca, s, rfl, hX6, hfew, hR, hQ16, hQ4, hs, e2, e3, e4⟩
end Go.Proofs.Ytcejeiakgmamdac.Wk
