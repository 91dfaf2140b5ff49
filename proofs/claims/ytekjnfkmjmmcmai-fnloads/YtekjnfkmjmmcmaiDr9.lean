/- What DrawRingOk of the specification comes to: some ring, some devices, as they read. -/
import Derived.Test.YtekjnfkmjmmcmaiDr8
import Derived.Test.YtekjnfkmjmmcmaiRgZ
namespace Go.Proofs.Ytekjnfkmjmmcmai.Wk
set_option linter.unusedVariables false
open Go.ChangeShapes Go.WideShapes Go.ChangeAt Go.RowKit

theorem few_wf9 {d : Sm.St} (h : Few d) : (Lit.int .i64 d.2.1).wf = true := by
  obtain ⟨-, ⟨h0, h1⟩, -⟩ := h
  have e1 : IntKind.i64.min = -9223372036854775808 := by decide
  have e2 : IntKind.i64.max = 9223372036854775807 := by decide
  simp only [Lit.wf, Bool.and_eq_true, decide_eq_true_eq, e1, e2]
  omega
theorem tot4 : ∀ (Q : List (List Int)), (∀ q ∈ Q, q.length ≤ 4) → tot Q ≤ 4 * Q.length
  | [], _ => by simp [tot]
  | q :: r, h => by
    have h1 := h q (by simp)
    have h2 := tot4 r (fun x hx => h x (by simp [hx]))
    have e : tot (q :: r) = q.length + tot r := by simp [tot]
    rw [e, List.length_cons]
    omega
theorem Slot1.grown {w w' : World} {b : Nat} {v : Value} {r : Option Nat} (h : Slot1 w b v) (hg : w.grownBy w' r) (hne : some b ≠ r) : Slot1 w' b v :=
  ⟨hg.cell h.1 hne, by rw [World.frozen?_of_block (w := w) (hg.block b h.lt hne)]; exact h.2⟩
theorem RdU.grown {lo C : Nat} {w w' : World} {a : Option Addr} {ps : List (List Int)} (h : RdU lo w a ps) (hg : w.grownBy w' (some C)) (hC : C < lo) : RdU lo w' a ps := by
  intro i hi
  obtain ⟨b, off, ai, ci, h1, h2, h3, h4, h5, h6⟩ := h i hi
  refine ⟨b, off, ai, ci, h1, h2, hg.cell h3 (fun e => by simp only [Option.some.injEq] at e; omega), fun j hj => ?_, h5, h6⟩
  obtain ⟨b', off', ha, hc⟩ := h4 j hj
  have h7 := h5 _ ha
  exact ⟨b', off', ha, hg.cell hc (fun e => by simp only [Option.some.injEq] at e; simp only at h7; omega)⟩

set_option maxHeartbeats 4000000 in
set_option maxRecDepth 100000 in
theorem drawRingOk (a0 : Option Addr) (cap0 : Nat) (l : List UInt8) (w : World) (hl : l.length ≤ 1048576) (hr : RdA w a0 l) :
    Calls Try.prog 9 #[.slice a0 l.length cap0] w fun e w' => ∃ (X : List Sm.St) (g cp : Nat) (R : Int) (Q : List (List Int)) (a : Option Addr) (ca : Nat), e = .returned (.tuple #[.agg #[.int .i64 R, .slice a Q.length ca], .slice (some ⟨g, 0, none⟩) X.length cp]) ∧
      X.length ≤ 6 ∧ (∀ d ∈ X, Few d) ∧ (0 ≤ R ∧ R ≤ 6) ∧ Q.length ≤ 16 ∧ (∀ q ∈ Q, q.length ≤ 4) ∧ RdS w' (some ⟨g, 0, none⟩) X ∧ RdP w' a Q ∧ Below w.heap.size w w' := by
  obtain ⟨A, hA⟩ : ∃ A, w.heap.size = A := ⟨_, rfl⟩
  have s0 := slot2New w (.int .i64 0) (.slice none 0 0) 28
  have b0 := bel1 w (.cells #[.int .i64 0, .slice none 0 0] 28)
  have hr0 := hr.below b0
  have hs0 : (w.alloc (.cells #[.int .i64 0, .slice none 0 0] 28)).heap.size = w.heap.size + 1 := by simp
  go_enter Try.func9, Try.ntmps9
  go_wp2_with fail
  generalize w.alloc (.cells #[.int .i64 0, .slice none 0 0] 28) = wA at s0 b0 hr0 hs0 ⊢
  rw [hA] at s0 hs0
  refine (l1New a0 cap0 l _ hl hr0).mono ?_
  rintro e w1 ⟨rfl, hc1, hb1⟩
  rw [hs0] at hc1
  have hC1 := hc1.lt
  have hB1 := behind b0 hb1
  have s1 := s0.below hb1
  clear s0 hr0 hb1 b0
  go_wp2_with fail
  refine (l5Any (A + 1) l _ hc1).mono ?_
  rintro e w2 ⟨X, g, cp, R, Q, a, ca, rfl, hX6, hfew, hR, hQ16, hQ4, hgg, hX2, hP2, hc2, hg2⟩
  have s2 := Slot2.grown s1 hg2 (fun e => by simp only [Option.some.injEq] at e; omega)
  have hB2 := belowOf hB1 hg2 (by omega)
  have sB := slot2New w2 (.int .i64 R) (.slice a Q.length ca) 28
  have bB := bel1 w2 (.cells #[.int .i64 R, .slice a Q.length ca] 28)
  have sA := s2.below bB
  have hXB := hX2.below bB
  have hPB := hP2.below bB
  have hBB := behind hB2 bB
  clear s1 s2 hX2 hP2 hc1 hc2 hg2 hB1 hB2 hr
  obtain ⟨⟨t0, t1⟩, t2, t3⟩ := id sA
  obtain ⟨⟨v0, v1⟩, -⟩ := id sB
  go_upto_region 3 with fail
  generalize w2.alloc (.cells #[.int .i64 R, .slice a Q.length ca] 28) = wB at sA sB bB t0 t1 t2 t3 v0 v1 hXB hPB hBB ⊢
  clear bB
  have e0 : (wB.setCell ⟨A, 0, none⟩ (.int .i64 R)).cell? ⟨A, 0, none⟩ = some (.int .i64 R) := World.cell?_setCell_same' _ _ _ (by rw [t0]; rfl)
  have e1 : ((wB.setCell ⟨A, 0, none⟩ (.int .i64 R)).setCell ⟨A, 1, none⟩ (.slice a Q.length ca)).cell? ⟨A, 1, none⟩ = some (.slice a Q.length ca) := World.cell?_setCell_same' _ _ _ (by rw [World.cell?_setCell_other _ _ _ _ (by simp), t1]; rfl)
  have gA : wB.grownBy ((wB.setCell ⟨A, 0, none⟩ (.int .i64 R)).setCell ⟨A, 1, none⟩ (.slice a Q.length ca)) (some A) := grownTrans (grownSet wB A 0 _) (grownSet _ A 1 _)
  have hX9 := rdsG7 hXB gA (by omega)
  have hP9 := ((hPB.far (b' := A) (o := 0) (u := .int .i64 R) (by omega)).far (b' := A) (o := 1) (u := .slice a Q.length ca) (by omega)).rd
  have hB9 : Below w.heap.size w ((wB.setCell ⟨A, 0, none⟩ (.int .i64 R)).setCell ⟨A, 1, none⟩ (.slice a Q.length ca)) := (hBB.setCell (by show w.heap.size ≤ A; omega) _).setCell (by show w.heap.size ≤ A; omega) _
  go_wp2
  exact bodyPost_ret (v := .tuple #[.agg #[.int .i64 R, .slice a Q.length ca], .slice (some ⟨g, 0, none⟩) X.length cp]) (by simp [results, Try.results9, go_sem, e0, e1]) rfl ⟨X, g, cp, R, Q, a, ca, rfl, hX6, hfew, hR, hQ16, hQ4, hX9, hP9, hB9⟩
end Go.Proofs.Ytekjnfkmjmmcmai.Wk
