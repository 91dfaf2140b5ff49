/- What DrawBuild of the specification comes to: some devices, two numbers. -/
import Derived.Test.YtcejeiakgmamdacDr6
namespace Go.Proofs.Ytcejeiakgmamdac.Wk
set_option linter.unusedVariables false
open Go.ChangeShapes Go.WideShapes Go.ChangeAt Go.RowKit

theorem few_wf {d : Sm.St} (h : Few d) : (Lit.int .i64 d.2.1).wf = true := by
  obtain ⟨-, ⟨h0, h1⟩, -⟩ := h
  have e1 : IntKind.i64.min = -9223372036854775808 := by decide
  have e2 : IntKind.i64.max = 9223372036854775807 := by decide
  simp only [Lit.wf, Bool.and_eq_true, decide_eq_true_eq, e1, e2]
  omega
theorem rdsG {w w' : World} {C g : Nat} {X : List Sm.St} (h : RdS w (some ⟨g, 0, none⟩) X) (hg : w.grownBy w' (some C)) (hne : g ≠ C) : RdS w' (some ⟨g, 0, none⟩) X := by
  intro i hi
  have h1 := h i hi
  obtain ⟨b, off, e, p⟩ := h1
  have e' := e
  simp only [Option.some.injEq, Addr.mk.injEq, and_true] at e'
  obtain ⟨rfl, rfl⟩ := e'
  obtain ⟨p0, p1, p2⟩ := p
  have hn : some g ≠ some C := fun e => hne (Option.some.inj e)
  exact ⟨g, 0, e, hg.cell p0 hn, hg.cell p1 hn, hg.cell p2 hn⟩
set_option maxHeartbeats 2000000 in
set_option maxRecDepth 100000 in
theorem drawBuild (a : Option Addr) (cap : Nat) (l : List UInt8) (w : World) (hl : l.length ≤ 1048576) (hr : RdA w a l) :
    Calls Try.prog 10 #[.slice a l.length cap] w fun e w' => ∃ (X : List Sm.St) (g cp : Nat) (p r : Int), e = .returned (.tuple #[.slice (some ⟨g, 0, none⟩) X.length cp, .int .i64 p, .int .i64 r]) ∧ X.length ≤ 6 ∧ (∀ d ∈ X, Few d) ∧
      RdS w' (some ⟨g, 0, none⟩) X ∧ Below w.heap.size w w' := by
  go_enter Try.func10, Try.ntmps10
  go_wp2_with fail
  refine (l1New a cap l _ hl hr).mono ?_
  rintro e w1 ⟨rfl, hc1, hb1⟩
  go_wp2_with fail
  refine (l4AnyR w.heap.size l _ hc1).mono ?_
  rintro e w2 ⟨X, g, cp, rfl, hX6, hfew, hgg, hrS, hc2, hg2⟩
  have hC1 := hc1.lt
  have hC := hc2.lt
  have hB2 := belowOf hb1 hg2 (Nat.le_refl _)
  have hI2 := rdiNew (w := w2) (t := 3) (ns := [4, 8, 1, 16, 0, 64, 65]) (cs := #[.int .i64 4, .int .i64 8, .int .i64 1, .int .i64 16, .int .i64 0, .int .i64 64, .int .i64 65]) rfl
  have b2 := bel1 w2 (.cells #[.int .i64 4, .int .i64 8, .int .i64 1, .int .i64 16, .int .i64 0, .int .i64 64, .int .i64 65] 3)
  go_wp2_with fail
  refine (l1Int w.heap.size w2.heap.size 0 _ 7 l [4, 8, 1, 16, 0, 64, 65] _ rfl (hc2.below b2) (by simp) (by simp) hI2 (by omega)).mono ?_
  rintro e w3 ⟨j, hj, rfl, hc3, hg3⟩
  generalize ([4, 8, 1, 16, 0, 64, 65] : List Int)[j] = p
  have hC3 := hc3.lt
  have hB3 := belowOf (behind hB2 b2) hg3 (Nat.le_refl _)
  have hI3 := rdiNew (w := w3) (t := 3) (ns := [1, 2, 3, 2, 3, 5, 6, 0]) (cs := #[.int .i64 1, .int .i64 2, .int .i64 3, .int .i64 2, .int .i64 3, .int .i64 5, .int .i64 6, .int .i64 0]) rfl
  have b3 := bel1 w3 (.cells #[.int .i64 1, .int .i64 2, .int .i64 3, .int .i64 2, .int .i64 3, .int .i64 5, .int .i64 6, .int .i64 0] 3)
  clear hj hI2
  go_wp2_with fail
  refine (l1Int w.heap.size w3.heap.size 0 _ 8 l [1, 2, 3, 2, 3, 5, 6, 0] _ rfl (hc3.below b3) (by simp) (by simp) hI3 (by omega)).mono ?_
  rintro e w4 ⟨j, hj, rfl, hc4, hg4⟩
  generalize ([1, 2, 3, 2, 3, 5, 6, 0] : List Int)[j] = r
  have hB4 := belowOf (behind hB3 b3) hg4 (Nat.le_refl _)
  clear hj hI3
  have hne : g ≠ w.heap.size := by omega
  have hX := rdsG ((rdsG (hrS.below b2) hg3 hne).below b3) hg4 hne
  go_wp2
  exact bodyPost_ret (v := .tuple #[.slice (some ⟨g, 0, none⟩) X.length cp, .int .i64 p, .int .i64 r]) (by simp [results, Try.results10, go_sem]) rfl ⟨X, g, cp, p, r, rfl, hX6, hfew, hX, hB4⟩
end Go.Proofs.Ytcejeiakgmamdac.Wk
