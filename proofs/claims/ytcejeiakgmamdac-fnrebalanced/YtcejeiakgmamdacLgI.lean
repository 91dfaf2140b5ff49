/- What lighter of the program comes to. -/
import Derived.Test.YtcejeiakgmamdacLdI
import Derived.Test.YtcejeiakgmamdacStL
import Derived.Deep.RegionHeld3
namespace Go.Proofs.Ytcejeiakgmamdac.Wk
set_option linter.unusedVariables false
open Go.ChangeShapes Go.WideShapes Go.ChangeAt Go.RowKit

theorem keepL {w w' : World} {a1 a2 a3 a4 a5 a6 : Addr} {v1 v2 v3 v4 v5 v6 : Value} (h : w.cell? a1 = some v1 ∧ w.cell? a2 = some v2 ∧ w.cell? a3 = some v3 ∧ w.cell? a4 = some v4 ∧ w.cell? a5 = some v5 ∧ w.cell? a6 = some v6) (hb : Below w.heap.size w w') :
    w'.cell? a1 = some v1 ∧ w'.cell? a2 = some v2 ∧ w'.cell? a3 = some v3 ∧ w'.cell? a4 = some v4 ∧ w'.cell? a5 = some v5 ∧ w'.cell? a6 = some v6 :=
  ⟨by rw [hb.cell (World.block_lt_of_cell? w _ h.1)]; exact h.1, by rw [hb.cell (World.block_lt_of_cell? w _ h.2.1)]; exact h.2.1, keepR4 h.2.2 hb⟩
theorem wrapL (n : Int) (h0 : -9223372036854775808 ≤ n) (h1 : n < 9223372036854775808) : IntKind.i64.wrap n = n := by
  simp only [IntKind.wrap, IntKind.bits, IntKind.signed]
  simp
  omega
/-- a share, and that it fits -/
theorem shareL (A : Nat) (n : Int) (hA : A ≤ 1048576) (h0 : 1 ≤ n) (h1 : n ≤ 1000) : IntKind.i64.wrap ((A : Int) + 1) = (A : Int) + 1 ∧ IntKind.i64.wrap (((A : Int) + 1) * n) = ((A : Int) + 1) * n := by
  have h2 : 0 ≤ ((A : Int) + 1) * n := Int.mul_nonneg (by omega) (by omega)
  have h3 : ((A : Int) + 1) * n ≤ 1048577 * 1000 := Int.mul_le_mul (by omega) h1 (by omega) (by omega)
  exact ⟨wrapL _ (by omega) (by omega), wrapL _ (by omega) (by omega)⟩

set_option maxHeartbeats 2000000 in
set_option maxRecDepth 100000 in
theorem lighterI (reps : Int) (a : Option Addr) (ca : Nat) (ps : List (List Int)) (b o1 o2 : Nat) (d1 d2 : Sm.St) (w : World) (hps : ps.length ≤ 1048576) (ht : tot ps ≤ 1048576) (hr : RdP w a ps) (h1 : StAt w b o1 d1) (h2 : StAt w b o2 d2)
    (hw1 : 1 ≤ d1.2.2 ∧ d1.2.2 ≤ 1000) (hw2 : 1 ≤ d2.2.2 ∧ d2.2.2 ≤ 1000) :
    Calls Try.prog 79 #[.agg #[.int .i64 reps, .slice a ps.length ca], .pointer (some ⟨b, o1, none⟩), .pointer (some ⟨b, o2, none⟩)] w fun e w' =>
      e = .returned (.bool (decide (((Rg.load ps d1.1 : Int) + 1) * d2.2.2 < ((Rg.load ps d2.1 : Int) + 1) * d1.2.2))) ∧ Below w.heap.size w w' := by
  obtain ⟨i1, z1, n1⟩ := d1
  obtain ⟨i2, z2, n2⟩ := d2
  have s0 := slot2New w (.int .i64 reps) (.slice a ps.length ca) 29
  have hB0 := bel1 w (.cells #[.int .i64 reps, .slice a ps.length ca] 29)
  have hr0 := hr.below hB0
  obtain ⟨p0, -, p2⟩ := h1.below hB0
  obtain ⟨q0, -, q2⟩ := h2.below hB0
  dsimp only at p0 p2 q0 q2 hw1 hw2 ⊢
  have hA1 : Rg.load ps i1 ≤ 1048576 := Nat.le_trans (Rg.load_le _ _) ht
  have hA2 : Rg.load ps i2 ≤ 1048576 := Nat.le_trans (Rg.load_le _ _) ht
  have c1 := fun (w' : World) (h : RdP w' a ps) => implLoad reps a ca ps i1 w' hps ht h
  have c2 := fun (w' : World) (h : RdP w' a ps) => implLoad reps a ca ps i2 w' hps ht h
  generalize Rg.load ps i1 = A at c1 hA1 ⊢
  generalize Rg.load ps i2 = B at c2 hA2 ⊢
  obtain ⟨e1, e2⟩ := shareL A n2 hA1 hw2.1 hw2.2
  obtain ⟨e3, e4⟩ := shareL B n1 hA2 hw1.1 hw1.2
  clear hA1 hA2 hw1 hw2 h1 h2
  go_enter Try.func79, Try.ntmps79
  go_wp2_with fail
  generalize w.alloc (.cells #[.int .i64 reps, .slice a ps.length ca] 29) = w0 at s0 hB0 hr0 p0 p2 q0 q2 ⊢
  obtain ⟨⟨r0, r1⟩, -⟩ := id s0
  go_region_held3 (fun wy => wy.cell? ⟨w.heap.size, 0, none⟩ = some (.int .i64 reps) ∧ wy.cell? ⟨w.heap.size, 1, none⟩ = some (.slice a ps.length ca) ∧ wy.cell? ⟨b, o1, none⟩ = some (.int .i64 i1) ∧ wy.cell? ⟨b, o1 + 2, none⟩ = some (.int .i64 n1) ∧ wy.cell? ⟨b, o2, none⟩ = some (.int .i64 i2) ∧ wy.cell? ⟨b, o2 + 2, none⟩ = some (.int .i64 n2))
    (first | exact ⟨r0, r1, p0, p2, q0, q2⟩ | exact keepL ‹_› ‹_› | go_keep)
    (first | (go_at_call 18; have hx := RdP.below (w := w0.drew) hr0 hb2; refine (c2 _ hx).mono ?_; rintro e w3 ⟨rfl, hb3⟩) | (go_at_call 18; refine (c1 _ (by exact hr0)).mono ?_; rintro e w2 ⟨rfl, hb2⟩) | fail)
  go_wp2
  go_ret
  exact ⟨rfl, behind (behind hB0.drew hb2) hb3⟩
end Go.Proofs.Ytcejeiakgmamdac.Wk
