/- What l8Any and DrawPutFile come to: whatever file of few bytes. -/
import Derived.Test.YtpejeoekpejbladDrFl
namespace Go.Proofs.Ytpejeoekpejblad.Wk
set_option linter.unusedVariables false
open Go.ChangeShapes Go.WideShapes Go.ChangeAt Go.RowKit

theorem By_zeros (k : Nat) : By (List.replicate k 0) = List.replicate k (.int .u8 0) := by
  unfold By
  rw [List.map_replicate]
  rfl

set_option maxHeartbeats 4000000 in
set_option maxRecDepth 100000 in
theorem l8Any (C : Nat) (l : List UInt8) (w : World) (hc : Cur w C l) :
    Calls Try.prog 21 #[.pointer (some ⟨C, 0, none⟩)] w fun e w' => ∃ (t q n : Int) (d : Bool) (v : Value) (data : List UInt8), e = .returned (.agg #[.int .i64 t, .int .i64 q, .int .i64 n, .bool d, v]) ∧ data.length ≤ 1000 ∧ OwnB w' w.heap.size v data ∧ Cur w' C l ∧ w.grownBy w' (some C) := by
  have hC := hc.lt
  have r0 := slot5fNew w (.int .i64 0) (.int .i64 0) (.int .i64 0) (.bool false) (.slice none 0 0) 27
  have hg0 : w.grownBy (w.alloc (.cells #[.int .i64 0, .int .i64 0, .int .i64 0, .bool false, .slice none 0 0] 27)) (some C) := World.grownBy_alloc _ _ _
  go_enter Try.func21, Try.ntmps21
  go_wp2_with fail
  refine (l8Draw C l _ (hc.below (bel1 _ _))).mono ?_
  rintro e w1 ⟨t, q, n, D, v, data, rfl, hB, hv, hc1, hg1⟩
  have hdl : data.length ≤ 1000 := by
    unfold fileB at hB
    simp only [Bool.and_eq_true, decide_eq_true_eq] at hB
    have := hB.2.1
    omega
  clear hB
  have hz0 : w.heap.size < (w.alloc (.cells #[.int .i64 0, .int .i64 0, .int .i64 0, .bool false, .slice none 0 0] 27)).heap.size := r0.lt
  have hv : OwnB w1 (w.heap.size + 1) v data := ownBase hv (by omega)
  have r1 := r0.grown hg1 (by omega)
  have hgA := grownTrans hg0 hg1
  obtain ⟨ad, cp, rfl, -, -⟩ := hv.form
  have f3 := slot5fNew w1 (.int .i64 t) (.int .i64 q) (.int .i64 n) (.bool D) (.slice ad data.length cp) 27
  have r3 := r1.below (bel1 w1 (.cells #[.int .i64 t, .int .i64 q, .int .i64 n, .bool D, .slice ad data.length cp] 27))
  have hc3 := hc1.below (bel1 w1 (.cells #[.int .i64 t, .int .i64 q, .int .i64 n, .bool D, .slice ad data.length cp] 27))
  have hv3 : OwnB (w1.alloc (.cells #[.int .i64 t, .int .i64 q, .int .i64 n, .bool D, .slice ad data.length cp] 27)) (w.heap.size + 1) (.slice ad data.length cp) data := ownBelow hv (bel1 w1 (.cells #[.int .i64 t, .int .i64 q, .int .i64 n, .bool D, .slice ad data.length cp] 27))
  have hvn : (Value.slice ad data.length cp).ownBlock ≠ some w1.heap.size := by
    intro hj
    have := (World.ownsRow.lt hv _ hj).2
    omega
  have hg3 := grownTrans hgA (World.grownBy_alloc w1 (.cells #[.int .i64 t, .int .i64 q, .int .i64 n, .bool D, .slice ad data.length cp] 27) (some C))
  have hRF : w.heap.size < w1.heap.size := r1.lt
  have hF := f3.lt
  clear r0 r1 hg0 hg1 hgA hv hc1
  go_upto_region 2 with fail
  generalize w1.alloc (.cells #[.int .i64 t, .int .i64 q, .int .i64 n, .bool D, .slice ad data.length cp] 27) = w3 at f3 r3 hc3 hv3 hg3 hF ⊢
  go_wp2_with fail
  refine (l1Below C l 12 _ hc3 (by omega)).mono ?_
  rintro e w4 ⟨x, rfl, hx0, hx1, -, hc4, hg4⟩
  have hx2 := hx1 (by omega)
  have f4 := f3.grown hg4 (by omega)
  have r4 := r3.grown hg4 (by omega)
  have hv4 := hv3.grow hg4 (by omega)
  have hgB := grownTrans hg3 hg4
  have hz4 := hg4.size
  clear hx1 f3 r3 hc3 hv3 hg3 hg4
  by_cases h0 : x = 0
  · subst h0
    go_wp2_with fail
    refine (l2Any C l _ hc4).mono ?_
    rintro e w5 ⟨t', q', n', rfl, -, -, -, hc5, hg5⟩
    have f5 := f4.grown hg5 (by omega)
    have r5 := r4.grown hg5 (by omega)
    have hv5 := hv4.grow hg5 (by omega)
    have hgC := grownTrans hgB hg5
    obtain ⟨⟨c0, c1, c2, c3, c4⟩, g0, g1, g2, g3, g4⟩ := id f5
    obtain ⟨⟨p0, p1, p2, p3, p4⟩, m0, m1, m2, m3, m4⟩ := id r5
    clear f4 r4 hv4 hgB hg5 hc4
    have f6 := ((f5.put0 (.int .i64 t')).put1 (.int .i64 q')).put2 (.int .i64 n')
    have RR := ((r5.other (c := w1.heap.size) (o := 0) (x := .int .i64 t') (by omega)).other (c := w1.heap.size) (o := 1) (x := .int .i64 q') (by omega)).other (c := w1.heap.size) (o := 2) (x := .int .i64 n') (by omega)
    have OO : OwnB (((w5.setCell ⟨w1.heap.size, 0, none⟩ (.int .i64 t')).setCell ⟨w1.heap.size, 1, none⟩ (.int .i64 q')).setCell ⟨w1.heap.size, 2, none⟩ (.int .i64 n')) (w.heap.size + 1) (.slice ad data.length cp) data := ownsRow_setCell_other (ownsRow_setCell_other (ownsRow_setCell_other hv5 hvn _) hvn _) hvn _
    have HC := ((hc5.set (b := w1.heap.size) (o := 0) (by omega) (.int .i64 t')).set (b := w1.heap.size) (o := 1) (by omega) (.int .i64 q')).set (b := w1.heap.size) (o := 2) (by omega) (.int .i64 n')
    have HG := grownNew (b := w1.heap.size) (o := 2) (grownNew (b := w1.heap.size) (o := 1) (grownNew (b := w1.heap.size) (o := 0) hgC (by omega) (.int .i64 t')) (by omega) (.int .i64 q')) (by omega) (.int .i64 n')
    go_wp2
    obtain ⟨q0, q1, q2, q3, q4⟩ := (RR.set (.int .i64 t') (.int .i64 q') (.int .i64 n') (.bool D) (.slice ad data.length cp)).1
    exact bodyPost_ret (v := .agg #[.int .i64 t', .int .i64 q', .int .i64 n', .bool D, .slice ad data.length cp]) (by simp [results, Try.results21, go_sem, q0, q1, q2, q3, q4]) rfl ⟨t', q', n', D, _, data, rfl, by exact hdl, ownBase (OO.set5 (b := w.heap.size) (by omega) _ _ _ _ _) (by omega), HC.set5 hC _ _ _ _ _, grownSet5 HG (Nat.le_refl _) _ _ _ _ _⟩
  · by_cases hk1 : x = 1
    · subst hk1
      have RR := r4.other (c := w1.heap.size) (o := 3) (x := .bool (!D)) (by omega)
      have OO : OwnB (w4.setCell ⟨w1.heap.size, 3, none⟩ (.bool (!D))) (w.heap.size + 1) (.slice ad data.length cp) data := ownsRow_setCell_other hv4 hvn _
      have HC := hc4.set (b := w1.heap.size) (o := 3) (by omega) (.bool (!D))
      have HG := grownNew (b := w1.heap.size) (o := 3) hgB (by omega) (.bool (!D))
      obtain ⟨⟨c0, c1, c2, c3, c4⟩, g0, g1, g2, g3, g4⟩ := id f4
      obtain ⟨⟨p0, p1, p2, p3, p4⟩, m0, m1, m2, m3, m4⟩ := id r4
      go_wp2
      obtain ⟨q0, q1, q2, q3, q4⟩ := (RR.set (.int .i64 t) (.int .i64 q) (.int .i64 n) (.bool (!D)) (.slice ad data.length cp)).1
      exact bodyPost_ret (v := .agg #[.int .i64 t, .int .i64 q, .int .i64 n, .bool (!D), .slice ad data.length cp]) (by simp [results, Try.results21, go_sem, q0, q1, q2, q3, q4]) rfl ⟨t, q, n, (!D), _, data, rfl, by exact hdl, ownBase (OO.set5 (b := w.heap.size) (by omega) _ _ _ _ _) (by omega), HC.set5 hC _ _ _ _ _, grownSet5 HG (Nat.le_refl _) _ _ _ _ _⟩
    · by_cases hk2 : x = 2
      · subst hk2
        go_wp2_with fail
        refine (l1Below C l 2 _ hc4 (by omega)).mono ?_
        rintro e w5 ⟨y, rfl, hy0, hy1, -, hc5, hg5⟩
        have hy2 := hy1 (by omega)
        obtain ⟨m, hm⟩ : ∃ m : Nat, (200 : Int) + y = (m : Int) := ⟨(200 + y).toNat, by omega⟩
        have hml : m ≤ 1000 := by omega
        have f5 := f4.grown hg5 (by omega)
        have r5 := r4.grown hg5 (by omega)
        have hgC := grownTrans hgB hg5
        have hz5 := hg5.size
        obtain ⟨i0, hi, hz0', hz1, hz2⟩ := info_parts Try.info5
        obtain ⟨w6, hrun, hown, hgrow⟩ := run_make_full (P := Try.prog) w5 w5.heap.size 22 5 i0 (.int .u8 0) 1 Try.underlying22 hi hz0' hz1 .i64 .i64 m (by rw [hz2]; omega) (by unfold maxLen; omega) (Nat.le_refl _)
        have hbel : Below w5.heap.size w5 w6 := (Below.refl _ _).grown hgrow (Nat.le_refl _) (fun k h => by cases h)
        rw [Nat.mul_one, show (Value.int .u8 0).cells = #[.int .u8 0] from rfl, toList_madeCells_one] at hown
        have hO : OwnB w6 w5.heap.size (.slice (some ⟨w5.heap.size, 0, none⟩) (List.replicate m (0 : UInt8)).length m) (List.replicate m (0 : UInt8)) := by
          unfold OwnB
          rw [By_zeros, List.length_replicate]
          exact hown
        rw [List.length_replicate] at hO
        have f6 := f5.below hbel
        have r6 := r5.below hbel
        have hc6 := hc5.below hbel
        have hgD := grownTrans hgC (show w5.grownBy w6 (some C) from ⟨hbel.os, hbel.tape, hbel.output, hbel.size, fun k hk _ => hbel.block k hk⟩)
        have hF5 := f5.lt
        clear hown hgrow hz0' hz1 hz2 hi f4 r4 hv4 hgB hg5 hc4 f5 r5 hy1
        have RR := r6.other (c := w1.heap.size) (o := 4) (x := .slice (some ⟨w5.heap.size, 0, none⟩) m m) (by omega)
        have OO : OwnB (w6.setCell ⟨w1.heap.size, 4, none⟩ (.slice (some ⟨w5.heap.size, 0, none⟩) m m)) (w.heap.size + 1) (.slice (some ⟨w5.heap.size, 0, none⟩) m m) (List.replicate m (0 : UInt8)) := ownBase (ownsRow_setCell_below hO (a := ⟨w1.heap.size, 4, none⟩) hF5 _) (by omega)
        have HC := hc6.set (b := w1.heap.size) (o := 4) (by omega) (.slice (some ⟨w5.heap.size, 0, none⟩) m m)
        have HG := grownNew (b := w1.heap.size) (o := 4) hgD (by omega) (.slice (some ⟨w5.heap.size, 0, none⟩) m m)
        obtain ⟨⟨c0, c1, c2, c3, c4⟩, g0, g1, g2, g3, g4⟩ := id f6
        obtain ⟨⟨p0, p1, p2, p3, p4⟩, m0, m1, m2, m3, m4⟩ := id r6
        go_wp2
        obtain ⟨q0, q1, q2, q3, q4⟩ := (RR.set (.int .i64 t) (.int .i64 q) (.int .i64 n) (.bool D) (.slice (some ⟨w5.heap.size, 0, none⟩) m m)).1
        exact bodyPost_ret (v := .agg #[.int .i64 t, .int .i64 q, .int .i64 n, .bool D, .slice (some ⟨w5.heap.size, 0, none⟩) m m]) (by simp [results, Try.results21, go_sem, q0, q1, q2, q3, q4]) rfl ⟨t, q, n, D, _, List.replicate m (0 : UInt8), rfl, by rw [List.length_replicate]; exact hml, ownBase (OO.set5 (b := w.heap.size) (by omega) _ _ _ _ _) (by omega), HC.set5 hC _ _ _ _ _, grownSet5 HG (Nat.le_refl _) _ _ _ _ _⟩
      · have RR := r4
        have OO := hv4
        have HC := hc4
        have HG := hgB
        obtain ⟨⟨c0, c1, c2, c3, c4⟩, g0, g1, g2, g3, g4⟩ := id f4
        obtain ⟨⟨p0, p1, p2, p3, p4⟩, m0, m1, m2, m3, m4⟩ := id r4
        go_wp2
        obtain ⟨q0, q1, q2, q3, q4⟩ := (RR.set (.int .i64 t) (.int .i64 q) (.int .i64 n) (.bool D) (.slice ad data.length cp)).1
        exact bodyPost_ret (v := .agg #[.int .i64 t, .int .i64 q, .int .i64 n, .bool D, .slice ad data.length cp]) (by simp [results, Try.results21, go_sem, q0, q1, q2, q3, q4]) rfl ⟨t, q, n, D, _, data, rfl, by exact hdl, ownBase (OO.set5 (b := w.heap.size) (by omega) _ _ _ _ _) (by omega), HC.set5 hC _ _ _ _ _, grownSet5 HG (Nat.le_refl _) _ _ _ _ _⟩

theorem drawFl (a : Option Addr) (cap : Nat) (l : List UInt8) (w : World) (hl : l.length ≤ 1048576) (hr : RdA w a l) :
    Calls Try.prog 6 #[.slice a l.length cap] w fun e w' => ∃ (t q n : Int) (d : Bool) (v : Value) (data : List UInt8), e = .returned (.agg #[.int .i64 t, .int .i64 q, .int .i64 n, .bool d, v]) ∧ data.length ≤ 1000 ∧ OwnB w' w.heap.size v data ∧ Below w.heap.size w w' := by
  have r0 := slot5fNew w (.int .i64 0) (.int .i64 0) (.int .i64 0) (.bool false) (.slice none 0 0) 27
  have b0 := bel1 w (.cells #[.int .i64 0, .int .i64 0, .int .i64 0, .bool false, .slice none 0 0] 27)
  go_enter Try.func6, Try.ntmps6
  go_wp2_with fail
  refine (l1New a cap l _ hl (hr.below b0)).mono ?_
  rintro e w1 ⟨rfl, hc1, hb1⟩
  have B1 := behind b0 hb1
  have r1 := r0.below hb1
  have e0 : (w.alloc (.cells #[.int .i64 0, .int .i64 0, .int .i64 0, .bool false, .slice none 0 0] 27)).heap.size = w.heap.size + 1 := by simp
  rw [e0] at hc1
  have hlt := r1.lt
  have hcl := hc1.lt
  go_wp2_with fail
  refine (l8Any (w.heap.size + 1) l _ hc1).mono ?_
  rintro e w2 ⟨t, q, n, D, v, data, rfl, hdl, hv, hc2, hg2⟩
  have B2 := belowOf B1 hg2 (by omega)
  have r2 := r1.grown hg2 (by omega)
  obtain ⟨ad, cp, rfl, -, -⟩ := hv.form
  obtain ⟨⟨p0, p1, p2, p3, p4⟩, m0, m1, m2, m3, m4⟩ := id r2
  go_wp2
  obtain ⟨q0, q1, q2, q3, q4⟩ := (r2.set (.int .i64 t) (.int .i64 q) (.int .i64 n) (.bool D) (.slice ad data.length cp)).1
  exact bodyPost_ret (v := .agg #[.int .i64 t, .int .i64 q, .int .i64 n, .bool D, .slice ad data.length cp]) (by simp [results, Try.results6, go_sem, q0, q1, q2, q3, q4]) rfl ⟨t, q, n, D, _, data, rfl, hdl, ownBase (hv.set5 (b := w.heap.size) hlt _ _ _ _ _) (Nat.le_of_lt hlt), set5 B2 (Nat.le_refl _) _ _ _ _ _⟩
end Go.Proofs.Ytpejeoekpejblad.Wk
