/- What l8Draw and l8Any come to: a right file; whatever file of few bytes. -/
import Derived.Test.YtpejeoekpejbladDrSt
import Derived.Test.YtpejeoekpejbladDrX
import Derived.Test.YtpejeoekpejbladDrawNums
import Derived.Test.YtpejeoekpejbladFlT
import Derived.Deep.Cut
namespace Go.Proofs.Ytpejeoekpejblad.Wk
set_option linter.unusedVariables false
open Go.ChangeShapes Go.WideShapes Go.ChangeAt Go.RowKit

theorem OwnB.form {w : World} {base : Nat} {v : Value} {l : List UInt8} (h : OwnB w base v l) : ∃ a cap, v = .slice a l.length cap ∧ RdA w a l ∧ (a = none → cap = 0) := by
  rcases h.2 with ⟨e, h0⟩ | ⟨g, cap, cur, e1, -⟩
  · have hl : l = [] := List.eq_nil_of_length_eq_zero h0
    subst hl
    exact ⟨none, 0, e, RdA.nil _ _, fun _ => rfl⟩
  · subst e1
    exact ⟨_, cap, rfl, RdA.own h, fun e => by cases e⟩
theorem OwnB.rdv {w : World} {base cp : Nat} {a : Option Addr} {l : List UInt8} (h : OwnB w base (.slice a l.length cp) l) : RdA w a l := RdA.own h
theorem ownNil (w : World) (base : Nat) : OwnB w base (.slice none 0 0) [] := ⟨rfl, .inl ⟨rfl, rfl⟩⟩
theorem OwnB.grow {w w' : World} {base C : Nat} {v : Value} {l : List UInt8} (h : OwnB w base v l) (hg : w.grownBy w' (some C)) (hC : C < base) : OwnB w' base v l :=
  World.ownsRow.kept h hg (.inr (fun e => by have := (World.ownsRow.lt h C e).1; omega))
theorem OwnB.setOther {w : World} {base b o : Nat} {v : Value} {l : List UInt8} (h : OwnB w base v l) (hb : b < base) (u : Value) : OwnB (w.setCell ⟨b, o, none⟩ u) base v l := ownsRow_setCell_below h hb u
theorem grownSet5 {w w1 : World} {r : Option Nat} {b : Nat} (h : w.grownBy w1 r) (hb : w.heap.size ≤ b) (v0 v1 v2 v3 v4 : Value) :
    w.grownBy (((((w1.setCell ⟨b, 0, none⟩ v0).setCell ⟨b, 1, none⟩ v1).setCell ⟨b, 2, none⟩ v2).setCell ⟨b, 3, none⟩ v3).setCell ⟨b, 4, none⟩ v4) r :=
  grownNew (grownNew (grownNew (grownNew (grownNew h hb _) hb _) hb _) hb _) hb _
theorem Cur.set5 {w : World} {C b : Nat} {l : List UInt8} (hc : Cur w C l) (h : C < b) (v0 v1 v2 v3 v4 : Value) :
    Cur (((((w.setCell ⟨b, 0, none⟩ v0).setCell ⟨b, 1, none⟩ v1).setCell ⟨b, 2, none⟩ v2).setCell ⟨b, 3, none⟩ v3).setCell ⟨b, 4, none⟩ v4) C l :=
  ((((hc.set h _).set h _).set h _).set h _).set h _
theorem OwnB.set5 {w : World} {base b : Nat} {v : Value} {l : List UInt8} (h : OwnB w base v l) (hb : b < base) (v0 v1 v2 v3 v4 : Value) :
    OwnB (((((w.setCell ⟨b, 0, none⟩ v0).setCell ⟨b, 1, none⟩ v1).setCell ⟨b, 2, none⟩ v2).setCell ⟨b, 3, none⟩ v3).setCell ⟨b, 4, none⟩ v4) base v l :=
  ((((h.setOther hb _).setOther hb _).setOther hb _).setOther hb _).setOther hb _

set_option maxHeartbeats 2000000 in
set_option maxRecDepth 100000 in
theorem l8Draw (C : Nat) (l : List UInt8) (w : World) (hc : Cur w C l) :
    Calls Try.prog 32 #[.pointer (some ⟨C, 0, none⟩)] w fun e w' => ∃ (t q n : Int) (d : Bool) (v : Value) (data : List UInt8), e = .returned (.agg #[.int .i64 t, .int .i64 q, .int .i64 n, .bool d, v]) ∧ fileB t q n d data.length = true ∧ OwnB w' w.heap.size v data ∧ Cur w' C l ∧ w.grownBy w' (some C) := by
  have hC := hc.lt
  have r0 := slot5fNew w (.int .i64 0) (.int .i64 0) (.int .i64 0) (.bool false) (.slice none 0 0) 27
  have hg0 : w.grownBy (w.alloc (.cells #[.int .i64 0, .int .i64 0, .int .i64 0, .bool false, .slice none 0 0] 27)) (some C) := World.grownBy_alloc _ _ _
  go_enter Try.func32, Try.ntmps32
  go_wp2_with fail
  refine (l2Draw C l _ (hc.below (bel1 _ _))).mono ?_
  rintro e w1 ⟨t, q, n, rfl, ht, hq, hn, hc1, hg1⟩
  have hs : Sm.ok t q n = true := Sm.ok_mk ⟨⟨by omega, by omega⟩, ⟨by omega, by omega⟩, by omega, by omega⟩
  have r1 := r0.grown hg1 (by omega)
  go_wp2_with fail
  refine (l1Once C l 4 _ hc1 (by omega)).mono ?_
  rintro e w2 ⟨D, rfl, hc2, hg2⟩
  have r2 := r1.grown hg2 (by omega)
  have hgA := grownTrans (grownTrans hg0 hg1) hg2
  have f3 := slot5fNew w2 (.int .i64 t) (.int .i64 q) (.int .i64 n) (.bool D) (.slice none 0 0) 27
  have r3 := r2.below (bel1 w2 (.cells #[.int .i64 t, .int .i64 q, .int .i64 n, .bool D, .slice none 0 0] 27))
  have hc3 := hc2.below (bel1 w2 (.cells #[.int .i64 t, .int .i64 q, .int .i64 n, .bool D, .slice none 0 0] 27))
  have hg3 := grownTrans hgA (World.grownBy_alloc w2 (.cells #[.int .i64 t, .int .i64 q, .int .i64 n, .bool D, .slice none 0 0] 27) (some C))
  have hz := hgA.size
  have hRF : w.heap.size < w2.heap.size := r2.lt
  have hF : w2.heap.size < (w2.alloc (.cells #[.int .i64 t, .int .i64 q, .int .i64 n, .bool D, .slice none 0 0] 27)).heap.size := f3.lt
  clear hg0 hg1 hg2 r0 r1 r2 hc1 hc2
  go_upto_region 2 with fail
  generalize w2.alloc (.cells #[.int .i64 t, .int .i64 q, .int .i64 n, .bool D, .slice none 0 0] 27) = w3 at f3 r3 hc3 hg3 hF ⊢
  obtain ⟨⟨c0, c1, c2, c3, c4⟩, g0, g1, g2, g3, g4⟩ := id f3
  obtain ⟨⟨p0, p1, p2, p3, p4⟩, m0, m1, m2, m3, m4⟩ := id r3
  cases D with
  | true =>
    go_wp2
    obtain ⟨q0, q1, q2, q3, q4⟩ := (r3.set (.int .i64 t) (.int .i64 q) (.int .i64 n) (.bool true) (.slice none 0 0)).1
    exact bodyPost_ret (v := .agg #[.int .i64 t, .int .i64 q, .int .i64 n, .bool true, .slice none 0 0]) (by simp [results, Try.results32, go_sem, q0, q1, q2, q3, q4]) rfl ⟨t, q, n, true, .slice none 0 0, [], rfl, by unfold fileB; rw [hs]; rfl, ownNil _ _, hc3.set5 hC _ _ _ _ _, grownSet5 hg3 (Nat.le_refl _) _ _ _ _ _⟩
  | false =>
    go_wp2_with fail
    refine (l1Some C l _ hc3).mono ?_
    rintro e w4 ⟨v, data, rfl, hd9, hv, hc4, hg4⟩
    have hv1 : OwnB w4 w.heap.size v data := ownBase hv.1 hg3.size
    have hvF : OwnB w4 w3.heap.size v data := hv.1
    obtain ⟨gv, cv, rfl, -, -, -, -⟩ := hv.shape
    have f4 := f3.grown hg4 (by omega)
    have r4 := r3.grown hg4 (by omega)
    have hg5 := grownTrans hg3 hg4
    clear c0 c1 c2 c3 c4 g0 g1 g2 g3 g4 p0 p1 p2 p3 p4 m0 m1 m2 m3 m4
    obtain ⟨⟨c0, c1, c2, c3, c4⟩, g0, g1, g2, g3, g4⟩ := id f4
    obtain ⟨⟨p0, p1, p2, p3, p4⟩, m0, m1, m2, m3, m4⟩ := id r4
    go_wp2
    obtain ⟨q0, q1, q2, q3, q4⟩ := ((r4.other (c := w2.heap.size) (o := 4) (x := .slice (some ⟨gv, 0, none⟩) data.length cv) (by omega)).set (.int .i64 t) (.int .i64 q) (.int .i64 n) (.bool false) (.slice (some ⟨gv, 0, none⟩) data.length cv)).1
    have ho := (hvF.setOther (b := w2.heap.size) (o := 4) hF (.slice (some ⟨gv, 0, none⟩) data.length cv)).set5 (b := w.heap.size) (by omega) (.int .i64 t) (.int .i64 q) (.int .i64 n) (.bool false) (.slice (some ⟨gv, 0, none⟩) data.length cv)
    exact bodyPost_ret (v := .agg #[.int .i64 t, .int .i64 q, .int .i64 n, .bool false, .slice (some ⟨gv, 0, none⟩) data.length cv]) (by simp [results, Try.results32, go_sem, q0, q1, q2, q3, q4]) rfl ⟨t, q, n, false, _, data, rfl, by unfold fileB; rw [hs]; simp; omega, ownBase ho hg3.size, (hc4.set (b := w2.heap.size) (by omega) _).set5 hC _ _ _ _ _, grownSet5 (grownNew hg5 (by omega) _) (Nat.le_refl _) _ _ _ _ _⟩
end Go.Proofs.Ytpejeoekpejblad.Wk
