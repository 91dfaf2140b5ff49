/- What l5Draw of the specification comes to: devices that are right, a ring built of them. -/
import Derived.Test.YtcejeiakgmamdacDr6
import Derived.Test.YtcejeiakgmamdacBuS
import Derived.BigRegion
namespace Go.Proofs.Ytcejeiakgmamdac.Wk
set_option linter.unusedVariables false
open Go.ChangeShapes Go.WideShapes Go.ChangeAt Go.RowKit

theorem grownSet7 {w w1 : World} {C b o : Nat} {u : Value} (h : w.grownBy w1 (some C)) (hb : w.heap.size ≤ b) : w.grownBy (w1.setCell ⟨b, o, none⟩ u) (some C) :=
  grownVia h (grownSet w1 b o u) (fun j e => by cases e; exact hb)
theorem OwnP.keptC {w w' : World} {base C : Nat} {v : Value} {Q : List (List Int)} (h : OwnP w base v Q) (hg : w.grownBy w' (some C)) (hC : C < base) : OwnP w' base v Q := by
  obtain ⟨vs, h1, h2, h3⟩ := h
  have key : ∀ {e n : Nat} {x : Value} {xs : List Value}, w.ownsRow base e 1 x n xs → w'.ownsRow base e 1 x n xs := fun hx => hx.kept hg (.inr (fun e => by
    have := (World.ownsRow.lt hx C e).1
    omega))
  exact ⟨vs, key h1, fun i hi hk => let ⟨x, e1, e2, e3⟩ := h2 i hi hk; ⟨x, e1, key e2, e3⟩, h3⟩
theorem OwnP.form {w : World} {base n cap : Nat} {a : Option Addr} {Q : List (List Int)} (h : OwnP w base (.slice a n cap) Q) (h0 : 0 < Q.length) : ∃ g, a = some ⟨g, 0, none⟩ ∧ base ≤ g := by
  obtain ⟨vs, h1, _⟩ := h
  rcases h1.2 with ⟨e, h2⟩ | ⟨g, cap', cur, e, _⟩
  · omega
  · simp only [Value.slice.injEq] at e
    obtain ⟨rfl, -, -⟩ := e
    exact ⟨g, rfl, (World.ownsRow.lt h1 g rfl).1⟩

theorem rdsG7 {w w' : World} {C g : Nat} {X : List Sm.St} (h : RdS w (some ⟨g, 0, none⟩) X) (hg : w.grownBy w' (some C)) (hne : g ≠ C) : RdS w' (some ⟨g, 0, none⟩) X := by
  intro i hi
  obtain ⟨b, off, e, p⟩ := h i hi
  have e' := e
  simp only [Option.some.injEq, Addr.mk.injEq, and_true] at e'
  obtain ⟨rfl, rfl⟩ := e'
  obtain ⟨p0, p1, p2⟩ := p
  have hn : some g ≠ some C := fun e => hne (Option.some.inj e)
  exact ⟨g, 0, e, hg.cell p0 hn, hg.cell p1 hn, hg.cell p2 hn⟩

set_option maxHeartbeats 4000000 in
set_option maxRecDepth 100000 in
theorem l5Draw (C : Nat) (l : List UInt8) (w : World) (hc : Cur w C l) :
    Calls Try.prog 55 #[.pointer (some ⟨C, 0, none⟩)] w fun e w' => ∃ (X : List Sm.St) (g cp reps p gI ca : Nat), e = .returned (.tuple #[.slice (some ⟨g, 0, none⟩) X.length cp, .agg #[.int .i64 (reps : Int), .slice (some ⟨gI, 0, none⟩) p ca]]) ∧
      X.length ≤ 6 ∧ (∀ d ∈ X, Few d) ∧ Dv.devs X = true ∧ 1 ≤ reps ∧ reps ≤ 3 ∧ reps ≤ X.length ∧ 1 ≤ p ∧ p ≤ 16 ∧ w.heap.size ≤ g ∧ RdS w' (some ⟨g, 0, none⟩) X ∧ OwnP w' (g + 1) (.slice (some ⟨gI, 0, none⟩) p ca) (Rg.parts X reps p) ∧ Cur w' C l ∧ w.grownBy w' (some C) := by
  have hC := hc.lt
  have s0 := slot2New w (.int .i64 0) (.slice none 0 0) 29
  have b0 := bel1 w (.cells #[.int .i64 0, .slice none 0 0] 29)
  have hg0 : w.grownBy (w.alloc (.cells #[.int .i64 0, .slice none 0 0] 29)) (some C) := World.grownBy_alloc _ _ _
  have hc0 := hc.below b0
  have hs0 : (w.alloc (.cells #[.int .i64 0, .slice none 0 0] 29)).heap.size = w.heap.size + 1 := by simp
  go_enter Try.func55, Try.ntmps55
  go_wp2_with fail
  generalize w.alloc (.cells #[.int .i64 0, .slice none 0 0] 29) = wA at s0 b0 hg0 hc0 hs0 ⊢
  refine (l4DrawR C l _ hc0).mono ?_
  rintro e w1 ⟨X, g, cp, rfl, hX2, hX6, hfew, hgg, hown, hc1, hg1, hdv⟩
  have hr1 := (Ss_row X).rd hown
  have s1 := Slot2.grown s0 hg1 (fun e => by simp only [Option.some.injEq] at e; omega)
  have hG1 := grownTrans hg0 hg1
  clear hg0 hg1 hown s0 b0 hc0
  go_wp2_with fail
  refine (l1Below C l 3 _ hc1 (by omega)).mono ?_
  rintro e w2 ⟨x, rfl, hx0, hx1, -, hc2, hg2⟩
  have hx3 := hx1 (by omega)
  obtain ⟨x, rfl⟩ := Int.eq_ofNat_of_zero_le hx0
  have hr2 := rdsG7 hr1 hg2 (by omega)
  have s2 := Slot2.grown s1 hg2 (fun e => by simp only [Option.some.injEq] at e; omega)
  have hG2 := grownTrans hG1 hg2
  have hz2 := hG2.size
  clear hx1 hg2 s1 hr1 hG1 hc1 hx0
  obtain ⟨r, hr, hr1, hr3⟩ : ∃ r : Nat, (1 : Int) + (x : Int) = (r : Int) ∧ 1 ≤ r ∧ r ≤ 3 := ⟨1 + x, by simp, by omega, by omega⟩
  have hI2 := rdiNew (w := w2) (t := 3) (ns := [4, 8, 1, 5, 16]) (cs := #[.int .i64 4, .int .i64 8, .int .i64 1, .int .i64 5, .int .i64 16]) rfl
  have b2 := bel1 w2 (.cells #[.int .i64 4, .int .i64 8, .int .i64 1, .int .i64 5, .int .i64 16] 3)
  have cI := l1Int C w2.heap.size 0 5 5 l [4, 8, 1, 5, 16] _ rfl (hc2.below b2) (by simp) (by simp) hI2 (by omega)
  have s2' := s2.below b2
  have hr2' := hr2.below b2
  have hG2' := grownTrans hG2 (World.grownBy_alloc w2 (.cells #[.int .i64 4, .int .i64 8, .int .i64 1, .int .i64 5, .int .i64 16] 3) _)
  clear s2 hr2 hG2 hI2 hc2
  have REST : Hid (∀ (R : Nat), 1 ≤ R → R ≤ 3 → R ≤ X.length → ∀ w3, Cur w3 C l → (w2.alloc (.cells #[.int .i64 4, .int .i64 8, .int .i64 1, .int .i64 5, .int .i64 16] 3)).grownBy w3 (some C) → ∀ p : Nat, 1 ≤ p → p ≤ 16 →
      Calls Try.prog 12 #[.slice (some ⟨g, 0, none⟩) X.length cp, .int .i64 (p : Int), .int .i64 (R : Int)] w3 fun e w4 => ∃ gI ca, e = .returned (.tuple #[.agg #[.int .i64 (R : Int), .slice (some ⟨gI, 0, none⟩) p ca], .bool true]) ∧
        Slot2 w4 w.heap.size (.int .i64 0) (.slice none 0 0) ∧ RdS w4 (some ⟨g, 0, none⟩) X ∧ OwnP w4 w3.heap.size (.slice (some ⟨gI, 0, none⟩) p ca) (Rg.parts X R p) ∧ Cur w4 C l ∧ w.grownBy w4 (some C) ∧ w.heap.size < w3.heap.size ∧ g < w3.heap.size) := by
    intro R hR1 hR3 hRX w3 hc3 hg3 p hp1 hp16
    have hr3 := rdsG7 hr2' hg3 (by omega)
    refine (specBuildYes _ _ X p R w3 hr3 hdv (by omega) (by omega) (by omega) (by omega) (by omega)).mono ?_
    rintro e w4 ⟨a, ca, rfl, hO, hb4⟩
    have hpl := Rg.parts_len X R p
    obtain ⟨gI, rfl, -⟩ := OwnP.form hO (by omega)
    have s3 := Slot2.grown s2' hg3 (fun e => by simp only [Option.some.injEq] at e; omega)
    exact ⟨gI, ca, rfl, s3.below hb4, hr3.below hb4, hO, hc3.below hb4, grownBelow (grownTrans hG2' hg3) hb4, s3.lt, by
      obtain ⟨b, off, e, p0, -⟩ := hr3 0 (by omega)
      cases e
      exact World.block_lt_of_cell? w3 _ p0⟩
  have hin := fun j hj => inF [4, 8, 1, 5, 16] 1 16 (by decide) j hj
  clear s2' hr2' hG2' hc
  by_cases hrX : (X.length : Int) < (r : Int)
  · have hrn : X.length < r := by omega
    go_wp2_with fail
    refine cI.mono ?_
    rintro e w3 ⟨j, hj, rfl, hc3, hg3⟩
    have hp := hin j hj
    generalize ([4, 8, 1, 5, 16] : List Int)[j] = pp at hp
    obtain ⟨p, rfl⟩ : ∃ p : Nat, pp = p := ⟨pp.toNat, by omega⟩
    go_wp2_with fail
    refine (REST.out X.length (by omega) (by omega) (by omega) w3 hc3 hg3 p (by omega) (by omega)).mono ?_
    rintro e w4 ⟨gI, ca, rfl, s4, hr4, hO4, hc4, hg4, hlt4, hlg4⟩
    have b4 := bel1 w4 (.cells #[.int .i64 (X.length : Int), .slice (some ⟨gI, 0, none⟩) p ca] 29)
    have v4 := slot2New w4 (.int .i64 (X.length : Int)) (.slice (some ⟨gI, 0, none⟩) p ca) 29
    have s5 := s4.below b4
    have hr5 := hr4.below b4
    have hO5 := hO4.below b4
    have hc5 := hc4.below b4
    have hg5 := grownBelow hg4 b4
    have hls := s4.lt
    clear s4 hr4 hO4 hc4 hg4 REST cI hin hj hc3 hg3
    obtain ⟨⟨t0, t1⟩, t2, t3⟩ := id s5
    obtain ⟨⟨v0, v1⟩, -⟩ := id v4
    have hgw : w.heap.size ≠ g := by omega
    have FIN : Hid (∀ w6, w6 = ((w4.alloc (.cells #[.int .i64 (X.length : Int), .slice (some ⟨gI, 0, none⟩) p ca] 29)).setCell ⟨w.heap.size, 0, none⟩ (.int .i64 (X.length : Int))).setCell ⟨w.heap.size, 1, none⟩ (.slice (some ⟨gI, 0, none⟩) p ca) →
        ((w4.alloc (.cells #[.int .i64 (X.length : Int), .slice (some ⟨gI, 0, none⟩) p ca] 29)).setCell ⟨w.heap.size, 0, none⟩ (.int .i64 (X.length : Int))).cell? ⟨w.heap.size, 0, none⟩ = some (.int .i64 (X.length : Int)) ∧ w6.cell? ⟨w.heap.size, 1, none⟩ = some (.slice (some ⟨gI, 0, none⟩) p ca) ∧ RdS w6 (some ⟨g, 0, none⟩) X ∧ OwnP w6 (g + 1) (.slice (some ⟨gI, 0, none⟩) p ca) (Rg.parts X X.length p) ∧ Cur w6 C l ∧ w.grownBy w6 (some C)) := by
      rintro w6 rfl
      generalize w4.alloc (.cells #[.int .i64 (X.length : Int), .slice (some ⟨gI, 0, none⟩) p ca] 29) = wB at s5 hr5 hO5 hc5 hg5 t0 t1
      have e0 : (wB.setCell ⟨w.heap.size, 0, none⟩ (.int .i64 (X.length : Int))).cell? ⟨w.heap.size, 0, none⟩ = some (.int .i64 (X.length : Int)) := World.cell?_setCell_same' _ _ _ (by show (wB.cell? _).isSome = true; rw [t0]; rfl)
      have gA : wB.grownBy (wB.setCell ⟨w.heap.size, 0, none⟩ (.int .i64 (X.length : Int))) (some w.heap.size) := grownSet wB w.heap.size 0 _
      have gB := grownTrans gA (grownSet (wB.setCell ⟨w.heap.size, 0, none⟩ (.int .i64 (X.length : Int))) w.heap.size 1 (.slice (some ⟨gI, 0, none⟩) p ca))
      refine ⟨?_, ?_, rdsG7 hr5 gB (by omega), (OwnP.keptC hO5 gB hlt4).mono (by omega), hc5.keep gB (fun j e => by cases e; exact hC), grownVia hg5 gB (fun j e => by cases e; exact Nat.le_refl _)⟩
      · exact e0
      · exact World.cell?_setCell_same' _ _ _ (by rw [World.cell?_setCell_other _ _ _ _ (by simp)]; show (wB.cell? _).isSome = true; rw [t1]; rfl)
    go_wp2_with fail
    generalize w4.alloc (.cells #[.int .i64 (X.length : Int), .slice (some ⟨gI, 0, none⟩) p ca] 29) = wB at s5 hr5 hO5 hc5 hg5 t0 t1 t2 t3 v0 v1 FIN ⊢
    go_region
    all_goals
      go_wp2
      obtain ⟨f0, f1, f2, f3, f4, f5⟩ := FIN.out _ rfl
      refine bodyPost_ret (v := .tuple #[.slice (some ⟨g, 0, none⟩) X.length cp, .agg #[.int .i64 (X.length : Int), .slice (some ⟨gI, 0, none⟩) p ca]]) ?_ rfl ?_
      · simp [results, Try.results55, go_sem, f0, f1]
      · exact ⟨X, g, cp, X.length, p, gI, ca, rfl, hX6, hfew, hdv, by omega, by omega, by omega, by omega, by omega, by omega, f2, f3, f4, ⟨f5.os, f5.tape, f5.output, f5.size, f5.block⟩⟩
  · have hrn : ¬ X.length < r := by omega
    have hrd : decide (X.length < r) = false := decide_eq_false hrn
    go_wp2_with fail
    refine cI.mono ?_
    rintro e w3 ⟨j, hj, rfl, hc3, hg3⟩
    have hp := hin j hj
    generalize ([4, 8, 1, 5, 16] : List Int)[j] = pp at hp
    obtain ⟨p, rfl⟩ : ∃ p : Nat, pp = p := ⟨pp.toNat, by omega⟩
    go_wp2_with fail
    refine (REST.out r (by omega) (by omega) (by omega) w3 hc3 hg3 p (by omega) (by omega)).mono ?_
    rintro e w4 ⟨gI, ca, rfl, s4, hr4, hO4, hc4, hg4, hlt4, hlg4⟩
    have b4 := bel1 w4 (.cells #[.int .i64 (r : Int), .slice (some ⟨gI, 0, none⟩) p ca] 29)
    have v4 := slot2New w4 (.int .i64 (r : Int)) (.slice (some ⟨gI, 0, none⟩) p ca) 29
    have s5 := s4.below b4
    have hr5 := hr4.below b4
    have hO5 := hO4.below b4
    have hc5 := hc4.below b4
    have hg5 := grownBelow hg4 b4
    have hls := s4.lt
    clear s4 hr4 hO4 hc4 hg4 REST cI hin hj hc3 hg3
    obtain ⟨⟨t0, t1⟩, t2, t3⟩ := id s5
    obtain ⟨⟨v0, v1⟩, -⟩ := id v4
    have hgw : w.heap.size ≠ g := by omega
    have FIN : Hid (∀ w6, w6 = ((w4.alloc (.cells #[.int .i64 (r : Int), .slice (some ⟨gI, 0, none⟩) p ca] 29)).setCell ⟨w.heap.size, 0, none⟩ (.int .i64 (r : Int))).setCell ⟨w.heap.size, 1, none⟩ (.slice (some ⟨gI, 0, none⟩) p ca) →
        ((w4.alloc (.cells #[.int .i64 (r : Int), .slice (some ⟨gI, 0, none⟩) p ca] 29)).setCell ⟨w.heap.size, 0, none⟩ (.int .i64 (r : Int))).cell? ⟨w.heap.size, 0, none⟩ = some (.int .i64 (r : Int)) ∧ w6.cell? ⟨w.heap.size, 1, none⟩ = some (.slice (some ⟨gI, 0, none⟩) p ca) ∧ RdS w6 (some ⟨g, 0, none⟩) X ∧ OwnP w6 (g + 1) (.slice (some ⟨gI, 0, none⟩) p ca) (Rg.parts X r p) ∧ Cur w6 C l ∧ w.grownBy w6 (some C)) := by
      rintro w6 rfl
      generalize w4.alloc (.cells #[.int .i64 (r : Int), .slice (some ⟨gI, 0, none⟩) p ca] 29) = wB at s5 hr5 hO5 hc5 hg5 t0 t1
      have e0 : (wB.setCell ⟨w.heap.size, 0, none⟩ (.int .i64 (r : Int))).cell? ⟨w.heap.size, 0, none⟩ = some (.int .i64 (r : Int)) := World.cell?_setCell_same' _ _ _ (by show (wB.cell? _).isSome = true; rw [t0]; rfl)
      have gA : wB.grownBy (wB.setCell ⟨w.heap.size, 0, none⟩ (.int .i64 (r : Int))) (some w.heap.size) := grownSet wB w.heap.size 0 _
      have gB := grownTrans gA (grownSet (wB.setCell ⟨w.heap.size, 0, none⟩ (.int .i64 (r : Int))) w.heap.size 1 (.slice (some ⟨gI, 0, none⟩) p ca))
      refine ⟨?_, ?_, rdsG7 hr5 gB (by omega), (OwnP.keptC hO5 gB hlt4).mono (by omega), hc5.keep gB (fun j e => by cases e; exact hC), grownVia hg5 gB (fun j e => by cases e; exact Nat.le_refl _)⟩
      · exact e0
      · exact World.cell?_setCell_same' _ _ _ (by rw [World.cell?_setCell_other _ _ _ _ (by simp)]; show (wB.cell? _).isSome = true; rw [t1]; rfl)
    go_wp2_with fail
    generalize w4.alloc (.cells #[.int .i64 (r : Int), .slice (some ⟨gI, 0, none⟩) p ca] 29) = wB at s5 hr5 hO5 hc5 hg5 t0 t1 t2 t3 v0 v1 FIN ⊢
    go_region
    all_goals
      go_wp2
      obtain ⟨f0, f1, f2, f3, f4, f5⟩ := FIN.out _ rfl
      refine bodyPost_ret (v := .tuple #[.slice (some ⟨g, 0, none⟩) X.length cp, .agg #[.int .i64 (r : Int), .slice (some ⟨gI, 0, none⟩) p ca]]) ?_ rfl ?_
      · simp [results, Try.results55, go_sem, f0, f1]
      · exact ⟨X, g, cp, r, p, gI, ca, rfl, hX6, hfew, hdv, by omega, by omega, by omega, by omega, by omega, by omega, f2, f3, f4, ⟨f5.os, f5.tape, f5.output, f5.size, f5.block⟩⟩
end Go.Proofs.Ytcejeiakgmamdac.Wk
