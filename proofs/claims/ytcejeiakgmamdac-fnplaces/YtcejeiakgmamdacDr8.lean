/- What l5Any of the specification comes to: some devices, some ring, both as they read. -/
import Derived.Test.YtcejeiakgmamdacDr7
import Derived.Test.YtcejeiakgmamdacOwM
import Derived.Deep.AppendLies
import Derived.Deep.RegionLaw
import Derived.BigRegion
import Derived.WalkKit
import Derived.Deep.CutBlock
import Derived.Deep.DeepCutAuto
namespace Go.Proofs.Ytcejeiakgmamdac.Wk
set_option linter.unusedVariables false
open Go.ChangeShapes Go.WideShapes Go.ChangeAt Go.RowKit

/-- these lists of numbers, all of them at or above lo -/
def RdU (lo : Nat) (w : World) (a : Option Addr) (ps : List (List Int)) : Prop := ∀ i (h : i < ps.length), ∃ b off ai ci, a = some ⟨b, off, none⟩ ∧ lo ≤ b ∧ w.cell? ⟨b, off + i, none⟩ = some (.slice ai ps[i].length ci) ∧ RdZ w ai ps[i] ∧ (∀ x, ai = some x → lo ≤ x.block) ∧ ps[i].length ≤ ci ∧ (ai = none → ci = 0)
theorem RdU.rd {lo : Nat} {w : World} {a : Option Addr} {ps : List (List Int)} (h : RdU lo w a ps) : RdP w a ps := fun i hi =>
  let ⟨b, off, ai, ci, h1, _, h3, h4, _, h6, _⟩ := h i hi; ⟨b, off, ai, ci, h1, h3, h4, h6⟩
theorem RdU.mono {lo lo' : Nat} {w : World} {a : Option Addr} {ps : List (List Int)} (h : RdU lo w a ps) (hl : lo' ≤ lo) : RdU lo' w a ps := fun i hi =>
  let ⟨b, off, ai, ci, h1, h2, h3, h4, h5, h6⟩ := h i hi; ⟨b, off, ai, ci, h1, Nat.le_trans hl h2, h3, h4, fun x hx => Nat.le_trans hl (h5 x hx), h6⟩
theorem RdU.far {lo b' o : Nat} {w : World} {a : Option Addr} {ps : List (List Int)} {u : Value} (h : RdU lo w a ps) (hb : b' < lo) : RdU lo (w.setCell ⟨b', o, none⟩ u) a ps := by
  intro i hi
  obtain ⟨b, off, ai, ci, h1, h2, h3, h4, h5, h6⟩ := h i hi
  exact ⟨b, off, ai, ci, h1, h2, by rw [World.cell?_setCell_other _ _ _ _ (fun e => by have e' : b' = b := congrArg Addr.block e; omega)]; exact h3, h4.far (fun x hx => by have := h5 x hx; omega), h5, h6⟩
theorem RdU.below {lo : Nat} {w w' : World} {a : Option Addr} {ps : List (List Int)} (h : RdU lo w a ps) (hb : Below w.heap.size w w') : RdU lo w' a ps := by
  intro i hi
  obtain ⟨b, off, ai, ci, h1, h2, h3, h4, h5, h6⟩ := h i hi
  exact ⟨b, off, ai, ci, h1, h2, cellOn h3 hb, h4.below hb, h5, h6⟩
theorem nil_own8 {w : World} {base e n cap : Nat} {a : Option Addr} {xs : List Value} (h : w.ownsRow base e 1 (.slice a n cap) n xs) : a = none → cap = 0 := by
  rintro rfl
  rcases h.2 with ⟨e, _⟩ | ⟨g, cap', cur, e, _⟩
  · simp only [Value.slice.injEq] at e
    exact e.2.2
  · simp at e
theorem OwnP.rdU {w : World} {base n cap lo : Nat} {a : Option Addr} {ps : List (List Int)} (h : OwnP w base (.slice a n cap) ps) (hlo : lo ≤ base) : RdU lo w a ps := by
  obtain ⟨vs, h1, h2⟩ := h
  rcases h1.2 with ⟨e, h0⟩ | ⟨g, cap', cur, e, _⟩
  · intro i hi
    omega
  · simp only [Value.slice.injEq] at e
    obtain ⟨rfl, rfl, rfl⟩ := e
    intro i hi
    obtain ⟨u, e1, e2, -⟩ := h2.1 i hi hi
    obtain ⟨ai, ci, rfl⟩ := Zv_shape e2
    refine ⟨g, 0, ai, ci, rfl, Nat.le_trans hlo (World.ownsRow.lt h1 g rfl).1, by rw [Nat.zero_add, h1.cellAt i (by omega)]; exact e1, Zv_rd e2, ?_, own_cap e2, nil_own8 e2⟩
    rintro x rfl
    exact Nat.le_trans hlo (World.ownsRow.lt e2 x.block rfl).1
theorem fin8 {w w6 : World} {A C g : Nat} {X : List Sm.St} {l : List UInt8} {u v : Value} {a : Option Addr} {Q : List (List Int)} (s : Slot2 w6 A u v) (hX : RdS w6 (some ⟨g, 0, none⟩) X) (hgA : A < g)
    (hP : RdU (A + 1) w6 a Q) (hc : Cur w6 C l) (hCA : C < A) (hg : w.grownBy w6 (some C)) (hA : w.heap.size ≤ A) (x y : Value) :
    (w6.setCell ⟨A, 0, none⟩ x).cell? ⟨A, 0, none⟩ = some x ∧ ((w6.setCell ⟨A, 0, none⟩ x).setCell ⟨A, 1, none⟩ y).cell? ⟨A, 1, none⟩ = some y ∧ RdS ((w6.setCell ⟨A, 0, none⟩ x).setCell ⟨A, 1, none⟩ y) (some ⟨g, 0, none⟩) X ∧
      RdU (A + 1) ((w6.setCell ⟨A, 0, none⟩ x).setCell ⟨A, 1, none⟩ y) a Q ∧ Cur ((w6.setCell ⟨A, 0, none⟩ x).setCell ⟨A, 1, none⟩ y) C l ∧ w.grownBy ((w6.setCell ⟨A, 0, none⟩ x).setCell ⟨A, 1, none⟩ y) (some C) := by
  have gA : w6.grownBy ((w6.setCell ⟨A, 0, none⟩ x).setCell ⟨A, 1, none⟩ y) (some A) := grownTrans (grownSet w6 A 0 x) (grownSet _ A 1 y)
  refine ⟨World.cell?_setCell_same' _ _ _ (by rw [s.1.1]; rfl), World.cell?_setCell_same' _ _ _ (by rw [World.cell?_setCell_other _ _ _ _ (by simp), s.1.2]; rfl), rdsG7 hX gA (by omega), (hP.far (by omega)).far (by omega), hc.keep gA (fun j e => by cases e; exact hCA), grownVia hg gA (fun j e => by cases e; exact hA)⟩
theorem len8 {Q : List (List Int)} {k : Nat} {q : List Int} (h : ∀ x ∈ Q, x.length ≤ 4) (hq : q.length ≤ 4) : ∀ x ∈ Q.set k q, x.length ≤ 4 := fun x hx => (List.mem_or_eq_of_mem_set hx).elim (h x) (fun e => e ▸ hq)
theorem nil8 (lo : Nat) (w : World) (a : Option Addr) : RdU lo w a [] := fun i hi => absurd hi (Nat.not_lt_zero i)

set_option maxHeartbeats 4000000 in
set_option maxRecDepth 100000 in
theorem l5Any (C : Nat) (l : List UInt8) (w : World) (hc : Cur w C l) :
    Calls Try.prog 48 #[.pointer (some ⟨C, 0, none⟩)] w fun e w' => ∃ (X : List Sm.St) (g cp : Nat) (R : Int) (Q : List (List Int)) (a : Option Addr) (ca : Nat), e = .returned (.tuple #[.slice (some ⟨g, 0, none⟩) X.length cp, .agg #[.int .i64 R, .slice a Q.length ca]]) ∧
      X.length ≤ 6 ∧ (∀ d ∈ X, Few d) ∧ (0 ≤ R ∧ R ≤ 6) ∧ Q.length ≤ 16 ∧ (∀ q ∈ Q, q.length ≤ 4) ∧ w.heap.size ≤ g ∧ RdS w' (some ⟨g, 0, none⟩) X ∧ RdU w.heap.size w' a Q ∧ Cur w' C l ∧ w.grownBy w' (some C) := by
  have hC := hc.lt
  obtain ⟨j0, hj0, hy0, hy1, hy2⟩ := info_parts infoZ
  obtain ⟨A, hA⟩ : ∃ A, w.heap.size = A := ⟨_, rfl⟩
  have s0 := slot2New w (.int .i64 0) (.slice none 0 0) 29
  have b0 := bel1 w (.cells #[.int .i64 0, .slice none 0 0] 29)
  have hg0 : w.grownBy (w.alloc (.cells #[.int .i64 0, .slice none 0 0] 29)) (some C) := World.grownBy_alloc _ _ _
  have hc0 := hc.below b0
  have hs0 : (w.alloc (.cells #[.int .i64 0, .slice none 0 0] 29)).heap.size = w.heap.size + 1 := by simp
  go_enter Try.func48, Try.ntmps48
  go_wp2_with fail
  generalize w.alloc (.cells #[.int .i64 0, .slice none 0 0] 29) = wA at s0 b0 hg0 hc0 hs0 ⊢
  rw [hA] at s0 hs0 hC
  refine (l5Draw C l _ hc0).mono ?_
  rintro e w1 ⟨X, g, cp, reps, p, gI, ca, rfl, hX6, hfew, hdv, hr1, hr3, hrX, hp1, hp16, hgg, hX1, hO1, hc1, hg1⟩
  rw [hs0] at hgg
  have s1 := Slot2.grown s0 hg1 (fun e => by simp only [Option.some.injEq] at e; omega)
  have hG1 := grownTrans hg0 hg1
  have hAw := s1.lt
  have hpl := Rg.parts_len X reps p
  have hpe := Rg.parts_each X reps p
  have hgA : g ≠ A := by omega
  have hgC : g ≠ C := by omega
  clear hg0 hg1 s0 hc0 hs0
  obtain ⟨B, hB⟩ : ∃ B, w1.heap.size = B := ⟨_, rfl⟩
  have hgB : g < B := by
    obtain ⟨b, off, e, p0, -⟩ := hX1 0 (by omega)
    cases e
    have := World.block_lt_of_cell? w1 _ p0
    rw [hB] at this
    exact this
  have sB := slot2New w1 (.int .i64 (reps : Int)) (.slice (some ⟨gI, 0, none⟩) p ca) 29
  have bB := bel1 w1 (.cells #[.int .i64 (reps : Int), .slice (some ⟨gI, 0, none⟩) p ca] 29)
  rw [hB] at sB hAw
  have sA := s1.below bB
  have hXB := hX1.below bB
  have hcB := hc1.below bB
  have hGB := grownBelow hG1 bB
  have hHB : w1.grownBy (w1.alloc (.cells #[.int .i64 (reps : Int), .slice (some ⟨gI, 0, none⟩) p ca] 29)) (some C) := World.grownBy_alloc _ _ _
  have hgI : gI < B ∧ g < gI := by
    obtain ⟨_, _, _, _, _, h', h, _⟩ := hO1.at_ (k := 0) (by omega)
    rw [hB] at h
    exact ⟨h, by omega⟩
  have hgIB : gI ≠ B := by omega
  clear s1 hX1 hc1 hG1
  go_wp2_with fail
  generalize w1.alloc (.cells #[.int .i64 (reps : Int), .slice (some ⟨gI, 0, none⟩) p ca] 29) = wB at sB bB sA hXB hcB hGB hHB ⊢
  clear bB
  refine (l1Below C l (p : Int) _ hcB (by omega)).mono ?_
  rintro e w2 ⟨k, rfl, hk0, hk1, -, hc2, hg2⟩
  have hk2 := hk1 (by omega)
  obtain ⟨k, rfl⟩ := Int.eq_ofNat_of_zero_le hk0
  have hk : k < p := by omega
  have sA2 := Slot2.grown sA hg2 (fun e => by simp only [Option.some.injEq] at e; omega)
  have sB2 := Slot2.grown sB hg2 (fun e => by simp only [Option.some.injEq] at e; omega)
  have hX2 := rdsG7 hXB hg2 hgC
  have hG2 := grownTrans hGB hg2
  have hH2 := grownTrans hHB hg2
  clear hk1 sA sB hXB hcB hGB hg2 hHB
  go_wp2_with fail
  refine (l1Below C l 10 _ hc2 (by omega)).mono ?_
  rintro e w3 ⟨x, rfl, hx0, hx1, -, hc3, hg3⟩
  have hx10 := hx1 (by omega)
  have sA3 := Slot2.grown sA2 hg3 (fun e => by simp only [Option.some.injEq] at e; omega)
  have sB3 := Slot2.grown sB2 hg3 (fun e => by simp only [Option.some.injEq] at e; omega)
  have hX3 := rdsG7 hX2 hg3 hgC
  have hG3 := grownTrans hG2 hg3
  have hH3 := grownTrans hH2 hg3
  have hB3 := sB3.lt
  clear hx1 sA2 sB2 hX2 hc2 hG2 hg3 hH2
  have hPR : Hid (∀ q ∈ Rg.parts X reps p, q.length ≤ 4) := fun q hq => by rw [hpe q hq]; omega
  have hQk : ((Rg.parts X reps p)[k]'(by omega)).length = reps := hpe _ (List.getElem_mem _)
  go_upto_block 0 with fail
  go_cut [4] (fun v wx => ∃ (X' : List Sm.St) (g' cp' : Nat) (R : Int) (Q : List (List Int)), v = .slice (some ⟨g', 0, none⟩) X'.length cp' ∧ Slot2 wx A (.int .i64 0) (.slice none 0 0) ∧ Slot2 wx B (.int .i64 R) (.slice (some ⟨gI, 0, none⟩) Q.length ca) ∧ RdS wx (some ⟨g', 0, none⟩) X' ∧ A < g' ∧ RdU (A + 1) wx (some ⟨gI, 0, none⟩) Q ∧ Cur wx C l ∧ w.grownBy wx (some C) ∧ X'.length ≤ 6 ∧ Hid (∀ d ∈ X', Few d) ∧ (0 ≤ R ∧ R ≤ 6) ∧ Q.length ≤ 16 ∧ Hid (∀ q ∈ Q, q.length ≤ 4))
  case rest =>
    obtain ⟨X', g', cp', R, Q, rfl, x1, x2, x3, x4, x5, x6, x7, x8, x9, x10, x11, x12⟩ := hcut
    clear sA3 sB3 hX3 hc3 hG3 hH3 hO1
    obtain ⟨⟨t0, t1⟩, t2, t3⟩ := id x1
    obtain ⟨⟨v0, v1⟩, -⟩ := id x2
    have FIN : Hid _ := fin8 (w := w) x1 x3 x4 x5 x6 hC x7 (Nat.le_of_eq hA) (.int .i64 R) (.slice (some ⟨gI, 0, none⟩) Q.length ca)
    go_wp2_with fail
    go_region
    all_goals
      go_wp2
      obtain ⟨f0, f1, f2, f3, f4, f5⟩ := FIN.out
      refine bodyPost_ret (v := .tuple #[.slice (some ⟨g', 0, none⟩) X'.length cp', .agg #[.int .i64 R, .slice (some ⟨gI, 0, none⟩) Q.length ca]]) ?_ rfl ?_
      · simp [results, Try.results48, go_sem, f0, f1]
      · exact ⟨X', g', cp', R, Q, (some ⟨gI, 0, none⟩), ca, by rfl, x8, x9.out, x10, x11, x12.out, by omega, f2, f3.mono (by omega), f4, ⟨f5.os, f5.tape, f5.output, f5.size, f5.block⟩⟩
  case first =>
    by_cases h0 : x = 0
    · subst h0
      have hI := rdiNew (w := w3) (t := 3) (ns := [0, 1, 2, 6]) (cs := #[.int .i64 0, .int .i64 1, .int .i64 2, .int .i64 6]) rfl
      have hb := bel1 w3 (.cells #[.int .i64 0, .int .i64 1, .int .i64 2, .int .i64 6] 3)
      have hw3 : w3.heap.size ≠ C := by omega
      go_wp2_with fail
      refine (l1Int C w3.heap.size 0 _ 4 l [0, 1, 2, 6] _ rfl (hc3.below hb) (by simp) (by simp) hI hw3).mono ?_
      rintro e w4 ⟨j, hj, rfl, hc4, hg4⟩
      have hy := inF [0, 1, 2, 6] 0 6 (by decide) j hj
      generalize ([0, 1, 2, 6] : List Int)[j] = y at hy
      have sA4 := Slot2.grown (sA3.below hb) hg4 (fun e => by simp only [Option.some.injEq] at e; omega)
      have sB4 := Slot2.grown (sB3.below hb) hg4 (fun e => by simp only [Option.some.injEq] at e; omega)
      have hX4 := rdsG7 (hX3.below hb) hg4 hgC
      have hG4 := grownTrans (grownBelow hG3 hb) hg4
      have hH4 := grownTrans (grownBelow hH3 hb) hg4
      have sA5 := sA4.far (b' := B) (o := 0) (x := .int .i64 y) (by omega)
      have sB5 : Slot2 (w4.setCell ⟨B, 0, none⟩ (.int .i64 y)) B (.int .i64 y) (.slice (some ⟨gI, 0, none⟩) p ca) :=
        ⟨⟨World.cell?_setCell_same' _ _ _ (by rw [sB4.1.1]; rfl), by rw [World.cell?_setCell_other _ _ _ _ (by simp)]; exact sB4.1.2⟩, by rw [World.frozen?_setCell]; exact sB4.2.1, by rw [World.frozen?_setCell]; exact sB4.2.2⟩
      have gB := grownSet w4 B 0 (.int .i64 y)
      have hX5 := rdsG7 hX4 gB (by omega)
      have hO5 := OwnP.keptC hO1 (grownSet7 (o := 0) (u := .int .i64 y) hH4 (Nat.le_of_eq hB)) (by omega)
      have hc5 := hc4.keep gB (fun j e => by cases e; omega)
      have hG5 := grownVia hG4 gB (fun j e => by cases e; omega)
      obtain ⟨⟨z0, z1⟩, z2, z3⟩ := id sB4
      clear hI hb hc3 hc4 hX3 hX4 hG3 hG4 sA3 sB3 hH3 hH4 hg4 sA4 sB4 gB
      obtain ⟨w5, hw5⟩ : ∃ w5, w4.setCell ⟨B, 0, none⟩ (.int .i64 y) = w5 := ⟨_, rfl⟩
      rw [hw5] at sA5 sB5 hX5 hO5 hc5 hG5
      go_wp2_with fail
      try rw [hw5]
      clear hw5 z0 z1 z2 z3
      have LQ : (Rg.parts X reps p).length = p := hpl
      have sB9 := sB5
      have hP9 := (hO5.rdU (lo := A + 1) (by omega))
      have hQ9 : (Rg.parts X reps p).length ≤ 16 := by omega
      have hR9 : 0 ≤ y ∧ y ≤ 6 := ⟨hy.1, hy.2⟩
      have hg9 : A < g := (by omega)
      go_meet
      exact ⟨X, g, cp, y, (Rg.parts X reps p), rfl, sA5, by rw [LQ]; exact sB9, hX5, hg9, hP9, hc5, hG5, hX6, hfew, hR9, hQ9, hPR.out⟩
    · by_cases h1 : x = 1
      · subst h1
        have hO3 := OwnP.keptC hO1 hH3 (by omega)
        obtain ⟨a9, c9, hc9, hu9, hf9, -, hgs9, hue9⟩ := hO3.at_ (k := k) (by omega)
        rw [hQk] at hc9 hu9 hue9
        obtain ⟨bv, cv, e9, hbv⟩ : ∃ bv cv, Value.slice a9 reps c9 = .slice (some ⟨bv, 0, none⟩) reps cv ∧ g + 1 ≤ bv := by
          obtain ⟨r', rfl⟩ : ∃ r', reps = r' + 1 := ⟨reps - 1, by omega⟩
          obtain ⟨g', cap', e', h'⟩ := Zv_some hu9
          exact ⟨g', cap', e', h'⟩
        simp only [Value.slice.injEq, true_and] at e9
        obtain ⟨rfl, rfl⟩ := e9
        have hbB : bv < B := by
          obtain ⟨a8, c8, k8, u8, -⟩ := hO1.at_ (k := k) (by omega)
          rw [hQk] at k8 u8
          have := hH3.cell k8 (by simp; omega)
          rw [hc9] at this
          simp only [Option.some.injEq, Value.slice.injEq, true_and] at this
          obtain ⟨rfl, rfl⟩ := this
          have := (World.ownsRow.lt u8 bv rfl).2
          rw [hB] at this
          exact this
        have hbg : bv ≠ gI := fun e => by
          rcases hue9 with h9 | h9
          · cases h9
          · exact h9 (by rw [← e]; rfl)
        have cB := l1Below C l 9 w3.drew hc3 (by omega)
        have hkp : (k : Int) < (p : Int) := by omega
        obtain ⟨⟨z0, z1⟩, z2, z3⟩ := id sB3
        have FAR : Hid (∀ (y : Int) (w6 : World), w3.drew.grownBy w6 (some C) → Cur w6 C l → ∀ g7 cap7 w7, w7.ownsRow (g + 1) 3 1 (.slice (some ⟨g7, 0, none⟩) (reps + 1) cap7) (reps + 1) (Zv ((Rg.parts X reps p)[k]'(by omega)) ++ [.int .i64 y]) → (w6.alloc (.cells #[.int .i64 y] 3)).grownBy w7 (Value.slice (some ⟨bv, 0, none⟩) reps c9).ownBlock →
            ((Value.slice (some ⟨bv, 0, none⟩) reps c9).ownBlock = some g7 ∨ g7 = (w6.alloc (.cells #[.int .i64 y] 3)).heap.size) →
            Slot2 (w7.setCell ⟨gI, k, none⟩ (.slice (some ⟨g7, 0, none⟩) (reps + 1) cap7)) A (.int .i64 0) (.slice none 0 0) ∧
            Slot2 (w7.setCell ⟨gI, k, none⟩ (.slice (some ⟨g7, 0, none⟩) (reps + 1) cap7)) B (.int .i64 (reps : Int)) (.slice (some ⟨gI, 0, none⟩) p ca) ∧
            RdS (w7.setCell ⟨gI, k, none⟩ (.slice (some ⟨g7, 0, none⟩) (reps + 1) cap7)) (some ⟨g, 0, none⟩) X ∧
            OwnP (w7.setCell ⟨gI, k, none⟩ (.slice (some ⟨g7, 0, none⟩) (reps + 1) cap7)) (g + 1) (.slice (some ⟨gI, 0, none⟩) p ca) ((Rg.parts X reps p).set k ((Rg.parts X reps p)[k]'(by omega) ++ [y])) ∧
            Cur (w7.setCell ⟨gI, k, none⟩ (.slice (some ⟨g7, 0, none⟩) (reps + 1) cap7)) C l ∧ w.grownBy (w7.setCell ⟨gI, k, none⟩ (.slice (some ⟨g7, 0, none⟩) (reps + 1) cap7)) (some C)) := by
          intro y w6 hg6 hc6 g7 cap7 w7 hown7 hg7 hat7
          have hg6' : w3.grownBy w6 (some C) := ⟨hg6.os, hg6.tape, hg6.output, hg6.size, hg6.block⟩
          have bA := bel1 w6 (.cells #[.int .i64 y] 3)
          have hz6 := hg6'.size
          have O6 := (OwnP.keptC hO3 hg6' (by omega)).below bA
          have c6 : (w6.alloc (.cells #[.int .i64 y] 3)).cell? ⟨gI, k, none⟩ = some (.slice (some ⟨bv, 0, none⟩) reps c9) := cellOn (hg6'.cell hc9 (by simp; omega)) bA
          have hne : ∀ b : Nat, b ≠ bv → some b ≠ (Value.slice (some ⟨bv, 0, none⟩) reps c9).ownBlock := fun b h e => h (Option.some.inj e)
          have hO7 := OwnP.turned (w' := w7) (p' := (Rg.parts X reps p)[k]'(by omega) ++ [y]) O6 (k := k) (by omega) c6 hg7 (by rw [List.length_append, hQk, Zv_snoc]; exact hown7) (by rcases hat7 with h9 | h9; exact .inl h9.symm; exact .inr (congrArg some h9))
          have gG := grownSet w7 gI k (.slice (some ⟨g7, 0, none⟩) (reps + 1) cap7)
          have hbw : w.heap.size ≤ bv := by omega
          refine ⟨(Slot2.grown ((Slot2.grown sA3 hg6' (by simp; omega)).below bA) hg7 (hne A (by omega))).far (by omega), (Slot2.grown ((Slot2.grown sB3 hg6' (by simp; omega)).below bA) hg7 (hne B (by omega))).far (by omega), ?_, hO7, ?_, ?_⟩
          · exact rdsG7 (rdsG7 ((rdsG7 hX3 hg6' hgC).below bA) (C := bv) hg7 (by omega)) gG (by omega)
          · exact ((hc6.below bA).keep hg7 (fun j e => by have e' : some bv = some j := e; cases e'; omega)).keep gG (fun j e => by cases e; omega)
          · exact grownVia (grownVia (grownBelow (grownTrans hG3 hg6') bA) hg7 (fun j e => by have e' : some bv = some j := e; cases e'; exact hbw)) gG (fun j e => by cases e; omega)
        have hne9 : some gI ≠ (Value.slice (some ⟨bv, 0, none⟩) reps c9).ownBlock := fun e => hbg (Option.some.inj e).symm
        have hzz : Hid (Zv ((Rg.parts X reps p)[k]'(by omega)) = Zv ((Rg.parts X reps p)[k]'(by omega))) := rfl
        have hF9 : Hid (∀ d ∈ X, Few d) := hfew
        have hQ8 : Hid (((Rg.parts X reps p)[k]'(by omega)).length = reps) := hQk
        have hp9 : Hid ((Rg.parts X reps p).length = p) := hpl
        clear hue9 hO1 hO3 hX3 sA3 hG3 hH3 hdv hpe hc3 hfew hc b0 hzz
        go_wp2_with fail
        go_region_law (first | (refine step_append_lies _ (by rfl) (.tmp 35) (.tmp 38) 32 (by rfl) (g + 1) 3 j0 _ 1 8 Try.underlying32 hj0 hy0 hy1 hy2 rfl (by decide) _ _ _ (by rfl) (by exact uA) ⟨_, 0, none⟩ 1 1 [.int .i64 y] (by rfl) rfl oneZ_at oneZ_one (by omega) (by unfold maxLen; omega) (by omega) (by simp; omega) _ rfl ?_; intro g7 cap7 w7 hown7 hgrow7 hat7 hlt7; obtain ⟨a2, b2⟩ := cellGrown kA fA hgrow7 hne9; obtain ⟨⟨d0, d1⟩, d2, d3⟩ := Slot2.grown sB6 hgrow7 (fun e => by have e' : some B = some bv := e; simp at e'; omega)) | (go_simp; go_at_call 49; refine cB.mono ?_; rintro e w6 ⟨y, rfl, hy0', hy9', -, hc6, hg6⟩; have hg6' : w3.grownBy w6 (some C) := ⟨hg6.os, hg6.tape, hg6.output, hg6.size, hg6.block⟩; have hs6 : B < w6.heap.size := Nat.lt_of_lt_of_le hB3 hg6'.size; obtain ⟨ck6, fk6⟩ := cellGrown hc9 hf9 hg6' (by simp; omega); have kA := cellOn ck6 (bel1 w6 (.cells #[.int .i64 y] 3)); have uA := ownOn (World.ownsRow.kept hu9 hg6' (.inr (by simp [Value.ownBlock]; omega))) (bel1 w6 (.cells #[.int .i64 y] 3)); have fA : (w6.alloc (.cells #[.int .i64 y] 3)).frozen? ⟨gI, k, none⟩ = false := (by rw [(bel1 w6 (.cells #[.int .i64 y] 3)).frozen (p := ⟨gI, k, none⟩) (World.block_lt_of_cell? w6 _ ck6)]; exact fk6); have sB6' := Slot2.grown sB3 hg6' (by simp; omega); have sB6 := sB6'.below (bel1 w6 (.cells #[.int .i64 y] 3)); obtain ⟨⟨q0, q1⟩, q2, q3⟩ := id sB6') | fail)
        all_goals
          obtain ⟨x1, x2, x3, x4, x5, x6⟩ := FAR.out y w6 hg6 hc6 g7 cap7 w7 hown7 hgrow7 hat7
          have hy9 := hy9' (by omega)
          have x8 : Hid (∀ q ∈ (Rg.parts X reps p).set k ((Rg.parts X reps p)[k]'(by omega) ++ [y]), q.length ≤ 4) := len8 hPR.out (by rw [List.length_append, hQk]; simp; omega)
          clear FAR hown7 hgrow7 hat7 hlt7 a2 b2 kA fA uA ck6 fk6 sB6 sB6' q0 q1 q2 q3 d0 d1 d2 d3 sB3 cB z0 z1 z2 z3 hc9 hu9 hf9
          have LQ : ((Rg.parts X reps p).set k ((Rg.parts X reps p)[k]'(by omega) ++ [y])).length = p := by rw [List.length_set]; exact hpl
          have sB9 := x2
          have hP9 := (x4.rdU (lo := A + 1) (by omega))
          have hQ9 : ((Rg.parts X reps p).set k ((Rg.parts X reps p)[k]'(by omega) ++ [y])).length ≤ 16 := by rw [List.length_set]; omega
          have hR9 : 0 ≤ (reps : Int) ∧ (reps : Int) ≤ 6 := ⟨by omega, by omega⟩
          have hg9 : A < g := (by omega)
          go_wp2_with fail
          go_meet
          exact ⟨X, g, cp, (reps : Int), ((Rg.parts X reps p).set k ((Rg.parts X reps p)[k]'(by omega) ++ [y])), rfl, x1, by rw [LQ]; exact sB9, x3, hg9, hP9, x5, x6, hX6, hF9, hR9, hQ9, x8⟩
      · by_cases h2 : x = 2
        · subst h2
          have hO3 := OwnP.keptC hO1 hH3 (by omega)
          obtain ⟨a9, c9, hc9, hu9, hf9, -, hgs9, hue9⟩ := hO3.at_ (k := k) (by omega)
          have hu8 := hu9
          rw [hQk] at hc9 hu9 hue9
          obtain ⟨bv, cv, e9, hbv⟩ : ∃ bv cv, Value.slice a9 reps c9 = .slice (some ⟨bv, 0, none⟩) reps cv ∧ g + 1 ≤ bv := by
            obtain ⟨r', rfl⟩ : ∃ r', reps = r' + 1 := ⟨reps - 1, by omega⟩
            obtain ⟨g', cap', e', h'⟩ := Zv_some hu9
            exact ⟨g', cap', e', h'⟩
          simp only [Value.slice.injEq, true_and] at e9
          obtain ⟨rfl, rfl⟩ := e9
          have hbB : bv < B := by
            obtain ⟨a8, c8, k8, u8, -⟩ := hO1.at_ (k := k) (by omega)
            rw [hQk] at k8 u8
            have := hH3.cell k8 (by simp; omega)
            rw [hc9] at this
            simp only [Option.some.injEq, Value.slice.injEq, true_and] at this
            obtain ⟨rfl, rfl⟩ := this
            have := (World.ownsRow.lt u8 bv rfl).2
            rw [hB] at this
            exact this
          have cB := l1Below C l 9 w3.drew hc3 (by omega)
          have hkp : (k : Int) < (p : Int) := by omega
          obtain ⟨⟨z0, z1⟩, z2, z3⟩ := id sB3
          have FAR : Hid (∀ (y : Int) (w6 : World), w3.drew.grownBy w6 (some C) → Cur w6 C l → ∃ Q : List (List Int), Slot2 (w6.setCell ⟨bv, 0, none⟩ (.int .i64 y)) A (.int .i64 0) (.slice none 0 0) ∧ Slot2 (w6.setCell ⟨bv, 0, none⟩ (.int .i64 y)) B (.int .i64 (reps : Int)) (.slice (some ⟨gI, 0, none⟩) p ca) ∧
              RdS (w6.setCell ⟨bv, 0, none⟩ (.int .i64 y)) (some ⟨g, 0, none⟩) X ∧ OwnP (w6.setCell ⟨bv, 0, none⟩ (.int .i64 y)) (g + 1) (.slice (some ⟨gI, 0, none⟩) p ca) Q ∧ Cur (w6.setCell ⟨bv, 0, none⟩ (.int .i64 y)) C l ∧ w.grownBy (w6.setCell ⟨bv, 0, none⟩ (.int .i64 y)) (some C) ∧ Q.length = p ∧ Hid (∀ q ∈ Q, q.length ≤ 4)) := by
            intro y w6 hg6 hc6
            have hg6' : w3.grownBy w6 (some C) := ⟨hg6.os, hg6.tape, hg6.output, hg6.size, hg6.block⟩
            have O6 := OwnP.keptC hO3 hg6' (by omega)
            have c6 := hg6'.cell hc9 (by simp; omega)
            have u6 := World.ownsRow.kept hu8 hg6' (.inr (by simp [Value.ownBlock]; omega))
            have st := u6.stored 0 (.int .i64 y)
            rw [Zv_set] at st
            have gG : w6.grownBy (w6.setCell ⟨bv, 0, none⟩ (.int .i64 y)) (some bv) := grownSet w6 bv 0 (.int .i64 y)
            have hO7 := O6.inner (k := k) (p' := ((Rg.parts X reps p)[k]'(by omega)).set 0 y) (by omega) c6 gG (by rw [List.length_set, hQk]; rw [hQk] at st; exact st.1)
            have hbw : w.heap.size ≤ bv := by omega
            refine ⟨_, (Slot2.grown sA3 hg6' (by simp; omega)).far (by omega), (Slot2.grown sB3 hg6' (by simp; omega)).far (by omega), rdsG7 (rdsG7 hX3 hg6' hgC) gG (by omega), hO7, hc6.keep gG (fun j e => by cases e; omega), grownVia (grownTrans hG3 hg6') gG (fun j e => by cases e; exact hbw), by rw [List.length_set]; exact hpl, len8 hPR.out (by rw [List.length_set, hQk]; omega)⟩
          have hr0 : (0 : Int) < (reps : Int) := by omega
          have hrn : 0 < reps := by omega
          have v0c := hu9.cellAt 0 (by have := hu9.1; omega)
          have v0f := hu9.frozenAt 0
          rw [List.getElem?_eq_getElem (by have := hu9.1; omega)] at v0c
          generalize (Zv ((Rg.parts X reps p)[k]'(by omega)))[0]'(by have := hu9.1; omega) = v00 at v0c
          clear hue9 hu8
          go_wp2_with fail
          go_region_law (first | (go_simp; go_at_call 49; refine cB.mono ?_; rintro e w6 ⟨y, rfl, hy0', hy9', -, hc6, hg6⟩; have hg6' : w3.grownBy w6 (some C) := ⟨hg6.os, hg6.tape, hg6.output, hg6.size, hg6.block⟩; obtain ⟨ck6, fk6⟩ := cellGrown hc9 hf9 hg6' (by simp; omega); obtain ⟨cv6, fv6⟩ := cellGrown v0c v0f hg6' (by simp; omega); obtain ⟨⟨q0, q1⟩, q2, q3⟩ := Slot2.grown sB3 hg6' (by simp; omega)) | fail)
          all_goals
            obtain ⟨Q, x1, x2, x3, x4, x5, x6, x7, x8⟩ := FAR.out y w6 hg6 hc6
            clear FAR ck6 fk6 cv6 fv6 q0 q1 q2 q3 sA3 sB3 hX3 hO3 hc3 hG3 hH3 cB z0 z1 z2 z3 hc9 hu9 hf9 v0c v0f
            have LQ : Q.length = p := x7
            have sB9 := x2
            have hP9 := (x4.rdU (lo := A + 1) (by omega))
            have hQ9 : Q.length ≤ 16 := by omega
            have hR9 : 0 ≤ (reps : Int) ∧ (reps : Int) ≤ 6 := ⟨by omega, by omega⟩
            have hg9 : A < g := (by omega)
            go_wp2_with fail
            go_meet
            exact ⟨X, g, cp, (reps : Int), Q, rfl, x1, by rw [LQ]; exact sB9, x3, hg9, hP9, x5, x6, hX6, hfew, hR9, hQ9, x8⟩
        · by_cases h3 : x = 3
          · subst h3
            go_wp2_with fail
            refine (l4AnyR C l _ hc3).mono ?_
            rintro e w4 ⟨X4, g4, cp4, rfl, hX46, hfew4, hgg4, hX4, hc4, hg4⟩
            have sA4 := Slot2.grown sA3 hg4 (fun e => by simp only [Option.some.injEq] at e; omega)
            have sB4 := Slot2.grown sB3 hg4 (fun e => by simp only [Option.some.injEq] at e; omega)
            have hO4 := OwnP.keptC hO1 (grownTrans hH3 hg4) (by omega)
            have hG4 := grownTrans hG3 hg4
            clear hX3 hc3 hG3 hg4 sA3 sB3
            have LQ : (Rg.parts X reps p).length = p := hpl
            have sB9 := sB4
            have hP9 := (hO4.rdU (lo := A + 1) (by omega))
            have hQ9 : (Rg.parts X reps p).length ≤ 16 := by omega
            have hR9 : 0 ≤ (reps : Int) ∧ (reps : Int) ≤ 6 := ⟨by omega, by omega⟩
            have hg9 : A < g4 := (by omega)
            go_wp2_with fail
            go_meet
            exact ⟨X4, g4, cp4, (reps : Int), (Rg.parts X reps p), rfl, sA4, by rw [LQ]; exact sB9, hX4, hg9, hP9, hc4, hG4, hX46, hfew4, hR9, hQ9, hPR.out⟩
          · by_cases h4 : x = 4
            · subst h4
              obtain ⟨⟨z0, z1⟩, z2, z3⟩ := id sB3
              have sA5 := sA3.far (b' := B) (o := 1) (x := .slice (some ⟨gI, 0, none⟩) 0 ca) (by omega)
              have sB5 := sB3.put1 (.slice (some ⟨gI, 0, none⟩) 0 ca)
              have gB := grownSet w3 B 1 (.slice (some ⟨gI, 0, none⟩) 0 ca)
              have hX5 := rdsG7 hX3 gB (by omega)
              have hc5 := hc3.keep gB (fun j e => by cases e; omega)
              have hG5 := grownVia hG3 gB (fun j e => by cases e; omega)
              clear hc3 hX3 hG3 sA3 sB3 hH3 gB
              obtain ⟨w5, hw5⟩ : ∃ w5, w3.setCell ⟨B, 1, none⟩ (.slice (some ⟨gI, 0, none⟩) 0 ca) = w5 := ⟨_, rfl⟩
              rw [hw5] at sA5 sB5 hX5 hc5 hG5
              go_wp2_with fail
              try rw [hw5]
              clear hw5 z0 z1 z2 z3
              have LQ : ([] : List (List Int)).length = 0 := rfl
              have sB9 := sB5
              have hP9 := (nil8 (A + 1) w5 (some ⟨gI, 0, none⟩))
              have hQ9 : ([] : List (List Int)).length ≤ 16 := by simp
              have hR9 : 0 ≤ (reps : Int) ∧ (reps : Int) ≤ 6 := ⟨by omega, by omega⟩
              have hg9 : A < g := (by omega)
              go_meet
              exact ⟨X, g, cp, (reps : Int), ([] : List (List Int)), rfl, sA5, by rw [LQ]; exact sB9, hX5, hg9, hP9, hc5, hG5, hX6, hfew, hR9, hQ9, (fun q hq => absurd hq List.not_mem_nil)⟩
            · have hO3 := OwnP.keptC hO1 hH3 (by omega)
              have LQ : (Rg.parts X reps p).length = p := hpl
              have sB9 := sB3
              have hP9 := (hO3.rdU (lo := A + 1) (by omega))
              have hQ9 : (Rg.parts X reps p).length ≤ 16 := by omega
              have hR9 : 0 ≤ (reps : Int) ∧ (reps : Int) ≤ 6 := ⟨by omega, by omega⟩
              have hg9 : A < g := (by omega)
              go_wp2_with fail
              go_meet
              exact ⟨X, g, cp, (reps : Int), (Rg.parts X reps p), rfl, sA3, by rw [LQ]; exact sB9, hX3, hg9, hP9, hc3, hG3, hX6, hfew, hR9, hQ9, hPR.out⟩
end Go.Proofs.Ytcejeiakgmamdac.Wk
