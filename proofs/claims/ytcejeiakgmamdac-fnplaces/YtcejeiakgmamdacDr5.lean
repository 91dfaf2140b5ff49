/- What l4Any and DrawDevsText of the specification come to: some devices, at most six, in memory that is theirs. -/
import Derived.Test.YtcejeiakgmamdacDr4
namespace Go.Proofs.Ytcejeiakgmamdac.Wk
set_option linter.unusedVariables false
open Go.ChangeShapes Go.WideShapes Go.ChangeAt Go.RowKit

theorem Ss_set0 (y : Int) : ∀ (X : List Sm.St) (k : Nat) (h : k < X.length), (Ss X).set (k * 3) (.int .i64 y) = Ss (X.set k (y, X[k].2.1, X[k].2.2))
  | s :: r, 0, _ => rfl
  | s :: r, k + 1, h => by
    have ih := Ss_set0 y r k (by simpa using h)
    have e : Ss (s :: r) = .int .i64 s.1 :: .int .i64 s.2.1 :: .int .i64 s.2.2 :: Ss r := rfl
    rw [e, show (k + 1) * 3 = k * 3 + 1 + 1 + 1 from by omega, List.set_cons_succ, List.set_cons_succ, List.set_cons_succ, ih]
    rfl
theorem Ss_set1 (y : Int) : ∀ (X : List Sm.St) (k : Nat) (h : k < X.length), (Ss X).set (k * 3 + 1) (.int .i64 y) = Ss (X.set k (X[k].1, y, X[k].2.2))
  | s :: r, 0, _ => rfl
  | s :: r, k + 1, h => by
    have ih := Ss_set1 y r k (by simpa using h)
    have e : Ss (s :: r) = .int .i64 s.1 :: .int .i64 s.2.1 :: .int .i64 s.2.2 :: Ss r := rfl
    rw [e, show (k + 1) * 3 + 1 = k * 3 + 1 + 1 + 1 + 1 from by omega, List.set_cons_succ, List.set_cons_succ, List.set_cons_succ, ih]
    rfl
theorem Ss_set2 (y : Int) : ∀ (X : List Sm.St) (k : Nat) (h : k < X.length), (Ss X).set (k * 3 + 2) (.int .i64 y) = Ss (X.set k (X[k].1, X[k].2.1, y))
  | s :: r, 0, _ => rfl
  | s :: r, k + 1, h => by
    have ih := Ss_set2 y r k (by simpa using h)
    have e : Ss (s :: r) = .int .i64 s.1 :: .int .i64 s.2.1 :: .int .i64 s.2.2 :: Ss r := rfl
    rw [e, show (k + 1) * 3 + 2 = k * 3 + 2 + 1 + 1 + 1 from by omega, List.set_cons_succ, List.set_cons_succ, List.set_cons_succ, ih]
    rfl
theorem few_set {X : List Sm.St} {k : Nat} {d : Sm.St} (h : ∀ x ∈ X, Few x) (hd : Few d) : ∀ x ∈ X.set k d, Few x := fun x hx => (List.mem_or_eq_of_mem_set hx).elim (h x) (fun e => e ▸ hd)

set_option maxHeartbeats 4000000 in
set_option maxRecDepth 100000 in
theorem l4Any (C : Nat) (l : List UInt8) (w : World) (hc : Cur w C l) :
    Calls Try.prog 37 #[.pointer (some ⟨C, 0, none⟩)] w fun e w' => ∃ (X : List Sm.St) (g cp : Nat), e = .returned (.slice (some ⟨g, 0, none⟩) X.length cp) ∧ X.length ≤ 6 ∧ (∀ d ∈ X, Few d) ∧
      RdS w' (some ⟨g, 0, none⟩) X ∧ Cur w' C l ∧ w.grownBy w' (some C) := by
  have hC := hc.lt
  go_enter Try.func37, Try.ntmps37
  go_wp2_with fail
  refine (l4Draw C l _ hc).mono ?_
  rintro e w1 ⟨X, g, cp, rfl, hX2, hX6, hfew, hgg, hown, hc1, hg1⟩
  go_wp2_with fail
  refine (l1Below C l (X.length : Int) _ hc1 (by omega)).mono ?_
  rintro e w2 ⟨k, rfl, hk0, hk1, -, hc2, hg2⟩
  have hk2 := hk1 (by omega)
  obtain ⟨k, rfl⟩ := Int.eq_ofNat_of_zero_le hk0
  have hk : k < X.length := by omega
  have hown2 := keptC hown hg2 hC
  have hG2 := grownTrans hg1 hg2
  clear hk1 hk0 hown hc1 hg1 hg2
  go_wp2_with fail
  refine (l1Below C l 12 _ hc2 (by omega)).mono ?_
  rintro e w3 ⟨x, rfl, hx0, hx1, -, hc3, hg3⟩
  have hx12 := hx1 (by omega)
  have hown3 := keptC hown2 hg3 hC
  have hG3 := grownTrans hG2 hg3
  have hs3 := hG3.size
  clear hx1 hown2 hc2 hG2 hg3
  have hfk := hfew X[k] (List.getElem_mem hk)
  by_cases h0 : x = 0
  · subst h0
    have hI := rdiNew (w := w3) (t := 3) (ns := [-1, 0, 20, 21]) (cs := #[.int .i64 (-1), .int .i64 0, .int .i64 20, .int .i64 21]) rfl
    have hb := bel1 w3 (.cells #[.int .i64 (-1), .int .i64 0, .int .i64 20, .int .i64 21] 3)
    go_wp2_with fail
    refine (l1Int C w3.heap.size 0 _ 4 l [-1, 0, 20, 21] _ rfl (hc3.below hb) (by simp) (by simp) hI (by omega)).mono ?_
    rintro e w4 ⟨j, hj, rfl, hc4, hg4⟩
    have hy := inF [-1, 0, 20, 21] (-1) 21 (by decide) j hj
    generalize ([-1, 0, 20, 21] : List Int)[j] = y at hy
    have hown4 := keptC (World.ownsRow.alloc hown3 _) hg4 hC
    have hG4 := grownTrans (grownTrans hG3 (World.grownBy_alloc w3 _ _)) hg4
    have z0 := hown4.frozenAt (k * 3)
    have c0 := hown4.cellAt (k * 3) (by have := hown4.1; omega)
    have st := hown4.stored (k * 3) (.int .i64 y)
    rw [Ss_set0 y X k hk] at st
    rw [List.getElem?_eq_getElem (by have := hown4.1; omega)] at c0
    go_wp2
    go_ret
    refine ⟨X.set k (y, X[k].2.1, X[k].2.2), g, cp, by simp, by simpa using hX6, few_set hfew ⟨⟨by show -1000 ≤ y; omega, by show y ≤ 2000; omega⟩, hfk.2⟩, ?_, hc4.keep st.2 (fun j e => by cases e; omega), grownVia hG4 st.2 (fun j e => by cases e; omega)⟩
    refine (Ss_row _).rd (base := w.heap.size) (cap := cp) (e := 42) ?_
    rw [List.length_set]
    exact st.1
  · by_cases h1 : x = 1
    · subst h1
      have hI := rdiNew (w := w3) (t := 3) (ns := [-1, 20, 21]) (cs := #[.int .i64 (-1), .int .i64 20, .int .i64 21]) rfl
      have hb := bel1 w3 (.cells #[.int .i64 (-1), .int .i64 20, .int .i64 21] 3)
      go_wp2_with fail
      refine (l1Int C w3.heap.size 0 _ 3 l [-1, 20, 21] _ rfl (hc3.below hb) (by simp) (by simp) hI (by omega)).mono ?_
      rintro e w4 ⟨j, hj, rfl, hc4, hg4⟩
      have hy := inF [-1, 20, 21] (-1) 21 (by decide) j hj
      generalize ([-1, 20, 21] : List Int)[j] = y at hy
      have hown4 := keptC (World.ownsRow.alloc hown3 _) hg4 hC
      have hG4 := grownTrans (grownTrans hG3 (World.grownBy_alloc w3 _ _)) hg4
      have z0 := hown4.frozenAt (k * 3 + 1)
      have c0 := hown4.cellAt (k * 3 + 1) (by have := hown4.1; omega)
      have st := hown4.stored (k * 3 + 1) (.int .i64 y)
      rw [Ss_set1 y X k hk] at st
      rw [List.getElem?_eq_getElem (by have := hown4.1; omega)] at c0
      go_wp2
      go_ret
      refine ⟨X.set k (X[k].1, y, X[k].2.2), g, cp, by simp, by simpa using hX6, few_set hfew ⟨hfk.1, ⟨by show -1000 ≤ y; omega, by show y ≤ 2000; omega⟩, hfk.2.2⟩, ?_, hc4.keep st.2 (fun j e => by cases e; omega), grownVia hG4 st.2 (fun j e => by cases e; omega)⟩
      refine (Ss_row _).rd (base := w.heap.size) (cap := cp) (e := 42) ?_
      rw [List.length_set]
      exact st.1
    · by_cases h2 : x = 2
      · subst h2
        have hI := rdiNew (w := w3) (t := 3) (ns := [0, 1000, 1001]) (cs := #[.int .i64 0, .int .i64 1000, .int .i64 1001]) rfl
        have hb := bel1 w3 (.cells #[.int .i64 0, .int .i64 1000, .int .i64 1001] 3)
        go_wp2_with fail
        refine (l1Int C w3.heap.size 0 _ 3 l [0, 1000, 1001] _ rfl (hc3.below hb) (by simp) (by simp) hI (by omega)).mono ?_
        rintro e w4 ⟨j, hj, rfl, hc4, hg4⟩
        have hy := inF [0, 1000, 1001] 0 1001 (by decide) j hj
        generalize ([0, 1000, 1001] : List Int)[j] = y at hy
        have hown4 := keptC (World.ownsRow.alloc hown3 _) hg4 hC
        have hG4 := grownTrans (grownTrans hG3 (World.grownBy_alloc w3 _ _)) hg4
        have z0 := hown4.frozenAt (k * 3 + 2)
        have c0 := hown4.cellAt (k * 3 + 2) (by have := hown4.1; omega)
        have st := hown4.stored (k * 3 + 2) (.int .i64 y)
        rw [Ss_set2 y X k hk] at st
        rw [List.getElem?_eq_getElem (by have := hown4.1; omega)] at c0
        go_wp2
        go_ret
        refine ⟨X.set k (X[k].1, X[k].2.1, y), g, cp, by simp, by simpa using hX6, few_set hfew ⟨hfk.1, hfk.2.1, ⟨by show -1000 ≤ y; omega, by show y ≤ 2000; omega⟩⟩, ?_, hc4.keep st.2 (fun j e => by cases e; omega), grownVia hG4 st.2 (fun j e => by cases e; omega)⟩
        refine (Ss_row _).rd (base := w.heap.size) (cap := cp) (e := 42) ?_
        rw [List.length_set]
        exact st.1
      · by_cases h3 : x = 3
        · subst h3
          go_wp2
          go_ret
          exact ⟨[], g, cp, rfl, by simp, fun d hd => by simp at hd, fun i hi => by simp at hi, hc3, hG3⟩
        · go_wp2
          go_ret
          exact ⟨X, g, cp, rfl, hX6, hfew, (Ss_row X).rd hown3, hc3, hG3⟩

end Go.Proofs.Ytcejeiakgmamdac.Wk
