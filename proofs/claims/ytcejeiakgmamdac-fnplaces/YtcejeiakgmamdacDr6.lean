/- What l4Draw and l4Any of the specification come to, told closer: devices that are right; in new memory. -/
import Derived.Test.YtcejeiakgmamdacDr5
import Derived.Test.YtcejeiakgmamdacDvM
namespace Go.Proofs.Ytcejeiakgmamdac.Wk
set_option linter.unusedVariables false
open Go.ChangeShapes Go.WideShapes Go.ChangeAt Go.RowKit

/-- devices as told, their Ids rising up to t -/
def Nice (X : List Sm.St) (t : Int) : Prop := (∀ d ∈ X, Dv.dev d.1 d.2.1 d.2.2 = true ∧ d.1 ≤ t) ∧ X.Pairwise (fun a b => a.1 < b.1)
theorem Nice.snoc {X : List Sm.St} {t y z n : Int} (h : Nice X t) (h0 : 0 ≤ t) (h1 : 1 ≤ y) (h2 : t + y ≤ 20) (h3 : 0 ≤ z) (h4 : z ≤ 20) (h5 : 1 ≤ n) (h6 : n ≤ 1000) : Nice (X ++ [(t + y, z, n)]) (t + y) := by
  refine ⟨fun d hd => ?_, ?_⟩
  · rcases List.mem_append.1 hd with hd | hd
    · exact ⟨(h.1 d hd).1, by have := (h.1 d hd).2; omega⟩
    · rw [List.mem_singleton] at hd
      subst hd
      refine ⟨?_, Int.le_refl _⟩
      simp only [Dv.dev, Bool.and_eq_true, decide_eq_true_eq]
      omega
  · rw [List.pairwise_append]
    refine ⟨h.2, by simp, fun a ha b hb => ?_⟩
    rw [List.mem_singleton] at hb
    subst hb
    have := (h.1 a ha).2
    show a.1 < t + y
    omega
theorem devs_of {X : List Sm.St} (h1 : ∀ d ∈ X, Dv.dev d.1 d.2.1 d.2.2 = true) (h2 : X.Pairwise (fun a b => a.1 < b.1)) (h3 : 1 ≤ X.length) (h4 : X.length ≤ 12) : Dv.devs X = true := by
  have hu : Dv.upto X X.length = true := by
    unfold Dv.upto
    rw [List.all_eq_true]
    intro i hi
    rw [List.mem_range] at hi
    have hd := h1 X[i] (List.getElem_mem hi)
    cases i with
    | zero => rw [Dv.okAt_zero hi rfl]; exact hd
    | succ k =>
      rw [Dv.okAt_succ (i := X[k + 1].1) (z := X[k + 1].2.1) (n := X[k + 1].2.2) (i' := X[k].1) (z' := X[k].2.1) (n' := X[k].2.2) hi rfl rfl, hd]
      have := List.pairwise_iff_getElem.1 h2 k (k + 1) (by omega) hi (by omega)
      simp [this]
  simp [Dv.devs, hu, h3, h4]
theorem Nice.devs {X : List Sm.St} {t : Int} (h : Nice X t) (h3 : 1 ≤ X.length) (h4 : X.length ≤ 12) : Dv.devs X = true := devs_of (fun d hd => (h.1 d hd).1) h.2 h3 h4

set_option maxHeartbeats 4000000 in
set_option maxRecDepth 100000 in
theorem l4DrawR (C : Nat) (l : List UInt8) (w : World) (hc : Cur w C l) :
    Calls Try.prog 47 #[.pointer (some ⟨C, 0, none⟩)] w fun e w' => ∃ (X : List Sm.St) (g cp : Nat), e = .returned (.slice (some ⟨g, 0, none⟩) X.length cp) ∧ 2 ≤ X.length ∧ X.length ≤ 6 ∧ (∀ d ∈ X, Few d) ∧ w.heap.size ≤ g ∧
      w'.ownsRow w.heap.size 42 3 (.slice (some ⟨g, 0, none⟩) X.length cp) X.length (Ss X) ∧ Cur w' C l ∧ w.grownBy w' (some C) ∧ Dv.devs X = true := by
  have hC := hc.lt
  obtain ⟨i0, hi, hz0, hz1, hz2⟩ := info_parts infoDv
  have hown0 : (w.alloc (.cells #[] 42)).ownsRow w.heap.size 42 3 (.slice (some ⟨w.heap.size, 0, none⟩) 0 0) 0 [] := World.ownsRow_made w #[] 0 (Nat.le_refl _) (Nat.zero_le _) rfl
  have hg0 : w.grownBy (w.alloc (.cells #[] 42)) (some C) := World.grownBy_alloc _ _ _
  go_enter Try.func47, Try.ntmps47
  go_wp2_with fail
  refine (l1Below C l 4 _ (hc.below (bel1 _ _)) (by omega)).mono ?_
  rintro e w1 ⟨zz, rfl, hzz0, hzz1, -, hc1, hg1⟩
  have hown1 := keptC hown0 hg1 hC
  go_wp2_with fail
  refine (l1Below C l 5 _ hc1 (by omega)).mono ?_
  rintro e w2 ⟨kk, rfl, hk0, hk1, -, hc2, hg2⟩
  have hown2 := keptC hown1 hg2 hC
  have hgA := grownTrans (grownTrans hg0 hg1) hg2
  have hzz4 := hzz1 (by omega)
  have hk5 := hk1 (by omega)
  clear hown0 hown1 hzz1 hk1 hg0 hg1 hg2 hc1
  go_wp2
  go_loopw [3, 5, 6] (fun v i q wr => ∃ (k : Nat) (t : Int) (X : List Sm.St), i = .int .i64 t ∧ q = .int .i64 (k : Int) ∧ 2 ≤ X.length + k ∧ X.length + k ≤ 6 ∧ 0 ≤ t ∧ t ≤ 2 * (X.length : Int) ∧ (∀ d ∈ X, Few d) ∧ Nice X t ∧ wr.ownsRow w.heap.size 42 3 v X.length (Ss X) ∧ Cur wr C l ∧ w.grownBy wr (some C)) (fun _ _ q _ => (intOf q).toNat)
  case atStart => exact ⟨(2 + kk).toNat, 0, [], rfl, by rw [Int.toNat_of_nonneg (by omega)], by simp; omega, by simp; omega, by omega, by simp, fun d h => by simp at h, ⟨fun d h => by simp at h, List.Pairwise.nil⟩, hown2, hc2, hgA⟩
  case round =>
    obtain ⟨k, t, X, rfl, rfl, hXk, hXk6, ht0, ht1, hfew, hnice, hown, hcr, hgr⟩ := hrel
    clear hown2 hc2 hgA
    by_cases hlt : 0 < k
    · obtain ⟨k, rfl⟩ : ∃ j, k = j + 1 := ⟨k - 1, by omega⟩
      have hsr := hgr.size
      have hI1 := rdiNew (w := wr) (t := 3) (ns := [1, 1, 2]) (cs := #[.int .i64 1, .int .i64 1, .int .i64 2]) rfl
      have hb1 := bel1 wr (.cells #[.int .i64 1, .int .i64 1, .int .i64 2] 3)
      go_wp2_with fail
      refine (l1Int C wr.heap.size 0 _ 3 l [1, 1, 2] _ rfl (hcr.below hb1) (by simp) (by simp) hI1 (by omega)).mono ?_
      rintro e w3 ⟨j, hj, rfl, hc3, hg3⟩
      have hy := inF [1, 1, 2] 1 2 (by decide) j hj
      generalize ([1, 1, 2] : List Int)[j] = y at hy
      have hown3 := keptC (World.ownsRow.alloc hown _) hg3 hC
      have hgB := grownTrans (grownTrans hgr (World.grownBy_alloc wr _ _)) hg3
      clear hI1 hj hb1 hg3
      go_wp2_with fail
      refine (l1Below C l (1 + zz) _ hc3 (by omega)).mono ?_
      rintro e w4 ⟨z, rfl, hzA, hzB, -, hc4, hg4⟩
      have hz5 := hzB (by omega)
      have hown4 := keptC hown3 hg4 hC
      have hgD := grownTrans hgB hg4
      have hs4 := hgD.size
      clear hzB hown3 hgB hg4 hc3
      have hI5 := rdiNew (w := w4) (t := 3) (ns := [1, 1, 1, 2, 10, 100]) (cs := #[.int .i64 1, .int .i64 1, .int .i64 1, .int .i64 2, .int .i64 10, .int .i64 100]) rfl
      have hb5 := bel1 w4 (.cells #[.int .i64 1, .int .i64 1, .int .i64 1, .int .i64 2, .int .i64 10, .int .i64 100] 3)
      go_wp2_with fail
      refine (l1Int C w4.heap.size 0 _ 6 l [1, 1, 1, 2, 10, 100] _ rfl (hc4.below hb5) (by simp) (by simp) hI5 (by omega)).mono ?_
      rintro e w5 ⟨j, hj, rfl, hc5, hg5⟩
      have hn := inF [1, 1, 1, 2, 10, 100] 1 100 (by decide) j hj
      generalize ([1, 1, 1, 2, 10, 100] : List Int)[j] = n at hn
      have hown5 := keptC (World.ownsRow.alloc hown4 _) hg5 hC
      have hgE := grownTrans (grownTrans hgD (World.grownBy_alloc w4 _ _)) hg5
      have hs5 := hgE.size
      clear hI5 hj hb5 hg5 hgD hown4 hc4
      go_wp2_with (at_builtin; refine wpList_append_own _ rfl (.tmp 23) (.tmp 32) 24 rfl w.heap.size 42 i0 _ 3 24 Try.underlying24 hi hz0 hz1 hz2 rfl (by decide) _ _ _ rfl (World.ownsRow.alloc hown5 _) ⟨_, 0, none⟩ 1 1 [.int .i64 (t + y), .int .i64 z, .int .i64 n] rfl rfl three_at three_one (by unfold maxLen; omega) (by omega) (by simp; omega) ?_; intro v6 w6 hown6 hgrow6 hnil6)
      have hlo : ∀ j, u3.ownBlock = some j → w.heap.size ≤ j := fun j e => (World.ownsRow.lt hown j e).1
      have hg6 : w5.grownBy w6 u3.ownBlock := grownTrans (World.grownBy_alloc w5 _ u3.ownBlock) hgrow6
      have hc6 : Cur w6 C l := hc5.keep hg6 (fun j e => by have := hlo j e; omega)
      have hgF : w.grownBy w6 (some C) := grownVia hgE hg6 hlo
      have ho6 : w6.ownsRow w.heap.size 42 3 v6 (X ++ [(t + y, z, n)]).length (Ss (X ++ [(t + y, z, n)])) := by
        rw [Ss_snoc, List.length_append]; exact hown6
      have hfew6 : ∀ d ∈ X ++ [(t + y, z, n)], Few d := by
        intro d hd
        rcases List.mem_append.1 hd with hd | hd
        · exact hfew d hd
        · rw [List.mem_singleton] at hd
          subst hd
          exact ⟨⟨by show -1000 ≤ t + y; omega, by show t + y ≤ 2000; omega⟩, ⟨by show -1000 ≤ z; omega, by show z ≤ 2000; omega⟩, ⟨by show -1000 ≤ n; omega, by show n ≤ 2000; omega⟩⟩
      have hnice6 : Nice (X ++ [(t + y, z, n)]) (t + y) := hnice.snoc (by omega) (by omega) (by omega) (by omega) (by omega) (by omega) (by omega)
      clear hown6 hgrow6 hnil6 hown5 hown hg6
      go_wp2
      go_roundw
      case rel => exact ⟨k, t + y, X ++ [(t + y, z, n)], by go_num, by go_num, by simp; omega, by simp; omega, by omega, by simp; omega, hfew6, hnice6, ho6, hc6, hgF⟩
      case measure => simp [intOf]
    · obtain ⟨g, cp, hv, hgg⟩ := form4 hown (by omega)
      subst hv
      have hX2 : 2 ≤ X.length := by omega
      have hX6 : X.length ≤ 6 := by omega
      have hdv := hnice.devs (by omega) (by omega)
      go_wp2
      go_ret
      exact ⟨X, g, cp, rfl, hX2, hX6, hfew, hgg, hown, hcr, hgr, hdv⟩
set_option maxHeartbeats 4000000 in
set_option maxRecDepth 100000 in
theorem l4AnyR (C : Nat) (l : List UInt8) (w : World) (hc : Cur w C l) :
    Calls Try.prog 37 #[.pointer (some ⟨C, 0, none⟩)] w fun e w' => ∃ (X : List Sm.St) (g cp : Nat), e = .returned (.slice (some ⟨g, 0, none⟩) X.length cp) ∧ X.length ≤ 6 ∧ (∀ d ∈ X, Few d) ∧
      w.heap.size ≤ g ∧ RdS w' (some ⟨g, 0, none⟩) X ∧ Cur w' C l ∧ w.grownBy w' (some C) := by
  have hC := hc.lt
  go_enter Try.func37, Try.ntmps37
  go_wp2_with fail
  refine (l4DrawR C l _ hc).mono ?_
  rintro e w1 ⟨X, g, cp, rfl, hX2, hX6, hfew, hgg, hown, hc1, hg1, -⟩
  go_wp2_with fail
  refine (l1Below C l (X.length : Int) _ hc1 (by omega)).mono ?_
  rintro e w2 ⟨k, rfl, hk0, hk1, -, hc2, hg2⟩
  have hk2 := hk1 (by omega)
  obtain ⟨k, rfl⟩ := Int.eq_ofNat_of_zero_le hk0
  have hk : k < X.length := by omega
  have hown2 := keptC hown hg2 hC
  have hG2 := grownTrans hg1 hg2
  clear hk1 hk0 hown hc1 hg1 hg2
  go_wp2_with fail
  refine (l1Below C l 12 _ hc2 (by omega)).mono ?_
  rintro e w3 ⟨x, rfl, hx0, hx1, -, hc3, hg3⟩
  have hx12 := hx1 (by omega)
  have hown3 := keptC hown2 hg3 hC
  have hG3 := grownTrans hG2 hg3
  have hs3 := hG3.size
  clear hx1 hown2 hc2 hG2 hg3
  have hfk := hfew X[k] (List.getElem_mem hk)
  by_cases h0 : x = 0
  · subst h0
    have hI := rdiNew (w := w3) (t := 3) (ns := [-1, 0, 20, 21]) (cs := #[.int .i64 (-1), .int .i64 0, .int .i64 20, .int .i64 21]) rfl
    have hb := bel1 w3 (.cells #[.int .i64 (-1), .int .i64 0, .int .i64 20, .int .i64 21] 3)
    go_wp2_with fail
    refine (l1Int C w3.heap.size 0 _ 4 l [-1, 0, 20, 21] _ rfl (hc3.below hb) (by simp) (by simp) hI (by omega)).mono ?_
    rintro e w4 ⟨j, hj, rfl, hc4, hg4⟩
    have hy := inF [-1, 0, 20, 21] (-1) 21 (by decide) j hj
    generalize ([-1, 0, 20, 21] : List Int)[j] = y at hy
    have hown4 := keptC (World.ownsRow.alloc hown3 _) hg4 hC
    have hG4 := grownTrans (grownTrans hG3 (World.grownBy_alloc w3 _ _)) hg4
    have z0 := hown4.frozenAt (k * 3)
    have c0 := hown4.cellAt (k * 3) (by have := hown4.1; omega)
    have st := hown4.stored (k * 3) (.int .i64 y)
    rw [Ss_set0 y X k hk] at st
    rw [List.getElem?_eq_getElem (by have := hown4.1; omega)] at c0
    go_wp2
    go_ret
    refine ⟨X.set k (y, X[k].2.1, X[k].2.2), g, cp, by simp, by simpa using hX6, few_set hfew ⟨⟨by show -1000 ≤ y; omega, by show y ≤ 2000; omega⟩, hfk.2⟩, hgg, ?_, hc4.keep st.2 (fun j e => by cases e; omega), grownVia hG4 st.2 (fun j e => by cases e; omega)⟩
    refine (Ss_row _).rd (base := w.heap.size) (cap := cp) (e := 42) ?_
    rw [List.length_set]
    exact st.1
  · by_cases h1 : x = 1
    · subst h1
      have hI := rdiNew (w := w3) (t := 3) (ns := [-1, 20, 21]) (cs := #[.int .i64 (-1), .int .i64 20, .int .i64 21]) rfl
      have hb := bel1 w3 (.cells #[.int .i64 (-1), .int .i64 20, .int .i64 21] 3)
      go_wp2_with fail
      refine (l1Int C w3.heap.size 0 _ 3 l [-1, 20, 21] _ rfl (hc3.below hb) (by simp) (by simp) hI (by omega)).mono ?_
      rintro e w4 ⟨j, hj, rfl, hc4, hg4⟩
      have hy := inF [-1, 20, 21] (-1) 21 (by decide) j hj
      generalize ([-1, 20, 21] : List Int)[j] = y at hy
      have hown4 := keptC (World.ownsRow.alloc hown3 _) hg4 hC
      have hG4 := grownTrans (grownTrans hG3 (World.grownBy_alloc w3 _ _)) hg4
      have z0 := hown4.frozenAt (k * 3 + 1)
      have c0 := hown4.cellAt (k * 3 + 1) (by have := hown4.1; omega)
      have st := hown4.stored (k * 3 + 1) (.int .i64 y)
      rw [Ss_set1 y X k hk] at st
      rw [List.getElem?_eq_getElem (by have := hown4.1; omega)] at c0
      go_wp2
      go_ret
      refine ⟨X.set k (X[k].1, y, X[k].2.2), g, cp, by simp, by simpa using hX6, few_set hfew ⟨hfk.1, ⟨by show -1000 ≤ y; omega, by show y ≤ 2000; omega⟩, hfk.2.2⟩, hgg, ?_, hc4.keep st.2 (fun j e => by cases e; omega), grownVia hG4 st.2 (fun j e => by cases e; omega)⟩
      refine (Ss_row _).rd (base := w.heap.size) (cap := cp) (e := 42) ?_
      rw [List.length_set]
      exact st.1
    · by_cases h2 : x = 2
      · subst h2
        have hI := rdiNew (w := w3) (t := 3) (ns := [0, 1000, 1001]) (cs := #[.int .i64 0, .int .i64 1000, .int .i64 1001]) rfl
        have hb := bel1 w3 (.cells #[.int .i64 0, .int .i64 1000, .int .i64 1001] 3)
        go_wp2_with fail
        refine (l1Int C w3.heap.size 0 _ 3 l [0, 1000, 1001] _ rfl (hc3.below hb) (by simp) (by simp) hI (by omega)).mono ?_
        rintro e w4 ⟨j, hj, rfl, hc4, hg4⟩
        have hy := inF [0, 1000, 1001] 0 1001 (by decide) j hj
        generalize ([0, 1000, 1001] : List Int)[j] = y at hy
        have hown4 := keptC (World.ownsRow.alloc hown3 _) hg4 hC
        have hG4 := grownTrans (grownTrans hG3 (World.grownBy_alloc w3 _ _)) hg4
        have z0 := hown4.frozenAt (k * 3 + 2)
        have c0 := hown4.cellAt (k * 3 + 2) (by have := hown4.1; omega)
        have st := hown4.stored (k * 3 + 2) (.int .i64 y)
        rw [Ss_set2 y X k hk] at st
        rw [List.getElem?_eq_getElem (by have := hown4.1; omega)] at c0
        go_wp2
        go_ret
        refine ⟨X.set k (X[k].1, X[k].2.1, y), g, cp, by simp, by simpa using hX6, few_set hfew ⟨hfk.1, hfk.2.1, ⟨by show -1000 ≤ y; omega, by show y ≤ 2000; omega⟩⟩, hgg, ?_, hc4.keep st.2 (fun j e => by cases e; omega), grownVia hG4 st.2 (fun j e => by cases e; omega)⟩
        refine (Ss_row _).rd (base := w.heap.size) (cap := cp) (e := 42) ?_
        rw [List.length_set]
        exact st.1
      · by_cases h3 : x = 3
        · subst h3
          go_wp2
          go_ret
          exact ⟨[], g, cp, rfl, by simp, fun d hd => by simp at hd, hgg, fun i hi => by simp at hi, hc3, hG3⟩
        · go_wp2
          go_ret
          exact ⟨X, g, cp, rfl, hX6, hfew, hgg, (Ss_row X).rd hown3, hc3, hG3⟩

end Go.Proofs.Ytcejeiakgmamdac.Wk
