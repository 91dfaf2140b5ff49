/- The draws of FnRebalanced, all of it in one text. -/
import Derived.Test.YtcejeiakgmamdacDrawB
import Derived.Test.YtcejeiakgmamdacStR
import Derived.Test.YtcejeiakgmamdacDvM
import Derived.Test.YtcejeiakgmamdacBuS
import Derived.Test.YtcejeiakgmamdacOwM
import Derived.Test.YtcejeiakgmamdacRgZ
import Derived.Test.YtcejeiakgmamdacStB
import Derived.Test.YtcejeiakgmamdacRgB
import Derived.Laws.OwnMore
import Derived.BigRegion
import Derived.Deep.AppendLies
import Derived.Deep.RegionLaw
import Derived.WalkKit
import Derived.Deep.CutBlock
import Derived.Deep.DeepCutAuto
import Derived.Laws.AppendOwn
import Derived.Maps.AppendAt
import Derived.Laws.Tables
import Derived.Deep.RegionHeld3
namespace Go.Proofs.Ytcejeiakgmamdac.Wk
set_option linter.unusedVariables false
open Go.ChangeShapes Go.WideShapes Go.ChangeAt Go.RowKit

/-- no number of this device is great -/
def Few (d : Sm.St) : Prop := (-1000 ≤ d.1 ∧ d.1 ≤ 2000) ∧ (-1000 ≤ d.2.1 ∧ d.2.1 ≤ 2000) ∧ (-1000 ≤ d.2.2 ∧ d.2.2 ≤ 2000)
theorem inF (ns : List Int) (lo hi : Int) (h : ∀ x ∈ ns, lo ≤ x ∧ x ≤ hi) (j : Nat) (hj : j < ns.length) : lo ≤ ns[j] ∧ ns[j] ≤ hi := h _ (List.getElem_mem hj)
theorem form4 {w : World} {base n : Nat} {e : TypeId} {v : Value} {xs : List Value} (h : w.ownsRow base e 3 v n xs) (h0 : 0 < n) : ∃ g cap, v = .slice (some ⟨g, 0, none⟩) n cap ∧ base ≤ g := by
  rcases h.2 with ⟨rfl, h0⟩ | ⟨g, cap, cur, rfl, hb, _⟩
  · omega
  · exact ⟨g, cap, rfl, hb⟩
theorem keptC {w w' : World} {base e n C : Nat} {v : Value} {xs : List Value} (h : w.ownsRow base e 3 v n xs) (hg : w.grownBy w' (some C)) (hC : C < base) : w'.ownsRow base e 3 v n xs :=
  World.ownsRow.kept h hg (.inr (fun e => by have := (World.ownsRow.lt h C e).1; omega))

set_option maxHeartbeats 4000000 in
set_option maxRecDepth 100000 in
theorem l4Draw (C : Nat) (l : List UInt8) (w : World) (hc : Cur w C l) :
    Calls Try.prog 47 #[.pointer (some ⟨C, 0, none⟩)] w fun e w' => ∃ (X : List Sm.St) (g cp : Nat), e = .returned (.slice (some ⟨g, 0, none⟩) X.length cp) ∧ 2 ≤ X.length ∧ X.length ≤ 6 ∧ (∀ d ∈ X, Few d) ∧ w.heap.size ≤ g ∧
      w'.ownsRow w.heap.size 42 3 (.slice (some ⟨g, 0, none⟩) X.length cp) X.length (Ss X) ∧ Cur w' C l ∧ w.grownBy w' (some C) := by
  have hC := hc.lt
  obtain ⟨i0, hi, hz0, hz1, hz2⟩ := info_parts infoDv
  have hown0 : (w.alloc (.cells #[] 42)).ownsRow w.heap.size 42 3 (.slice (some ⟨w.heap.size, 0, none⟩) 0 0) 0 [] := World.ownsRow_made w #[] 0 (Nat.le_refl _) (Nat.zero_le _) rfl
  have hg0 : w.grownBy (w.alloc (.cells #[] 42)) (some C) := World.grownBy_alloc _ _ _
  go_enter Try.func47, Try.ntmps47
  go_wp2_with fail
  refine (l1Below C l 4 _ (hc.below (bel1 _ _)) (by omega)).mono ?_
  rintro e w1 ⟨zz, rfl, hzz0, hzz1, -, hc1, hg1⟩
  have hown1 := keptC hown0 hg1 hC
  go_wp2_with fail
  refine (l1Below C l 5 _ hc1 (by omega)).mono ?_
  rintro e w2 ⟨kk, rfl, hk0, hk1, -, hc2, hg2⟩
  have hown2 := keptC hown1 hg2 hC
  have hgA := grownTrans (grownTrans hg0 hg1) hg2
  have hzz4 := hzz1 (by omega)
  have hk5 := hk1 (by omega)
  clear hown0 hown1 hzz1 hk1 hg0 hg1 hg2 hc1
  go_wp2
  go_loopw [3, 5, 6] (fun v i q wr => ∃ (k : Nat) (t : Int) (X : List Sm.St), i = .int .i64 t ∧ q = .int .i64 (k : Int) ∧ 2 ≤ X.length + k ∧ X.length + k ≤ 6 ∧ 0 ≤ t ∧ t ≤ 2 * (X.length : Int) ∧ (∀ d ∈ X, Few d) ∧ wr.ownsRow w.heap.size 42 3 v X.length (Ss X) ∧ Cur wr C l ∧ w.grownBy wr (some C)) (fun _ _ q _ => (intOf q).toNat)
  case atStart => exact ⟨(2 + kk).toNat, 0, [], rfl, by rw [Int.toNat_of_nonneg (by omega)], by simp; omega, by simp; omega, by omega, by simp, fun d h => by simp at h, hown2, hc2, hgA⟩
  case round =>
    obtain ⟨k, t, X, rfl, rfl, hXk, hXk6, ht0, ht1, hfew, hown, hcr, hgr⟩ := hrel
    clear hown2 hc2 hgA
    by_cases hlt : 0 < k
    · obtain ⟨k, rfl⟩ : ∃ j, k = j + 1 := ⟨k - 1, by omega⟩
      have hsr := hgr.size
      have hI1 := rdiNew (w := wr) (t := 3) (ns := [1, 1, 2]) (cs := #[.int .i64 1, .int .i64 1, .int .i64 2]) rfl
      have hb1 := bel1 wr (.cells #[.int .i64 1, .int .i64 1, .int .i64 2] 3)
      go_wp2_with fail
      refine (l1Int C wr.heap.size 0 _ 3 l [1, 1, 2] _ rfl (hcr.below hb1) (by simp) (by simp) hI1 (by omega)).mono ?_
      rintro e w3 ⟨j, hj, rfl, hc3, hg3⟩
      have hy := inF [1, 1, 2] 1 2 (by decide) j hj
      generalize ([1, 1, 2] : List Int)[j] = y at hy
      have hown3 := keptC (World.ownsRow.alloc hown _) hg3 hC
      have hgB := grownTrans (grownTrans hgr (World.grownBy_alloc wr _ _)) hg3
      clear hI1 hj hb1 hg3
      go_wp2_with fail
      refine (l1Below C l (1 + zz) _ hc3 (by omega)).mono ?_
      rintro e w4 ⟨z, rfl, hzA, hzB, -, hc4, hg4⟩
      have hz5 := hzB (by omega)
      have hown4 := keptC hown3 hg4 hC
      have hgD := grownTrans hgB hg4
      have hs4 := hgD.size
      clear hzB hown3 hgB hg4 hc3
      have hI5 := rdiNew (w := w4) (t := 3) (ns := [1, 1, 1, 2, 10, 100]) (cs := #[.int .i64 1, .int .i64 1, .int .i64 1, .int .i64 2, .int .i64 10, .int .i64 100]) rfl
      have hb5 := bel1 w4 (.cells #[.int .i64 1, .int .i64 1, .int .i64 1, .int .i64 2, .int .i64 10, .int .i64 100] 3)
      go_wp2_with fail
      refine (l1Int C w4.heap.size 0 _ 6 l [1, 1, 1, 2, 10, 100] _ rfl (hc4.below hb5) (by simp) (by simp) hI5 (by omega)).mono ?_
      rintro e w5 ⟨j, hj, rfl, hc5, hg5⟩
      have hn := inF [1, 1, 1, 2, 10, 100] 1 100 (by decide) j hj
      generalize ([1, 1, 1, 2, 10, 100] : List Int)[j] = n at hn
      have hown5 := keptC (World.ownsRow.alloc hown4 _) hg5 hC
      have hgE := grownTrans (grownTrans hgD (World.grownBy_alloc w4 _ _)) hg5
      have hs5 := hgE.size
      clear hI5 hj hb5 hg5 hgD hown4 hc4
      go_wp2_with (at_builtin; refine wpList_append_own _ rfl (.tmp 23) (.tmp 32) 24 rfl w.heap.size 42 i0 _ 3 24 Try.underlying24 hi hz0 hz1 hz2 rfl (by decide) _ _ _ rfl (World.ownsRow.alloc hown5 _) ⟨_, 0, none⟩ 1 1 [.int .i64 (t + y), .int .i64 z, .int .i64 n] rfl rfl three_at three_one (by unfold maxLen; omega) (by omega) (by simp; omega) ?_; intro v6 w6 hown6 hgrow6 hnil6)
      have hlo : ∀ j, u3.ownBlock = some j → w.heap.size ≤ j := fun j e => (World.ownsRow.lt hown j e).1
      have hg6 : w5.grownBy w6 u3.ownBlock := grownTrans (World.grownBy_alloc w5 _ u3.ownBlock) hgrow6
      have hc6 : Cur w6 C l := hc5.keep hg6 (fun j e => by have := hlo j e; omega)
      have hgF : w.grownBy w6 (some C) := grownVia hgE hg6 hlo
      have ho6 : w6.ownsRow w.heap.size 42 3 v6 (X ++ [(t + y, z, n)]).length (Ss (X ++ [(t + y, z, n)])) := by
        rw [Ss_snoc, List.length_append]; exact hown6
      have hfew6 : ∀ d ∈ X ++ [(t + y, z, n)], Few d := by
        intro d hd
        rcases List.mem_append.1 hd with hd | hd
        · exact hfew d hd
        · rw [List.mem_singleton] at hd
          subst hd
          exact ⟨⟨by show -1000 ≤ t + y; omega, by show t + y ≤ 2000; omega⟩, ⟨by show -1000 ≤ z; omega, by show z ≤ 2000; omega⟩, ⟨by show -1000 ≤ n; omega, by show n ≤ 2000; omega⟩⟩
      clear hown6 hgrow6 hnil6 hown5 hown hg6
      go_wp2
      go_roundw
      case rel => exact ⟨k, t + y, X ++ [(t + y, z, n)], by go_num, by go_num, by simp; omega, by simp; omega, by omega, by simp; omega, hfew6, ho6, hc6, hgF⟩
      case measure => simp [intOf]
    · obtain ⟨g, cp, hv, hgg⟩ := form4 hown (by omega)
      subst hv
      have hX2 : 2 ≤ X.length := by omega
      have hX6 : X.length ≤ 6 := by omega
      go_wp2
      go_ret
      exact ⟨X, g, cp, rfl, hX2, hX6, hfew, hgg, hown, hcr, hgr⟩
end Go.Proofs.Ytcejeiakgmamdac.Wk

namespace Go.Proofs.Ytcejeiakgmamdac.Wk
set_option linter.unusedVariables false
open Go.ChangeShapes Go.WideShapes Go.ChangeAt Go.RowKit

theorem Ss_set0 (y : Int) : ∀ (X : List Sm.St) (k : Nat) (h : k < X.length), (Ss X).set (k * 3) (.int .i64 y) = Ss (X.set k (y, X[k].2.1, X[k].2.2))
  | s :: r, 0, _ => rfl
  | s :: r, k + 1, h => by
    have ih := Ss_set0 y r k (by simpa using h)
    have e : Ss (s :: r) = .int .i64 s.1 :: .int .i64 s.2.1 :: .int .i64 s.2.2 :: Ss r := rfl
    rw [e, show (k + 1) * 3 = k * 3 + 1 + 1 + 1 from by omega, List.set_cons_succ, List.set_cons_succ, List.set_cons_succ, ih]
    rfl
theorem Ss_set1 (y : Int) : ∀ (X : List Sm.St) (k : Nat) (h : k < X.length), (Ss X).set (k * 3 + 1) (.int .i64 y) = Ss (X.set k (X[k].1, y, X[k].2.2))
  | s :: r, 0, _ => rfl
  | s :: r, k + 1, h => by
    have ih := Ss_set1 y r k (by simpa using h)
    have e : Ss (s :: r) = .int .i64 s.1 :: .int .i64 s.2.1 :: .int .i64 s.2.2 :: Ss r := rfl
    rw [e, show (k + 1) * 3 + 1 = k * 3 + 1 + 1 + 1 + 1 from by omega, List.set_cons_succ, List.set_cons_succ, List.set_cons_succ, ih]
    rfl
theorem Ss_set2 (y : Int) : ∀ (X : List Sm.St) (k : Nat) (h : k < X.length), (Ss X).set (k * 3 + 2) (.int .i64 y) = Ss (X.set k (X[k].1, X[k].2.1, y))
  | s :: r, 0, _ => rfl
  | s :: r, k + 1, h => by
    have ih := Ss_set2 y r k (by simpa using h)
    have e : Ss (s :: r) = .int .i64 s.1 :: .int .i64 s.2.1 :: .int .i64 s.2.2 :: Ss r := rfl
    rw [e, show (k + 1) * 3 + 2 = k * 3 + 2 + 1 + 1 + 1 from by omega, List.set_cons_succ, List.set_cons_succ, List.set_cons_succ, ih]
    rfl
theorem few_set {X : List Sm.St} {k : Nat} {d : Sm.St} (h : ∀ x ∈ X, Few x) (hd : Few d) : ∀ x ∈ X.set k d, Few x := fun x hx => (List.mem_or_eq_of_mem_set hx).elim (h x) (fun e => e ▸ hd)

set_option maxHeartbeats 4000000 in
set_option maxRecDepth 100000 in
theorem l4Any (C : Nat) (l : List UInt8) (w : World) (hc : Cur w C l) :
    Calls Try.prog 37 #[.pointer (some ⟨C, 0, none⟩)] w fun e w' => ∃ (X : List Sm.St) (g cp : Nat), e = .returned (.slice (some ⟨g, 0, none⟩) X.length cp) ∧ X.length ≤ 6 ∧ (∀ d ∈ X, Few d) ∧
      RdS w' (some ⟨g, 0, none⟩) X ∧ Cur w' C l ∧ w.grownBy w' (some C) := by
  have hC := hc.lt
  go_enter Try.func37, Try.ntmps37
  go_wp2_with fail
  refine (l4Draw C l _ hc).mono ?_
  rintro e w1 ⟨X, g, cp, rfl, hX2, hX6, hfew, hgg, hown, hc1, hg1⟩
  go_wp2_with fail
  refine (l1Below C l (X.length : Int) _ hc1 (by omega)).mono ?_
  rintro e w2 ⟨k, rfl, hk0, hk1, -, hc2, hg2⟩
  have hk2 := hk1 (by omega)
  obtain ⟨k, rfl⟩ := Int.eq_ofNat_of_zero_le hk0
  have hk : k < X.length := by omega
  have hown2 := keptC hown hg2 hC
  have hG2 := grownTrans hg1 hg2
  clear hk1 hk0 hown hc1 hg1 hg2
  go_wp2_with fail
  refine (l1Below C l 12 _ hc2 (by omega)).mono ?_
  rintro e w3 ⟨x, rfl, hx0, hx1, -, hc3, hg3⟩
  have hx12 := hx1 (by omega)
  have hown3 := keptC hown2 hg3 hC
  have hG3 := grownTrans hG2 hg3
  have hs3 := hG3.size
  clear hx1 hown2 hc2 hG2 hg3
  have hfk := hfew X[k] (List.getElem_mem hk)
  by_cases h0 : x = 0
  · subst h0
    have hI := rdiNew (w := w3) (t := 3) (ns := [-1, 0, 20, 21]) (cs := #[.int .i64 (-1), .int .i64 0, .int .i64 20, .int .i64 21]) rfl
    have hb := bel1 w3 (.cells #[.int .i64 (-1), .int .i64 0, .int .i64 20, .int .i64 21] 3)
    go_wp2_with fail
    refine (l1Int C w3.heap.size 0 _ 4 l [-1, 0, 20, 21] _ rfl (hc3.below hb) (by simp) (by simp) hI (by omega)).mono ?_
    rintro e w4 ⟨j, hj, rfl, hc4, hg4⟩
    have hy := inF [-1, 0, 20, 21] (-1) 21 (by decide) j hj
    generalize ([-1, 0, 20, 21] : List Int)[j] = y at hy
    have hown4 := keptC (World.ownsRow.alloc hown3 _) hg4 hC
    have hG4 := grownTrans (grownTrans hG3 (World.grownBy_alloc w3 _ _)) hg4
    have z0 := hown4.frozenAt (k * 3)
    have c0 := hown4.cellAt (k * 3) (by have := hown4.1; omega)
    have st := hown4.stored (k * 3) (.int .i64 y)
    rw [Ss_set0 y X k hk] at st
    rw [List.getElem?_eq_getElem (by have := hown4.1; omega)] at c0
    go_wp2
    go_ret
    refine ⟨X.set k (y, X[k].2.1, X[k].2.2), g, cp, by simp, by simpa using hX6, few_set hfew ⟨⟨by show -1000 ≤ y; omega, by show y ≤ 2000; omega⟩, hfk.2⟩, ?_, hc4.keep st.2 (fun j e => by cases e; omega), grownVia hG4 st.2 (fun j e => by cases e; omega)⟩
    refine (Ss_row _).rd (base := w.heap.size) (cap := cp) (e := 42) ?_
    rw [List.length_set]
    exact st.1
  · by_cases h1 : x = 1
    · subst h1
      have hI := rdiNew (w := w3) (t := 3) (ns := [-1, 20, 21]) (cs := #[.int .i64 (-1), .int .i64 20, .int .i64 21]) rfl
      have hb := bel1 w3 (.cells #[.int .i64 (-1), .int .i64 20, .int .i64 21] 3)
      go_wp2_with fail
      refine (l1Int C w3.heap.size 0 _ 3 l [-1, 20, 21] _ rfl (hc3.below hb) (by simp) (by simp) hI (by omega)).mono ?_
      rintro e w4 ⟨j, hj, rfl, hc4, hg4⟩
      have hy := inF [-1, 20, 21] (-1) 21 (by decide) j hj
      generalize ([-1, 20, 21] : List Int)[j] = y at hy
      have hown4 := keptC (World.ownsRow.alloc hown3 _) hg4 hC
      have hG4 := grownTrans (grownTrans hG3 (World.grownBy_alloc w3 _ _)) hg4
      have z0 := hown4.frozenAt (k * 3 + 1)
      have c0 := hown4.cellAt (k * 3 + 1) (by have := hown4.1; omega)
      have st := hown4.stored (k * 3 + 1) (.int .i64 y)
      rw [Ss_set1 y X k hk] at st
      rw [List.getElem?_eq_getElem (by have := hown4.1; omega)] at c0
      go_wp2
      go_ret
      refine ⟨X.set k (X[k].1, y, X[k].2.2), g, cp, by simp, by simpa using hX6, few_set hfew ⟨hfk.1, ⟨by show -1000 ≤ y; omega, by show y ≤ 2000; omega⟩, hfk.2.2⟩, ?_, hc4.keep st.2 (fun j e => by cases e; omega), grownVia hG4 st.2 (fun j e => by cases e; omega)⟩
      refine (Ss_row _).rd (base := w.heap.size) (cap := cp) (e := 42) ?_
      rw [List.length_set]
      exact st.1
    · by_cases h2 : x = 2
      · subst h2
        have hI := rdiNew (w := w3) (t := 3) (ns := [0, 1000, 1001]) (cs := #[.int .i64 0, .int .i64 1000, .int .i64 1001]) rfl
        have hb := bel1 w3 (.cells #[.int .i64 0, .int .i64 1000, .int .i64 1001] 3)
        go_wp2_with fail
        refine (l1Int C w3.heap.size 0 _ 3 l [0, 1000, 1001] _ rfl (hc3.below hb) (by simp) (by simp) hI (by omega)).mono ?_
        rintro e w4 ⟨j, hj, rfl, hc4, hg4⟩
        have hy := inF [0, 1000, 1001] 0 1001 (by decide) j hj
        generalize ([0, 1000, 1001] : List Int)[j] = y at hy
        have hown4 := keptC (World.ownsRow.alloc hown3 _) hg4 hC
        have hG4 := grownTrans (grownTrans hG3 (World.grownBy_alloc w3 _ _)) hg4
        have z0 := hown4.frozenAt (k * 3 + 2)
        have c0 := hown4.cellAt (k * 3 + 2) (by have := hown4.1; omega)
        have st := hown4.stored (k * 3 + 2) (.int .i64 y)
        rw [Ss_set2 y X k hk] at st
        rw [List.getElem?_eq_getElem (by have := hown4.1; omega)] at c0
        go_wp2
        go_ret
        refine ⟨X.set k (X[k].1, X[k].2.1, y), g, cp, by simp, by simpa using hX6, few_set hfew ⟨hfk.1, hfk.2.1, ⟨by show -1000 ≤ y; omega, by show y ≤ 2000; omega⟩⟩, ?_, hc4.keep st.2 (fun j e => by cases e; omega), grownVia hG4 st.2 (fun j e => by cases e; omega)⟩
        refine (Ss_row _).rd (base := w.heap.size) (cap := cp) (e := 42) ?_
        rw [List.length_set]
        exact st.1
      · by_cases h3 : x = 3
        · subst h3
          go_wp2
          go_ret
          exact ⟨[], g, cp, rfl, by simp, fun d hd => by simp at hd, fun i hi => by simp at hi, hc3, hG3⟩
        · go_wp2
          go_ret
          exact ⟨X, g, cp, rfl, hX6, hfew, (Ss_row X).rd hown3, hc3, hG3⟩

end Go.Proofs.Ytcejeiakgmamdac.Wk

namespace Go.Proofs.Ytcejeiakgmamdac.Wk
set_option linter.unusedVariables false
open Go.ChangeShapes Go.WideShapes Go.ChangeAt Go.RowKit

/-- devices as told, their Ids rising up to t -/
def Nice (X : List Sm.St) (t : Int) : Prop := (∀ d ∈ X, Dv.dev d.1 d.2.1 d.2.2 = true ∧ d.1 ≤ t) ∧ X.Pairwise (fun a b => a.1 < b.1)
theorem Nice.snoc {X : List Sm.St} {t y z n : Int} (h : Nice X t) (h0 : 0 ≤ t) (h1 : 1 ≤ y) (h2 : t + y ≤ 20) (h3 : 0 ≤ z) (h4 : z ≤ 20) (h5 : 1 ≤ n) (h6 : n ≤ 1000) : Nice (X ++ [(t + y, z, n)]) (t + y) := by
  refine ⟨fun d hd => ?_, ?_⟩
  · rcases List.mem_append.1 hd with hd | hd
    · exact ⟨(h.1 d hd).1, by have := (h.1 d hd).2; omega⟩
    · rw [List.mem_singleton] at hd
      subst hd
      refine ⟨?_, Int.le_refl _⟩
      simp only [Dv.dev, Bool.and_eq_true, decide_eq_true_eq]
      omega
  · rw [List.pairwise_append]
    refine ⟨h.2, by simp, fun a ha b hb => ?_⟩
    rw [List.mem_singleton] at hb
    subst hb
    have := (h.1 a ha).2
    show a.1 < t + y
    omega
theorem devs_of {X : List Sm.St} (h1 : ∀ d ∈ X, Dv.dev d.1 d.2.1 d.2.2 = true) (h2 : X.Pairwise (fun a b => a.1 < b.1)) (h3 : 1 ≤ X.length) (h4 : X.length ≤ 12) : Dv.devs X = true := by
  have hu : Dv.upto X X.length = true := by
    unfold Dv.upto
    rw [List.all_eq_true]
    intro i hi
    rw [List.mem_range] at hi
    have hd := h1 X[i] (List.getElem_mem hi)
    cases i with
    | zero => rw [Dv.okAt_zero hi rfl]; exact hd
    | succ k =>
      rw [Dv.okAt_succ (i := X[k + 1].1) (z := X[k + 1].2.1) (n := X[k + 1].2.2) (i' := X[k].1) (z' := X[k].2.1) (n' := X[k].2.2) hi rfl rfl, hd]
      have := List.pairwise_iff_getElem.1 h2 k (k + 1) (by omega) hi (by omega)
      simp [this]
  simp [Dv.devs, hu, h3, h4]
theorem Nice.devs {X : List Sm.St} {t : Int} (h : Nice X t) (h3 : 1 ≤ X.length) (h4 : X.length ≤ 12) : Dv.devs X = true := devs_of (fun d hd => (h.1 d hd).1) h.2 h3 h4

set_option maxHeartbeats 4000000 in
set_option maxRecDepth 100000 in
theorem l4DrawR (C : Nat) (l : List UInt8) (w : World) (hc : Cur w C l) :
    Calls Try.prog 47 #[.pointer (some ⟨C, 0, none⟩)] w fun e w' => ∃ (X : List Sm.St) (g cp : Nat), e = .returned (.slice (some ⟨g, 0, none⟩) X.length cp) ∧ 2 ≤ X.length ∧ X.length ≤ 6 ∧ (∀ d ∈ X, Few d) ∧ w.heap.size ≤ g ∧
      w'.ownsRow w.heap.size 42 3 (.slice (some ⟨g, 0, none⟩) X.length cp) X.length (Ss X) ∧ Cur w' C l ∧ w.grownBy w' (some C) ∧ Dv.devs X = true := by
  have hC := hc.lt
  obtain ⟨i0, hi, hz0, hz1, hz2⟩ := info_parts infoDv
  have hown0 : (w.alloc (.cells #[] 42)).ownsRow w.heap.size 42 3 (.slice (some ⟨w.heap.size, 0, none⟩) 0 0) 0 [] := World.ownsRow_made w #[] 0 (Nat.le_refl _) (Nat.zero_le _) rfl
  have hg0 : w.grownBy (w.alloc (.cells #[] 42)) (some C) := World.grownBy_alloc _ _ _
  go_enter Try.func47, Try.ntmps47
  go_wp2_with fail
  refine (l1Below C l 4 _ (hc.below (bel1 _ _)) (by omega)).mono ?_
  rintro e w1 ⟨zz, rfl, hzz0, hzz1, -, hc1, hg1⟩
  have hown1 := keptC hown0 hg1 hC
  go_wp2_with fail
  refine (l1Below C l 5 _ hc1 (by omega)).mono ?_
  rintro e w2 ⟨kk, rfl, hk0, hk1, -, hc2, hg2⟩
  have hown2 := keptC hown1 hg2 hC
  have hgA := grownTrans (grownTrans hg0 hg1) hg2
  have hzz4 := hzz1 (by omega)
  have hk5 := hk1 (by omega)
  clear hown0 hown1 hzz1 hk1 hg0 hg1 hg2 hc1
  go_wp2
  go_loopw [3, 5, 6] (fun v i q wr => ∃ (k : Nat) (t : Int) (X : List Sm.St), i = .int .i64 t ∧ q = .int .i64 (k : Int) ∧ 2 ≤ X.length + k ∧ X.length + k ≤ 6 ∧ 0 ≤ t ∧ t ≤ 2 * (X.length : Int) ∧ (∀ d ∈ X, Few d) ∧ Nice X t ∧ wr.ownsRow w.heap.size 42 3 v X.length (Ss X) ∧ Cur wr C l ∧ w.grownBy wr (some C)) (fun _ _ q _ => (intOf q).toNat)
  case atStart => exact ⟨(2 + kk).toNat, 0, [], rfl, by rw [Int.toNat_of_nonneg (by omega)], by simp; omega, by simp; omega, by omega, by simp, fun d h => by simp at h, ⟨fun d h => by simp at h, List.Pairwise.nil⟩, hown2, hc2, hgA⟩
  case round =>
    obtain ⟨k, t, X, rfl, rfl, hXk, hXk6, ht0, ht1, hfew, hnice, hown, hcr, hgr⟩ := hrel
    clear hown2 hc2 hgA
    by_cases hlt : 0 < k
    · obtain ⟨k, rfl⟩ : ∃ j, k = j + 1 := ⟨k - 1, by omega⟩
      have hsr := hgr.size
      have hI1 := rdiNew (w := wr) (t := 3) (ns := [1, 1, 2]) (cs := #[.int .i64 1, .int .i64 1, .int .i64 2]) rfl
      have hb1 := bel1 wr (.cells #[.int .i64 1, .int .i64 1, .int .i64 2] 3)
      go_wp2_with fail
      refine (l1Int C wr.heap.size 0 _ 3 l [1, 1, 2] _ rfl (hcr.below hb1) (by simp) (by simp) hI1 (by omega)).mono ?_
      rintro e w3 ⟨j, hj, rfl, hc3, hg3⟩
      have hy := inF [1, 1, 2] 1 2 (by decide) j hj
      generalize ([1, 1, 2] : List Int)[j] = y at hy
      have hown3 := keptC (World.ownsRow.alloc hown _) hg3 hC
      have hgB := grownTrans (grownTrans hgr (World.grownBy_alloc wr _ _)) hg3
      clear hI1 hj hb1 hg3
      go_wp2_with fail
      refine (l1Below C l (1 + zz) _ hc3 (by omega)).mono ?_
      rintro e w4 ⟨z, rfl, hzA, hzB, -, hc4, hg4⟩
      have hz5 := hzB (by omega)
      have hown4 := keptC hown3 hg4 hC
      have hgD := grownTrans hgB hg4
      have hs4 := hgD.size
      clear hzB hown3 hgB hg4 hc3
      have hI5 := rdiNew (w := w4) (t := 3) (ns := [1, 1, 1, 2, 10, 100]) (cs := #[.int .i64 1, .int .i64 1, .int .i64 1, .int .i64 2, .int .i64 10, .int .i64 100]) rfl
      have hb5 := bel1 w4 (.cells #[.int .i64 1, .int .i64 1, .int .i64 1, .int .i64 2, .int .i64 10, .int .i64 100] 3)
      go_wp2_with fail
      refine (l1Int C w4.heap.size 0 _ 6 l [1, 1, 1, 2, 10, 100] _ rfl (hc4.below hb5) (by simp) (by simp) hI5 (by omega)).mono ?_
      rintro e w5 ⟨j, hj, rfl, hc5, hg5⟩
      have hn := inF [1, 1, 1, 2, 10, 100] 1 100 (by decide) j hj
      generalize ([1, 1, 1, 2, 10, 100] : List Int)[j] = n at hn
      have hown5 := keptC (World.ownsRow.alloc hown4 _) hg5 hC
      have hgE := grownTrans (grownTrans hgD (World.grownBy_alloc w4 _ _)) hg5
      have hs5 := hgE.size
      clear hI5 hj hb5 hg5 hgD hown4 hc4
      go_wp2_with (at_builtin; refine wpList_append_own _ rfl (.tmp 23) (.tmp 32) 24 rfl w.heap.size 42 i0 _ 3 24 Try.underlying24 hi hz0 hz1 hz2 rfl (by decide) _ _ _ rfl (World.ownsRow.alloc hown5 _) ⟨_, 0, none⟩ 1 1 [.int .i64 (t + y), .int .i64 z, .int .i64 n] rfl rfl three_at three_one (by unfold maxLen; omega) (by omega) (by simp; omega) ?_; intro v6 w6 hown6 hgrow6 hnil6)
      have hlo : ∀ j, u3.ownBlock = some j → w.heap.size ≤ j := fun j e => (World.ownsRow.lt hown j e).1
      have hg6 : w5.grownBy w6 u3.ownBlock := grownTrans (World.grownBy_alloc w5 _ u3.ownBlock) hgrow6
      have hc6 : Cur w6 C l := hc5.keep hg6 (fun j e => by have := hlo j e; omega)
      have hgF : w.grownBy w6 (some C) := grownVia hgE hg6 hlo
      have ho6 : w6.ownsRow w.heap.size 42 3 v6 (X ++ [(t + y, z, n)]).length (Ss (X ++ [(t + y, z, n)])) := by
        rw [Ss_snoc, List.length_append]; exact hown6
      have hfew6 : ∀ d ∈ X ++ [(t + y, z, n)], Few d := by
        intro d hd
        rcases List.mem_append.1 hd with hd | hd
        · exact hfew d hd
        · rw [List.mem_singleton] at hd
          subst hd
          exact ⟨⟨by show -1000 ≤ t + y; omega, by show t + y ≤ 2000; omega⟩, ⟨by show -1000 ≤ z; omega, by show z ≤ 2000; omega⟩, ⟨by show -1000 ≤ n; omega, by show n ≤ 2000; omega⟩⟩
      have hnice6 : Nice (X ++ [(t + y, z, n)]) (t + y) := hnice.snoc (by omega) (by omega) (by omega) (by omega) (by omega) (by omega) (by omega)
      clear hown6 hgrow6 hnil6 hown5 hown hg6
      go_wp2
      go_roundw
      case rel => exact ⟨k, t + y, X ++ [(t + y, z, n)], by go_num, by go_num, by simp; omega, by simp; omega, by omega, by simp; omega, hfew6, hnice6, ho6, hc6, hgF⟩
      case measure => simp [intOf]
    · obtain ⟨g, cp, hv, hgg⟩ := form4 hown (by omega)
      subst hv
      have hX2 : 2 ≤ X.length := by omega
      have hX6 : X.length ≤ 6 := by omega
      have hdv := hnice.devs (by omega) (by omega)
      go_wp2
      go_ret
      exact ⟨X, g, cp, rfl, hX2, hX6, hfew, hgg, hown, hcr, hgr, hdv⟩
set_option maxHeartbeats 4000000 in
set_option maxRecDepth 100000 in
theorem l4AnyR (C : Nat) (l : List UInt8) (w : World) (hc : Cur w C l) :
    Calls Try.prog 37 #[.pointer (some ⟨C, 0, none⟩)] w fun e w' => ∃ (X : List Sm.St) (g cp : Nat), e = .returned (.slice (some ⟨g, 0, none⟩) X.length cp) ∧ X.length ≤ 6 ∧ (∀ d ∈ X, Few d) ∧
      w.heap.size ≤ g ∧ RdS w' (some ⟨g, 0, none⟩) X ∧ Cur w' C l ∧ w.grownBy w' (some C) := by
  have hC := hc.lt
  go_enter Try.func37, Try.ntmps37
  go_wp2_with fail
  refine (l4DrawR C l _ hc).mono ?_
  rintro e w1 ⟨X, g, cp, rfl, hX2, hX6, hfew, hgg, hown, hc1, hg1, -⟩
  go_wp2_with fail
  refine (l1Below C l (X.length : Int) _ hc1 (by omega)).mono ?_
  rintro e w2 ⟨k, rfl, hk0, hk1, -, hc2, hg2⟩
  have hk2 := hk1 (by omega)
  obtain ⟨k, rfl⟩ := Int.eq_ofNat_of_zero_le hk0
  have hk : k < X.length := by omega
  have hown2 := keptC hown hg2 hC
  have hG2 := grownTrans hg1 hg2
  clear hk1 hk0 hown hc1 hg1 hg2
  go_wp2_with fail
  refine (l1Below C l 12 _ hc2 (by omega)).mono ?_
  rintro e w3 ⟨x, rfl, hx0, hx1, -, hc3, hg3⟩
  have hx12 := hx1 (by omega)
  have hown3 := keptC hown2 hg3 hC
  have hG3 := grownTrans hG2 hg3
  have hs3 := hG3.size
  clear hx1 hown2 hc2 hG2 hg3
  have hfk := hfew X[k] (List.getElem_mem hk)
  by_cases h0 : x = 0
  · subst h0
    have hI := rdiNew (w := w3) (t := 3) (ns := [-1, 0, 20, 21]) (cs := #[.int .i64 (-1), .int .i64 0, .int .i64 20, .int .i64 21]) rfl
    have hb := bel1 w3 (.cells #[.int .i64 (-1), .int .i64 0, .int .i64 20, .int .i64 21] 3)
    go_wp2_with fail
    refine (l1Int C w3.heap.size 0 _ 4 l [-1, 0, 20, 21] _ rfl (hc3.below hb) (by simp) (by simp) hI (by omega)).mono ?_
    rintro e w4 ⟨j, hj, rfl, hc4, hg4⟩
    have hy := inF [-1, 0, 20, 21] (-1) 21 (by decide) j hj
    generalize ([-1, 0, 20, 21] : List Int)[j] = y at hy
    have hown4 := keptC (World.ownsRow.alloc hown3 _) hg4 hC
    have hG4 := grownTrans (grownTrans hG3 (World.grownBy_alloc w3 _ _)) hg4
    have z0 := hown4.frozenAt (k * 3)
    have c0 := hown4.cellAt (k * 3) (by have := hown4.1; omega)
    have st := hown4.stored (k * 3) (.int .i64 y)
    rw [Ss_set0 y X k hk] at st
    rw [List.getElem?_eq_getElem (by have := hown4.1; omega)] at c0
    go_wp2
    go_ret
    refine ⟨X.set k (y, X[k].2.1, X[k].2.2), g, cp, by simp, by simpa using hX6, few_set hfew ⟨⟨by show -1000 ≤ y; omega, by show y ≤ 2000; omega⟩, hfk.2⟩, hgg, ?_, hc4.keep st.2 (fun j e => by cases e; omega), grownVia hG4 st.2 (fun j e => by cases e; omega)⟩
    refine (Ss_row _).rd (base := w.heap.size) (cap := cp) (e := 42) ?_
    rw [List.length_set]
    exact st.1
  · by_cases h1 : x = 1
    · subst h1
      have hI := rdiNew (w := w3) (t := 3) (ns := [-1, 20, 21]) (cs := #[.int .i64 (-1), .int .i64 20, .int .i64 21]) rfl
      have hb := bel1 w3 (.cells #[.int .i64 (-1), .int .i64 20, .int .i64 21] 3)
      go_wp2_with fail
      refine (l1Int C w3.heap.size 0 _ 3 l [-1, 20, 21] _ rfl (hc3.below hb) (by simp) (by simp) hI (by omega)).mono ?_
      rintro e w4 ⟨j, hj, rfl, hc4, hg4⟩
      have hy := inF [-1, 20, 21] (-1) 21 (by decide) j hj
      generalize ([-1, 20, 21] : List Int)[j] = y at hy
      have hown4 := keptC (World.ownsRow.alloc hown3 _) hg4 hC
      have hG4 := grownTrans (grownTrans hG3 (World.grownBy_alloc w3 _ _)) hg4
      have z0 := hown4.frozenAt (k * 3 + 1)
      have c0 := hown4.cellAt (k * 3 + 1) (by have := hown4.1; omega)
      have st := hown4.stored (k * 3 + 1) (.int .i64 y)
      rw [Ss_set1 y X k hk] at st
      rw [List.getElem?_eq_getElem (by have := hown4.1; omega)] at c0
      go_wp2
      go_ret
      refine ⟨X.set k (X[k].1, y, X[k].2.2), g, cp, by simp, by simpa using hX6, few_set hfew ⟨hfk.1, ⟨by show -1000 ≤ y; omega, by show y ≤ 2000; omega⟩, hfk.2.2⟩, hgg, ?_, hc4.keep st.2 (fun j e => by cases e; omega), grownVia hG4 st.2 (fun j e => by cases e; omega)⟩
      refine (Ss_row _).rd (base := w.heap.size) (cap := cp) (e := 42) ?_
      rw [List.length_set]
      exact st.1
    · by_cases h2 : x = 2
      · subst h2
        have hI := rdiNew (w := w3) (t := 3) (ns := [0, 1000, 1001]) (cs := #[.int .i64 0, .int .i64 1000, .int .i64 1001]) rfl
        have hb := bel1 w3 (.cells #[.int .i64 0, .int .i64 1000, .int .i64 1001] 3)
        go_wp2_with fail
        refine (l1Int C w3.heap.size 0 _ 3 l [0, 1000, 1001] _ rfl (hc3.below hb) (by simp) (by simp) hI (by omega)).mono ?_
        rintro e w4 ⟨j, hj, rfl, hc4, hg4⟩
        have hy := inF [0, 1000, 1001] 0 1001 (by decide) j hj
        generalize ([0, 1000, 1001] : List Int)[j] = y at hy
        have hown4 := keptC (World.ownsRow.alloc hown3 _) hg4 hC
        have hG4 := grownTrans (grownTrans hG3 (World.grownBy_alloc w3 _ _)) hg4
        have z0 := hown4.frozenAt (k * 3 + 2)
        have c0 := hown4.cellAt (k * 3 + 2) (by have := hown4.1; omega)
        have st := hown4.stored (k * 3 + 2) (.int .i64 y)
        rw [Ss_set2 y X k hk] at st
        rw [List.getElem?_eq_getElem (by have := hown4.1; omega)] at c0
        go_wp2
        go_ret
        refine ⟨X.set k (X[k].1, X[k].2.1, y), g, cp, by simp, by simpa using hX6, few_set hfew ⟨hfk.1, hfk.2.1, ⟨by show -1000 ≤ y; omega, by show y ≤ 2000; omega⟩⟩, hgg, ?_, hc4.keep st.2 (fun j e => by cases e; omega), grownVia hG4 st.2 (fun j e => by cases e; omega)⟩
        refine (Ss_row _).rd (base := w.heap.size) (cap := cp) (e := 42) ?_
        rw [List.length_set]
        exact st.1
      · by_cases h3 : x = 3
        · subst h3
          go_wp2
          go_ret
          exact ⟨[], g, cp, rfl, by simp, fun d hd => by simp at hd, hgg, fun i hi => by simp at hi, hc3, hG3⟩
        · go_wp2
          go_ret
          exact ⟨X, g, cp, rfl, hX6, hfew, hgg, (Ss_row X).rd hown3, hc3, hG3⟩

end Go.Proofs.Ytcejeiakgmamdac.Wk

namespace Go.Proofs.Ytcejeiakgmamdac.Wk
set_option linter.unusedVariables false
open Go.ChangeShapes Go.WideShapes Go.ChangeAt Go.RowKit

theorem grownSet7 {w w1 : World} {C b o : Nat} {u : Value} (h : w.grownBy w1 (some C)) (hb : w.heap.size ≤ b) : w.grownBy (w1.setCell ⟨b, o, none⟩ u) (some C) :=
  grownVia h (grownSet w1 b o u) (fun j e => by cases e; exact hb)
theorem OwnP.keptC {w w' : World} {base C : Nat} {v : Value} {Q : List (List Int)} (h : OwnP w base v Q) (hg : w.grownBy w' (some C)) (hC : C < base) : OwnP w' base v Q := by
  obtain ⟨vs, h1, h2, h3⟩ := h
  have key : ∀ {e n : Nat} {x : Value} {xs : List Value}, w.ownsRow base e 1 x n xs → w'.ownsRow base e 1 x n xs := fun hx => hx.kept hg (.inr (fun e => by
    have := (World.ownsRow.lt hx C e).1
    omega))
  exact ⟨vs, key h1, fun i hi hk => let ⟨x, e1, e2, e3⟩ := h2 i hi hk; ⟨x, e1, key e2, e3⟩, h3⟩
theorem OwnP.form {w : World} {base n cap : Nat} {a : Option Addr} {Q : List (List Int)} (h : OwnP w base (.slice a n cap) Q) (h0 : 0 < Q.length) : ∃ g, a = some ⟨g, 0, none⟩ ∧ base ≤ g := by
  obtain ⟨vs, h1, _⟩ := h
  rcases h1.2 with ⟨e, h2⟩ | ⟨g, cap', cur, e, _⟩
  · omega
  · simp only [Value.slice.injEq] at e
    obtain ⟨rfl, -, -⟩ := e
    exact ⟨g, rfl, (World.ownsRow.lt h1 g rfl).1⟩

theorem rdsG7 {w w' : World} {C g : Nat} {X : List Sm.St} (h : RdS w (some ⟨g, 0, none⟩) X) (hg : w.grownBy w' (some C)) (hne : g ≠ C) : RdS w' (some ⟨g, 0, none⟩) X := by
  intro i hi
  obtain ⟨b, off, e, p⟩ := h i hi
  have e' := e
  simp only [Option.some.injEq, Addr.mk.injEq, and_true] at e'
  obtain ⟨rfl, rfl⟩ := e'
  obtain ⟨p0, p1, p2⟩ := p
  have hn : some g ≠ some C := fun e => hne (Option.some.inj e)
  exact ⟨g, 0, e, hg.cell p0 hn, hg.cell p1 hn, hg.cell p2 hn⟩

set_option maxHeartbeats 4000000 in
set_option maxRecDepth 100000 in
theorem l5Draw (C : Nat) (l : List UInt8) (w : World) (hc : Cur w C l) :
    Calls Try.prog 55 #[.pointer (some ⟨C, 0, none⟩)] w fun e w' => ∃ (X : List Sm.St) (g cp reps p gI ca : Nat), e = .returned (.tuple #[.slice (some ⟨g, 0, none⟩) X.length cp, .agg #[.int .i64 (reps : Int), .slice (some ⟨gI, 0, none⟩) p ca]]) ∧
      X.length ≤ 6 ∧ (∀ d ∈ X, Few d) ∧ Dv.devs X = true ∧ 1 ≤ reps ∧ reps ≤ 3 ∧ reps ≤ X.length ∧ 1 ≤ p ∧ p ≤ 16 ∧ w.heap.size ≤ g ∧ RdS w' (some ⟨g, 0, none⟩) X ∧ OwnP w' (g + 1) (.slice (some ⟨gI, 0, none⟩) p ca) (Rg.parts X reps p) ∧ Cur w' C l ∧ w.grownBy w' (some C) := by
  have hC := hc.lt
  have s0 := slot2New w (.int .i64 0) (.slice none 0 0) 29
  have b0 := bel1 w (.cells #[.int .i64 0, .slice none 0 0] 29)
  have hg0 : w.grownBy (w.alloc (.cells #[.int .i64 0, .slice none 0 0] 29)) (some C) := World.grownBy_alloc _ _ _
  have hc0 := hc.below b0
  have hs0 : (w.alloc (.cells #[.int .i64 0, .slice none 0 0] 29)).heap.size = w.heap.size + 1 := by simp
  go_enter Try.func55, Try.ntmps55
  go_wp2_with fail
  generalize w.alloc (.cells #[.int .i64 0, .slice none 0 0] 29) = wA at s0 b0 hg0 hc0 hs0 ⊢
  refine (l4DrawR C l _ hc0).mono ?_
  rintro e w1 ⟨X, g, cp, rfl, hX2, hX6, hfew, hgg, hown, hc1, hg1, hdv⟩
  have hr1 := (Ss_row X).rd hown
  have s1 := Slot2.grown s0 hg1 (fun e => by simp only [Option.some.injEq] at e; omega)
  have hG1 := grownTrans hg0 hg1
  clear hg0 hg1 hown s0 b0 hc0
  go_wp2_with fail
  refine (l1Below C l 3 _ hc1 (by omega)).mono ?_
  rintro e w2 ⟨x, rfl, hx0, hx1, -, hc2, hg2⟩
  have hx3 := hx1 (by omega)
  obtain ⟨x, rfl⟩ := Int.eq_ofNat_of_zero_le hx0
  have hr2 := rdsG7 hr1 hg2 (by omega)
  have s2 := Slot2.grown s1 hg2 (fun e => by simp only [Option.some.injEq] at e; omega)
  have hG2 := grownTrans hG1 hg2
  have hz2 := hG2.size
  clear hx1 hg2 s1 hr1 hG1 hc1 hx0
  obtain ⟨r, hr, hr1, hr3⟩ : ∃ r : Nat, (1 : Int) + (x : Int) = (r : Int) ∧ 1 ≤ r ∧ r ≤ 3 := ⟨1 + x, by simp, by omega, by omega⟩
  have hI2 := rdiNew (w := w2) (t := 3) (ns := [4, 8, 1, 5, 16]) (cs := #[.int .i64 4, .int .i64 8, .int .i64 1, .int .i64 5, .int .i64 16]) rfl
  have b2 := bel1 w2 (.cells #[.int .i64 4, .int .i64 8, .int .i64 1, .int .i64 5, .int .i64 16] 3)
  have cI := l1Int C w2.heap.size 0 5 5 l [4, 8, 1, 5, 16] _ rfl (hc2.below b2) (by simp) (by simp) hI2 (by omega)
  have s2' := s2.below b2
  have hr2' := hr2.below b2
  have hG2' := grownTrans hG2 (World.grownBy_alloc w2 (.cells #[.int .i64 4, .int .i64 8, .int .i64 1, .int .i64 5, .int .i64 16] 3) _)
  clear s2 hr2 hG2 hI2 hc2
  have REST : Hid (∀ (R : Nat), 1 ≤ R → R ≤ 3 → R ≤ X.length → ∀ w3, Cur w3 C l → (w2.alloc (.cells #[.int .i64 4, .int .i64 8, .int .i64 1, .int .i64 5, .int .i64 16] 3)).grownBy w3 (some C) → ∀ p : Nat, 1 ≤ p → p ≤ 16 →
      Calls Try.prog 12 #[.slice (some ⟨g, 0, none⟩) X.length cp, .int .i64 (p : Int), .int .i64 (R : Int)] w3 fun e w4 => ∃ gI ca, e = .returned (.tuple #[.agg #[.int .i64 (R : Int), .slice (some ⟨gI, 0, none⟩) p ca], .bool true]) ∧
        Slot2 w4 w.heap.size (.int .i64 0) (.slice none 0 0) ∧ RdS w4 (some ⟨g, 0, none⟩) X ∧ OwnP w4 w3.heap.size (.slice (some ⟨gI, 0, none⟩) p ca) (Rg.parts X R p) ∧ Cur w4 C l ∧ w.grownBy w4 (some C) ∧ w.heap.size < w3.heap.size ∧ g < w3.heap.size) := by
    intro R hR1 hR3 hRX w3 hc3 hg3 p hp1 hp16
    have hr3 := rdsG7 hr2' hg3 (by omega)
    refine (specBuildYes _ _ X p R w3 hr3 hdv (by omega) (by omega) (by omega) (by omega) (by omega)).mono ?_
    rintro e w4 ⟨a, ca, rfl, hO, hb4⟩
    have hpl := Rg.parts_len X R p
    obtain ⟨gI, rfl, -⟩ := OwnP.form hO (by omega)
    have s3 := Slot2.grown s2' hg3 (fun e => by simp only [Option.some.injEq] at e; omega)
    exact ⟨gI, ca, rfl, s3.below hb4, hr3.below hb4, hO, hc3.below hb4, grownBelow (grownTrans hG2' hg3) hb4, s3.lt, by
      obtain ⟨b, off, e, p0, -⟩ := hr3 0 (by omega)
      cases e
      exact World.block_lt_of_cell? w3 _ p0⟩
  have hin := fun j hj => inF [4, 8, 1, 5, 16] 1 16 (by decide) j hj
  clear s2' hr2' hG2' hc
  by_cases hrX : (X.length : Int) < (r : Int)
  · have hrn : X.length < r := by omega
    go_wp2_with fail
    refine cI.mono ?_
    rintro e w3 ⟨j, hj, rfl, hc3, hg3⟩
    have hp := hin j hj
    generalize ([4, 8, 1, 5, 16] : List Int)[j] = pp at hp
    obtain ⟨p, rfl⟩ : ∃ p : Nat, pp = p := ⟨pp.toNat, by omega⟩
    go_wp2_with fail
    refine (REST.out X.length (by omega) (by omega) (by omega) w3 hc3 hg3 p (by omega) (by omega)).mono ?_
    rintro e w4 ⟨gI, ca, rfl, s4, hr4, hO4, hc4, hg4, hlt4, hlg4⟩
    have b4 := bel1 w4 (.cells #[.int .i64 (X.length : Int), .slice (some ⟨gI, 0, none⟩) p ca] 29)
    have v4 := slot2New w4 (.int .i64 (X.length : Int)) (.slice (some ⟨gI, 0, none⟩) p ca) 29
    have s5 := s4.below b4
    have hr5 := hr4.below b4
    have hO5 := hO4.below b4
    have hc5 := hc4.below b4
    have hg5 := grownBelow hg4 b4
    have hls := s4.lt
    clear s4 hr4 hO4 hc4 hg4 REST cI hin hj hc3 hg3
    obtain ⟨⟨t0, t1⟩, t2, t3⟩ := id s5
    obtain ⟨⟨v0, v1⟩, -⟩ := id v4
    have hgw : w.heap.size ≠ g := by omega
    have FIN : Hid (∀ w6, w6 = ((w4.alloc (.cells #[.int .i64 (X.length : Int), .slice (some ⟨gI, 0, none⟩) p ca] 29)).setCell ⟨w.heap.size, 0, none⟩ (.int .i64 (X.length : Int))).setCell ⟨w.heap.size, 1, none⟩ (.slice (some ⟨gI, 0, none⟩) p ca) →
        ((w4.alloc (.cells #[.int .i64 (X.length : Int), .slice (some ⟨gI, 0, none⟩) p ca] 29)).setCell ⟨w.heap.size, 0, none⟩ (.int .i64 (X.length : Int))).cell? ⟨w.heap.size, 0, none⟩ = some (.int .i64 (X.length : Int)) ∧ w6.cell? ⟨w.heap.size, 1, none⟩ = some (.slice (some ⟨gI, 0, none⟩) p ca) ∧ RdS w6 (some ⟨g, 0, none⟩) X ∧ OwnP w6 (g + 1) (.slice (some ⟨gI, 0, none⟩) p ca) (Rg.parts X X.length p) ∧ Cur w6 C l ∧ w.grownBy w6 (some C)) := by
      rintro w6 rfl
      generalize w4.alloc (.cells #[.int .i64 (X.length : Int), .slice (some ⟨gI, 0, none⟩) p ca] 29) = wB at s5 hr5 hO5 hc5 hg5 t0 t1
      have e0 : (wB.setCell ⟨w.heap.size, 0, none⟩ (.int .i64 (X.length : Int))).cell? ⟨w.heap.size, 0, none⟩ = some (.int .i64 (X.length : Int)) := World.cell?_setCell_same' _ _ _ (by show (wB.cell? _).isSome = true; rw [t0]; rfl)
      have gA : wB.grownBy (wB.setCell ⟨w.heap.size, 0, none⟩ (.int .i64 (X.length : Int))) (some w.heap.size) := grownSet wB w.heap.size 0 _
      have gB := grownTrans gA (grownSet (wB.setCell ⟨w.heap.size, 0, none⟩ (.int .i64 (X.length : Int))) w.heap.size 1 (.slice (some ⟨gI, 0, none⟩) p ca))
      refine ⟨?_, ?_, rdsG7 hr5 gB (by omega), (OwnP.keptC hO5 gB hlt4).mono (by omega), hc5.keep gB (fun j e => by cases e; exact hC), grownVia hg5 gB (fun j e => by cases e; exact Nat.le_refl _)⟩
      · exact e0
      · exact World.cell?_setCell_same' _ _ _ (by rw [World.cell?_setCell_other _ _ _ _ (by simp)]; show (wB.cell? _).isSome = true; rw [t1]; rfl)
    go_wp2_with fail
    generalize w4.alloc (.cells #[.int .i64 (X.length : Int), .slice (some ⟨gI, 0, none⟩) p ca] 29) = wB at s5 hr5 hO5 hc5 hg5 t0 t1 t2 t3 v0 v1 FIN ⊢
    go_region
    all_goals
      go_wp2
      obtain ⟨f0, f1, f2, f3, f4, f5⟩ := FIN.out _ rfl
      refine bodyPost_ret (v := .tuple #[.slice (some ⟨g, 0, none⟩) X.length cp, .agg #[.int .i64 (X.length : Int), .slice (some ⟨gI, 0, none⟩) p ca]]) ?_ rfl ?_
      · simp [results, Try.results55, go_sem, f0, f1]
      · exact ⟨X, g, cp, X.length, p, gI, ca, rfl, hX6, hfew, hdv, by omega, by omega, by omega, by omega, by omega, by omega, f2, f3, f4, ⟨f5.os, f5.tape, f5.output, f5.size, f5.block⟩⟩
  · have hrn : ¬ X.length < r := by omega
    have hrd : decide (X.length < r) = false := decide_eq_false hrn
    go_wp2_with fail
    refine cI.mono ?_
    rintro e w3 ⟨j, hj, rfl, hc3, hg3⟩
    have hp := hin j hj
    generalize ([4, 8, 1, 5, 16] : List Int)[j] = pp at hp
    obtain ⟨p, rfl⟩ : ∃ p : Nat, pp = p := ⟨pp.toNat, by omega⟩
    go_wp2_with fail
    refine (REST.out r (by omega) (by omega) (by omega) w3 hc3 hg3 p (by omega) (by omega)).mono ?_
    rintro e w4 ⟨gI, ca, rfl, s4, hr4, hO4, hc4, hg4, hlt4, hlg4⟩
    have b4 := bel1 w4 (.cells #[.int .i64 (r : Int), .slice (some ⟨gI, 0, none⟩) p ca] 29)
    have v4 := slot2New w4 (.int .i64 (r : Int)) (.slice (some ⟨gI, 0, none⟩) p ca) 29
    have s5 := s4.below b4
    have hr5 := hr4.below b4
    have hO5 := hO4.below b4
    have hc5 := hc4.below b4
    have hg5 := grownBelow hg4 b4
    have hls := s4.lt
    clear s4 hr4 hO4 hc4 hg4 REST cI hin hj hc3 hg3
    obtain ⟨⟨t0, t1⟩, t2, t3⟩ := id s5
    obtain ⟨⟨v0, v1⟩, -⟩ := id v4
    have hgw : w.heap.size ≠ g := by omega
    have FIN : Hid (∀ w6, w6 = ((w4.alloc (.cells #[.int .i64 (r : Int), .slice (some ⟨gI, 0, none⟩) p ca] 29)).setCell ⟨w.heap.size, 0, none⟩ (.int .i64 (r : Int))).setCell ⟨w.heap.size, 1, none⟩ (.slice (some ⟨gI, 0, none⟩) p ca) →
        ((w4.alloc (.cells #[.int .i64 (r : Int), .slice (some ⟨gI, 0, none⟩) p ca] 29)).setCell ⟨w.heap.size, 0, none⟩ (.int .i64 (r : Int))).cell? ⟨w.heap.size, 0, none⟩ = some (.int .i64 (r : Int)) ∧ w6.cell? ⟨w.heap.size, 1, none⟩ = some (.slice (some ⟨gI, 0, none⟩) p ca) ∧ RdS w6 (some ⟨g, 0, none⟩) X ∧ OwnP w6 (g + 1) (.slice (some ⟨gI, 0, none⟩) p ca) (Rg.parts X r p) ∧ Cur w6 C l ∧ w.grownBy w6 (some C)) := by
      rintro w6 rfl
      generalize w4.alloc (.cells #[.int .i64 (r : Int), .slice (some ⟨gI, 0, none⟩) p ca] 29) = wB at s5 hr5 hO5 hc5 hg5 t0 t1
      have e0 : (wB.setCell ⟨w.heap.size, 0, none⟩ (.int .i64 (r : Int))).cell? ⟨w.heap.size, 0, none⟩ = some (.int .i64 (r : Int)) := World.cell?_setCell_same' _ _ _ (by show (wB.cell? _).isSome = true; rw [t0]; rfl)
      have gA : wB.grownBy (wB.setCell ⟨w.heap.size, 0, none⟩ (.int .i64 (r : Int))) (some w.heap.size) := grownSet wB w.heap.size 0 _
      have gB := grownTrans gA (grownSet (wB.setCell ⟨w.heap.size, 0, none⟩ (.int .i64 (r : Int))) w.heap.size 1 (.slice (some ⟨gI, 0, none⟩) p ca))
      refine ⟨?_, ?_, rdsG7 hr5 gB (by omega), (OwnP.keptC hO5 gB hlt4).mono (by omega), hc5.keep gB (fun j e => by cases e; exact hC), grownVia hg5 gB (fun j e => by cases e; exact Nat.le_refl _)⟩
      · exact e0
      · exact World.cell?_setCell_same' _ _ _ (by rw [World.cell?_setCell_other _ _ _ _ (by simp)]; show (wB.cell? _).isSome = true; rw [t1]; rfl)
    go_wp2_with fail
    generalize w4.alloc (.cells #[.int .i64 (r : Int), .slice (some ⟨gI, 0, none⟩) p ca] 29) = wB at s5 hr5 hO5 hc5 hg5 t0 t1 t2 t3 v0 v1 FIN ⊢
    go_region
    all_goals
      go_wp2
      obtain ⟨f0, f1, f2, f3, f4, f5⟩ := FIN.out _ rfl
      refine bodyPost_ret (v := .tuple #[.slice (some ⟨g, 0, none⟩) X.length cp, .agg #[.int .i64 (r : Int), .slice (some ⟨gI, 0, none⟩) p ca]]) ?_ rfl ?_
      · simp [results, Try.results55, go_sem, f0, f1]
      · exact ⟨X, g, cp, r, p, gI, ca, rfl, hX6, hfew, hdv, by omega, by omega, by omega, by omega, by omega, by omega, f2, f3, f4, ⟨f5.os, f5.tape, f5.output, f5.size, f5.block⟩⟩
end Go.Proofs.Ytcejeiakgmamdac.Wk

namespace Go.Proofs.Ytcejeiakgmamdac.Wk
set_option linter.unusedVariables false
open Go.ChangeShapes Go.WideShapes Go.ChangeAt Go.RowKit

/-- these lists of numbers, all of them at or above lo -/
def RdU (lo : Nat) (w : World) (a : Option Addr) (ps : List (List Int)) : Prop := ∀ i (h : i < ps.length), ∃ b off ai ci, a = some ⟨b, off, none⟩ ∧ lo ≤ b ∧ w.cell? ⟨b, off + i, none⟩ = some (.slice ai ps[i].length ci) ∧ RdZ w ai ps[i] ∧ (∀ x, ai = some x → lo ≤ x.block) ∧ ps[i].length ≤ ci ∧ (ai = none → ci = 0)
theorem RdU.rd {lo : Nat} {w : World} {a : Option Addr} {ps : List (List Int)} (h : RdU lo w a ps) : RdP w a ps := fun i hi =>
  let ⟨b, off, ai, ci, h1, _, h3, h4, _, h6, _⟩ := h i hi; ⟨b, off, ai, ci, h1, h3, h4, h6⟩
theorem RdU.mono {lo lo' : Nat} {w : World} {a : Option Addr} {ps : List (List Int)} (h : RdU lo w a ps) (hl : lo' ≤ lo) : RdU lo' w a ps := fun i hi =>
  let ⟨b, off, ai, ci, h1, h2, h3, h4, h5, h6⟩ := h i hi; ⟨b, off, ai, ci, h1, Nat.le_trans hl h2, h3, h4, fun x hx => Nat.le_trans hl (h5 x hx), h6⟩
theorem RdU.far {lo b' o : Nat} {w : World} {a : Option Addr} {ps : List (List Int)} {u : Value} (h : RdU lo w a ps) (hb : b' < lo) : RdU lo (w.setCell ⟨b', o, none⟩ u) a ps := by
  intro i hi
  obtain ⟨b, off, ai, ci, h1, h2, h3, h4, h5, h6⟩ := h i hi
  exact ⟨b, off, ai, ci, h1, h2, by rw [World.cell?_setCell_other _ _ _ _ (fun e => by have e' : b' = b := congrArg Addr.block e; omega)]; exact h3, h4.far (fun x hx => by have := h5 x hx; omega), h5, h6⟩
theorem RdU.below {lo : Nat} {w w' : World} {a : Option Addr} {ps : List (List Int)} (h : RdU lo w a ps) (hb : Below w.heap.size w w') : RdU lo w' a ps := by
  intro i hi
  obtain ⟨b, off, ai, ci, h1, h2, h3, h4, h5, h6⟩ := h i hi
  exact ⟨b, off, ai, ci, h1, h2, cellOn h3 hb, h4.below hb, h5, h6⟩
theorem nil_own8 {w : World} {base e n cap : Nat} {a : Option Addr} {xs : List Value} (h : w.ownsRow base e 1 (.slice a n cap) n xs) : a = none → cap = 0 := by
  rintro rfl
  rcases h.2 with ⟨e, _⟩ | ⟨g, cap', cur, e, _⟩
  · simp only [Value.slice.injEq] at e
    exact e.2.2
  · simp at e
theorem OwnP.rdU {w : World} {base n cap lo : Nat} {a : Option Addr} {ps : List (List Int)} (h : OwnP w base (.slice a n cap) ps) (hlo : lo ≤ base) : RdU lo w a ps := by
  obtain ⟨vs, h1, h2⟩ := h
  rcases h1.2 with ⟨e, h0⟩ | ⟨g, cap', cur, e, _⟩
  · intro i hi
    omega
  · simp only [Value.slice.injEq] at e
    obtain ⟨rfl, rfl, rfl⟩ := e
    intro i hi
    obtain ⟨u, e1, e2, -⟩ := h2.1 i hi hi
    obtain ⟨ai, ci, rfl⟩ := Zv_shape e2
    refine ⟨g, 0, ai, ci, rfl, Nat.le_trans hlo (World.ownsRow.lt h1 g rfl).1, by rw [Nat.zero_add, h1.cellAt i (by omega)]; exact e1, Zv_rd e2, ?_, own_cap e2, nil_own8 e2⟩
    rintro x rfl
    exact Nat.le_trans hlo (World.ownsRow.lt e2 x.block rfl).1
theorem fin8 {w w6 : World} {A C g : Nat} {X : List Sm.St} {l : List UInt8} {u v : Value} {a : Option Addr} {Q : List (List Int)} (s : Slot2 w6 A u v) (hX : RdS w6 (some ⟨g, 0, none⟩) X) (hgA : A < g)
    (hP : RdU (A + 1) w6 a Q) (hc : Cur w6 C l) (hCA : C < A) (hg : w.grownBy w6 (some C)) (hA : w.heap.size ≤ A) (x y : Value) :
    (w6.setCell ⟨A, 0, none⟩ x).cell? ⟨A, 0, none⟩ = some x ∧ ((w6.setCell ⟨A, 0, none⟩ x).setCell ⟨A, 1, none⟩ y).cell? ⟨A, 1, none⟩ = some y ∧ RdS ((w6.setCell ⟨A, 0, none⟩ x).setCell ⟨A, 1, none⟩ y) (some ⟨g, 0, none⟩) X ∧
      RdU (A + 1) ((w6.setCell ⟨A, 0, none⟩ x).setCell ⟨A, 1, none⟩ y) a Q ∧ Cur ((w6.setCell ⟨A, 0, none⟩ x).setCell ⟨A, 1, none⟩ y) C l ∧ w.grownBy ((w6.setCell ⟨A, 0, none⟩ x).setCell ⟨A, 1, none⟩ y) (some C) := by
  have gA : w6.grownBy ((w6.setCell ⟨A, 0, none⟩ x).setCell ⟨A, 1, none⟩ y) (some A) := grownTrans (grownSet w6 A 0 x) (grownSet _ A 1 y)
  refine ⟨World.cell?_setCell_same' _ _ _ (by rw [s.1.1]; rfl), World.cell?_setCell_same' _ _ _ (by rw [World.cell?_setCell_other _ _ _ _ (by simp), s.1.2]; rfl), rdsG7 hX gA (by omega), (hP.far (by omega)).far (by omega), hc.keep gA (fun j e => by cases e; exact hCA), grownVia hg gA (fun j e => by cases e; exact hA)⟩
theorem len8 {Q : List (List Int)} {k : Nat} {q : List Int} (h : ∀ x ∈ Q, x.length ≤ 4) (hq : q.length ≤ 4) : ∀ x ∈ Q.set k q, x.length ≤ 4 := fun x hx => (List.mem_or_eq_of_mem_set hx).elim (h x) (fun e => e ▸ hq)
theorem nil8 (lo : Nat) (w : World) (a : Option Addr) : RdU lo w a [] := fun i hi => absurd hi (Nat.not_lt_zero i)

theorem cap8 {w : World} {base p ca g : Nat} {ps : List (List Int)} (h : OwnP w base (.slice (some ⟨g, 0, none⟩) p ca) ps) (hp : ps.length = p) : p ≤ ca := by
  obtain ⟨vs, h1, -⟩ := h
  rw [hp] at h1
  exact own_cap h1

set_option maxHeartbeats 4000000 in
set_option maxRecDepth 100000 in
theorem l5AnyS (C : Nat) (l : List UInt8) (w : World) (hc : Cur w C l) :
    Calls Try.prog 48 #[.pointer (some ⟨C, 0, none⟩)] w fun e w' => ∃ (X : List Sm.St) (g cp : Nat) (R : Int) (Q : List (List Int)) (gI : Nat) (ca : Nat), e = .returned (.tuple #[.slice (some ⟨g, 0, none⟩) X.length cp, .agg #[.int .i64 R, .slice (some ⟨gI, 0, none⟩) Q.length ca]]) ∧
      X.length ≤ 6 ∧ (∀ d ∈ X, Few d) ∧ (0 ≤ R ∧ R ≤ 6) ∧ (Q.length ≤ 16 ∧ Q.length ≤ ca) ∧ (∀ q ∈ Q, q.length ≤ 4) ∧ w.heap.size ≤ g ∧ RdS w' (some ⟨g, 0, none⟩) X ∧ RdU w.heap.size w' (some ⟨gI, 0, none⟩) Q ∧ Cur w' C l ∧ w.grownBy w' (some C) := by
  have hC := hc.lt
  obtain ⟨j0, hj0, hy0, hy1, hy2⟩ := info_parts infoZ
  obtain ⟨A, hA⟩ : ∃ A, w.heap.size = A := ⟨_, rfl⟩
  have s0 := slot2New w (.int .i64 0) (.slice none 0 0) 29
  have b0 := bel1 w (.cells #[.int .i64 0, .slice none 0 0] 29)
  have hg0 : w.grownBy (w.alloc (.cells #[.int .i64 0, .slice none 0 0] 29)) (some C) := World.grownBy_alloc _ _ _
  have hc0 := hc.below b0
  have hs0 : (w.alloc (.cells #[.int .i64 0, .slice none 0 0] 29)).heap.size = w.heap.size + 1 := by simp
  go_enter Try.func48, Try.ntmps48
  go_wp2_with fail
  generalize w.alloc (.cells #[.int .i64 0, .slice none 0 0] 29) = wA at s0 b0 hg0 hc0 hs0 ⊢
  rw [hA] at s0 hs0 hC
  refine (l5Draw C l _ hc0).mono ?_
  rintro e w1 ⟨X, g, cp, reps, p, gI, ca, rfl, hX6, hfew, hdv, hr1, hr3, hrX, hp1, hp16, hgg, hX1, hO1, hc1, hg1⟩
  rw [hs0] at hgg
  have s1 := Slot2.grown s0 hg1 (fun e => by simp only [Option.some.injEq] at e; omega)
  have hG1 := grownTrans hg0 hg1
  have hAw := s1.lt
  have hpl := Rg.parts_len X reps p
  have hpca : p ≤ ca := cap8 hO1 hpl
  have hpe := Rg.parts_each X reps p
  have hgA : g ≠ A := by omega
  have hgC : g ≠ C := by omega
  clear hg0 hg1 s0 hc0 hs0
  obtain ⟨B, hB⟩ : ∃ B, w1.heap.size = B := ⟨_, rfl⟩
  have hgB : g < B := by
    obtain ⟨b, off, e, p0, -⟩ := hX1 0 (by omega)
    cases e
    have := World.block_lt_of_cell? w1 _ p0
    rw [hB] at this
    exact this
  have sB := slot2New w1 (.int .i64 (reps : Int)) (.slice (some ⟨gI, 0, none⟩) p ca) 29
  have bB := bel1 w1 (.cells #[.int .i64 (reps : Int), .slice (some ⟨gI, 0, none⟩) p ca] 29)
  rw [hB] at sB hAw
  have sA := s1.below bB
  have hXB := hX1.below bB
  have hcB := hc1.below bB
  have hGB := grownBelow hG1 bB
  have hHB : w1.grownBy (w1.alloc (.cells #[.int .i64 (reps : Int), .slice (some ⟨gI, 0, none⟩) p ca] 29)) (some C) := World.grownBy_alloc _ _ _
  have hgI : gI < B ∧ g < gI := by
    obtain ⟨_, _, _, _, _, h', h, _⟩ := hO1.at_ (k := 0) (by omega)
    rw [hB] at h
    exact ⟨h, by omega⟩
  have hgIB : gI ≠ B := by omega
  clear s1 hX1 hc1 hG1
  go_wp2_with fail
  generalize w1.alloc (.cells #[.int .i64 (reps : Int), .slice (some ⟨gI, 0, none⟩) p ca] 29) = wB at sB bB sA hXB hcB hGB hHB ⊢
  clear bB
  refine (l1Below C l (p : Int) _ hcB (by omega)).mono ?_
  rintro e w2 ⟨k, rfl, hk0, hk1, -, hc2, hg2⟩
  have hk2 := hk1 (by omega)
  obtain ⟨k, rfl⟩ := Int.eq_ofNat_of_zero_le hk0
  have hk : k < p := by omega
  have sA2 := Slot2.grown sA hg2 (fun e => by simp only [Option.some.injEq] at e; omega)
  have sB2 := Slot2.grown sB hg2 (fun e => by simp only [Option.some.injEq] at e; omega)
  have hX2 := rdsG7 hXB hg2 hgC
  have hG2 := grownTrans hGB hg2
  have hH2 := grownTrans hHB hg2
  clear hk1 sA sB hXB hcB hGB hg2 hHB
  go_wp2_with fail
  refine (l1Below C l 10 _ hc2 (by omega)).mono ?_
  rintro e w3 ⟨x, rfl, hx0, hx1, -, hc3, hg3⟩
  have hx10 := hx1 (by omega)
  have sA3 := Slot2.grown sA2 hg3 (fun e => by simp only [Option.some.injEq] at e; omega)
  have sB3 := Slot2.grown sB2 hg3 (fun e => by simp only [Option.some.injEq] at e; omega)
  have hX3 := rdsG7 hX2 hg3 hgC
  have hG3 := grownTrans hG2 hg3
  have hH3 := grownTrans hH2 hg3
  have hB3 := sB3.lt
  clear hx1 sA2 sB2 hX2 hc2 hG2 hg3 hH2
  have hPR : Hid (∀ q ∈ Rg.parts X reps p, q.length ≤ 4) := fun q hq => by rw [hpe q hq]; omega
  have hQk : ((Rg.parts X reps p)[k]'(by omega)).length = reps := hpe _ (List.getElem_mem _)
  go_upto_block 0 with fail
  go_cut [4] (fun v wx => ∃ (X' : List Sm.St) (g' cp' : Nat) (R : Int) (Q : List (List Int)), v = .slice (some ⟨g', 0, none⟩) X'.length cp' ∧ Slot2 wx A (.int .i64 0) (.slice none 0 0) ∧ Slot2 wx B (.int .i64 R) (.slice (some ⟨gI, 0, none⟩) Q.length ca) ∧ RdS wx (some ⟨g', 0, none⟩) X' ∧ A < g' ∧ RdU (A + 1) wx (some ⟨gI, 0, none⟩) Q ∧ Cur wx C l ∧ w.grownBy wx (some C) ∧ X'.length ≤ 6 ∧ Hid (∀ d ∈ X', Few d) ∧ (0 ≤ R ∧ R ≤ 6) ∧ (Q.length ≤ 16 ∧ Q.length ≤ ca) ∧ Hid (∀ q ∈ Q, q.length ≤ 4))
  case rest =>
    obtain ⟨X', g', cp', R, Q, rfl, x1, x2, x3, x4, x5, x6, x7, x8, x9, x10, x11, x12⟩ := hcut
    clear sA3 sB3 hX3 hc3 hG3 hH3 hO1
    obtain ⟨⟨t0, t1⟩, t2, t3⟩ := id x1
    obtain ⟨⟨v0, v1⟩, -⟩ := id x2
    have FIN : Hid _ := fin8 (w := w) x1 x3 x4 x5 x6 hC x7 (Nat.le_of_eq hA) (.int .i64 R) (.slice (some ⟨gI, 0, none⟩) Q.length ca)
    go_wp2_with fail
    go_region
    all_goals
      go_wp2
      obtain ⟨f0, f1, f2, f3, f4, f5⟩ := FIN.out
      refine bodyPost_ret (v := .tuple #[.slice (some ⟨g', 0, none⟩) X'.length cp', .agg #[.int .i64 R, .slice (some ⟨gI, 0, none⟩) Q.length ca]]) ?_ rfl ?_
      · simp [results, Try.results48, go_sem, f0, f1]
      · exact ⟨X', g', cp', R, Q, gI, ca, by rfl, x8, x9.out, x10, x11, x12.out, by omega, f2, f3.mono (by omega), f4, ⟨f5.os, f5.tape, f5.output, f5.size, f5.block⟩⟩
  case first =>
    by_cases h0 : x = 0
    · subst h0
      have hI := rdiNew (w := w3) (t := 3) (ns := [0, 1, 2, 6]) (cs := #[.int .i64 0, .int .i64 1, .int .i64 2, .int .i64 6]) rfl
      have hb := bel1 w3 (.cells #[.int .i64 0, .int .i64 1, .int .i64 2, .int .i64 6] 3)
      have hw3 : w3.heap.size ≠ C := by omega
      go_wp2_with fail
      refine (l1Int C w3.heap.size 0 _ 4 l [0, 1, 2, 6] _ rfl (hc3.below hb) (by simp) (by simp) hI hw3).mono ?_
      rintro e w4 ⟨j, hj, rfl, hc4, hg4⟩
      have hy := inF [0, 1, 2, 6] 0 6 (by decide) j hj
      generalize ([0, 1, 2, 6] : List Int)[j] = y at hy
      have sA4 := Slot2.grown (sA3.below hb) hg4 (fun e => by simp only [Option.some.injEq] at e; omega)
      have sB4 := Slot2.grown (sB3.below hb) hg4 (fun e => by simp only [Option.some.injEq] at e; omega)
      have hX4 := rdsG7 (hX3.below hb) hg4 hgC
      have hG4 := grownTrans (grownBelow hG3 hb) hg4
      have hH4 := grownTrans (grownBelow hH3 hb) hg4
      have sA5 := sA4.far (b' := B) (o := 0) (x := .int .i64 y) (by omega)
      have sB5 : Slot2 (w4.setCell ⟨B, 0, none⟩ (.int .i64 y)) B (.int .i64 y) (.slice (some ⟨gI, 0, none⟩) p ca) :=
        ⟨⟨World.cell?_setCell_same' _ _ _ (by rw [sB4.1.1]; rfl), by rw [World.cell?_setCell_other _ _ _ _ (by simp)]; exact sB4.1.2⟩, by rw [World.frozen?_setCell]; exact sB4.2.1, by rw [World.frozen?_setCell]; exact sB4.2.2⟩
      have gB := grownSet w4 B 0 (.int .i64 y)
      have hX5 := rdsG7 hX4 gB (by omega)
      have hO5 := OwnP.keptC hO1 (grownSet7 (o := 0) (u := .int .i64 y) hH4 (Nat.le_of_eq hB)) (by omega)
      have hc5 := hc4.keep gB (fun j e => by cases e; omega)
      have hG5 := grownVia hG4 gB (fun j e => by cases e; omega)
      obtain ⟨⟨z0, z1⟩, z2, z3⟩ := id sB4
      clear hI hb hc3 hc4 hX3 hX4 hG3 hG4 sA3 sB3 hH3 hH4 hg4 sA4 sB4 gB
      obtain ⟨w5, hw5⟩ : ∃ w5, w4.setCell ⟨B, 0, none⟩ (.int .i64 y) = w5 := ⟨_, rfl⟩
      rw [hw5] at sA5 sB5 hX5 hO5 hc5 hG5
      go_wp2_with fail
      try rw [hw5]
      clear hw5 z0 z1 z2 z3
      have LQ : (Rg.parts X reps p).length = p := hpl
      have sB9 := sB5
      have hP9 := (hO5.rdU (lo := A + 1) (by omega))
      have hQ9 : (Rg.parts X reps p).length ≤ 16 ∧ (Rg.parts X reps p).length ≤ ca := ⟨by omega, by omega⟩
      have hR9 : 0 ≤ y ∧ y ≤ 6 := ⟨hy.1, hy.2⟩
      have hg9 : A < g := (by omega)
      go_meet
      exact ⟨X, g, cp, y, (Rg.parts X reps p), rfl, sA5, by rw [LQ]; exact sB9, hX5, hg9, hP9, hc5, hG5, hX6, hfew, hR9, hQ9, hPR.out⟩
    · by_cases h1 : x = 1
      · subst h1
        have hO3 := OwnP.keptC hO1 hH3 (by omega)
        obtain ⟨a9, c9, hc9, hu9, hf9, -, hgs9, hue9⟩ := hO3.at_ (k := k) (by omega)
        rw [hQk] at hc9 hu9 hue9
        obtain ⟨bv, cv, e9, hbv⟩ : ∃ bv cv, Value.slice a9 reps c9 = .slice (some ⟨bv, 0, none⟩) reps cv ∧ g + 1 ≤ bv := by
          obtain ⟨r', rfl⟩ : ∃ r', reps = r' + 1 := ⟨reps - 1, by omega⟩
          obtain ⟨g', cap', e', h'⟩ := Zv_some hu9
          exact ⟨g', cap', e', h'⟩
        simp only [Value.slice.injEq, true_and] at e9
        obtain ⟨rfl, rfl⟩ := e9
        have hbB : bv < B := by
          obtain ⟨a8, c8, k8, u8, -⟩ := hO1.at_ (k := k) (by omega)
          rw [hQk] at k8 u8
          have := hH3.cell k8 (by simp; omega)
          rw [hc9] at this
          simp only [Option.some.injEq, Value.slice.injEq, true_and] at this
          obtain ⟨rfl, rfl⟩ := this
          have := (World.ownsRow.lt u8 bv rfl).2
          rw [hB] at this
          exact this
        have hbg : bv ≠ gI := fun e => by
          rcases hue9 with h9 | h9
          · cases h9
          · exact h9 (by rw [← e]; rfl)
        have cB := l1Below C l 9 w3.drew hc3 (by omega)
        have hkp : (k : Int) < (p : Int) := by omega
        obtain ⟨⟨z0, z1⟩, z2, z3⟩ := id sB3
        have FAR : Hid (∀ (y : Int) (w6 : World), w3.drew.grownBy w6 (some C) → Cur w6 C l → ∀ g7 cap7 w7, w7.ownsRow (g + 1) 3 1 (.slice (some ⟨g7, 0, none⟩) (reps + 1) cap7) (reps + 1) (Zv ((Rg.parts X reps p)[k]'(by omega)) ++ [.int .i64 y]) → (w6.alloc (.cells #[.int .i64 y] 3)).grownBy w7 (Value.slice (some ⟨bv, 0, none⟩) reps c9).ownBlock →
            ((Value.slice (some ⟨bv, 0, none⟩) reps c9).ownBlock = some g7 ∨ g7 = (w6.alloc (.cells #[.int .i64 y] 3)).heap.size) →
            Slot2 (w7.setCell ⟨gI, k, none⟩ (.slice (some ⟨g7, 0, none⟩) (reps + 1) cap7)) A (.int .i64 0) (.slice none 0 0) ∧
            Slot2 (w7.setCell ⟨gI, k, none⟩ (.slice (some ⟨g7, 0, none⟩) (reps + 1) cap7)) B (.int .i64 (reps : Int)) (.slice (some ⟨gI, 0, none⟩) p ca) ∧
            RdS (w7.setCell ⟨gI, k, none⟩ (.slice (some ⟨g7, 0, none⟩) (reps + 1) cap7)) (some ⟨g, 0, none⟩) X ∧
            OwnP (w7.setCell ⟨gI, k, none⟩ (.slice (some ⟨g7, 0, none⟩) (reps + 1) cap7)) (g + 1) (.slice (some ⟨gI, 0, none⟩) p ca) ((Rg.parts X reps p).set k ((Rg.parts X reps p)[k]'(by omega) ++ [y])) ∧
            Cur (w7.setCell ⟨gI, k, none⟩ (.slice (some ⟨g7, 0, none⟩) (reps + 1) cap7)) C l ∧ w.grownBy (w7.setCell ⟨gI, k, none⟩ (.slice (some ⟨g7, 0, none⟩) (reps + 1) cap7)) (some C)) := by
          intro y w6 hg6 hc6 g7 cap7 w7 hown7 hg7 hat7
          have hg6' : w3.grownBy w6 (some C) := ⟨hg6.os, hg6.tape, hg6.output, hg6.size, hg6.block⟩
          have bA := bel1 w6 (.cells #[.int .i64 y] 3)
          have hz6 := hg6'.size
          have O6 := (OwnP.keptC hO3 hg6' (by omega)).below bA
          have c6 : (w6.alloc (.cells #[.int .i64 y] 3)).cell? ⟨gI, k, none⟩ = some (.slice (some ⟨bv, 0, none⟩) reps c9) := cellOn (hg6'.cell hc9 (by simp; omega)) bA
          have hne : ∀ b : Nat, b ≠ bv → some b ≠ (Value.slice (some ⟨bv, 0, none⟩) reps c9).ownBlock := fun b h e => h (Option.some.inj e)
          have hO7 := OwnP.turned (w' := w7) (p' := (Rg.parts X reps p)[k]'(by omega) ++ [y]) O6 (k := k) (by omega) c6 hg7 (by rw [List.length_append, hQk, Zv_snoc]; exact hown7) (by rcases hat7 with h9 | h9; exact .inl h9.symm; exact .inr (congrArg some h9))
          have gG := grownSet w7 gI k (.slice (some ⟨g7, 0, none⟩) (reps + 1) cap7)
          have hbw : w.heap.size ≤ bv := by omega
          refine ⟨(Slot2.grown ((Slot2.grown sA3 hg6' (by simp; omega)).below bA) hg7 (hne A (by omega))).far (by omega), (Slot2.grown ((Slot2.grown sB3 hg6' (by simp; omega)).below bA) hg7 (hne B (by omega))).far (by omega), ?_, hO7, ?_, ?_⟩
          · exact rdsG7 (rdsG7 ((rdsG7 hX3 hg6' hgC).below bA) (C := bv) hg7 (by omega)) gG (by omega)
          · exact ((hc6.below bA).keep hg7 (fun j e => by have e' : some bv = some j := e; cases e'; omega)).keep gG (fun j e => by cases e; omega)
          · exact grownVia (grownVia (grownBelow (grownTrans hG3 hg6') bA) hg7 (fun j e => by have e' : some bv = some j := e; cases e'; exact hbw)) gG (fun j e => by cases e; omega)
        have hne9 : some gI ≠ (Value.slice (some ⟨bv, 0, none⟩) reps c9).ownBlock := fun e => hbg (Option.some.inj e).symm
        have hzz : Hid (Zv ((Rg.parts X reps p)[k]'(by omega)) = Zv ((Rg.parts X reps p)[k]'(by omega))) := rfl
        have hF9 : Hid (∀ d ∈ X, Few d) := hfew
        have hQ8 : Hid (((Rg.parts X reps p)[k]'(by omega)).length = reps) := hQk
        have hp9 : Hid ((Rg.parts X reps p).length = p) := hpl
        clear hue9 hO1 hO3 hX3 sA3 hG3 hH3 hdv hpe hc3 hfew hc b0 hzz
        go_wp2_with fail
        go_region_law (first | (refine step_append_lies _ (by rfl) (.tmp 35) (.tmp 38) 32 (by rfl) (g + 1) 3 j0 _ 1 8 Try.underlying32 hj0 hy0 hy1 hy2 rfl (by decide) _ _ _ (by rfl) (by exact uA) ⟨_, 0, none⟩ 1 1 [.int .i64 y] (by rfl) rfl oneZ_at oneZ_one (by omega) (by unfold maxLen; omega) (by omega) (by simp; omega) _ rfl ?_; intro g7 cap7 w7 hown7 hgrow7 hat7 hlt7; obtain ⟨a2, b2⟩ := cellGrown kA fA hgrow7 hne9; obtain ⟨⟨d0, d1⟩, d2, d3⟩ := Slot2.grown sB6 hgrow7 (fun e => by have e' : some B = some bv := e; simp at e'; omega)) | (go_simp; go_at_call 49; refine cB.mono ?_; rintro e w6 ⟨y, rfl, hy0', hy9', -, hc6, hg6⟩; have hg6' : w3.grownBy w6 (some C) := ⟨hg6.os, hg6.tape, hg6.output, hg6.size, hg6.block⟩; have hs6 : B < w6.heap.size := Nat.lt_of_lt_of_le hB3 hg6'.size; obtain ⟨ck6, fk6⟩ := cellGrown hc9 hf9 hg6' (by simp; omega); have kA := cellOn ck6 (bel1 w6 (.cells #[.int .i64 y] 3)); have uA := ownOn (World.ownsRow.kept hu9 hg6' (.inr (by simp [Value.ownBlock]; omega))) (bel1 w6 (.cells #[.int .i64 y] 3)); have fA : (w6.alloc (.cells #[.int .i64 y] 3)).frozen? ⟨gI, k, none⟩ = false := (by rw [(bel1 w6 (.cells #[.int .i64 y] 3)).frozen (p := ⟨gI, k, none⟩) (World.block_lt_of_cell? w6 _ ck6)]; exact fk6); have sB6' := Slot2.grown sB3 hg6' (by simp; omega); have sB6 := sB6'.below (bel1 w6 (.cells #[.int .i64 y] 3)); obtain ⟨⟨q0, q1⟩, q2, q3⟩ := id sB6') | fail)
        all_goals
          obtain ⟨x1, x2, x3, x4, x5, x6⟩ := FAR.out y w6 hg6 hc6 g7 cap7 w7 hown7 hgrow7 hat7
          have hy9 := hy9' (by omega)
          have x8 : Hid (∀ q ∈ (Rg.parts X reps p).set k ((Rg.parts X reps p)[k]'(by omega) ++ [y]), q.length ≤ 4) := len8 hPR.out (by rw [List.length_append, hQk]; simp; omega)
          clear FAR hown7 hgrow7 hat7 hlt7 a2 b2 kA fA uA ck6 fk6 sB6 sB6' q0 q1 q2 q3 d0 d1 d2 d3 sB3 cB z0 z1 z2 z3 hc9 hu9 hf9
          have LQ : ((Rg.parts X reps p).set k ((Rg.parts X reps p)[k]'(by omega) ++ [y])).length = p := by rw [List.length_set]; exact hpl
          have sB9 := x2
          have hP9 := (x4.rdU (lo := A + 1) (by omega))
          have hQ9 : ((Rg.parts X reps p).set k ((Rg.parts X reps p)[k]'(by omega) ++ [y])).length ≤ 16 ∧ ((Rg.parts X reps p).set k ((Rg.parts X reps p)[k]'(by omega) ++ [y])).length ≤ ca := ⟨by rw [List.length_set]; omega, by rw [List.length_set]; omega⟩
          have hR9 : 0 ≤ (reps : Int) ∧ (reps : Int) ≤ 6 := ⟨by omega, by omega⟩
          have hg9 : A < g := (by omega)
          go_wp2_with fail
          go_meet
          exact ⟨X, g, cp, (reps : Int), ((Rg.parts X reps p).set k ((Rg.parts X reps p)[k]'(by omega) ++ [y])), rfl, x1, by rw [LQ]; exact sB9, x3, hg9, hP9, x5, x6, hX6, hF9, hR9, hQ9, x8⟩
      · by_cases h2 : x = 2
        · subst h2
          have hO3 := OwnP.keptC hO1 hH3 (by omega)
          obtain ⟨a9, c9, hc9, hu9, hf9, -, hgs9, hue9⟩ := hO3.at_ (k := k) (by omega)
          have hu8 := hu9
          rw [hQk] at hc9 hu9 hue9
          obtain ⟨bv, cv, e9, hbv⟩ : ∃ bv cv, Value.slice a9 reps c9 = .slice (some ⟨bv, 0, none⟩) reps cv ∧ g + 1 ≤ bv := by
            obtain ⟨r', rfl⟩ : ∃ r', reps = r' + 1 := ⟨reps - 1, by omega⟩
            obtain ⟨g', cap', e', h'⟩ := Zv_some hu9
            exact ⟨g', cap', e', h'⟩
          simp only [Value.slice.injEq, true_and] at e9
          obtain ⟨rfl, rfl⟩ := e9
          have hbB : bv < B := by
            obtain ⟨a8, c8, k8, u8, -⟩ := hO1.at_ (k := k) (by omega)
            rw [hQk] at k8 u8
            have := hH3.cell k8 (by simp; omega)
            rw [hc9] at this
            simp only [Option.some.injEq, Value.slice.injEq, true_and] at this
            obtain ⟨rfl, rfl⟩ := this
            have := (World.ownsRow.lt u8 bv rfl).2
            rw [hB] at this
            exact this
          have cB := l1Below C l 9 w3.drew hc3 (by omega)
          have hkp : (k : Int) < (p : Int) := by omega
          obtain ⟨⟨z0, z1⟩, z2, z3⟩ := id sB3
          have FAR : Hid (∀ (y : Int) (w6 : World), w3.drew.grownBy w6 (some C) → Cur w6 C l → ∃ Q : List (List Int), Slot2 (w6.setCell ⟨bv, 0, none⟩ (.int .i64 y)) A (.int .i64 0) (.slice none 0 0) ∧ Slot2 (w6.setCell ⟨bv, 0, none⟩ (.int .i64 y)) B (.int .i64 (reps : Int)) (.slice (some ⟨gI, 0, none⟩) p ca) ∧
              RdS (w6.setCell ⟨bv, 0, none⟩ (.int .i64 y)) (some ⟨g, 0, none⟩) X ∧ OwnP (w6.setCell ⟨bv, 0, none⟩ (.int .i64 y)) (g + 1) (.slice (some ⟨gI, 0, none⟩) p ca) Q ∧ Cur (w6.setCell ⟨bv, 0, none⟩ (.int .i64 y)) C l ∧ w.grownBy (w6.setCell ⟨bv, 0, none⟩ (.int .i64 y)) (some C) ∧ Q.length = p ∧ Hid (∀ q ∈ Q, q.length ≤ 4)) := by
            intro y w6 hg6 hc6
            have hg6' : w3.grownBy w6 (some C) := ⟨hg6.os, hg6.tape, hg6.output, hg6.size, hg6.block⟩
            have O6 := OwnP.keptC hO3 hg6' (by omega)
            have c6 := hg6'.cell hc9 (by simp; omega)
            have u6 := World.ownsRow.kept hu8 hg6' (.inr (by simp [Value.ownBlock]; omega))
            have st := u6.stored 0 (.int .i64 y)
            rw [Zv_set] at st
            have gG : w6.grownBy (w6.setCell ⟨bv, 0, none⟩ (.int .i64 y)) (some bv) := grownSet w6 bv 0 (.int .i64 y)
            have hO7 := O6.inner (k := k) (p' := ((Rg.parts X reps p)[k]'(by omega)).set 0 y) (by omega) c6 gG (by rw [List.length_set, hQk]; rw [hQk] at st; exact st.1)
            have hbw : w.heap.size ≤ bv := by omega
            refine ⟨_, (Slot2.grown sA3 hg6' (by simp; omega)).far (by omega), (Slot2.grown sB3 hg6' (by simp; omega)).far (by omega), rdsG7 (rdsG7 hX3 hg6' hgC) gG (by omega), hO7, hc6.keep gG (fun j e => by cases e; omega), grownVia (grownTrans hG3 hg6') gG (fun j e => by cases e; exact hbw), by rw [List.length_set]; exact hpl, len8 hPR.out (by rw [List.length_set, hQk]; omega)⟩
          have hr0 : (0 : Int) < (reps : Int) := by omega
          have hrn : 0 < reps := by omega
          have v0c := hu9.cellAt 0 (by have := hu9.1; omega)
          have v0f := hu9.frozenAt 0
          rw [List.getElem?_eq_getElem (by have := hu9.1; omega)] at v0c
          generalize (Zv ((Rg.parts X reps p)[k]'(by omega)))[0]'(by have := hu9.1; omega) = v00 at v0c
          clear hue9 hu8
          go_wp2_with fail
          go_region_law (first | (go_simp; go_at_call 49; refine cB.mono ?_; rintro e w6 ⟨y, rfl, hy0', hy9', -, hc6, hg6⟩; have hg6' : w3.grownBy w6 (some C) := ⟨hg6.os, hg6.tape, hg6.output, hg6.size, hg6.block⟩; obtain ⟨ck6, fk6⟩ := cellGrown hc9 hf9 hg6' (by simp; omega); obtain ⟨cv6, fv6⟩ := cellGrown v0c v0f hg6' (by simp; omega); obtain ⟨⟨q0, q1⟩, q2, q3⟩ := Slot2.grown sB3 hg6' (by simp; omega)) | fail)
          all_goals
            obtain ⟨Q, x1, x2, x3, x4, x5, x6, x7, x8⟩ := FAR.out y w6 hg6 hc6
            clear FAR ck6 fk6 cv6 fv6 q0 q1 q2 q3 sA3 sB3 hX3 hO3 hc3 hG3 hH3 cB z0 z1 z2 z3 hc9 hu9 hf9 v0c v0f
            have LQ : Q.length = p := x7
            have sB9 := x2
            have hP9 := (x4.rdU (lo := A + 1) (by omega))
            have hQ9 : Q.length ≤ 16 ∧ Q.length ≤ ca := ⟨by omega, by omega⟩
            have hR9 : 0 ≤ (reps : Int) ∧ (reps : Int) ≤ 6 := ⟨by omega, by omega⟩
            have hg9 : A < g := (by omega)
            go_wp2_with fail
            go_meet
            exact ⟨X, g, cp, (reps : Int), Q, rfl, x1, by rw [LQ]; exact sB9, x3, hg9, hP9, x5, x6, hX6, hfew, hR9, hQ9, x8⟩
        · by_cases h3 : x = 3
          · subst h3
            go_wp2_with fail
            refine (l4AnyR C l _ hc3).mono ?_
            rintro e w4 ⟨X4, g4, cp4, rfl, hX46, hfew4, hgg4, hX4, hc4, hg4⟩
            have sA4 := Slot2.grown sA3 hg4 (fun e => by simp only [Option.some.injEq] at e; omega)
            have sB4 := Slot2.grown sB3 hg4 (fun e => by simp only [Option.some.injEq] at e; omega)
            have hO4 := OwnP.keptC hO1 (grownTrans hH3 hg4) (by omega)
            have hG4 := grownTrans hG3 hg4
            clear hX3 hc3 hG3 hg4 sA3 sB3
            have LQ : (Rg.parts X reps p).length = p := hpl
            have sB9 := sB4
            have hP9 := (hO4.rdU (lo := A + 1) (by omega))
            have hQ9 : (Rg.parts X reps p).length ≤ 16 ∧ (Rg.parts X reps p).length ≤ ca := ⟨by omega, by omega⟩
            have hR9 : 0 ≤ (reps : Int) ∧ (reps : Int) ≤ 6 := ⟨by omega, by omega⟩
            have hg9 : A < g4 := (by omega)
            go_wp2_with fail
            go_meet
            exact ⟨X4, g4, cp4, (reps : Int), (Rg.parts X reps p), rfl, sA4, by rw [LQ]; exact sB9, hX4, hg9, hP9, hc4, hG4, hX46, hfew4, hR9, hQ9, hPR.out⟩
          · by_cases h4 : x = 4
            · subst h4
              obtain ⟨⟨z0, z1⟩, z2, z3⟩ := id sB3
              have sA5 := sA3.far (b' := B) (o := 1) (x := .slice (some ⟨gI, 0, none⟩) 0 ca) (by omega)
              have sB5 := sB3.put1 (.slice (some ⟨gI, 0, none⟩) 0 ca)
              have gB := grownSet w3 B 1 (.slice (some ⟨gI, 0, none⟩) 0 ca)
              have hX5 := rdsG7 hX3 gB (by omega)
              have hc5 := hc3.keep gB (fun j e => by cases e; omega)
              have hG5 := grownVia hG3 gB (fun j e => by cases e; omega)
              clear hc3 hX3 hG3 sA3 sB3 hH3 gB
              obtain ⟨w5, hw5⟩ : ∃ w5, w3.setCell ⟨B, 1, none⟩ (.slice (some ⟨gI, 0, none⟩) 0 ca) = w5 := ⟨_, rfl⟩
              rw [hw5] at sA5 sB5 hX5 hc5 hG5
              go_wp2_with fail
              try rw [hw5]
              clear hw5 z0 z1 z2 z3
              have LQ : ([] : List (List Int)).length = 0 := rfl
              have sB9 := sB5
              have hP9 := (nil8 (A + 1) w5 (some ⟨gI, 0, none⟩))
              have hQ9 : ([] : List (List Int)).length ≤ 16 ∧ ([] : List (List Int)).length ≤ ca := ⟨by simp, by simp⟩
              have hR9 : 0 ≤ (reps : Int) ∧ (reps : Int) ≤ 6 := ⟨by omega, by omega⟩
              have hg9 : A < g := (by omega)
              go_meet
              exact ⟨X, g, cp, (reps : Int), ([] : List (List Int)), rfl, sA5, by rw [LQ]; exact sB9, hX5, hg9, hP9, hc5, hG5, hX6, hfew, hR9, hQ9, (fun q hq => absurd hq List.not_mem_nil)⟩
            · have hO3 := OwnP.keptC hO1 hH3 (by omega)
              have LQ : (Rg.parts X reps p).length = p := hpl
              have sB9 := sB3
              have hP9 := (hO3.rdU (lo := A + 1) (by omega))
              have hQ9 : (Rg.parts X reps p).length ≤ 16 ∧ (Rg.parts X reps p).length ≤ ca := ⟨by omega, by omega⟩
              have hR9 : 0 ≤ (reps : Int) ∧ (reps : Int) ≤ 6 := ⟨by omega, by omega⟩
              have hg9 : A < g := (by omega)
              go_wp2_with fail
              go_meet
              exact ⟨X, g, cp, (reps : Int), (Rg.parts X reps p), rfl, sA3, by rw [LQ]; exact sB9, hX3, hg9, hP9, hc3, hG3, hX6, hfew, hR9, hQ9, hPR.out⟩
theorem l5Any (C : Nat) (l : List UInt8) (w : World) (hc : Cur w C l) :
    Calls Try.prog 48 #[.pointer (some ⟨C, 0, none⟩)] w fun e w' => ∃ (X : List Sm.St) (g cp : Nat) (R : Int) (Q : List (List Int)) (a : Option Addr) (ca : Nat), e = .returned (.tuple #[.slice (some ⟨g, 0, none⟩) X.length cp, .agg #[.int .i64 R, .slice a Q.length ca]]) ∧
      X.length ≤ 6 ∧ (∀ d ∈ X, Few d) ∧ (0 ≤ R ∧ R ≤ 6) ∧ Q.length ≤ 16 ∧ (∀ q ∈ Q, q.length ≤ 4) ∧ w.heap.size ≤ g ∧ RdS w' (some ⟨g, 0, none⟩) X ∧ RdU w.heap.size w' a Q ∧ Cur w' C l ∧ w.grownBy w' (some C) := by
  refine (l5AnyS C l w hc).mono ?_
  rintro e w' ⟨X, g, cp, R, Q, gI, ca, rfl, h1, h2, h3, ⟨h4, -⟩, h5⟩
  exact ⟨X, g, cp, R, Q, some ⟨gI, 0, none⟩, ca, rfl, h1, h2, h3, h4, h5⟩
end Go.Proofs.Ytcejeiakgmamdac.Wk

namespace Go.Proofs.Ytcejeiakgmamdac.Wk
set_option linter.unusedVariables false
open Go.ChangeShapes Go.WideShapes Go.ChangeAt Go.RowKit

theorem few_wf9 {d : Sm.St} (h : Few d) : (Lit.int .i64 d.2.1).wf = true := by
  obtain ⟨-, ⟨h0, h1⟩, -⟩ := h
  have e1 : IntKind.i64.min = -9223372036854775808 := by decide
  have e2 : IntKind.i64.max = 9223372036854775807 := by decide
  simp only [Lit.wf, Bool.and_eq_true, decide_eq_true_eq, e1, e2]
  omega
theorem tot4 : ∀ (Q : List (List Int)), (∀ q ∈ Q, q.length ≤ 4) → tot Q ≤ 4 * Q.length
  | [], _ => by simp [tot]
  | q :: r, h => by
    have h1 := h q (by simp)
    have h2 := tot4 r (fun x hx => h x (by simp [hx]))
    have e : tot (q :: r) = q.length + tot r := by simp [tot]
    rw [e, List.length_cons]
    omega
theorem Slot1.grown {w w' : World} {b : Nat} {v : Value} {r : Option Nat} (h : Slot1 w b v) (hg : w.grownBy w' r) (hne : some b ≠ r) : Slot1 w' b v :=
  ⟨hg.cell h.1 hne, by rw [World.frozen?_of_block (w := w) (hg.block b h.lt hne)]; exact h.2⟩
theorem RdU.grown {lo C : Nat} {w w' : World} {a : Option Addr} {ps : List (List Int)} (h : RdU lo w a ps) (hg : w.grownBy w' (some C)) (hC : C < lo) : RdU lo w' a ps := by
  intro i hi
  obtain ⟨b, off, ai, ci, h1, h2, h3, h4, h5, h6⟩ := h i hi
  refine ⟨b, off, ai, ci, h1, h2, hg.cell h3 (fun e => by simp only [Option.some.injEq] at e; omega), fun j hj => ?_, h5, h6⟩
  obtain ⟨b', off', ha, hc⟩ := h4 j hj
  have h7 := h5 _ ha
  exact ⟨b', off', ha, hg.cell hc (fun e => by simp only [Option.some.injEq] at e; simp only at h7; omega)⟩

end Go.Proofs.Ytcejeiakgmamdac.Wk

namespace Go.Proofs.Ytcejeiakgmamdac.Wk
set_option linter.unusedVariables false
open Go.ChangeShapes Go.WideShapes Go.ChangeAt Go.RowKit

theorem Ss_len (l : List Sm.St) : (Ss l).length = l.length * 3 := by
  induction l with
  | nil => rfl
  | cons s r ih =>
    have e : Ss (s :: r) = [.int .i64 s.1, .int .i64 s.2.1, .int .i64 s.2.2] ++ Ss r := rfl
    rw [e, List.length_append, ih]
    simp
    omega
theorem Ss_app (l m : List Sm.St) : Ss (l ++ m) = Ss l ++ Ss m := by simp [Ss]
theorem Ss_cell {w : World} {b off : Nat} {l : List Sm.St} (hr : RdS w (some ⟨b, off, none⟩) l) : ∀ j u, (Ss l)[j]? = some u → w.cell? ((⟨b, off, none⟩ : Addr).add j) = some u := by
  intro j u hj
  have hjl : j < l.length * 3 := by
    have := (List.getElem?_eq_some_iff.1 hj).1
    rwa [Ss_len] at this
  have hi : j / 3 < l.length := by omega
  obtain ⟨b', off', e, c0, c1, c2⟩ := hr (j / 3) hi
  cases e
  obtain ⟨r0, r1, r2⟩ := Ss_row l (j / 3) hi hi
  have ha : (⟨b, off, none⟩ : Addr).add j = ⟨b, off + j, none⟩ := by simp [Addr.add]
  rw [ha]
  obtain h | h | h : j = j / 3 * 3 ∨ j = j / 3 * 3 + 1 ∨ j = j / 3 * 3 + 2 := by omega
  · rw [h] at hj ⊢
    rw [r0] at hj
    rw [← hj]
    exact c0
  · rw [h] at hj ⊢
    rw [r1] at hj
    rw [← hj]
    exact c1
  · rw [h] at hj ⊢
    rw [r2] at hj
    rw [← hj]
    exact c2
theorem wp_appS (w : World) {o : Oper} {a : Act} {K : Act → World → Prop} {Q : Exit → Act → World → Prop} (s x : Operand)
    (ho : o.op = .call { callee := .builtin .append, args := #[s, x], argTypes := #[24, 24] })
    (base : Nat) (v : Value) (xs : List Sm.St) (hs : a.eval s = v) (hown : w.ownsRow base 42 3 v xs.length (Ss xs)) (b off c : Nat) (ms : List Sm.St) (hx : a.eval x = .slice (some ⟨b, off, none⟩) ms.length c) (hr : RdS w (some ⟨b, off, none⟩) ms)
    (hl : xs.length + ms.length ≤ 1048576) (hbase : base ≤ w.heap.size)
    (h : ∀ v' w', w'.ownsRow base 42 3 v' (xs ++ ms).length (Ss (xs ++ ms)) → w.grownBy w' v.ownBlock → (v' = .slice none 0 0 ↔ v = .slice none 0 0 ∧ ms.length = 0) → K (a.put o.dst v') w') : o.wp Try.prog a w K Q := by
  obtain ⟨j0, hj0, hy0, hy1, hy2⟩ := info_parts infoDv
  refine wp_append_own w s x 24 ho base 42 j0 _ 3 24 Try.underlying24 hj0 hy0 hy1 hy2 rfl (by decide) v xs.length (Ss xs) hs hown ⟨b, off, none⟩ ms.length c (Ss ms) hx (Ss_len ms) (Ss_cell hr) (Ss_one ms) (by unfold maxLen; omega) (by omega) hbase ?_
  intro v' w' h2 h3 h4
  exact h v' w' (by rw [List.length_append, Ss_app]; exact h2) h3 h4
theorem wpList_appS (w : World) {ops : Array Oper} {rest : List Oper} {o : Oper} {a : Act} {Q : Exit → Act → World → Prop} (hgd : o.guard = none) (s x : Operand)
    (ho : o.op = .call { callee := .builtin .append, args := #[s, x], argTypes := #[24, 24] })
    (base : Nat) (v : Value) (xs : List Sm.St) (hs : a.eval s = v) (hown : w.ownsRow base 42 3 v xs.length (Ss xs)) (b off c : Nat) (ms : List Sm.St) (hx : a.eval x = .slice (some ⟨b, off, none⟩) ms.length c) (hr : RdS w (some ⟨b, off, none⟩) ms)
    (hl : xs.length + ms.length ≤ 1048576) (hbase : base ≤ w.heap.size)
    (h : ∀ v' w', w'.ownsRow base 42 3 v' (xs ++ ms).length (Ss (xs ++ ms)) → w.grownBy w' v.ownBlock → (v' = .slice none 0 0 ↔ v = .slice none 0 0 ∧ ms.length = 0) → wpList Try.prog ops Q rest (a.put o.dst v') w') : wpList Try.prog ops Q (o :: rest) a w :=
  wpList_plain hgd fun _ hK => wp_appS w s x ho base v xs hs hown b off c ms hx hr hl hbase fun v' w' h2 h3 h4 => hK _ _ (h v' w' h2 h3 h4)
theorem step_appS (w : World) {ops : Array Oper} {o : Oper} {a : Act} {K : Act → World → Prop} {Q : Exit → Act → World → Prop} {E : Prop} (hgd : o.guard = none) (s x : Operand)
    (ho : o.op = .call { callee := .builtin .append, args := #[s, x], argTypes := #[24, 24] })
    (base : Nat) (v : Value) (xs : List Sm.St) (hs : a.eval s = v) (hown : w.ownsRow base 42 3 v xs.length (Ss xs)) (b off c : Nat) (ms : List Sm.St) (hx : a.eval x = .slice (some ⟨b, off, none⟩) ms.length c) (hr : RdS w (some ⟨b, off, none⟩) ms)
    (hl : xs.length + ms.length ≤ 1048576) (hbase : base ≤ w.heap.size)
    (h : ∀ v' w', w'.ownsRow base 42 3 v' (xs ++ ms).length (Ss (xs ++ ms)) → w.grownBy w' v.ownBlock → (v' = .slice none 0 0 ↔ v = .slice none 0 0 ∧ ms.length = 0) → K (a.put o.dst v') w') :
    if Region.wanted o (yielded ops a.tmps) = true then Oper.wp Try.prog o a w K Q else E := by
  have hw : Region.wanted o (yielded ops a.tmps) = true := by simp [Region.wanted, hgd]
  rw [if_pos hw]
  exact wp_appS w s x ho base v xs hs hown b off c ms hx hr hl hbase h
theorem emptyS (w : World) (base : Nat) (h : base ≤ w.heap.size) : (w.alloc (.cells #[] 42)).ownsRow base 42 3 (.slice (some ⟨w.heap.size, 0, none⟩) 0 0) ([] : List Sm.St).length (Ss []) := World.ownsRow_made w #[] 0 h (Nat.zero_le _) rfl
theorem oneS (w : World) (d : Sm.St) : RdS (w.alloc (.cells #[.int .i64 d.1, .int .i64 d.2.1, .int .i64 d.2.2] 42)) (some ⟨w.heap.size, 0, none⟩) [d] := by
  intro i hi
  have e : i = 0 := by simp at hi; omega
  subst e
  exact ⟨w.heap.size, 0, rfl, by rw [World.cell?_alloc_at _ _ _ _ rfl]; rfl, by rw [World.cell?_alloc_at _ _ _ _ rfl]; rfl, by rw [World.cell?_alloc_at _ _ _ _ rfl]; rfl⟩
theorem takeS {w : World} {b off : Nat} {l : List Sm.St} (h : RdS w (some ⟨b, off, none⟩) l) (k : Nat) : RdS w (some ⟨b, off, none⟩) (l.take k) := by
  intro i hi
  rw [List.length_take] at hi
  rw [List.getElem_take]
  exact h i (by omega)
theorem dropS {w : World} {b : Nat} {l : List Sm.St} (h : RdS w (some ⟨b, 0, none⟩) l) (k : Nat) : RdS w (some ⟨b, k * 3, none⟩) (l.drop k) := by
  intro i hi
  rw [List.length_drop] at hi
  obtain ⟨b', off', e, c0, c1, c2⟩ := h (k + i) (by omega)
  cases e
  rw [List.getElem_drop]
  refine ⟨b, k * 3, rfl, ?_, ?_, ?_⟩
  · rw [show k * 3 + i * 3 = 0 + (k + i) * 3 from by omega]; exact c0
  · rw [show k * 3 + i * 3 + 1 = 0 + (k + i) * 3 + 1 from by omega]; exact c1
  · rw [show k * 3 + i * 3 + 2 = 0 + (k + i) * 3 + 2 from by omega]; exact c2
end Go.Proofs.Ytcejeiakgmamdac.Wk

namespace Go.Proofs.Ytcejeiakgmamdac.Wk
set_option linter.unusedVariables false
open Go.ChangeShapes Go.WideShapes Go.ChangeAt Go.RowKit

theorem app_keeps {P : Program} (w : World) (t ty e : TypeId) (i : TypeInfo) (z : Value) (size bytes : Nat) (ht : P.underlying t = some (.slice e)) (hi : P.info? e = some i) (hz : i.zero = some z) (hsize : i.size = size) (hby : i.bytes = bytes)
    (base g n cap : Nat) (xs : List Value) (hown : w.ownsRow base e size (.slice (some ⟨g, 0, none⟩) n cap) n xs) (a : Addr) (m c : Nat) (news : List Value) (hl : news.length = m * size) (hnews : ∀ j u, news[j]? = some u → w.cell? (a.add j) = some u) (h1 : ∀ u ∈ news, u.oneCell' = true)
    (h63 : n + m ≤ maxLen) (hbytes : (n + m) * bytes ≤ 140737488355328) (v' : Value) (w' : World) (hrun : (Builtin.append_ #[t, t] ty #[.slice (some ⟨g, 0, none⟩) n cap, .slice (some a) m c]).run P w = .ok v' w') :
    ∀ j u, xs[j]? = some u → w'.cell? ⟨g, j, none⟩ = some u := by
  subst hsize hby
  intro j u hj
  have hold := hown.cells (g := g) rfl
  have hadd : ∀ j, (⟨g, 0, none⟩ : Addr).add j = ⟨g, j, none⟩ := fun j => by unfold Addr.add; split <;> simp_all
  rcases hown.2 with ⟨e, -⟩ | ⟨g', cap', cur, e, -, hg, hnc, -, hcs, htake⟩
  · cases e
  · simp only [Value.slice.injEq, Option.some.injEq, Addr.mk.injEq] at e
    obtain ⟨⟨rfl, -, -⟩, -, rfl⟩ := e
    have hjl : j < n * i.size := by
      have := (List.getElem?_eq_some_iff.1 hj).1
      rw [hown.1] at this
      exact this
    by_cases hroom : n + m ≤ cap
    · have hfit : n * i.size + news.length ≤ cur.size := by rw [hl, hcs, ← Nat.add_mul]; exact Nat.mul_le_mul_right _ hroom
      have hr := run_append_room (P := P) w t ty e i ht hi g n cap cur hg a m c news hl hnews h1 hroom hfit
      rw [hrun] at hr
      simp only [Result.ok.injEq] at hr
      obtain ⟨-, rfl⟩ := hr
      rw [cell_of_row _ g j _ _ _ (setRow_heap w g cur _ e _ hg), List.getElem?_toArray, List.append_assoc, List.getElem?_append_left (by simp; omega), htake]
      exact hj
    · have hr := run_append_grow (P := P) w t ty e i z ht hi hz ⟨g, 0, none⟩ n cap xs hown.1 hold a m c news hl hnews (by omega) (by unfold maxLen at h63; omega) (growslice_fits (by omega) hbytes)
      rw [hrun] at hr
      simp only [Result.ok.injEq] at hr
      obtain ⟨-, rfl⟩ := hr
      have hlt : g < w.heap.size := (Array.getElem?_eq_some_iff.1 hg).1
      have h2 := hold j u hj
      rw [hadd] at h2
      rw [World.cell?_of_block (w := w) (a := ⟨g, j, none⟩) (Below.heap_alloc w.drew _ g hlt)]
      exact h2

theorem step_appK (w : World) {ops : Array Oper} {o : Oper} {a : Act} {K : Act → World → Prop} {Q : Exit → Act → World → Prop} {E : Prop} (hgd : o.guard = none) (s x : Operand)
    (ho : o.op = .call { callee := .builtin .append, args := #[s, x], argTypes := #[24, 24] })
    (base g1 c1 : Nat) (xs : List Sm.St) (hs : a.eval s = .slice (some ⟨g1, 0, none⟩) xs.length c1) (hown : w.ownsRow base 42 3 (.slice (some ⟨g1, 0, none⟩) xs.length c1) xs.length (Ss xs)) (b off c : Nat) (ms : List Sm.St) (hx : a.eval x = .slice (some ⟨b, off, none⟩) ms.length c) (hr : RdS w (some ⟨b, off, none⟩) ms)
    (hl : xs.length + ms.length ≤ 1048576) (hbase : base ≤ w.heap.size)
    (h : ∀ v' w', w'.ownsRow base 42 3 v' (xs ++ ms).length (Ss (xs ++ ms)) → w.grownBy w' (some g1) → (v' = .slice none 0 0 ↔ Value.slice (some ⟨g1, 0, none⟩) xs.length c1 = .slice none 0 0 ∧ ms.length = 0) → RdS w' (some ⟨g1, 0, none⟩) xs → K (a.put o.dst v') w') :
    if Region.wanted o (yielded ops a.tmps) = true then Oper.wp Try.prog o a w K Q else E := by
  have hw : Region.wanted o (yielded ops a.tmps) = true := by simp [Region.wanted, hgd]
  rw [if_pos hw]
  obtain ⟨j0, hj0, hy0, hy1, hy2⟩ := info_parts infoDv
  obtain ⟨v', w', hrun, h2, h3, h4⟩ := run_append_own (P := Try.prog) w base 24 o.type 42 j0 _ 3 24 Try.underlying24 hj0 hy0 hy1 hy2 rfl (by decide) _ xs.length (Ss xs) hown ⟨b, off, none⟩ ms.length c (Ss ms) (Ss_len ms) (Ss_cell hr) (Ss_one ms) (by unfold maxLen; omega) (by omega) hbase
  have hk := app_keeps w 24 o.type 42 j0 _ 3 24 Try.underlying24 hj0 hy0 hy1 hy2 base g1 xs.length c1 (Ss xs) hown ⟨b, off, none⟩ ms.length c (Ss ms) (Ss_len ms) (Ss_cell hr) (Ss_one ms) (by unfold maxLen; omega) (by omega) v' w' hrun
  have hrd : RdS w' (some ⟨g1, 0, none⟩) xs := by
    intro i hi
    obtain ⟨r0, r1, r2⟩ := Ss_row xs i hi hi
    exact ⟨g1, 0, rfl, by rw [Nat.zero_add]; exact hk _ _ r0, by rw [Nat.zero_add]; exact hk _ _ r1, by rw [Nat.zero_add]; exact hk _ _ r2⟩
  unfold Oper.wp execOp
  simp only [ho, resolve, invoke, builtin, Sem.run_bind, Sem.run_pure, Result.andThen_ok, List.map_toArray, List.map_cons, List.map_nil, hs, hx, hrun]
  exact h v' w' (by rw [List.length_append, Ss_app]; exact h2) h3 h4 hrd
end Go.Proofs.Ytcejeiakgmamdac.Wk

namespace Go.Proofs.Ytcejeiakgmamdac.Wk
set_option linter.unusedVariables false
open Go.ChangeShapes Go.WideShapes Go.ChangeAt Go.RowKit

theorem wrap9 (n : Int) (h0 : -9223372036854775808 ≤ n) (h1 : n < 9223372036854775808) : IntKind.i64.wrap n = n := by
  simp only [IntKind.wrap, IntKind.bits, IntKind.signed]
  simp
  omega
theorem rdS_keep {w w' : World} {g : Nat} {X : List Sm.St} {r : Option Nat} (h : RdS w (some ⟨g, 0, none⟩) X) (hg : w.grownBy w' r) (hne : some g ≠ r) : RdS w' (some ⟨g, 0, none⟩) X := by
  intro i hi
  obtain ⟨b, off, e, c0, c1, c2⟩ := h i hi
  cases e
  exact ⟨g, 0, rfl, hg.cell c0 hne, hg.cell c1 hne, hg.cell c2 hne⟩
theorem ownS_rd {w : World} {base e g cap : Nat} {l : List Sm.St} (h : w.ownsRow base e 3 (.slice (some ⟨g, 0, none⟩) l.length cap) l.length (Ss l)) : RdS w (some ⟨g, 0, none⟩) l := by
  obtain ⟨a, c, e, hr⟩ := Ss_rd h
  simp only [Value.slice.injEq] at e
  rw [e.1]
  exact hr

theorem rdiG {w w' : World} {b : Nat} {ns : List Int} {r : Option Nat} (h : RdI w (some ⟨b, 0, none⟩) ns) (hg : w.grownBy w' r) (hne : some b ≠ r) : RdI w' (some ⟨b, 0, none⟩) ns := by
  intro i hi
  obtain ⟨b', off, e, hc⟩ := h i hi
  cases e
  exact ⟨b, 0, rfl, hg.cell hc hne⟩
theorem form9 {w : World} {base n e : Nat} {v : Value} {xs : List Value} (h : w.ownsRow base e 3 v n xs) (hn : v ≠ .slice none 0 0) : ∃ g cap, v = .slice (some ⟨g, 0, none⟩) n cap ∧ base ≤ g ∧ n ≤ cap := by
  rcases h.2 with ⟨rfl, h0⟩ | ⟨g, cap, cur, rfl, hb, _, h1, _⟩
  · exact absurd rfl hn
  · exact ⟨g, cap, rfl, hb, by omega⟩

theorem drop9 {w : World} {g c k od : Nat} {X : List Sm.St} (h : RdS w (some ⟨g, 0, none⟩) X) (hc : X.length ≤ c) (had : (if c = k + 1 then some (⟨g, 0, none⟩ : Addr) else some ⟨g, (k + 1) * 3, none⟩) = some ⟨g, od, none⟩) : RdS w (some ⟨g, od, none⟩) (X.drop (k + 1)) := by
  rw [← had]
  split
  · intro i hi
    rw [List.length_drop] at hi
    omega
  · exact dropS h (k + 1)

set_option maxHeartbeats 4000000 in
set_option maxRecDepth 100000 in
theorem l6Other (C g cp : Nat) (l : List UInt8) (X : List Sm.St) (w : World) (hc : Cur w C l) (hX : RdS w (some ⟨g, 0, none⟩) X) (h6 : X.length ≤ 6) (hF : ∀ d ∈ X, Few d) :
    Calls Try.prog 57 #[.pointer (some ⟨C, 0, none⟩), .slice (some ⟨g, 0, none⟩) X.length cp] w fun e w' => ∃ (Y : List Sm.St) (g' : Nat) (cp' : Nat), e = .returned (.slice (some ⟨g', 0, none⟩) Y.length cp') ∧
      Y.length ≤ 7 ∧ RdS w' (some ⟨g', 0, none⟩) Y ∧ Cur w' C l ∧ w.grownBy w' (some C) := by
  have hC := hc.lt
  have hO0 := emptyS w w.heap.size (Nat.le_refl _)
  have hb0 := bel1 w (.cells #[] 42)
  have hX0 := hX.below hb0
  have hc0 := hc.below hb0
  have hg0 : w.grownBy (w.alloc (.cells #[] 42)) (some C) := World.grownBy_alloc _ _ _
  go_enter Try.func57, Try.ntmps57
  go_wp2_with (at_builtin; refine wpList_appS _ rfl (.tmp 7) (.tmp 8) rfl w.heap.size (.slice (some ⟨w.heap.size, 0, none⟩) 0 0) [] rfl hO0 g 0 cp X rfl hX0 (by simp; omega) (by simp) ?_; intro v1 w1 hown1 hgrow1 hnil1)
  simp only [List.nil_append] at hown1
  obtain ⟨g1, c1, rfl, hgb, hcap⟩ := form9 hown1 (fun e => by have := hnil1.1 e; simp at this)
  have hr1 := ownS_rd hown1
  have hc1 : Cur w1 C l := hc0.keep hgrow1 (fun j e => by simp only [Value.ownBlock, Option.some.injEq] at e; omega)
  have hg1 : w.grownBy w1 (some C) := grownVia hg0 hgrow1 (fun j e => by simp only [Value.ownBlock, Option.some.injEq] at e; omega)
  clear hnil1 hgrow1 hc0 hX0 hX hO0 hb0 hg0
  refine (l1Below C l 3 _ hc1 (by omega)).mono ?_
  rintro e w2 ⟨x, rfl, hx0, hx1, -, hc2, hg2⟩
  have hx3 := hx1 (by omega)
  have hr2 := rdS_keep hr1 hg2 (by simp; omega)
  have hG2 := grownTrans hg1 hg2
  have hO2 := keptC hown1 hg2 (by omega)
  clear hx1 hc1 hr1 hg1 hg2 hown1
  go_upto_block 0 with fail
  go_cut [5] (fun v wx => ∃ (Y : List Sm.St) (g' cp' : Nat), v = .slice (some ⟨g', 0, none⟩) Y.length cp' ∧ Y.length ≤ 7 ∧ RdS wx (some ⟨g', 0, none⟩) Y ∧ Cur wx C l ∧ w.grownBy wx (some C))
  case rest =>
    obtain ⟨Y, g', cp', rfl, y1, y2, y3, y4⟩ := hcut
    clear hr2 hc2 hG2 hO2
    go_wp2
    go_ret
    exact ⟨Y, _, cp', rfl, y1, y2, y3, y4⟩
  case first =>
    by_cases h0 : x = 0
    · subst h0
      by_cases h1 : 1 < X.length
      · have h1' : (1 : Int) < (X.length : Int) := by omega
        go_wp2_with fail
        refine (l1Below C l (X.length : Int) _ hc2 (by omega)).mono ?_
        rintro e w3 ⟨k, rfl, hk0, hk1, -, hc3, hg3⟩
        have hk1 := hk1 (by omega)
        obtain ⟨k, rfl⟩ := Int.eq_ofNat_of_zero_le hk0
        have hk : k < X.length := by omega
        have hk7 : ((k : Int) + 1) ≤ (X.length : Int) := by omega
        have hk8 : ((k : Int) + 1) ≤ (c1 : Int) := by omega
        have hk9 : (k : Int) ≤ (c1 : Int) := by omega
        have hr3 := rdS_keep hr2 hg3 (by simp; omega)
        have hG3 := grownTrans hG2 hg3
        have hw1 : IntKind.i64.wrap ((k : Int) + 1) = (k : Int) + 1 := wrap9 _ (by omega) (by omega)
        clear hr2 hc2 hG2 hg3 hO2
        have htl : (X.take k).length = k := by rw [List.length_take]; omega
        have hdl : (X.drop (k + 1)).length = X.length - (k + 1) := List.length_drop
        have hg1s : g1 < w3.heap.size := by
          obtain ⟨b, off, e, c0, -⟩ := hr3 0 (by omega)
          cases e
          exact World.block_lt_of_cell? w3 _ c0
        have e0 := emptyS w3 w3.heap.size (Nat.le_refl _)
        have b0 := bel1 w3 (.cells #[] 42)
        have zA := hr3.below b0
        have zT := takeS zA k
        have hk10 : (0 : Int) ≤ (k : Int) + 1 := by omega
        obtain ⟨od, had⟩ : ∃ od : Nat, (if c1 = k + 1 then some (⟨g1, 0, none⟩ : Addr) else some ⟨g1, (k + 1) * 3, none⟩) = some ⟨g1, od, none⟩ := by
          by_cases h : c1 = k + 1
          · exact ⟨0, by rw [if_pos h]⟩
          · exact ⟨_, by rw [if_neg h]⟩
        have HY : Hid (∀ g7 c7 w7 v8 w8, w7.ownsRow w3.heap.size 42 3 (.slice (some ⟨g7, 0, none⟩) k c7) (X.take k).length (Ss (X.take k)) → (w3.alloc (.cells #[] 42)).drew.grownBy w7 (some w3.heap.size) → w8.ownsRow w3.heap.size 42 3 v8 (X.take k ++ X.drop (k + 1)).length (Ss (X.take k ++ X.drop (k + 1))) → w7.grownBy w8 (some g7) → v8 ≠ .slice none 0 0 →
            ∃ (Y : List Sm.St) (g8 c8 : Nat), v8 = .slice (some ⟨g8, 0, none⟩) Y.length c8 ∧ Y.length ≤ 7 ∧ RdS w8 (some ⟨g8, 0, none⟩) Y ∧ Cur w8 C l ∧ w.grownBy w8 (some C)) := by
          intro g7 c7 w7 v8 w8 hown7 hgrow7 hown8 hgrow8 hn8
          obtain ⟨g8, c8, rfl, -, -⟩ := form9 hown8 hn8
          have hC3 := hc3.lt
          have hG3s := hG3.size
          have hg7 := (World.ownsRow.lt hown7 g7 rfl).1
          exact ⟨_, g8, c8, rfl, by rw [List.length_append, htl, hdl]; omega, ownS_rd hown8, ((hc3.below b0).drewN 1 |>.keep hgrow7 (fun j e => by cases e; exact hC3)).keep hgrow8 (fun j e => by cases e; omega), grownVia (grownVia (grownBelow hG3 b0) (w2 := w7) ⟨hgrow7.os, hgrow7.tape, hgrow7.output, hgrow7.size, hgrow7.block⟩ (fun j e => by cases e; omega)) hgrow8 (fun j e => by cases e; omega)⟩
        clear hr3 hc3 hG3 hC
        go_wp2_with fail
        go_region_law (first | (refine step_appS _ (by rfl) (.tmp 25) (.tmp 29) (by rfl) w3.heap.size (.slice (some ⟨g7, 0, none⟩) k c7) (X.take k) (by rfl) (by exact o7) g1 od (c1 - (k + 1)) (X.drop (k + 1)) (by rw [hdl]; first | rfl | (rw [← had]; rfl)) (by exact zD) (by rw [htl, hdl]; omega) (by exact hzz) ?_; intro v8 w8 hown8 hgrow8 hnil8; obtain ⟨Y, g8, c8, rfl, y1, y2, y3, y4⟩ := HY.out g7 c7 w7 v8 w8 o7 hgrow7 hown8 hgrow8 (fun e => by have := hnil8.1 e; simp at this)) | (refine step_appS (w3.alloc (.cells #[] 42)).drew (by rfl) (.tmp 21) (.tmp 24) (by rfl) w3.heap.size (.slice (some ⟨w3.heap.size, 0, none⟩) 0 0) [] (by rfl) (by exact e0) g1 0 c1 (X.take k) (by rw [htl]; rfl) (by exact zT) (by rw [htl]; simp; omega) (by simp) ?_; intro v7 w7 hown7 hgrow7 hnil7; simp only [List.nil_append] at hown7; obtain ⟨g7, c7, rfl, hgb7, -⟩ := form9 hown7 (fun e => by have := hnil7.1 e; simp at this); have z7 : RdS w7 (some ⟨g1, 0, none⟩) X := rdS_keep (w := (w3.alloc (.cells #[] 42)).drew) zA hgrow7 (by simp only [Value.ownBlock, ne_eq, Option.some.injEq]; omega); rw [htl] at hown7; have o7 : w7.ownsRow w3.heap.size 42 3 (.slice (some ⟨g7, 0, none⟩) k c7) (X.take k).length (Ss (X.take k)) := (by rw [htl]; exact hown7); have zD := drop9 z7 hcap had; have hz7 := hgrow7.size; have hzz : w3.heap.size ≤ w7.heap.size := (by simp at hz7; omega)))
        all_goals
          go_wp2_with fail
          go_meet
          exact ⟨Y, g8, c8, rfl, y1, y2, y3, y4⟩
      · have h1' : ¬ (1 : Int) < (X.length : Int) := by omega
        go_wp2_with fail
        go_meet
        exact ⟨X, g1, c1, rfl, by omega, hr2, hc2, hG2⟩
    · by_cases h2 : x = 1
      · subst h2
        by_cases h3 : 0 < X.length
        · obtain ⟨k, hk⟩ : ∃ k, X.length = k + 1 := ⟨X.length - 1, by omega⟩
          have hI' : ∃ i, X[k]'(by omega) = i ∧ -1000 ≤ i.1 ∧ i.1 ≤ 2000 := ⟨_, rfl, (hF _ (List.getElem_mem (by omega))).1⟩
          obtain ⟨⟨i, i1, i2⟩, hie, hi0, hi1⟩ := hI'
          have hck : w2.cell? ⟨g1, k * 3, none⟩ = some (.int .i64 i) := by
            obtain ⟨b, off, e, c0, -⟩ := hr2 k (by omega)
            cases e
            rw [Nat.zero_add, hie] at c0
            exact c0
          simp only at hi0 hi1
          by_cases h4 : i < 19
          · rw [hk] at hO2 ⊢
            have hw2 : IntKind.i64.wrap (i + 1) = i + 1 := wrap9 _ (by omega) (by omega)
            have hgs : g1 < w2.heap.size := World.block_lt_of_cell? w2 _ hck
            have hC2 := hc2.lt
            have hbI := bel1 w2 (.cells #[.int .i64 1, .int .i64 10] 3)
            have hIE := rdiNew (w := w2) (t := 3) (ns := [1, 10]) (cs := #[.int .i64 1, .int .i64 10]) rfl
            have hcE := hc2.below hbI
            have hckE := cellOn hck hbI
            have hOE := World.ownsRow.alloc hO2 (.cells #[.int .i64 1, .int .i64 10] 3)
            have hq0 : (0 : Int) ≤ (k : Int) := by omega
            have hq1 : (k : Int) < (k : Int) + 1 := by omega
            have hq2 : (k : Int) < ((k + 1 : Nat) : Int) := by omega
            have hq3 : k < k + 1 := by omega
            have hq4 : IntKind.i64.wrap (k : Int) = (k : Int) := wrap9 _ (by omega) (by omega)
            have hq5 : IntKind.i64.wrap ((k : Int) + 1 - 1) = (k : Int) := by rw [Int.add_sub_cancel]; exact hq4
            have hq6 : (k : Int).toNat = k := Int.toNat_natCast k
            have HK2 : Hid (w2.cell? ⟨g1, k * 3, none⟩ = some (.int .i64 i)) := hck
            have HK3 : Hid (w2.drew.cell? ⟨g1, k * 3, none⟩ = some (.int .i64 i)) := hck
            have HK4 : Hid ((w2.alloc (.cells #[.int .i64 1, .int .i64 10] 3)).drew.cell? ⟨g1, k * 3, none⟩ = some (.int .i64 i)) := hckE
            have HR : Hid (∀ w8 : World, RdS w8 (some ⟨g1, 0, none⟩) X → w8.cell? ⟨g1, k * 3, none⟩ = some (.int .i64 i)) := by
              intro w8 hrd
              obtain ⟨b, off, e, c0, -⟩ := hrd k (by omega)
              cases e
              rw [Nat.zero_add, hie] at c0
              exact c0
            have HZ : Hid (∀ (z y : Int) (w5 : World) (v8 : Value) (w8 : World), Cur w5 C l → w.grownBy w5 (some C) → w8.ownsRow w.heap.size 42 3 v8 (X ++ [(i + 1, z, y)]).length (Ss (X ++ [(i + 1, z, y)])) → (w5.alloc (.cells #[.int .i64 (i + 1), .int .i64 z, .int .i64 y] 42)).grownBy w8 (some g1) → v8 ≠ .slice none 0 0 →
                ∃ (Y : List Sm.St) (g8 c8 : Nat), v8 = .slice (some ⟨g8, 0, none⟩) Y.length c8 ∧ Y.length ≤ 7 ∧ RdS w8 (some ⟨g8, 0, none⟩) Y ∧ Cur w8 C l ∧ w.grownBy w8 (some C)) := by
              intro z y w5 v8 w8 hc5 hG5 hown8 hgrow8 hn8
              obtain ⟨g8, c8, rfl, -, -⟩ := form9 hown8 hn8
              have hg8 : w5.grownBy w8 (some g1) := grownTrans (World.grownBy_alloc w5 _ _) ⟨hgrow8.os, hgrow8.tape, hgrow8.output, hgrow8.size, hgrow8.block⟩
              exact ⟨_, g8, c8, rfl, by rw [List.length_append]; simp; omega, ownS_rd hown8, hc5.keep hg8 (fun j e => by cases e; omega), grownVia hG5 hg8 (fun j e => by cases e; omega)⟩
            go_wp2_with fail
            go_region_held3 (fun wy => wy.cell? ⟨g1, k * 3, none⟩ = some (.int .i64 i)) (first | with_reducible exact HK2.out | with_reducible exact HK3.out | with_reducible exact HK4.out | with_reducible exact ck4 | with_reducible exact ck5 | with_reducible exact ck5d | with_reducible exact ck6 | with_reducible exact ck7 | with_reducible exact ck7d | with_reducible exact ck8 | fail) (first | (go_at_call 38; refine (l1Int C w4.heap.size 0 _ 2 l [1, 10] (w4.alloc (.cells #[.int .i64 1, .int .i64 10] 3)) rfl hcE4 (by simp) (by simp) hI4 (by omega)).mono ?_; rintro e w5 ⟨j, hj, rfl, hc5, hg5⟩; have hg5' : w4.grownBy w5 (some C) := grownTrans (World.grownBy_alloc w4 (.cells #[.int .i64 1, .int .i64 10] 3) (some C)) ⟨hg5.os, hg5.tape, hg5.output, hg5.size, hg5.block⟩; have hO5 := keptC hO4 hg5' (by omega); have ck6 : w5.cell? ⟨g1, k * 3, none⟩ = some (.int .i64 i) := hg5'.cell ck4 (by simp; omega); generalize ([1, 10] : List Int)[j] = y; have hG5 := grownTrans hG4 hg5'; have hO5E := World.ownsRow.alloc hO5 (.cells #[.int .i64 (i + 1), .int .i64 z, .int .i64 y] 42); have ck7 : (w5.alloc (.cells #[.int .i64 (i + 1), .int .i64 z, .int .i64 y] 42)).cell? ⟨g1, k * 3, none⟩ = some (.int .i64 i) := cellOn ck6 (bel1 w5 (.cells #[.int .i64 (i + 1), .int .i64 z, .int .i64 y] 42)); have ck7d : (w5.alloc (.cells #[.int .i64 (i + 1), .int .i64 z, .int .i64 y] 42)).drew.cell? ⟨g1, k * 3, none⟩ = some (.int .i64 i) := ck7; have z5 := oneS w5 (i + 1, z, y); have hs5 := hG5.size; have hz5 : w.heap.size ≤ (w5.alloc (.cells #[.int .i64 (i + 1), .int .i64 z, .int .i64 y] 42)).heap.size := (by rw [World.size_alloc]; omega)) | (go_at_call 38; refine (l1Int C w2.heap.size 0 _ 2 l [1, 10] w4 rfl hc4 (by simp) (by simp) hI4 (by omega)).mono ?_; rintro e w5 ⟨j, hj, rfl, hc5, hg5⟩; have hg5' : w4.grownBy w5 (some C) := ⟨hg5.os, hg5.tape, hg5.output, hg5.size, hg5.block⟩; have hO5 := keptC hO4 hg5' (by omega); have ck6 : w5.cell? ⟨g1, k * 3, none⟩ = some (.int .i64 i) := hg5'.cell ck4 (by simp; omega); generalize ([1, 10] : List Int)[j] = y; have hG5 := grownTrans hG4 hg5'; have hO5E := World.ownsRow.alloc hO5 (.cells #[.int .i64 (i + 1), .int .i64 z, .int .i64 y] 42); have ck7 : (w5.alloc (.cells #[.int .i64 (i + 1), .int .i64 z, .int .i64 y] 42)).cell? ⟨g1, k * 3, none⟩ = some (.int .i64 i) := cellOn ck6 (bel1 w5 (.cells #[.int .i64 (i + 1), .int .i64 z, .int .i64 y] 42)); have ck7d : (w5.alloc (.cells #[.int .i64 (i + 1), .int .i64 z, .int .i64 y] 42)).drew.cell? ⟨g1, k * 3, none⟩ = some (.int .i64 i) := ck7; have z5 := oneS w5 (i + 1, z, y); have hs5 := hG5.size; have hz5 : w.heap.size ≤ (w5.alloc (.cells #[.int .i64 (i + 1), .int .i64 z, .int .i64 y] 42)).heap.size := (by rw [World.size_alloc]; omega)) | (refine step_appK _ (by rfl) (.tmp 46) (.tmp 61) (by rfl) w.heap.size g1 c1 X (by rw [hk]; rfl) (by rw [hk]; exact hO5E) w5.heap.size 0 1 [(i + 1, z, y)] (by rfl) (by exact z5) (by rw [hk]; simp; omega) (by exact hz5) ?_; intro v8 w8 hown8 hgrow8 hnil8 hrd8; have ck8 := HR.out w8 hrd8; obtain ⟨Y, g8, c8, rfl, y1, y2, y3, y4⟩ := HZ.out z y w5 v8 w8 hc5 hG5 hown8 ⟨hgrow8.os, hgrow8.tape, hgrow8.output, hgrow8.size, hgrow8.block⟩ (fun e => by have := hnil8.1 e; simp at this)) | (go_at_call 49; refine (l1Below C l 4 w2.drew hc2 (by omega)).mono ?_; rintro e w4 ⟨z, rfl, hz0, hz1, -, hc4, hg4⟩; have hg4' : w2.grownBy w4 (some C) := ⟨hg4.os, hg4.tape, hg4.output, hg4.size, hg4.block⟩; have hG4 := grownTrans hG2 hg4'; have hO4 := keptC hO2 hg4' (by omega); have hs4 := hg4'.size; have ck4 : w4.cell? ⟨g1, k * 3, none⟩ = some (.int .i64 i) := hg4'.cell hck (by simp; omega); have ck5 : (w4.alloc (.cells #[.int .i64 1, .int .i64 10] 3)).cell? ⟨g1, k * 3, none⟩ = some (.int .i64 i) := cellOn ck4 (bel1 w4 (.cells #[.int .i64 1, .int .i64 10] 3)); have ck5d : (w4.alloc (.cells #[.int .i64 1, .int .i64 10] 3)).drew.cell? ⟨g1, k * 3, none⟩ = some (.int .i64 i) := ck5; have hI4 := rdiNew (w := w4) (t := 3) (ns := [1, 10]) (cs := #[.int .i64 1, .int .i64 10]) rfl; have hcE4 := hc4.below (bel1 w4 (.cells #[.int .i64 1, .int .i64 10] 3))) | (go_at_call 49; refine (l1Below C l 4 (w2.alloc (.cells #[.int .i64 1, .int .i64 10] 3)).drew hcE (by omega)).mono ?_; rintro e w4 ⟨z, rfl, hz0, hz1, -, hc4, hg4⟩; have hg4' : w2.grownBy w4 (some C) := grownTrans (World.grownBy_alloc w2 (.cells #[.int .i64 1, .int .i64 10] 3) (some C)) ⟨hg4.os, hg4.tape, hg4.output, hg4.size, hg4.block⟩; have hG4 := grownTrans hG2 hg4'; have hO4 := keptC hO2 hg4' (by omega); have hs4 := hg4'.size; have ck4 : w4.cell? ⟨g1, k * 3, none⟩ = some (.int .i64 i) := hg4'.cell hck (by simp; omega); have hI4 := rdiG (w := (w2.alloc (.cells #[.int .i64 1, .int .i64 10] 3)).drew) hIE hg4 (by simp; omega)))
            all_goals
              go_wp2_with fail
              rw [← hk]
              go_meet
              exact ⟨Y, g8, c8, rfl, y1, y2, y3, y4⟩
          · rw [hk]
            go_wp2_with fail
            rw [← hk]
            go_meet
            exact ⟨X, g1, c1, rfl, by omega, hr2, hc2, hG2⟩
        · have h3' : ¬ (0 : Int) < (X.length : Int) := by omega
          go_wp2_with fail
          go_meet
          exact ⟨X, g1, c1, rfl, by omega, hr2, hc2, hG2⟩
      · go_wp2_with fail
        go_meet
        exact ⟨X, g1, c1, rfl, by omega, hr2, hc2, hG2⟩
end Go.Proofs.Ytcejeiakgmamdac.Wk

namespace Go.Proofs.Ytcejeiakgmamdac.Wk
set_option linter.unusedVariables false
open Go.ChangeShapes Go.WideShapes Go.ChangeAt Go.RowKit

theorem belN (w : World) (o : Obj) : Below w.heap.size w (w.alloc o) := (Below.refl _ _).alloc (Nat.le_refl _) _
theorem behindN {w w1 w2 : World} (h : Below w.heap.size w w1) (k : Below w1.heap.size w1 w2) : Below w.heap.size w w2 := h.trans (k.mono h.size)
theorem grownOf {w w1 : World} {r : Option Nat} (hb : Below w.heap.size w w1) : w.grownBy w1 r := ⟨hb.os, hb.tape, hb.output, hb.size, fun k hk _ => hb.block k hk⟩

set_option maxHeartbeats 1000000 in
set_option maxRecDepth 100000 in
theorem l1Once (C : Nat) (l : List UInt8) (n : Int) (w : World) (hc : Cur w C l) (hn : n ≤ 2147483648) :
    Calls Try.prog 56 #[.pointer (some ⟨C, 0, none⟩), .int .i64 n] w fun e w' => ∃ B : Bool, e = .returned (.bool B) ∧ Cur w' C l ∧ w.grownBy w' (some C) := by
  go_enter Try.func56, Try.ntmps56
  go_wp2_with fail
  refine (l1Below C l n _ hc hn).mono ?_
  rintro e w1 ⟨x, rfl, hx0, -, -, hc1, hg1⟩
  go_wp2
  go_ret
  exact ⟨_, rfl, hc1, hg1⟩

/-- the address a leads to the texts ss -/
def RdX (w : World) (a : Option Addr) (ss : List ByteArray) : Prop := ∀ i (h : i < ss.length), ∃ b off, a = some ⟨b, off, none⟩ ∧ w.cell? ⟨b, off + i, none⟩ = some (.string ss[i])
theorem rdxNew {w : World} {t : TypeId} {ss : List ByteArray} {cs : Array Value} (h : cs = (ss.map Value.string).toArray) : RdX (w.alloc (.cells cs t)) (some ⟨w.heap.size, 0, none⟩) ss := by
  intro i hi
  refine ⟨w.heap.size, 0, rfl, ?_⟩
  rw [World.cell?_alloc_at _ _ _ _ rfl, h]
  simp [hi]

set_option maxHeartbeats 1000000 in
set_option maxRecDepth 100000 in
theorem l1Str (C b off cap m : Nat) (l : List UInt8) (ss : List ByteArray) (w : World) (hm : ss.length = m) (hc : Cur w C l) (h0 : 0 < ss.length) (h1 : ss.length ≤ 1000) (hr : RdX w (some ⟨b, off, none⟩) ss) (hb : b ≠ C) :
    Calls Try.prog 88 #[.pointer (some ⟨C, 0, none⟩), .slice (some ⟨b, off, none⟩) m cap] w fun e w' => ∃ (j : Nat) (hj : j < ss.length), e = .returned (.string ss[j]) ∧ Cur w' C l ∧ w.grownBy w' (some C) := by
  subst hm
  go_enter Try.func88, Try.ntmps88
  go_wp2_with fail
  refine (l1Below C l _ _ hc (by omega)).mono ?_
  rintro e w1 ⟨x, rfl, hx0, hx1, -, hc1, hg1⟩
  obtain ⟨j, rfl⟩ := Int.eq_ofNat_of_zero_le hx0
  have hj : j < ss.length := by have := hx1 (by omega); omega
  obtain ⟨b', off', e', hcell⟩ := hr j hj
  simp only [Option.some.injEq, Addr.mk.injEq, and_true] at e'
  obtain ⟨rfl, rfl⟩ := e'
  have hcell1 := hg1.cell hcell (by simp; omega)
  clear hx1
  go_wp2
  go_ret
  exact ⟨j, hj, rfl, hc1, hg1⟩

theorem inX (ss : List ByteArray) (k : Nat) (h : ∀ x ∈ ss, x.size ≤ k) (j : Nat) (hj : j < ss.length) : ss[j].size ≤ k := h _ (List.getElem_mem hj)
end Go.Proofs.Ytcejeiakgmamdac.Wk

namespace Go.Proofs.Ytcejeiakgmamdac.Wk
set_option linter.unusedVariables false
open Go.ChangeShapes Go.WideShapes Go.ChangeAt Go.RowKit

theorem keepFr2 {w : World} {A B : Nat} {x y u v : Value} (h0 : w.cell? ⟨B, 0, none⟩ = some x) (h1 : w.cell? ⟨B, 1, none⟩ = some y) (hne : A ≠ B) :
    ((w.setCell ⟨A, 0, none⟩ u).setCell ⟨A, 1, none⟩ v).cell? ⟨B, 0, none⟩ = some x ∧ ((w.setCell ⟨A, 0, none⟩ u).setCell ⟨A, 1, none⟩ v).cell? ⟨B, 1, none⟩ = some y := by
  have f : ∀ (w : World) (o o' : Nat) (u : Value), (w.setCell ⟨A, o, none⟩ u).cell? ⟨B, o', none⟩ = w.cell? ⟨B, o', none⟩ := fun w o o' u => World.cell?_setCell_other _ _ _ _ (fun e => hne (congrArg Addr.block e))
  exact ⟨by rw [f, f]; exact h0, by rw [f, f]; exact h1⟩

theorem rdsA {w w' : World} {A g : Nat} {Y : List Sm.St} (h : RdS w (some ⟨g, 0, none⟩) Y) (hs : w.cell? ⟨A, 1, none⟩ = some (.slice none 0 0)) (hg : w.grownBy w' (some A)) : RdS w' (some ⟨g, 0, none⟩) Y := by
  by_cases hY : 0 < Y.length
  · have hne : g ≠ A := by
      rintro rfl
      obtain ⟨b, off, e, -, c1, -⟩ := h 0 hY
      cases e
      rw [show 0 + 0 * 3 + 1 = 1 from rfl, hs] at c1
      cases c1
    exact rdsG7 h hg hne
  · intro i hi
    omega

set_option maxHeartbeats 4000000 in
set_option maxRecDepth 100000 in
theorem drawReb (a0 : Option Addr) (cap0 : Nat) (l : List UInt8) (w : World) (hl : l.length ≤ 1048576) (hr : RdA w a0 l) :
    Calls Try.prog 25 #[.slice a0 l.length cap0] w fun e w' => ∃ (Y : List Sm.St) (gY cp : Nat) (R : Int) (Q : List (List Int)) (gI ca : Nat), e = .returned (.tuple #[.agg #[.int .i64 R, .slice (some ⟨gI, 0, none⟩) Q.length ca], .slice (some ⟨gY, 0, none⟩) Y.length cp]) ∧
      Y.length ≤ 7 ∧ (0 ≤ R ∧ R ≤ 6) ∧ (Q.length ≤ 16 ∧ Q.length ≤ ca) ∧ (∀ q ∈ Q, q.length ≤ 4) ∧ RdS w' (some ⟨gY, 0, none⟩) Y ∧ RdU w.heap.size w' (some ⟨gI, 0, none⟩) Q ∧ Below w.heap.size w w' := by
  obtain ⟨A, hA⟩ : ∃ A, w.heap.size = A := ⟨_, rfl⟩
  have s0 := slot2New w (.int .i64 0) (.slice none 0 0) 29
  have b0 := bel1 w (.cells #[.int .i64 0, .slice none 0 0] 29)
  have hr0 := hr.below b0
  have hs0 : (w.alloc (.cells #[.int .i64 0, .slice none 0 0] 29)).heap.size = w.heap.size + 1 := by simp
  go_enter Try.func25, Try.ntmps25
  go_wp2_with fail
  generalize w.alloc (.cells #[.int .i64 0, .slice none 0 0] 29) = wA at s0 b0 hr0 hs0 ⊢
  rw [hA] at s0 hs0
  refine (l1New a0 cap0 l _ hl hr0).mono ?_
  rintro e w1 ⟨rfl, hc1, hb1⟩
  rw [hs0] at hc1
  have hC1 := hc1.lt
  have hB1 := behind b0 hb1
  have s1 := s0.below hb1
  clear s0 hr0 hb1 b0
  go_wp2_with fail
  refine (l5Draw (A + 1) l _ hc1).mono ?_
  rintro e w2 ⟨X, g, cp, reps, p, gI, ca, rfl, hX6, hfew, -, hR1, hR3, hRX, hp1, hp16, hgg, hX2, hO2, hc2, hg2⟩
  have hPl : (Rg.parts X reps p).length = p := Rg.parts_len X reps p
  have hPe := Rg.parts_each X reps p
  have hpca : p ≤ ca := cap8 hO2 hPl
  have hP2 := hO2.rdU (lo := g + 1) (Nat.le_refl _)
  generalize Rg.parts X reps p = Q at hPl hPe hP2
  subst hPl
  have hQ4 : ∀ q ∈ Q, q.length ≤ 4 := fun q hq => by have := hPe q hq; omega
  have s2 := Slot2.grown s1 hg2 (fun e => by simp only [Option.some.injEq] at e; omega)
  have hB2 := belowOf hB1 hg2 (by omega)
  have sB := slot2New w2 (.int .i64 (reps : Int)) (.slice (some ⟨gI, 0, none⟩) Q.length ca) 29
  have bB := bel1 w2 (.cells #[.int .i64 (reps : Int), .slice (some ⟨gI, 0, none⟩) Q.length ca] 29)
  have sA := s2.below bB
  have hXB := hX2.below bB
  have hPB := hP2.below bB
  have hBB := behind hB2 bB
  have hcB := hc2.below bB
  have hCl := hc2.lt
  clear s1 s2 hX2 hP2 hO2 hc1 hc2 hg2 hB1 hB2 hr hPe
  go_wp2_with fail
  obtain ⟨B, hBe⟩ : ∃ B, w2.heap.size = B := ⟨_, rfl⟩
  rw [hBe] at sB hCl ⊢
  generalize w2.alloc (.cells #[.int .i64 (reps : Int), .slice (some ⟨gI, 0, none⟩) Q.length ca] 29) = wB at sA sB bB hXB hPB hBB hcB ⊢
  clear bB
  have hAB : A ≠ B := by omega
  refine (l1Once (A + 1) l 6 wB hcB (by omega)).mono ?_
  rintro e w3 ⟨o, rfl, hc3, hg3⟩
  have sA3 := Slot2.grown sA hg3 (fun e => by simp only [Option.some.injEq] at e; omega)
  have sB3 := Slot2.grown sB hg3 (fun e => by simp only [Option.some.injEq] at e; omega)
  have hX3 := rdsG7 hXB hg3 (by omega)
  have hP3 := hPB.grown hg3 (by omega)
  have hB3 := belowOf hBB hg3 (by omega)
  clear sA sB hXB hPB hBB hcB hg3
  cases o with
  | false =>
    have hR : (0 : Int) ≤ (reps : Int) ∧ (reps : Int) ≤ 6 := ⟨by omega, by omega⟩
    have hQ16 : Q.length ≤ 16 ∧ Q.length ≤ ca := ⟨hp16, hpca⟩
    obtain ⟨⟨t0, t1⟩, t2, t3⟩ := id sA3
    obtain ⟨⟨v0, v1⟩, -⟩ := id sB3
    have FIN : Hid (∀ (w5 w9 : World) (Y : List Sm.St) (g' : Nat), w3.grownBy w5 (some (A + 1)) → RdS w5 (some ⟨g', 0, none⟩) Y → w9 = ((w5.setCell ⟨A, 0, none⟩ (.int .i64 (reps : Int))).setCell ⟨A, 1, none⟩ (.slice (some ⟨gI, 0, none⟩) Q.length ca)) →
        w9.cell? ⟨A, 0, none⟩ = some (.int .i64 (reps : Int)) ∧ w9.cell? ⟨A, 1, none⟩ = some (.slice (some ⟨gI, 0, none⟩) Q.length ca) ∧ RdS w9 (some ⟨g', 0, none⟩) Y ∧ RdU w.heap.size w9 (some ⟨gI, 0, none⟩) Q ∧ Below w.heap.size w w9) := by
      rintro w5 w9 Y g' hg5 hY rfl
      obtain ⟨⟨y0, y1⟩, -⟩ := Slot2.grown sA3 hg5 (fun e => by simp only [Option.some.injEq] at e; omega)
      have gA : w5.grownBy ((w5.setCell ⟨A, 0, none⟩ (.int .i64 (reps : Int))).setCell ⟨A, 1, none⟩ (.slice (some ⟨gI, 0, none⟩) Q.length ca)) (some A) := grownTrans (grownSet w5 A 0 _) (grownSet _ A 1 _)
      refine ⟨?_, World.cell?_setCell_same' _ _ _ (by rw [World.cell?_setCell_other _ _ _ _ (by simp), y1]; rfl), rdsA hY y1 gA, (((hP3.grown hg5 (by omega)).far (by omega)).far (by omega)).mono (by omega), ?_⟩
      · rw [World.cell?_setCell_other _ _ _ _ (by simp)]
        exact World.cell?_setCell_same' _ _ _ (by rw [y0]; rfl)
      · exact ((belowOf hB3 hg5 (by omega)).setCell (by show w.heap.size ≤ A; omega) _).setCell (by show w.heap.size ≤ A; omega) _
    have cO := l6Other (A + 1) g cp l X w3.drew hc3 hX3 hX6 hfew
    have hcl := hc3.lt
    go_wp2_with fail
    go_region_held3 (fun wy => wy.cell? ⟨B, 0, none⟩ = some (.int .i64 (reps : Int)) ∧ wy.cell? ⟨B, 1, none⟩ = some (.slice (some ⟨gI, 0, none⟩) Q.length ca))
      (first | with_reducible exact ⟨v0, v1⟩ | with_reducible exact ⟨v03, v13⟩ | with_reducible exact keepFr2 v03 v13 hAB | go_keep)
      (first | (go_at_call 57; refine cO.mono ?_; rintro e w5 ⟨Y, g', cp', rfl, hY7, hYr, hc5, hg5⟩; have hg5' : w3.grownBy w5 (some (A + 1)) := ⟨hg5.os, hg5.tape, hg5.output, hg5.size, hg5.block⟩; obtain ⟨⟨v03, v13⟩, -⟩ := Slot2.grown sB3 hg5' (fun e => by simp only [Option.some.injEq] at e; omega); obtain ⟨⟨y0, y1⟩, y2, y3⟩ := Slot2.grown sA3 hg5' (fun e => by simp only [Option.some.injEq] at e; omega)) | fail)
    obtain ⟨e0, e1, e2, e3, e4⟩ := FIN.out w5 _ Y g' hg5' hYr rfl
    go_wp2
    exact bodyPost_ret (v := .tuple #[.agg #[.int .i64 (reps : Int), .slice (some ⟨gI, 0, none⟩) Q.length ca], .slice (some ⟨g', 0, none⟩) Y.length cp']) (by simp [results, Try.results25, go_sem, e0, e1]) rfl ⟨Y, g', cp', (reps : Int), Q, gI, ca, rfl, hY7, hR, hQ16, hQ4, e2, e3, e4⟩
  | true =>
    go_wp2_with fail
    refine (l5AnyS (A + 1) l w3 hc3).mono ?_
    rintro e w4 ⟨X, g4, cp4, R, Q, gJ, cj, rfl, hX6, hfew, hR, hQ16, hQ4, hgg4, hX4, hP4, hc4, hg4⟩
    have sA4 := Slot2.grown sA3 hg4 (fun e => by simp only [Option.some.injEq] at e; omega)
    have sB4 := Slot2.grown sB3 hg4 (fun e => by simp only [Option.some.injEq] at e; omega)
    have hB4 := belowOf hB3 hg4 (by omega)
    have hBl := sB3.lt
    clear sA3 sB3 hX3 hP3 hB3 hc3 hg4
    obtain ⟨⟨z0, z1⟩, z2, z3⟩ := id sB4
    have gB : w4.grownBy ((w4.setCell ⟨B, 0, none⟩ (.int .i64 R)).setCell ⟨B, 1, none⟩ (.slice (some ⟨gJ, 0, none⟩) Q.length cj)) (some B) := grownTrans (grownSet w4 B 0 _) (grownSet _ B 1 _)
    have sA5 := Slot2.grown sA4 gB (fun e => by simp only [Option.some.injEq] at e; omega)
    have sB5 : Slot2 ((w4.setCell ⟨B, 0, none⟩ (.int .i64 R)).setCell ⟨B, 1, none⟩ (.slice (some ⟨gJ, 0, none⟩) Q.length cj)) B (.int .i64 R) (.slice (some ⟨gJ, 0, none⟩) Q.length cj) := by
      refine ⟨⟨?_, World.cell?_setCell_same' _ _ _ (by rw [World.cell?_setCell_other _ _ _ _ (by simp), z1]; rfl)⟩, by rw [World.frozen?_setCell, World.frozen?_setCell]; exact z2, by rw [World.frozen?_setCell, World.frozen?_setCell]; exact z3⟩
      rw [World.cell?_setCell_other _ _ _ _ (by simp)]
      exact World.cell?_setCell_same' _ _ _ (by rw [z0]; rfl)
    have hX5 := rdsG7 hX4 gB (by omega)
    have hP5 := (hP4.far (b' := B) (o := 0) (u := .int .i64 R) (by omega)).far (b' := B) (o := 1) (u := .slice (some ⟨gJ, 0, none⟩) Q.length cj) (by omega)
    have hc6 := hc4.keep gB (fun j e => by cases e; omega)
    have hB5 : Below w.heap.size w ((w4.setCell ⟨B, 0, none⟩ (.int .i64 R)).setCell ⟨B, 1, none⟩ (.slice (some ⟨gJ, 0, none⟩) Q.length cj)) := (hB4.setCell (by show w.heap.size ≤ B; omega) _).setCell (by show w.heap.size ≤ B; omega) _
    clear sA4 sB4 hX4 hP4 hB4 hc4 gB
    go_upto_region 5 with fail
    generalize (w4.setCell ⟨B, 0, none⟩ (.int .i64 R)).setCell ⟨B, 1, none⟩ (.slice (some ⟨gJ, 0, none⟩) Q.length cj) = wQ at sA5 sB5 hX5 hP5 hc6 hB5 ⊢
    clear z0 z1 z2 z3
    obtain ⟨⟨t0, t1⟩, t2, t3⟩ := id sA5
    obtain ⟨⟨v0, v1⟩, -⟩ := id sB5
    have FIN : Hid (∀ (w5 w9 : World) (Y : List Sm.St) (g' : Nat), wQ.grownBy w5 (some (A + 1)) → RdS w5 (some ⟨g', 0, none⟩) Y → w9 = ((w5.setCell ⟨A, 0, none⟩ (.int .i64 R)).setCell ⟨A, 1, none⟩ (.slice (some ⟨gJ, 0, none⟩) Q.length cj)) →
        w9.cell? ⟨A, 0, none⟩ = some (.int .i64 R) ∧ w9.cell? ⟨A, 1, none⟩ = some (.slice (some ⟨gJ, 0, none⟩) Q.length cj) ∧ RdS w9 (some ⟨g', 0, none⟩) Y ∧ RdU w.heap.size w9 (some ⟨gJ, 0, none⟩) Q ∧ Below w.heap.size w w9) := by
      rintro w5 w9 Y g' hg5 hY rfl
      obtain ⟨⟨y0, y1⟩, -⟩ := Slot2.grown sA5 hg5 (fun e => by simp only [Option.some.injEq] at e; omega)
      have gA : w5.grownBy ((w5.setCell ⟨A, 0, none⟩ (.int .i64 R)).setCell ⟨A, 1, none⟩ (.slice (some ⟨gJ, 0, none⟩) Q.length cj)) (some A) := grownTrans (grownSet w5 A 0 _) (grownSet _ A 1 _)
      refine ⟨?_, World.cell?_setCell_same' _ _ _ (by rw [World.cell?_setCell_other _ _ _ _ (by simp), y1]; rfl), rdsA hY y1 gA, (((hP5.grown hg5 (by omega)).far (by omega)).far (by omega)).mono (by omega), ?_⟩
      · rw [World.cell?_setCell_other _ _ _ _ (by simp)]
        exact World.cell?_setCell_same' _ _ _ (by rw [y0]; rfl)
      · exact ((belowOf hB5 hg5 (by omega)).setCell (by show w.heap.size ≤ A; omega) _).setCell (by show w.heap.size ≤ A; omega) _
    have cO := l6Other (A + 1) g4 cp4 l X wQ.drew hc6 hX5 hX6 hfew
    have hcl := hc6.lt
    go_wp2_with fail
    go_region_held3 (fun wy => wy.cell? ⟨B, 0, none⟩ = some (.int .i64 R) ∧ wy.cell? ⟨B, 1, none⟩ = some (.slice (some ⟨gJ, 0, none⟩) Q.length cj))
      (first | with_reducible exact ⟨v0, v1⟩ | with_reducible exact ⟨v03, v13⟩ | with_reducible exact keepFr2 v03 v13 hAB | go_keep)
      (first | (go_at_call 57; refine cO.mono ?_; rintro e w5 ⟨Y, g', cp', rfl, hY7, hYr, hc5, hg5⟩; have hg5' : wQ.grownBy w5 (some (A + 1)) := ⟨hg5.os, hg5.tape, hg5.output, hg5.size, hg5.block⟩; obtain ⟨⟨v03, v13⟩, -⟩ := Slot2.grown sB5 hg5' (fun e => by simp only [Option.some.injEq] at e; omega); obtain ⟨⟨y0, y1⟩, y2, y3⟩ := Slot2.grown sA5 hg5' (fun e => by simp only [Option.some.injEq] at e; omega)) | fail)
    obtain ⟨e0, e1, e2, e3, e4⟩ := FIN.out w5 _ Y g' hg5' hYr rfl
    go_wp2
    exact bodyPost_ret (v := .tuple #[.agg #[.int .i64 R, .slice (some ⟨gJ, 0, none⟩) Q.length cj], .slice (some ⟨g', 0, none⟩) Y.length cp']) (by simp [results, Try.results25, go_sem, e0, e1]) rfl ⟨Y, g', cp', R, Q, gJ, cj, rfl, hY7, hR, hQ16, hQ4, e2, e3, e4⟩
end Go.Proofs.Ytcejeiakgmamdac.Wk
