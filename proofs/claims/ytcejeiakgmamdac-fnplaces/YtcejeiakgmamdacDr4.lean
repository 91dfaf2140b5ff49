/- What l4Draw of the specification comes to: some devices, at most six, in new memory. -/
import Derived.Test.YtcejeiakgmamdacDrawB
import Derived.Test.YtcejeiakgmamdacStR
import Derived.Laws.OwnMore
namespace Go.Proofs.Ytcejeiakgmamdac.Wk
set_option linter.unusedVariables false
open Go.ChangeShapes Go.WideShapes Go.ChangeAt Go.RowKit

/-- no number of this device is great -/
def Few (d : Sm.St) : Prop := (-1000 ≤ d.1 ∧ d.1 ≤ 2000) ∧ (-1000 ≤ d.2.1 ∧ d.2.1 ≤ 2000) ∧ (-1000 ≤ d.2.2 ∧ d.2.2 ≤ 2000)
theorem inF (ns : List Int) (lo hi : Int) (h : ∀ x ∈ ns, lo ≤ x ∧ x ≤ hi) (j : Nat) (hj : j < ns.length) : lo ≤ ns[j] ∧ ns[j] ≤ hi := h _ (List.getElem_mem hj)
theorem form4 {w : World} {base n : Nat} {e : TypeId} {v : Value} {xs : List Value} (h : w.ownsRow base e 3 v n xs) (h0 : 0 < n) : ∃ g cap, v = .slice (some ⟨g, 0, none⟩) n cap ∧ base ≤ g := by
  rcases h.2 with ⟨rfl, h0⟩ | ⟨g, cap, cur, rfl, hb, _⟩
  · omega
  · exact ⟨g, cap, rfl, hb⟩
theorem keptC {w w' : World} {base e n C : Nat} {v : Value} {xs : List Value} (h : w.ownsRow base e 3 v n xs) (hg : w.grownBy w' (some C)) (hC : C < base) : w'.ownsRow base e 3 v n xs :=
  World.ownsRow.kept h hg (.inr (fun e => by have := (World.ownsRow.lt h C e).1; omega))

set_option maxHeartbeats 4000000 in
set_option maxRecDepth 100000 in
theorem l4Draw (C : Nat) (l : List UInt8) (w : World) (hc : Cur w C l) :
    Calls Try.prog 47 #[.pointer (some ⟨C, 0, none⟩)] w fun e w' => ∃ (X : List Sm.St) (g cp : Nat), e = .returned (.slice (some ⟨g, 0, none⟩) X.length cp) ∧ 2 ≤ X.length ∧ X.length ≤ 6 ∧ (∀ d ∈ X, Few d) ∧ w.heap.size ≤ g ∧
      w'.ownsRow w.heap.size 42 3 (.slice (some ⟨g, 0, none⟩) X.length cp) X.length (Ss X) ∧ Cur w' C l ∧ w.grownBy w' (some C) := by
  have hC := hc.lt
  obtain ⟨i0, hi, hz0, hz1, hz2⟩ := info_parts infoDv
  have hown0 : (w.alloc (.cells #[] 42)).ownsRow w.heap.size 42 3 (.slice (some ⟨w.heap.size, 0, none⟩) 0 0) 0 [] := World.ownsRow_made w #[] 0 (Nat.le_refl _) (Nat.zero_le _) rfl
  have hg0 : w.grownBy (w.alloc (.cells #[] 42)) (some C) := World.grownBy_alloc _ _ _
  go_enter Try.func47, Try.ntmps47
  go_wp2_with fail
  refine (l1Below C l 4 _ (hc.below (bel1 _ _)) (by omega)).mono ?_
  rintro e w1 ⟨zz, rfl, hzz0, hzz1, -, hc1, hg1⟩
  have hown1 := keptC hown0 hg1 hC
  go_wp2_with fail
  refine (l1Below C l 5 _ hc1 (by omega)).mono ?_
  rintro e w2 ⟨kk, rfl, hk0, hk1, -, hc2, hg2⟩
  have hown2 := keptC hown1 hg2 hC
  have hgA := grownTrans (grownTrans hg0 hg1) hg2
  have hzz4 := hzz1 (by omega)
  have hk5 := hk1 (by omega)
  clear hown0 hown1 hzz1 hk1 hg0 hg1 hg2 hc1
  go_wp2
  go_loopw [3, 5, 6] (fun v i q wr => ∃ (k : Nat) (t : Int) (X : List Sm.St), i = .int .i64 t ∧ q = .int .i64 (k : Int) ∧ 2 ≤ X.length + k ∧ X.length + k ≤ 6 ∧ 0 ≤ t ∧ t ≤ 2 * (X.length : Int) ∧ (∀ d ∈ X, Few d) ∧ wr.ownsRow w.heap.size 42 3 v X.length (Ss X) ∧ Cur wr C l ∧ w.grownBy wr (some C)) (fun _ _ q _ => (intOf q).toNat)
  case atStart => exact ⟨(2 + kk).toNat, 0, [], rfl, by rw [Int.toNat_of_nonneg (by omega)], by simp; omega, by simp; omega, by omega, by simp, fun d h => by simp at h, hown2, hc2, hgA⟩
  case round =>
    obtain ⟨k, t, X, rfl, rfl, hXk, hXk6, ht0, ht1, hfew, hown, hcr, hgr⟩ := hrel
    clear hown2 hc2 hgA
    by_cases hlt : 0 < k
    · obtain ⟨k, rfl⟩ : ∃ j, k = j + 1 := ⟨k - 1, by omega⟩
      have hsr := hgr.size
      have hI1 := rdiNew (w := wr) (t := 3) (ns := [1, 1, 2]) (cs := #[.int .i64 1, .int .i64 1, .int .i64 2]) rfl
      have hb1 := bel1 wr (.cells #[.int .i64 1, .int .i64 1, .int .i64 2] 3)
      go_wp2_with fail
      refine (l1Int C wr.heap.size 0 _ 3 l [1, 1, 2] _ rfl (hcr.below hb1) (by simp) (by simp) hI1 (by omega)).mono ?_
      rintro e w3 ⟨j, hj, rfl, hc3, hg3⟩
      have hy := inF [1, 1, 2] 1 2 (by decide) j hj
      generalize ([1, 1, 2] : List Int)[j] = y at hy
      have hown3 := keptC (World.ownsRow.alloc hown _) hg3 hC
      have hgB := grownTrans (grownTrans hgr (World.grownBy_alloc wr _ _)) hg3
      clear hI1 hj hb1 hg3
      go_wp2_with fail
      refine (l1Below C l (1 + zz) _ hc3 (by omega)).mono ?_
      rintro e w4 ⟨z, rfl, hzA, hzB, -, hc4, hg4⟩
      have hz5 := hzB (by omega)
      have hown4 := keptC hown3 hg4 hC
      have hgD := grownTrans hgB hg4
      have hs4 := hgD.size
      clear hzB hown3 hgB hg4 hc3
      have hI5 := rdiNew (w := w4) (t := 3) (ns := [1, 1, 1, 2, 10, 100]) (cs := #[.int .i64 1, .int .i64 1, .int .i64 1, .int .i64 2, .int .i64 10, .int .i64 100]) rfl
      have hb5 := bel1 w4 (.cells #[.int .i64 1, .int .i64 1, .int .i64 1, .int .i64 2, .int .i64 10, .int .i64 100] 3)
      go_wp2_with fail
      refine (l1Int C w4.heap.size 0 _ 6 l [1, 1, 1, 2, 10, 100] _ rfl (hc4.below hb5) (by simp) (by simp) hI5 (by omega)).mono ?_
      rintro e w5 ⟨j, hj, rfl, hc5, hg5⟩
      have hn := inF [1, 1, 1, 2, 10, 100] 1 100 (by decide) j hj
      generalize ([1, 1, 1, 2, 10, 100] : List Int)[j] = n at hn
      have hown5 := keptC (World.ownsRow.alloc hown4 _) hg5 hC
      have hgE := grownTrans (grownTrans hgD (World.grownBy_alloc w4 _ _)) hg5
      have hs5 := hgE.size
      clear hI5 hj hb5 hg5 hgD hown4 hc4
      go_wp2_with (at_builtin; refine wpList_append_own _ rfl (.tmp 23) (.tmp 32) 24 rfl w.heap.size 42 i0 _ 3 24 Try.underlying24 hi hz0 hz1 hz2 rfl (by decide) _ _ _ rfl (World.ownsRow.alloc hown5 _) ⟨_, 0, none⟩ 1 1 [.int .i64 (t + y), .int .i64 z, .int .i64 n] rfl rfl three_at three_one (by unfold maxLen; omega) (by omega) (by simp; omega) ?_; intro v6 w6 hown6 hgrow6 hnil6)
      have hlo : ∀ j, u3.ownBlock = some j → w.heap.size ≤ j := fun j e => (World.ownsRow.lt hown j e).1
      have hg6 : w5.grownBy w6 u3.ownBlock := grownTrans (World.grownBy_alloc w5 _ u3.ownBlock) hgrow6
      have hc6 : Cur w6 C l := hc5.keep hg6 (fun j e => by have := hlo j e; omega)
      have hgF : w.grownBy w6 (some C) := grownVia hgE hg6 hlo
      have ho6 : w6.ownsRow w.heap.size 42 3 v6 (X ++ [(t + y, z, n)]).length (Ss (X ++ [(t + y, z, n)])) := by
        rw [Ss_snoc, List.length_append]; exact hown6
      have hfew6 : ∀ d ∈ X ++ [(t + y, z, n)], Few d := by
        intro d hd
        rcases List.mem_append.1 hd with hd | hd
        · exact hfew d hd
        · rw [List.mem_singleton] at hd
          subst hd
          exact ⟨⟨by show -1000 ≤ t + y; omega, by show t + y ≤ 2000; omega⟩, ⟨by show -1000 ≤ z; omega, by show z ≤ 2000; omega⟩, ⟨by show -1000 ≤ n; omega, by show n ≤ 2000; omega⟩⟩
      clear hown6 hgrow6 hnil6 hown5 hown hg6
      go_wp2
      go_roundw
      case rel => exact ⟨k, t + y, X ++ [(t + y, z, n)], by go_num, by go_num, by simp; omega, by simp; omega, by omega, by simp; omega, hfew6, ho6, hc6, hgF⟩
      case measure => simp [intOf]
    · obtain ⟨g, cp, hv, hgg⟩ := form4 hown (by omega)
      subst hv
      have hX2 : 2 ≤ X.length := by omega
      have hX6 : X.length ≤ 6 := by omega
      go_wp2
      go_ret
      exact ⟨X, g, cp, rfl, hX2, hX6, hfew, hgg, hown, hcr, hgr⟩
end Go.Proofs.Ytcejeiakgmamdac.Wk
