/- What DrawNextStamp and DrawLatestStamp come to: stamps and numbers in their ranges, in new memory. -/
import Derived.Test.YtekjnfkmjmmcmabStR
import Derived.Test.YtekjnfkmjmmcmabDrSt
namespace Go.Proofs.Ytekjnfkmjmmcmab.Wk
set_option linter.unusedVariables false
open Go.ChangeShapes Go.WideShapes Go.ChangeAt Go.RowKit

set_option maxHeartbeats 1000000 in
set_option maxRecDepth 100000 in
theorem drawNext (a : Option Addr) (cap : Nat) (l : List UInt8) (w : World) (hl : l.length ≤ 1048576) (hr : RdA w a l) :
    Calls Try.prog 6 #[.slice a l.length cap] w fun e w' => ∃ t q n time node : Int, e = .returned (.tuple #[.agg #[.int .i64 t, .int .i64 q, .int .i64 n], .int .i64 time, .int .i64 node]) ∧ (-1 ≤ t ∧ t ≤ 1000000001) ∧ (-1 ≤ q ∧ q ≤ 1000001) ∧ (-1 ≤ n ∧ n ≤ 21) ∧ Below w.heap.size w w' := by
  have r0 := slotNew w 0 0 0 25
  have hb0 := bel1 w (.cells #[.int .i64 0, .int .i64 0, .int .i64 0] 25)
  go_enter Try.func6, Try.ntmps6
  go_wp2_with fail
  refine (l1New a cap l _ hl (hr.below hb0)).mono ?_
  rintro e w1 ⟨rfl, hc1, hb1⟩
  simp only [World.size_alloc] at hc1
  have r1 := r0.below hb1
  have hB1 := behind hb0 hb1
  go_wp2_with fail
  refine (l2Any (w.heap.size + 1) l _ hc1).mono ?_
  rintro e w2 ⟨t, q, n, rfl, ht, hq, hn, hc2, hg2⟩
  have r2 := r1.grown hg2 (by omega)
  have hB2 := belowOf hB1 hg2 (by omega)
  have hI := rdiNew (w := w2) (t := 3) (ns := [0, 1, 2, 5, 1000000001, -1]) (cs := #[.int .i64 0, .int .i64 1, .int .i64 2, .int .i64 5, .int .i64 1000000001, .int .i64 (-1)]) rfl
  have hb2 := bel1 w2 (.cells #[.int .i64 0, .int .i64 1, .int .i64 2, .int .i64 5, .int .i64 1000000001, .int .i64 (-1)] 3)
  have hz2 := hc2.lt
  go_wp2_with fail
  refine (l1Int (w.heap.size + 1) w2.heap.size 0 _ 6 l [0, 1, 2, 5, 1000000001, -1] _ rfl (hc2.below hb2) (by simp) (by simp) hI (by omega)).mono ?_
  rintro e w3 ⟨j, hj, rfl, hc3, hg3⟩
  generalize ([0, 1, 2, 5, 1000000001, -1] : List Int)[j] = time
  clear hI hj
  have r3 := (r2.below hb2).grown hg3 (by omega)
  have hB3 := belowOf (behind hB2 hb2) hg3 (by omega)
  have hI := rdiNew (w := w3) (t := 3) (ns := [0, 1, 20, 21, -1]) (cs := #[.int .i64 0, .int .i64 1, .int .i64 20, .int .i64 21, .int .i64 (-1)]) rfl
  have hb3 := bel1 w3 (.cells #[.int .i64 0, .int .i64 1, .int .i64 20, .int .i64 21, .int .i64 (-1)] 3)
  have hz3 := hc3.lt
  go_wp2_with fail
  refine (l1Int (w.heap.size + 1) w3.heap.size 0 _ 5 l [0, 1, 20, 21, -1] _ rfl (hc3.below hb3) (by simp) (by simp) hI (by omega)).mono ?_
  rintro e w4 ⟨j, hj, rfl, hc4, hg4⟩
  generalize ([0, 1, 20, 21, -1] : List Int)[j] = node
  clear hI hj
  have r4 := (r3.below hb3).grown hg4 (by omega)
  have hB4 := belowOf (behind hB3 hb3) hg4 (by omega)
  obtain ⟨⟨q0, q1, q2⟩, -⟩ := r4.set t q n
  obtain ⟨⟨d0, d1, d2⟩, g0, g1, g2⟩ := r4
  go_wp2
  exact bodyPost_ret (v := .tuple #[.agg #[.int .i64 t, .int .i64 q, .int .i64 n], .int .i64 time, .int .i64 node]) (by simp [results, Try.results6, go_sem, q0, q1, q2]) rfl ⟨_, _, _, _, _, rfl, ht, hq, hn, set3 hB4 (Nat.le_refl _)⟩

set_option maxHeartbeats 1000000 in
set_option maxRecDepth 100000 in
theorem drawLatest (a : Option Addr) (cap : Nat) (l : List UInt8) (w : World) (hl : l.length ≤ 1048576) (hr : RdA w a l) :
    Calls Try.prog 11 #[.slice a l.length cap] w fun e w' => ∃ (b : Option Addr) (cp : Nat) (ss : List Sm.St), e = .returned (.slice b ss.length cp) ∧ RdS w' b ss ∧ ss.length ≤ 4 ∧ Below w.heap.size w w' := by
  obtain ⟨i0, hi, hz0, hz1, hz2⟩ := info_parts infoSt
  go_enter Try.func11, Try.ntmps11
  go_wp2_with fail
  refine (l1New a cap l _ hl hr).mono ?_
  rintro e w1 ⟨rfl, hc1, hb1⟩
  have hC1 := hc1.lt
  have hown1 : (w1.alloc (.cells #[] 25)).ownsRow w1.heap.size 25 3 (.slice (some ⟨w1.heap.size, 0, none⟩) 0 0) 0 [] := World.ownsRow_made w1 #[] 0 (Nat.le_refl _) (Nat.zero_le _) rfl
  go_wp2_with fail
  refine (l1Below w.heap.size l 5 _ (hc1.below (bel1 _ _)) (by omega)).mono ?_
  rintro e w2 ⟨x, rfl, hx0, hx1, -, hc2, hg2⟩
  have hx2 := hx1 (by omega)
  clear hx1
  obtain ⟨k0, rfl⟩ := Int.eq_ofNat_of_zero_le hx0
  have hown2 := World.ownsRow.kept hown1 hg2 (.inr (by simp [Value.ownBlock]; omega))
  have hB2 := belowOf (behind hb1 (bel1 _ _)) hg2 (Nat.le_refl _)
  have hz2' := hg2.size
  simp only [World.size_alloc] at hz2'
  go_wp2
  go_loopw [4, 5] (fun v i wr => ∃ (k : Nat) (ss : List Sm.St), i = .int .i64 k ∧ ss.length + k ≤ 4 ∧ wr.ownsRow w1.heap.size 25 3 v ss.length (Ss ss) ∧ Cur wr w.heap.size l ∧ Below w.heap.size w wr ∧ w1.heap.size ≤ wr.heap.size) (fun _ i _ => (intOf i).toNat)
  case atStart => exact ⟨k0, [], rfl, by simp; omega, hown2, hc2, hB2, by omega⟩
  case round =>
    obtain ⟨k, ss, rfl, hk, hown, hcr, hbr, hszr⟩ := hrel
    clear hown1 hown2
    by_cases hlt : 0 < k
    · go_wp2_with (first | (go_at_call 28; refine (l2Draw w.heap.size l _ hcr).mono ?_; rintro e w3 ⟨t, q, n, rfl, ht, hq, hn, hc3, hg3⟩; have hs3 := hg3.size; have hown3 := World.ownsRow.kept hown hg3 (.inr (fun e => by have := (World.ownsRow.lt hown w.heap.size e).1; omega))) | (at_builtin; refine wpList_append_own _ rfl (.tmp 15) (.tmp 18) 31 rfl w1.heap.size 25 i0 _ 3 24 Try.underlying31 hi hz0 hz1 hz2 rfl (by decide) _ _ _ rfl (World.ownsRow.alloc hown3 _) ⟨_, 0, none⟩ 1 1 [.int .i64 t, .int .i64 q, .int .i64 n] rfl rfl three_at three_one (by unfold maxLen; omega) (by omega) (by simp; omega) ?_; intro v4 w4 hown4 hgrow4 hnil4))
      have hg4 : w3.grownBy w4 u4.ownBlock := grownTrans (World.grownBy_alloc w3 _ u4.ownBlock) hgrow4
      have hlo : ∀ j, u4.ownBlock = some j → w1.heap.size ≤ j := fun j e => (World.ownsRow.lt hown j e).1
      have hc4 : Cur w4 w.heap.size l := hc3.keep hg4 (fun j e => by have := hlo j e; omega)
      have hb4 : Below w.heap.size w w4 := (belowOf hbr hg3 (Nat.le_refl _)).grown hg4 (by omega) (fun j e => by have := hlo j e; omega)
      have ho4 : w4.ownsRow w1.heap.size 25 3 v4 (ss ++ [(t, q, n)]).length (Ss (ss ++ [(t, q, n)])) := by
        rw [Ss_snoc, List.length_append]; exact hown4
      have hs4 := hg4.size
      clear hown4 hgrow4 hnil4
      obtain ⟨k', rfl⟩ : ∃ k', k = k' + 1 := ⟨k - 1, by omega⟩
      go_roundw
      case rel => exact ⟨k', ss ++ [(t, q, n)], by go_num, by simp; omega, ho4, hc4, hb4, by omega⟩
      case measure => simp [intOf]
    · obtain ⟨b, cp, rfl, hrd⟩ := Ss_rd hown
      go_wp2
      go_ret
      exact ⟨b, cp, ss, rfl, hrd, by omega, hbr⟩
end Go.Proofs.Ytekjnfkmjmmcmab.Wk
