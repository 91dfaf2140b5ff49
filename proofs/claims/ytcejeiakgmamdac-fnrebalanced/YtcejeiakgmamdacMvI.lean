/- What Moved of the program comes to. -/
import Derived.Test.YtcejeiakgmamdacCtI
import Derived.Test.YtcejeiakgmamdacRgB
import Derived.Test.YtcejeiakgmamdacRgZ
import Derived.Test.YtcejeiakgmamdacMvM
namespace Go.Proofs.Ytcejeiakgmamdac.Wk
set_option linter.unusedVariables false
open Go.ChangeShapes Go.WideShapes Go.ChangeAt Go.RowKit

set_option maxHeartbeats 2000000 in
set_option maxRecDepth 100000 in
theorem implMoved (ra rb : Int) (a b : Option Addr) (ca cb : Nat) (A B : List (List Int)) (w : World) (hA : A.length ≤ 1048576) (hB : B.length ≤ 1048576) (htA : tot A ≤ 1048576) (htB : tot B ≤ 1048576) (hrA : RdP w a A) (hrB : RdP w b B) :
    Calls Try.prog 28 #[.agg #[.int .i64 ra, .slice a A.length ca], .agg #[.int .i64 rb, .slice b B.length cb]] w fun e w' => e = .returned (.int .i64 (Rg.moved A B : Int)) ∧ Below w.heap.size w w' := by
  have hpA : ∀ p ∈ A, p.length ≤ 1048576 := fun p h => Nat.le_trans (tot_mem h) htA
  have hpB : ∀ p ∈ B, p.length ≤ 1048576 := fun p h => Nat.le_trans (tot_mem h) htB
  have sA := (slot2New w (.int .i64 ra) (.slice a A.length ca) 29).below (bel1 _ (.cells #[.int .i64 rb, .slice b B.length cb] 29))
  have sB := slot2New (w.alloc (.cells #[.int .i64 ra, .slice a A.length ca] 29)) (.int .i64 rb) (.slice b B.length cb) 29
  have hB0 := bel2 w (.cells #[.int .i64 ra, .slice a A.length ca] 29) (.cells #[.int .i64 rb, .slice b B.length cb] 29)
  have hA0 := hrA.below hB0
  have hR0 := hrB.below hB0
  have HL : Hid (∀ k, Rg.moved (A.take k) (B.take k) ≤ 1048576) := fun k => Nat.le_trans (Rg.moved_le _ _) (Nat.le_trans (tot_take_le A k) htA)
  rw [World.size_alloc] at sB
  have hmn : A.length ≤ B.length ∨ ¬ A.length ≤ B.length := by omega
  rcases hmn with hmn | hmn
  all_goals
    go_enter Try.func28, Try.ntmps28
    go_wp2
    generalize (w.alloc (.cells #[.int .i64 ra, .slice a A.length ca] 29)).alloc (.cells #[.int .i64 rb, .slice b B.length cb] 29) = w0 at sA sB hB0 hA0 hR0 ⊢
    go_loopw [5, 16] (fun n i wr => ∃ k : Nat, k ≤ A.length ∧ k ≤ B.length ∧ i = .int .i64 k ∧ n = .int .i64 (Rg.moved (A.take k) (B.take k) : Int) ∧ Below w0.heap.size w0 wr) (fun _ i _ => A.length - (intOf i).toNat)
    case atStart => exact ⟨0, Nat.zero_le _, Nat.zero_le _, rfl, rfl, Below.refl _ _⟩
    case round =>
      obtain ⟨k, hk, hkb, rfl, rfl, hb⟩ := hrel
      obtain ⟨⟨c0, c1⟩, -⟩ := sA.below hb
      obtain ⟨⟨d0, d1⟩, -⟩ := sB.below hb
      by_cases hboth : k < A.length ∧ k < B.length
      · obtain ⟨hlt, hlb⟩ := hboth
        have HS : Hid (Rg.moved (A.take (k + 1)) (B.take (k + 1)) = Rg.moved (A.take k) (B.take k) + Rg.mvRow A[k] B[k]) := Rg.moved_step hlt hlb
        have hM := HL.out k
        have hpa := hpA A[k] (List.getElem_mem hlt)
        have hpb := hpB B[k] (List.getElem_mem hlb)
        obtain ⟨b1, o1, a1, c1', rfl, hc, hz, -⟩ := (hA0.below hb) k hlt
        obtain ⟨b2, o2, a2, c2', rfl, hd, hy, -⟩ := (hR0.below hb) k hlb
        have HC : Hid (∀ m, Rg.mvRow (A[k].take m) B[k] ≤ 1048576) := fun m => Nat.le_trans (Rg.mvRow_take_le _ _ m) hpa
        generalize Rg.moved (A.take k) (B.take k) = M at HS hM
        go_wp2
        go_loopw [5, 26] (fun n j wq => ∃ m : Nat, m ≤ A[k].length ∧ j = .int .i64 m ∧ n = .int .i64 ((M + Rg.mvRow (A[k].take m) B[k] : Nat) : Int) ∧ Below wr.heap.size wr wq) (fun _ j _ => A[k].length - (intOf j).toNat)
        case atStart => exact ⟨0, Nat.zero_le _, rfl, by simp [Rg.mvRow], Below.refl _ _⟩
        case round =>
          obtain ⟨m, hm, rfl, rfl, hbq⟩ := hrel
          have e1 := cellOn c1 hbq
          have f1 := cellOn d1 hbq
          have ec := cellOn hc hbq
          have fc := cellOn hd hbq
          have hcm := HC.out m
          by_cases hml : m < A[k].length
          · have HT : Hid (Rg.mvRow (A[k].take (m + 1)) B[k] = Rg.mvRow (A[k].take m) B[k] + if A[k][m] ∈ B[k] then 0 else 1) := Rg.mvRow_step hml
            obtain ⟨b3, o3, rfl, hx⟩ := (hz.below hbq) m hml
            have hyq := hy.below hbq
            have cX := fun (x : Int) (w' : World) (h : RdZ w' a2 B[k]) => containsZ a2 c2' B[k] x w' hpb h
            generalize A[k][m] = x at HT hx
            have cY := cX x
            clear cX
            generalize Rg.mvRow (A[k].take m) B[k] = Cn at HT hcm
            by_cases he : x ∈ B[k]
            · have e9 : M + Rg.mvRow (A[k].take (m + 1)) B[k] = M + Cn := by have := HT.out; rw [if_pos he] at this; omega
              rw [decide_eq_true he] at cY
              clear HT he
              go_wp2_with fail
              refine (cY _ (by exact hyq)).mono ?_
              rintro e wa ⟨rfl, hwa⟩
              subst hwa
              go_wp2
              go_roundw
              case rel => exact ⟨m + 1, by omega, by go_num, by rw [e9]; go_num, hbq⟩
              case measure => simp [intOf]; omega
            · have e9 : M + Rg.mvRow (A[k].take (m + 1)) B[k] = M + Cn + 1 := by have := HT.out; rw [if_neg he] at this; omega
              rw [decide_eq_false he] at cY
              clear HT he
              go_wp2_with fail
              refine (cY _ (by exact hyq)).mono ?_
              rintro e wa ⟨rfl, hwa⟩
              subst hwa
              go_wp2
              go_roundw
              case rel => exact ⟨m + 1, by omega, by go_num, by rw [e9]; go_num, hbq⟩
              case measure => simp [intOf]; omega
          · have e9 : M + Rg.mvRow (A[k].take m) B[k] = Rg.moved (A.take (k + 1)) (B.take (k + 1)) := by rw [HS.out, List.take_of_length_le (by omega)]
            go_wp2
            go_roundw
            case rel => exact ⟨k + 1, by omega, by omega, by go_num, by rw [e9], behind hb hbq⟩
            case measure => simp [intOf]; omega
      · have e9 : Rg.moved (A.take k) (B.take k) = Rg.moved A B := Rg.moved_end (by omega)
        rw [e9]
        clear e9
        first
          | (have hna : ¬ k < A.length := by omega
             go_wp2
             go_ret
             exact ⟨rfl, behind hB0 hb⟩)
          | (have hna : ¬ k < B.length := by omega
             go_wp2
             go_ret
             exact ⟨rfl, behind hB0 hb⟩)
end Go.Proofs.Ytcejeiakgmamdac.Wk
