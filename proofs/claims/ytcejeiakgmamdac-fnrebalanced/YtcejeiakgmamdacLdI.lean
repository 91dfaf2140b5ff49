/- What LoadOf of the program comes to. -/
import Derived.Test.YtcejeiakgmamdacRgB
import Derived.Test.YtcejeiakgmamdacRgM
import Derived.Test.YtcejeiakgmamdacRgZ
namespace Go.Proofs.Ytcejeiakgmamdac.Wk
set_option linter.unusedVariables false
open Go.ChangeShapes Go.WideShapes Go.ChangeAt Go.RowKit

set_option maxHeartbeats 2000000 in
set_option maxRecDepth 100000 in
theorem implLoad (reps : Int) (a : Option Addr) (cap : Nat) (ps : List (List Int)) (id : Int) (w : World) (hl : ps.length ≤ 1048576) (ht : tot ps ≤ 1048576) (hr : RdP w a ps) :
    Calls Try.prog 18 #[.agg #[.int .i64 reps, .slice a ps.length cap], .int .i64 id] w fun e w' => e = .returned (.int .i64 (Rg.load ps id : Int)) ∧ Below w.heap.size w w' := by
  have hp : ∀ p ∈ ps, p.length ≤ 1048576 := fun p h => Nat.le_trans (tot_mem h) ht
  have s0 := slot2New w (.int .i64 reps) (.slice a ps.length cap) 29
  have hB0 := bel1 w (.cells #[.int .i64 reps, .slice a ps.length cap] 29)
  have hr0 := hr.below hB0
  have HL : Hid (∀ k, Rg.load (ps.take k) id ≤ 1048576) := fun k => Nat.le_trans (Rg.load_le _ _) (Nat.le_trans (tot_take_le ps k) ht)
  go_enter Try.func18, Try.ntmps18
  go_wp2
  generalize w.alloc (.cells #[.int .i64 reps, .slice a ps.length cap] 29) = w0 at s0 hB0 hr0 ⊢
  go_loopw [5, 13] (fun n i wr => ∃ k : Nat, k ≤ ps.length ∧ i = .int .i64 k ∧ n = .int .i64 (Rg.load (ps.take k) id : Int) ∧ Below w0.heap.size w0 wr) (fun _ i _ => ps.length - (intOf i).toNat)
  case atStart => exact ⟨0, Nat.zero_le _, rfl, rfl, Below.refl _ _⟩
  case round =>
    obtain ⟨k, hk, rfl, rfl, hb⟩ := hrel
    by_cases hlt : k < ps.length
    · have HS : Hid (Rg.load (ps.take (k + 1)) id = Rg.load (ps.take k) id + ps[k].count id) := Rg.load_step hlt id
      have hA := HL.out k
      have hA1 := HL.out (k + 1)
      have hpl := hp ps[k] (List.getElem_mem hlt)
      obtain ⟨b, off, ai, ci, rfl, hc, hz, -⟩ := (hr0.below hb) k hlt
      have HC : Hid (∀ m, (ps[k].take m).count id ≤ 1048576) := fun m => Nat.le_trans List.count_le_length (by rw [List.length_take]; omega)
      have hb1 := behind hb (bel1 wr (.cells #[.slice ai ps[k].length ci] 36))
      have hz1 := hz.below (bel1 wr (.cells #[.slice ai ps[k].length ci] 36))
      generalize Rg.load (ps.take k) id = A at HS hA
      go_wp2
      generalize wr.alloc (.cells #[.slice ai ps[k].length ci] 36) = w1 at hb1 hz1 ⊢
      go_loopw [5, 20] (fun n j wq => ∃ m : Nat, m ≤ ps[k].length ∧ j = .int .i64 m ∧ n = .int .i64 ((A + (ps[k].take m).count id : Nat) : Int) ∧ Below w1.heap.size w1 wq) (fun _ j _ => ps[k].length - (intOf j).toNat)
      case atStart => exact ⟨0, Nat.zero_le _, rfl, by simp, Below.refl _ _⟩
      case round =>
        obtain ⟨m, hm, rfl, rfl, hbq⟩ := hrel
        have hcm := HC.out m
        by_cases hml : m < ps[k].length
        · have HT : Hid ((ps[k].take (m + 1)).count id = (ps[k].take m).count id + if ps[k][m] = id then 1 else 0) := Rg.count_step hml id
          obtain ⟨b', off', rfl, hx⟩ := (hz1.below hbq) m hml
          generalize ps[k][m] = x at HT hx
          generalize (ps[k].take m).count id = Cn at HT hcm
          by_cases he : x = id
          · have e9 : A + (ps[k].take (m + 1)).count id = A + Cn + 1 := by have := HT.out; rw [if_pos he] at this; omega
            subst he
            clear HT
            go_wp2
            go_roundw
            case rel => exact ⟨m + 1, by omega, by go_num, by rw [e9]; go_num, hbq⟩
            case measure => simp [intOf]; omega
          · have e9 : A + (ps[k].take (m + 1)).count id = A + Cn := by have := HT.out; rw [if_neg he] at this; omega
            clear HT
            go_wp2
            go_roundw
            case rel => exact ⟨m + 1, by omega, by go_num, by rw [e9], hbq⟩
            case measure => simp [intOf]; omega
        · have e9 : A + (ps[k].take m).count id = Rg.load (ps.take (k + 1)) id := by rw [HS.out, List.take_of_length_le (by omega)]
          go_wp2
          go_roundw
          case rel => exact ⟨k + 1, by omega, by go_num, by rw [e9], behind hb1 hbq⟩
          case measure => simp [intOf]; omega
    · have e9 : Rg.load (ps.take k) id = Rg.load ps id := by rw [List.take_of_length_le (by omega)]
      go_wp2
      go_ret
      exact ⟨by rw [e9]; rfl, behind hB0 hb⟩
end Go.Proofs.Ytcejeiakgmamdac.Wk
