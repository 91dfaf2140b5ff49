/- What is drawn with the cursor: bytes of the call's own. -/
import Derived.Test.YtpejeoekpejbladDrawB
namespace Go.Proofs.Ytpejeoekpejblad.Wk
set_option linter.unusedVariables false
open Go.ChangeShapes Go.WideShapes Go.ChangeAt Go.RowKit

/-- v is a slice of the bytes l, in a row of the call's own, and not nil -/
def OwnS (w : World) (base : Nat) (v : Value) (l : List UInt8) : Prop := OwnB w base v l ∧ v ≠ .slice none 0 0
theorem OwnS.shape {w : World} {base : Nat} {v : Value} {l : List UInt8} (h : OwnS w base v l) : ∃ g cap, v = .slice (some ⟨g, 0, none⟩) l.length cap ∧ base ≤ g ∧ g < w.heap.size ∧ l.length ≤ cap ∧ cap ≤ maxLen := by
  rcases h.1.2 with ⟨h0, _⟩ | ⟨g, cap, cur, e1, hg, hh, hnc, hcm, _⟩
  · exact absurd h0 h.2
  · exact ⟨g, cap, e1, hg, (Array.getElem?_eq_some_iff.1 hh).1, hnc, hcm⟩

set_option maxHeartbeats 1000000 in
set_option maxRecDepth 100000 in
theorem l1Bytes (C n : Nat) (l : List UInt8) (w : World) (hc : Cur w C l) (hn : n ≤ 100000) :
    Calls Try.prog 53 #[.pointer (some ⟨C, 0, none⟩), .int .i64 (n : Int)] w fun e w' => ∃ (v : Value) (r : List UInt8), e = .returned v ∧ r.length = n ∧ OwnS w' w.heap.size v r ∧ Cur w' C l ∧ w.grownBy w' (some C) := by
  obtain ⟨i0, hi, hz0, hz1, hz2⟩ := info_parts Try.info5
  have hC := hc.lt
  have hown1 : (w.alloc (.cells #[] 5)).ownsRow w.heap.size 5 1 (.slice (some ⟨w.heap.size, 0, none⟩) 0 0) 0 [] := World.ownsRow_made w #[] 0 (Nat.le_refl _) (Nat.zero_le _) rfl
  have hg0 : w.grownBy (w.alloc (.cells #[] 5)) (some C) := World.grownBy_alloc _ _ _
  have hc0 : Cur (w.alloc (.cells #[] 5)) C l := hc.below ((Below.refl _ _).alloc (Nat.le_refl _) _)
  go_enter Try.func53, Try.ntmps53
  go_wp2
  go_loopw [5, 6] (fun v i wr => ∃ (k : Nat) (r : List UInt8), k ≤ n ∧ i = .int .i64 k ∧ r.length = k ∧ OwnS wr w.heap.size v r ∧ Cur wr C l ∧ w.grownBy wr (some C)) (fun _ i _ => n - (intOf i).toNat)
  case atStart => exact ⟨0, [], Nat.zero_le _, rfl, rfl, ⟨hown1, by simp⟩, hc0, hg0⟩
  case round =>
    obtain ⟨k, r, hk, rfl, hrl, ⟨hown, hnil⟩, hcr, hgr⟩ := hrel
    clear hown1 hg0 hc0
    by_cases hlt : k < n
    · have hsz := hgr.size
      go_wp2_with (first | (go_at_call 50; refine (l1Byte C l _ hcr).mono ?_; rintro e w1 ⟨x, rfl, hx0, hx1, hc1, hg1⟩; have hs1 := hg1.size; have hown1 := World.ownsRow.kept hown hg1 (.inr (fun e => by have := (World.ownsRow.lt hown C e).1; omega))) | (at_builtin; refine wpList_append_own _ rfl (.tmp 13) (.tmp 17) 22 rfl w.heap.size 5 i0 (.int .u8 0) 1 1 Try.underlying22 hi hz0 hz1 hz2 rfl (by decide) _ _ _ rfl (World.ownsRow.alloc hown1 _) ⟨_, 0, none⟩ 1 1 [.int .u8 x] rfl rfl one_at one_one (by unfold maxLen; omega) (by omega) (by simp; omega) ?_; intro v2 w2 hown2 hgrow2 hnil2))
      obtain ⟨xn, rfl⟩ := Int.eq_ofNat_of_zero_le hx0
      have hg2 : w1.grownBy w2 u5.ownBlock := grownTrans (World.grownBy_alloc w1 _ u5.ownBlock) hgrow2
      have hnil3 : v2 ≠ .slice none 0 0 := fun e => by have := (hnil2.1 e).2; omega
      have hlo : ∀ j, u5.ownBlock = some j → w.heap.size ≤ j := fun j e => (World.ownsRow.lt hown j e).1
      have hc2 : Cur w2 C l := hc1.keep hg2 (fun j e => by have := hlo j e; omega)
      have ho2 : OwnB w2 w.heap.size v2 (r ++ [UInt8.ofNat xn]) := OwnB.snoc (byte_of xn (by omega)).symm hown2
      clear hown2 hgrow2 hnil2
      go_roundw
      case rel => exact ⟨k + 1, r ++ [UInt8.ofNat xn], by omega, by go_num, by simp; omega, ⟨ho2, hnil3⟩, hc2, grownVia (grownTrans hgr hg1) hg2 hlo⟩
      case measure => simp [intOf]; omega
    · go_wp2
      go_ret
      exact ⟨_, r, rfl, by omega, ⟨hown, hnil⟩, hcr, hgr⟩
set_option maxHeartbeats 1000000 in
set_option maxRecDepth 100000 in
theorem l1Some (C : Nat) (l : List UInt8) (w : World) (hc : Cur w C l) :
    Calls Try.prog 49 #[.pointer (some ⟨C, 0, none⟩)] w fun e w' => ∃ (v : Value) (r : List UInt8), e = .returned v ∧ r.length ≤ 9 ∧ OwnS w' w.heap.size v r ∧ Cur w' C l ∧ w.grownBy w' (some C) := by
  have hC := hc.lt
  have hI : RdI (w.alloc (.cells #[.int .i64 0, .int .i64 1, .int .i64 2, .int .i64 5, .int .i64 9] 3)) (some ⟨w.heap.size, 0, none⟩) [0, 1, 2, 5, 9] := rdiNew rfl
  have hc0 : Cur (w.alloc (.cells #[.int .i64 0, .int .i64 1, .int .i64 2, .int .i64 5, .int .i64 9] 3)) C l := hc.below ((Below.refl _ _).alloc (Nat.le_refl _) _)
  have hg0 : w.grownBy (w.alloc (.cells #[.int .i64 0, .int .i64 1, .int .i64 2, .int .i64 5, .int .i64 9] 3)) (some C) := World.grownBy_alloc _ _ _
  go_enter Try.func49, Try.ntmps49
  go_wp2_with fail
  refine (l1Int C w.heap.size 0 _ 5 l [0, 1, 2, 5, 9] _ rfl hc0 (by simp) (by simp) hI (by omega)).mono ?_
  rintro e w1 ⟨j, hj, rfl, hc1, hg1⟩
  obtain ⟨n, hn, hn9⟩ : ∃ n : Nat, ([0, 1, 2, 5, 9] : List Int)[j] = (n : Int) ∧ n ≤ 9 := by
    simp at hj
    match j, hj with
    | 0, _ => exact ⟨0, rfl, by omega⟩
    | 1, _ => exact ⟨1, rfl, by omega⟩
    | 2, _ => exact ⟨2, rfl, by omega⟩
    | 3, _ => exact ⟨5, rfl, by omega⟩
    | 4, _ => exact ⟨9, rfl, by omega⟩
  rw [hn]
  clear hn hj
  go_wp2_with fail
  refine (l1Bytes C n l _ hc1 (by omega)).mono ?_
  rintro e w2 ⟨v, r, rfl, hr, hs, hc2, hg2⟩
  go_wp2
  go_ret
  exact ⟨v, r, rfl, by omega, ⟨ownBase hs.1 (Nat.le_trans hg0.size hg1.size), hs.2⟩, hc2, grownTrans (grownTrans hg0 hg1) hg2⟩
end Go.Proofs.Ytpejeoekpejblad.Wk
