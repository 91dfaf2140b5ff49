/- What DrawPutNum, DrawPutText and DrawCrc come to: bytes of the call's own, at most nine, and a number or a text. -/
import Derived.Test.YtekjnfkmjmmcmaaDrawW
import Derived.Deep.RegionWith
namespace Go.Proofs.Ytekjnfkmjmmcmaa.Wk
set_option linter.unusedVariables false
open Go.ChangeShapes Go.WideShapes Go.ChangeAt Go.RowKit

theorem OwnS.kept {w w' : World} {base C : Nat} {v : Value} {l : List UInt8} (h : OwnS w base v l) (hg : w.grownBy w' (some C)) (hC : C < base) : OwnS w' base v l :=
  ⟨World.ownsRow.kept h.1 hg (.inr (fun e => by have := (World.ownsRow.lt h.1 C e).1; omega)), h.2⟩
theorem OwnS.below {w w' : World} {base : Nat} {v : Value} {l : List UInt8} (h : OwnS w base v l) (hb : Below w.heap.size w w') : OwnS w' base v l := ⟨ownBelow h.1 hb, h.2⟩
theorem OwnS.base {w : World} {base base' : Nat} {v : Value} {l : List UInt8} (h : OwnS w base v l) (hb : base' ≤ base) : OwnS w base' v l := ⟨ownBase h.1 hb, h.2⟩

theorem convOwn {w : World} {a : Option Addr} {cp : Nat} {r : List UInt8} (hr : RdA w a r) (ha : a ≠ none) : (convert 22 9 (.slice a r.length cp)).run Try.prog w = .ok (.string ⟨r.toArray⟩) w := by
  cases a with
  | none => exact absurd rfl ha
  | some x =>
    refine run_convert_bytes_back (P := Try.prog) w 22 9 5 x cp r Try.underlying22 Try.underlying5 Try.underlying9 ?_
    intro j hj
    obtain ⟨b, off, e, hc⟩ := hr j hj
    cases e
    rw [Go.WideShapes.add_plain]; exact hc

set_option maxHeartbeats 1000000 in
set_option maxRecDepth 100000 in
theorem drawCrc (a : Option Addr) (cap : Nat) (l : List UInt8) (w : World) (hl : l.length ≤ 1048576) (hr : RdA w a l) :
    Calls Try.prog 12 #[.slice a l.length cap] w fun e w' => ∃ (v : Value) (r : List UInt8), e = .returned v ∧ r.length ≤ 9 ∧ OwnS w' w.heap.size v r ∧ Below w.heap.size w w' := by
  go_enter Try.func12, Try.ntmps12
  go_wp2_with fail
  refine (l1New a cap l _ hl hr).mono ?_
  rintro e w1 ⟨rfl, hc1, hb1⟩
  go_wp2_with fail
  refine (l1Some w.heap.size l _ hc1).mono ?_
  rintro e w2 ⟨v, r, rfl, hr9, hs2, hc2, hg2⟩
  go_wp2
  go_ret
  exact ⟨v, r, rfl, hr9, hs2.base hb1.size, belowOf hb1 hg2 (Nat.le_refl _)⟩

set_option maxHeartbeats 1000000 in
set_option maxRecDepth 100000 in
theorem drawPutNum (a : Option Addr) (cap : Nat) (l : List UInt8) (w : World) (hl : l.length ≤ 1048576) (hr : RdA w a l) :
    Calls Try.prog 6 #[.slice a l.length cap] w fun e w' => ∃ (v : Value) (r : List UInt8) (n : Int), e = .returned (.tuple #[v, .int .i64 n]) ∧ r.length ≤ 9 ∧ OwnS w' w.heap.size v r ∧ Below w.heap.size w w' := by
  go_enter Try.func6, Try.ntmps6
  go_wp2_with fail
  refine (l1New a cap l _ hl hr).mono ?_
  rintro e w1 ⟨rfl, hc1, hb1⟩
  go_wp2_with fail
  refine (l1Some w.heap.size l _ hc1).mono ?_
  rintro e w2 ⟨v, r, rfl, hr9, hs2, hc2, hg2⟩
  have hC1 := hc1.lt
  go_wp2_with fail
  refine (l1Below w.heap.size l 100000 _ hc2 (by omega)).mono ?_
  rintro e w3 ⟨x, rfl, hx0, hx1, -, hc3, hg3⟩
  have hs3 := hs2.kept hg3 hC1
  have hg123 := hg2.size
  have hg12 := hg3.size
  have hb11 := hb1.size
  have hI : RdI (w3.alloc (.cells #[.int .i64 0, .int .i64 1, .int .i64 127, .int .i64 128, .int .i64 16383, .int .i64 16384, .int .i64 1000000000, .int .i64 1000000001, .int .i64 (-1), .int .i64 9223372036854775807, .int .i64 x] 3)) (some ⟨w3.heap.size, 0, none⟩) [0, 1, 127, 128, 16383, 16384, 1000000000, 1000000001, -1, 9223372036854775807, x] := rdiNew rfl
  have hb3 : Below w3.heap.size w3 (w3.alloc (.cells #[.int .i64 0, .int .i64 1, .int .i64 127, .int .i64 128, .int .i64 16383, .int .i64 16384, .int .i64 1000000000, .int .i64 1000000001, .int .i64 (-1), .int .i64 9223372036854775807, .int .i64 x] 3)) := (Below.refl _ _).alloc (Nat.le_refl _) _
  have hc4 := hc3.below hb3
  have hs4 := hs3.below hb3
  have hbw := (belowOf (belowOf hb1 hg2 (Nat.le_refl _)) hg3 (Nat.le_refl _)).trans (hb3.mono (by omega))
  clear hx1
  go_wp2_with fail
  refine (l1Int w.heap.size w3.heap.size 0 _ 11 l [0, 1, 127, 128, 16383, 16384, 1000000000, 1000000001, -1, 9223372036854775807, x] _ rfl hc4 (by simp) (by simp) hI (by omega)).mono ?_
  rintro e w5 ⟨j, hj, rfl, hc5, hg5⟩
  generalize ([0, 1, 127, 128, 16383, 16384, 1000000000, 1000000001, -1, 9223372036854775807, x] : List Int)[j] = n
  have hs5 := hs4.kept hg5 hC1
  clear hI hj
  go_wp2
  go_ret2
  exact ⟨v, r, n, rfl, hr9, hs5.base hb11, belowOf hbw hg5 (Nat.le_refl _)⟩

set_option maxHeartbeats 1000000 in
set_option maxRecDepth 100000 in
theorem drawPutText (a : Option Addr) (cap : Nat) (l : List UInt8) (w : World) (hl : l.length ≤ 1048576) (hr : RdA w a l) :
    Calls Try.prog 9 #[.slice a l.length cap] w fun e w' => ∃ (v : Value) (r : List UInt8) (t : List UInt8), e = .returned (.tuple #[v, .string ⟨t.toArray⟩]) ∧ r.length ≤ 9 ∧ t.length ≤ 9 ∧ OwnS w' w.heap.size v r ∧ Below w.heap.size w w' := by
  go_enter Try.func9, Try.ntmps9
  go_wp2_with fail
  refine (l1New a cap l _ hl hr).mono ?_
  rintro e w1 ⟨rfl, hc1, hb1⟩
  go_wp2_with fail
  go_region_with (first | (go_at_call 19; refine (l1Some w.heap.size l _ (by exact hc2)).mono ?_; rintro e w3 ⟨v3, r3, rfl, hr3, hs3, hc3, hg3⟩; obtain ⟨g3, cp3, rfl, hq31, hq32, hq33, hq34⟩ := hs3.shape; have hcv := convOwn (cp := cp3) (RdA.own hs3.1) (by simp)) | (go_at_call 19; refine (l1Some w.heap.size l _ (by exact hc1)).mono ?_; rintro e w2 ⟨v, r, rfl, hr9, hs2, hc2, hg2⟩))
  go_wp2
  go_ret2
  have hC1 := hc1.lt
  have hs2' := (hs2.kept hg3 hC1).base hb1.size
  exact ⟨_, r, r3, rfl, hr9, hr3, hs2', belowOf (belowOf hb1.drew hg2 (Nat.le_refl _)) hg3 (Nat.le_refl _)⟩
end Go.Proofs.Ytekjnfkmjmmcmaa.Wk
