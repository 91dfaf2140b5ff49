/- What Primaries of the specification comes to. -/
import Derived.Test.YtcejeiakgmamdacPkM
import Derived.Test.YtcejeiakgmamdacRbW
import Derived.Test.YtcejeiakgmamdacPfI
import Derived.Test.YtcejeiakgmamdacApZ
import Derived.Test.YtcejeiakgmamdacPtW
import Derived.Test.YtcejeiakgmamdacZnS
import Derived.Deep.RegionHeld3
namespace Go.Proofs.Ytcejeiakgmamdac.Wk
set_option linter.unusedVariables false
open Go.ChangeShapes Go.WideShapes Go.ChangeAt Go.RowKit

set_option maxHeartbeats 2000000 in
set_option maxRecDepth 100000 in
theorem specPrims (reps : Int) (a : Option Addr) (ca : Nat) (ps : List (List Int)) (s : ByteArray) (w : World) (hs : s.size ≤ 1048576) (hp : ps.length ≤ 1048576) (hq : (pick ps s).length ≤ 1048576) (hr : RdN w a ps) :
    Calls Try.prog 33 #[.agg #[.int .i64 reps, .slice a ps.length ca], .string s] w fun e w' => ∃ (a' : Option Addr) (c : Nat), e = .returned (.slice a' (pick ps s).length c) ∧
      w'.ownsRow w.heap.size 3 1 (.slice a' (pick ps s).length c) (pick ps s).length (Zv (pick ps s)) ∧ Below w.heap.size w w' := by
  have b0 := bel1 w (.cells #[.int .i64 reps, .slice a ps.length ca] 29)
  have s0 := slot2New w (.int .i64 reps) (.slice a ps.length ca) 29
  have hr1 := hr.below b0
  by_cases h : 0 < ps.length
  · obtain ⟨k, hk, hpn, hpk⟩ := pick_at s h
    have cP := fun (w' : World) => specPart s ps.length w' hs
    rw [hpn] at cP
    obtain ⟨b, off, ai, ci, rfl, q0, q1, -, q2⟩ := hr1 k hk
    rw [← hpk] at q0 q1
    clear hpk hpn hr hr1
    have hk1 : (k : Int) < (ps.length : Int) := by omega
    have hk0 : (0 : Int) ≤ (k : Int) := by omega
    have h' : ¬ ((ps.length : Int) = 0) := by omega
    generalize pick ps s = Q at *
    have z1 : (w.alloc (.cells #[.int .i64 reps, .slice (some ⟨b, off, none⟩) ps.length ca] 29)).heap.size ≥ w.heap.size + 1 := by simp
    go_enter Try.func33, Try.ntmps33
    go_wp2_with fail
    generalize w.alloc (.cells #[.int .i64 reps, .slice (some ⟨b, off, none⟩) ps.length ca] 29) = w1 at *
    have hbl : b ≠ w1.heap.size := by have := World.block_lt_of_cell? w1 _ q0; simp at this; omega
    have hsl : w.heap.size ≠ w1.heap.size := by omega
    obtain ⟨⟨c0, c1⟩, -⟩ := id s0
    have bE := bel1 w1 (.cells #[] 3)
    have e0 := emptyB w1 w.heap.size (by omega)
    have c1E := cellOn c1 bE
    have q0E := cellOn q0 bE
    have q1E := q1.below bE
    have bK : ∀ w8, (w1.alloc (.cells #[] 3)).grownBy w8 (some w1.heap.size) → Below w.heap.size w w8 := fun w8 h => (behind b0 bE).grown h (by simp; omega) (fun j e => by cases e; omega)
    go_region_held3 (fun wy => wy.cell? ⟨w.heap.size, 1, none⟩ = some (.slice (some ⟨b, off, none⟩) ps.length ca) ∧ wy.cell? ⟨b, off + k, none⟩ = some (.slice ai Q.length ci))
      (first | with_reducible exact ⟨c1, q0⟩ | with_reducible exact ⟨c1E, q0E⟩ | with_reducible exact ⟨c18, q08⟩ | go_keep)
      (first | (go_at_call 73; refine (cP _).mono ?_; rintro e _ ⟨rfl, rfl⟩) | (refine step_appZ _ (by rfl) (.tmp 10) (.tmp 20) (by rfl) w.heap.size (.slice (some ⟨w1.heap.size, 0, none⟩) 0 0) [] (by rfl) (by exact e0) ai ci Q (by rfl) (by exact q1E) q2 (by simp; omega) (by simp; omega) ?_; intro v8 w8 hown8 hgrow8; have c18 : w8.cell? ⟨w.heap.size, 1, none⟩ = some (.slice (some ⟨b, off, none⟩) ps.length ca) := hgrow8.cell c1E (by simpa [Value.ownBlock] using hsl); have q08 : w8.cell? ⟨b, off + k, none⟩ = some (.slice ai Q.length ci) := hgrow8.cell q0E (by simpa [Value.ownBlock] using hbl); have hg8 : (w1.alloc (.cells #[] 3)).grownBy w8 (some w1.heap.size) := ⟨hgrow8.os, hgrow8.tape, hgrow8.output, hgrow8.size, hgrow8.block⟩; have hb8 := bK w8 hg8) | fail)
    all_goals
      obtain ⟨a8, c8, rfl⟩ := Zv_shape hown8
      go_wp2
      go_ret
      exact ⟨a8, c8, rfl, hown8, hb8⟩
  · obtain rfl : ps = [] := by cases ps with | nil => rfl | cons x r => simp at h
    rw [pick_nil]
    obtain ⟨⟨c0, c1⟩, -⟩ := id s0
    have e0 := emptyB (w.alloc (.cells #[.int .i64 reps, .slice a 0 ca] 29)) w.heap.size (by simp)
    have bE := bel1 (w.alloc (.cells #[.int .i64 reps, .slice a 0 ca] 29)) (.cells #[] 3)
    simp only [World.size_alloc] at e0
    go_enter Try.func33, Try.ntmps33
    go_wp2
    go_ret
    exact ⟨_, 0, rfl, e0, behind b0 bE⟩

end Go.Proofs.Ytcejeiakgmamdac.Wk
