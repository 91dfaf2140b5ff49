/- What the laws' eqIntS, eqPart, eqPartS, eqRing come to, of the same twice: true. -/
import Derived.Test.YtcejeiakgmamdanRgB
import Derived.BigQuiet
import Derived.Deep.QuietTactic
import Derived.Deep.RegionHeld3
import Derived.Deep.Cut
namespace Go.Proofs.Ytcejeiakgmamdan.Wk
set_option linter.unusedVariables false
open Go.ChangeShapes Go.WideShapes Go.ChangeAt Go.RowKit

theorem belowE {B : Nat} {a w : World} (h : Below B a w) (n : Nat) : Below B a (w.drewN n) := h.trans ⟨rfl, rfl, rfl, Nat.le_refl _, fun _ _ => rfl⟩
set_option maxHeartbeats 1000000 in
set_option maxRecDepth 100000 in
theorem eqZ (a b : Option Addr) (ca cb : Nat) (l : List Int) (w : World) (hl : l.length ≤ 1048576) (hr : RdZ w a l) (hs : RdZ w b l) :
    Calls Try.prog 49 #[.slice a l.length ca, .slice b l.length cb] w fun e w' => e = .returned (.bool true) ∧ Below w.heap.size w w' := by
  go_enter Try.func49, Try.ntmps49
  go_wp2
  go_loopw [5] (fun i wr => ∃ k : Nat, k ≤ l.length ∧ i = .int .i64 k ∧ Below w.heap.size w wr) (fun i _ => l.length - (intOf i).toNat)
  case atStart => exact ⟨0, Nat.zero_le _, rfl, Below.refl _ _⟩
  case round =>
    obtain ⟨k, hk, rfl, hb⟩ := hrel
    by_cases hlt : k < l.length
    · obtain ⟨b1, o1, rfl, p0⟩ := (hr.below hb) k hlt
      obtain ⟨b2, o2, rfl, q0⟩ := (hs.below hb) k hlt
      generalize l[k] = u at p0 q0
      go_wp2
      go_quiet (fail)
      go_wp2
      go_roundw
      case rel => exact ⟨k + 1, by omega, by go_num, belowE hb nq⟩
      case measure => simp [intOf]; omega
    · go_wp2
      go_ret
      exact ⟨rfl, hb⟩

set_option maxHeartbeats 400000 in
set_option maxRecDepth 100000 in
theorem eqPt (a b : Option Addr) (ca cb : Nat) (l : List Int) (w : World) (hl : l.length ≤ 1048576) (hr : RdZ w a l) (hs : RdZ w b l) :
    Calls Try.prog 23 #[.agg #[.slice a l.length ca], .agg #[.slice b l.length cb]] w fun e w' => e = .returned (.bool true) ∧ Below w.heap.size w w' := by
  go_enter Try.func23, Try.ntmps23
  go_wp2_with fail
  refine (eqZ a b ca cb l _ hl (hr.below (bel2 _ _ _)) (hs.below (bel2 _ _ _))).mono ?_
  rintro e w1 ⟨rfl, hb1⟩
  go_wp2
  go_ret
  exact ⟨rfl, behind (bel2 _ _ _) hb1⟩

set_option maxHeartbeats 1000000 in
set_option maxRecDepth 100000 in
theorem eqPtS (a b : Option Addr) (ca cb : Nat) (ps : List (List Int)) (w : World) (hl : ps.length ≤ 1048576) (hp : ∀ p ∈ ps, p.length ≤ 1048576) (hr : RdP w a ps) (hs : RdP w b ps) :
    Calls Try.prog 43 #[.slice a ps.length ca, .slice b ps.length cb] w fun e w' => e = .returned (.bool true) ∧ Below w.heap.size w w' := by
  go_enter Try.func43, Try.ntmps43
  go_wp2
  go_loopw [5] (fun i wr => ∃ k : Nat, k ≤ ps.length ∧ i = .int .i64 k ∧ Below w.heap.size w wr) (fun i _ => ps.length - (intOf i).toNat)
  case atStart => exact ⟨0, Nat.zero_le _, rfl, Below.refl _ _⟩
  case round =>
    obtain ⟨k, hk, rfl, hb⟩ := hrel
    by_cases hlt : k < ps.length
    · obtain ⟨b1, o1, ai, ci, rfl, p0, pz, -⟩ := (hr.below hb) k hlt
      obtain ⟨b2, o2, aj, cj, rfl, q0, qz, -⟩ := (hs.below hb) k hlt
      have cE := fun (w : World) (h1 : RdZ w ai ps[k]) (h2 : RdZ w aj ps[k]) => eqPt ai aj ci cj ps[k] w (hp _ (List.getElem_mem hlt)) h1 h2
      go_wp2_with fail
      go_region_with (go_at_call 23; refine (cE _ (by exact pz) (by exact qz)).mono ?_; rintro e w2 ⟨rfl, hb2⟩)
      all_goals
        go_wp2
        go_roundw
        case rel => exact ⟨k + 1, by omega, by go_num, behind hb.drew hb2⟩
        case measure => simp [intOf]; omega
    · go_wp2
      go_ret
      exact ⟨rfl, hb⟩

set_option maxHeartbeats 400000 in
set_option maxRecDepth 100000 in
theorem eqRg (reps : Int) (a b : Option Addr) (ca cb : Nat) (ps : List (List Int)) (w : World) (hl : ps.length ≤ 1048576) (hp : ∀ p ∈ ps, p.length ≤ 1048576) (hr : RdP w a ps) (hs : RdP w b ps) :
    Calls Try.prog 15 #[.agg #[.int .i64 reps, .slice a ps.length ca], .agg #[.int .i64 reps, .slice b ps.length cb]] w fun e w' => e = .returned (.bool true) ∧ Below w.heap.size w w' := by
  go_enter Try.func15, Try.ntmps15
  go_wp2_with fail
  refine (eqPtS a b ca cb ps _ hl hp (hr.below (bel2 _ _ _)) (hs.below (bel2 _ _ _))).mono ?_
  rintro e w1 ⟨rfl, hb1⟩
  go_wp2
  go_ret
  exact ⟨rfl, behind (bel2 _ _ _) hb1⟩
end Go.Proofs.Ytcejeiakgmamdan.Wk
