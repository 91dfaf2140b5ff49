/- What partFor of the program comes to. -/
import Derived.Test.YtcejeiakgmamdacPkM
import Derived.Test.YtcejeiakgmamdacRgB
import Derived.Deep.RegionHeld3
namespace Go.Proofs.Ytcejeiakgmamdac.Wk
set_option linter.unusedVariables false
open Go.ChangeShapes Go.WideShapes Go.ChangeAt Go.RowKit

theorem storeIn {w w1 : World} {b o : Nat} {v : Value} (hb : Below w.heap.size w w1) (h : w.heap.size ≤ b) : Below w.heap.size w (w1.setCell ⟨b, o, none⟩ v) := hb.setCell (p := ⟨b, o, none⟩) h v

theorem keepSet2 {w : World} {a1 a2 : Addr} {v1 v2 v : Value} {b o : Nat} (h1 : w.cell? a1 = some v1) (h2 : w.cell? a2 = some v2) (n1 : a1.block ≠ b) (n2 : a2.block ≠ b) :
    (w.setCell ⟨b, o, none⟩ v).cell? a1 = some v1 ∧ (w.setCell ⟨b, o, none⟩ v).cell? a2 = some v2 :=
  ⟨by rw [World.cell?_setCell_other _ _ _ _ (fun e => n1 (congrArg Addr.block e).symm)]; exact h1, by rw [World.cell?_setCell_other _ _ _ _ (fun e => n2 (congrArg Addr.block e).symm)]; exact h2⟩

set_option maxHeartbeats 2000000 in
set_option maxRecDepth 100000 in
theorem implFor (wz : World) (reps : Int) (a : Option Addr) (ca : Nat) (ps : List (List Int)) (s : ByteArray) (w : World) (hs : s.size ≤ 1048576) (hp : ps.length ≤ 1048576) (hbz : Below wz.heap.size wz w) (hr : RdP wz a ps) :
    Calls Try.prog 91 #[.agg #[.int .i64 reps, .slice a ps.length ca], .string s] w fun e w' => ∃ (ai : Option Addr) (ci : Nat), e = .returned (.agg #[.slice ai (pick ps s).length ci]) ∧ RdZ wz ai (pick ps s) ∧ Below w.heap.size w w' := by
  have s0 := slot2New w (.int .i64 reps) (.slice a ps.length ca) 29
  have b0 := bel1 w (.cells #[.int .i64 reps, .slice a ps.length ca] 29)
  have s1 := slot1New (w.alloc (.cells #[.int .i64 reps, .slice a ps.length ca] 29)) (.slice none 0 0) 36
  have b1 := bel1 (w.alloc (.cells #[.int .i64 reps, .slice a ps.length ca] 29)) (.cells #[.slice none 0 0] 36)
  have hB := behind b0 b1
  have s0 := s0.below b1
  have hr1 := hr.below (behind hbz hB)
  simp only [World.size_alloc] at s1
  obtain ⟨⟨c0, c1⟩, -⟩ := id s0
  obtain ⟨d0, d1⟩ := id s1
  by_cases h : 0 < ps.length
  · obtain ⟨k, hk, hpn, hpk⟩ := pick_at s h
    have cP := fun (w' : World) => implPart s ps.length w' hs
    rw [hpn] at cP
    obtain ⟨b, off, ai, ci, rfl, q0, q1, -⟩ := hr1 k hk
    obtain ⟨b', off', ai', ci', e', q0', q1', -⟩ := hr k hk
    rw [← hpk] at q0 q1 q0' q1'
    clear hpk hpn hr hr1
    cases e'
    obtain ⟨ea, ec⟩ : ai' = ai ∧ ci' = ci := by
      have := (cellOn q0' (behind hbz hB)).symm.trans q0
      simpa using this
    subst ea ec
    have hbl : b ≠ w.heap.size + 1 := by have := World.block_lt_of_cell? wz _ q0'; have := hbz.size; simp at *; omega
    have hsl : w.heap.size ≠ w.heap.size + 1 := by omega
    have hk1 : (k : Int) < (ps.length : Int) := by omega
    have hk0 : (0 : Int) ≤ (k : Int) := by omega
    have h' : ¬ ((ps.length : Int) = 0) := by omega
    go_enter Try.func91, Try.ntmps91
    go_wp2_with fail
    generalize (w.alloc (.cells #[.int .i64 reps, .slice (some ⟨b, off, none⟩) ps.length ca] 29)).alloc (.cells #[.slice none 0 0] 36) = w1 at *
    go_region_held3 (fun wy => wy.cell? ⟨w.heap.size, 1, none⟩ = some (.slice (some ⟨b, off, none⟩) ps.length ca) ∧ wy.cell? ⟨b, off + k, none⟩ = some (.slice ai' (pick ps s).length ci'))
      (first | with_reducible exact ⟨c1, q0⟩ | with_reducible exact ⟨c1', q02⟩ | with_reducible exact keepSet2 c1' q02 hsl hbl | go_keep)
      (first | (go_at_call 101; refine (cP _).mono ?_; rintro e w2 ⟨rfl, hb2⟩; have c1' := cellOn (w := w1.drew) c1 hb2; have q02 := cellOn (w := w1.drew) q0 hb2; have s12 := Slot1.below (w := w1.drew) s1 hb2; obtain ⟨d02, d12⟩ := id s12) | fail)
    have e9 : (w2.setCell ⟨w.heap.size + 1, 0, none⟩ (.slice ai' (pick ps s).length ci')).cell? ⟨w.heap.size + 1, 0, none⟩ = some (.slice ai' (pick ps s).length ci') := World.cell?_setCell_same' _ _ _ (by rw [d02]; rfl)
    go_wp2
    refine bodyPost_ret (v := .agg #[.slice ai' (pick ps s).length ci']) (by simp [results, Try.results91, go_sem, e9]) rfl ⟨ai', ci', rfl, q1', (behind hB.drew hb2).setCell (p := ⟨w.heap.size + 1, 0, none⟩) (by simp) _⟩
  · obtain rfl : ps = [] := by cases ps with | nil => rfl | cons x r => simp at h
    rw [pick_nil]
    go_enter Try.func91, Try.ntmps91
    simp only [List.length_nil] at d0 hB
    go_wp2
    refine bodyPost_ret (v := .agg #[.slice none 0 0]) (by simp [results, Try.results91, go_sem, d0]) rfl ⟨none, 0, rfl, fun i hi => by simp at hi, hB⟩
end Go.Proofs.Ytcejeiakgmamdac.Wk
