/- What the laws' toDevS comes to: the same devices in new memory, which is the call's own. -/
import Derived.Test.YtcejeiakgmamdanStR
import Derived.Test.YtcejeiakgmamdanToDv
namespace Go.Proofs.Ytcejeiakgmamdan.Wk
set_option linter.unusedVariables false
open Go.ChangeShapes Go.WideShapes Go.ChangeAt Go.RowKit

set_option maxHeartbeats 1000000 in
set_option maxRecDepth 100000 in
theorem toDvO (a : Option Addr) (cap : Nat) (l : List Sm.St) (w : World) (hl : l.length ≤ 1048576) (hr : RdS w a l) :
    Calls Try.prog 13 #[.slice a l.length cap] w fun e w' => e = .returned (.slice (some ⟨w.heap.size, 0, none⟩) l.length l.length) ∧ RdS w' (some ⟨w.heap.size, 0, none⟩) l ∧ (∃ xs, w'.ownsRow w.heap.size 62 3 (.slice (some ⟨w.heap.size, 0, none⟩) l.length l.length) l.length xs) ∧ Below w.heap.size w w' := by
  obtain ⟨i0, hi, hz0, hz1, hz2⟩ := info_parts infoDv
  obtain ⟨w1, hrun, hown, hgrow⟩ := run_make_full (P := Try.prog) w w.heap.size 33 62 i0 _ 3 Try.underlying33 hi hz0 hz1 .i64 .i64 l.length (by rw [hz2]; omega) (by unfold maxLen; omega) (Nat.le_refl _)
  have hbel : Below w.heap.size w w1 := (Below.refl _ _).grown hgrow (Nat.le_refl _) (fun k h => by cases h)
  clear hgrow hi hz0 hz1 hz2
  go_enter Try.func13, Try.ntmps13
  go_wp2
  clear hrun
  go_loopw [4] (fun i wr => ∃ (k : Nat) (xs : List Value), k ≤ l.length ∧ i = .int .i64 k ∧ wr.ownsRow w.heap.size 62 3 (.slice (some ⟨w.heap.size, 0, none⟩) l.length l.length) l.length xs ∧ RowIs xs l k ∧ Below w.heap.size w wr) (fun i _ => l.length - (intOf i).toNat)
  case atStart => exact ⟨0, _, Nat.zero_le _, rfl, hown, fun i h hk => by omega, hbel⟩
  case round =>
    obtain ⟨k, xs, hk, rfl, hown, hrow, hb⟩ := hrel
    by_cases hlt : k < l.length
    · obtain ⟨b, off, rfl, hcell⟩ := (hr.below hb) k hlt
      obtain ⟨s0, s1, s2⟩ := id hcell
      obtain ⟨u, hu⟩ : ∃ u, l[k] = u := ⟨_, rfl⟩
      rw [hu] at s0 s1 s2
      obtain ⟨t, q, n⟩ := u
      have HU : Hid (l[k] = (t, q, n)) := hu
      clear hu hcell
      go_wp2_with fail
      refine (toDv t q n _).mono ?_
      rintro e w2 ⟨rfl, hb2⟩
      have ho := ownOn hown hb2
      have hlen := ho.1
      have z0 := ho.frozenAt (k * 3)
      have z1 := ho.frozenAt (k * 3 + 1)
      have z2 := ho.frozenAt (k * 3 + 2)
      have c0 := ho.cellAt (k * 3) (by omega)
      have c1 := ho.cellAt (k * 3 + 1) (by omega)
      have c2 := ho.cellAt (k * 3 + 2) (by omega)
      rw [List.getElem?_eq_getElem (by omega)] at c0 c1 c2
      go_wp2
      go_roundw
      case rel => exact ⟨k + 1, _, by omega, by go_num, (((ho.stored (k * 3) (.int .i64 t)).1.stored (k * 3 + 1) (.int .i64 q)).1.stored (k * 3 + 2) (.int .i64 n)).1, hrow.step hlt HU.out hlen, set3 (behind hb hb2) (Nat.le_refl _)⟩
      case measure => simp [intOf]; omega
    · go_wp2
      go_ret
      have hkl : k = l.length := by omega
      subst hkl
      exact ⟨rfl, hrow.rd hown, ⟨xs, hown⟩, hb⟩
end Go.Proofs.Ytcejeiakgmamdan.Wk
