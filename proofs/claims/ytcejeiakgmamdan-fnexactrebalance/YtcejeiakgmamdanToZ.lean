/- What the laws' toIntS comes to: the same numbers in new memory, which is the call's own. -/
import Derived.Test.YtcejeiakgmamdanRgB
namespace Go.Proofs.Ytcejeiakgmamdan.Wk
set_option linter.unusedVariables false
open Go.ChangeShapes Go.WideShapes Go.ChangeAt Go.RowKit

/-- of a row's cells the first k are these numbers -/
def RowZ (xs : List Value) (l : List Int) (k : Nat) : Prop := ∀ i (h : i < l.length), i < k → xs[i]? = some (.int .i64 l[i])
theorem RowZ.step {xs : List Value} {l : List Int} {k : Nat} {x : Int} (h : RowZ xs l k) (hk : k < l.length) (hx : l[k] = x) (hlen : xs.length = l.length * 1) : RowZ (xs.set k (.int .i64 x)) l (k + 1) := by
  intro i hi hik
  by_cases e : i = k
  · subst e
    rw [List.getElem?_set_self (by omega), hx]
  · rw [List.getElem?_set_ne (by omega)]
    exact h i hi (by omega)
theorem RowZ.all {xs : List Value} {l : List Int} (h : RowZ xs l l.length) (hlen : xs.length = l.length * 1) : xs = Zv l := by
  apply List.ext_getElem?
  intro i
  by_cases hi : i < l.length
  · rw [h i hi hi]; simp [Zv, hi]
  · rw [List.getElem?_eq_none (by omega), List.getElem?_eq_none (by simp [Zv]; omega)]

set_option maxHeartbeats 1000000 in
set_option maxRecDepth 100000 in
theorem toZ (a : Option Addr) (cap : Nat) (l : List Int) (w : World) (hl : l.length ≤ 1048576) (hr : RdZ w a l) :
    Calls Try.prog 47 #[.slice a l.length cap] w fun e w' => e = .returned (.slice (some ⟨w.heap.size, 0, none⟩) l.length l.length) ∧
      w'.ownsRow w.heap.size 3 1 (.slice (some ⟨w.heap.size, 0, none⟩) l.length l.length) l.length (Zv l) ∧ Below w.heap.size w w' := by
  obtain ⟨i0, hi, hz0, hz1, hz2⟩ := info_parts infoZ
  obtain ⟨w1, hrun, hown, hgrow⟩ := run_make_full (P := Try.prog) w w.heap.size 40 3 i0 _ 1 Try.underlying40 hi hz0 hz1 .i64 .i64 l.length (by rw [hz2]; omega) (by unfold maxLen; omega) (Nat.le_refl _)
  have hbel : Below w.heap.size w w1 := (Below.refl _ _).grown hgrow (Nat.le_refl _) (fun k h => by cases h)
  clear hgrow hi hz0 hz1 hz2
  go_enter Try.func47, Try.ntmps47
  go_wp2
  clear hrun
  go_loopw [4] (fun i wr => ∃ (k : Nat) (xs : List Value), k ≤ l.length ∧ i = .int .i64 k ∧ wr.ownsRow w.heap.size 3 1 (.slice (some ⟨w.heap.size, 0, none⟩) l.length l.length) l.length xs ∧ RowZ xs l k ∧ Below w.heap.size w wr) (fun i _ => l.length - (intOf i).toNat)
  case atStart => exact ⟨0, _, Nat.zero_le _, rfl, hown, fun i h hk => by omega, hbel⟩
  case round =>
    obtain ⟨k, xs, hk, rfl, hown, hrow, hb⟩ := hrel
    by_cases hlt : k < l.length
    · obtain ⟨b, off, rfl, hc⟩ := (hr.below hb) k hlt
      obtain ⟨x, hx⟩ : ∃ x, l[k] = x := ⟨_, rfl⟩
      rw [hx] at hc
      have HX : Hid (l[k] = x) := hx
      clear hx
      have hlen := hown.1
      have z0 := hown.frozenAt k
      have c0 := hown.cellAt k (by omega)
      rw [List.getElem?_eq_getElem (by omega)] at c0
      go_wp2
      go_roundw
      case rel => exact ⟨k + 1, _, by omega, by go_num, (hown.stored k (.int .i64 x)).1, hrow.step hlt HX.out hlen, hb.setCell (Nat.le_refl _) _⟩
      case measure => simp [intOf]; omega
    · go_wp2
      go_ret
      have hkl : k = l.length := by omega
      subst hkl
      have e := hrow.all hown.1
      subst e
      exact ⟨rfl, hown, hb⟩
end Go.Proofs.Ytcejeiakgmamdan.Wk
