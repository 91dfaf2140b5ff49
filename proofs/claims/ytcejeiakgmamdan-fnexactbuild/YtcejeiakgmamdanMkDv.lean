/- What the laws' markDevS and heldDevS come to: marks in a row of devices, and whether they are there. -/
import Derived.Test.YtcejeiakgmamdanStR
namespace Go.Proofs.Ytcejeiakgmamdan.Wk
set_option linter.unusedVariables false
open Go.ChangeShapes Go.WideShapes Go.ChangeAt Go.RowKit

/-- the marks k0, k0 + 1, .. three by three -/
def mk3 (k0 n : Nat) : List Sm.St := (List.range n).map fun i : Nat => ((k0 : Int) + 3 * (i : Int), (k0 : Int) + 3 * (i : Int) + 1, (k0 : Int) + 3 * (i : Int) + 1 + 1)
theorem mk3_len (k0 n : Nat) : (mk3 k0 n).length = n := by simp [mk3]
theorem mk3_get (k0 n j : Nat) (h : j < (mk3 k0 n).length) : (mk3 k0 n)[j] = ((k0 : Int) + 3 * (j : Int), (k0 : Int) + 3 * (j : Int) + 1, (k0 : Int) + 3 * (j : Int) + 1 + 1) := by simp [mk3]
theorem grown3 {w w1 w2 : World} {r : Option Nat} (h : w.grownBy w1 r) (k : w1.grownBy w2 r) : w.grownBy w2 r :=
  ⟨k.os.trans h.os, k.tape.trans h.tape, k.output.trans h.output, Nat.le_trans h.size k.size, fun i hi hn => (k.block i (Nat.lt_of_lt_of_le hi h.size) hn).trans (h.block i hi hn)⟩
theorem own_step {w : World} {base g cap n j : Nat} {T : TypeId} {xs : List Value} {t q m : Int} {l : List Sm.St} (ho : w.ownsRow base T 3 (.slice (some ⟨g, 0, none⟩) n cap) n xs) (hr : RowIs xs l j) (hl : l.length = n) (hj : j < l.length) (hs : l[j] = (t, q, m)) :
    ∃ ys, (((w.setCell ⟨g, j * 3, none⟩ (.int .i64 t)).setCell ⟨g, j * 3 + 1, none⟩ (.int .i64 q)).setCell ⟨g, j * 3 + 2, none⟩ (.int .i64 m)).ownsRow base T 3 (.slice (some ⟨g, 0, none⟩) n cap) n ys ∧ RowIs ys l (j + 1) ∧
      w.grownBy (((w.setCell ⟨g, j * 3, none⟩ (.int .i64 t)).setCell ⟨g, j * 3 + 1, none⟩ (.int .i64 q)).setCell ⟨g, j * 3 + 2, none⟩ (.int .i64 m)) (some g) := by
  have h1 := ho.stored (j * 3) (.int .i64 t)
  have h2 := h1.1.stored (j * 3 + 1) (.int .i64 q)
  have h3 := h2.1.stored (j * 3 + 2) (.int .i64 m)
  exact ⟨_, h3.1, hr.step hj hs (by have := ho.1; omega), grown3 (grown3 h1.2 h2.2) h3.2⟩

set_option maxHeartbeats 1000000 in
set_option maxRecDepth 100000 in
theorem markDvS (base g cap n k0 : Nat) (xs : List Value) (w : World) (hn : n ≤ 1048576) (hk0 : k0 ≤ 1048576)
    (ho : w.ownsRow base 62 3 (.slice (some ⟨g, 0, none⟩) n cap) n xs) :
    Calls Try.prog 28 #[.slice (some ⟨g, 0, none⟩) n cap, .int .i64 (k0 : Int)] w fun e w' => e = .returned (.int .i64 ((k0 : Int) + 3 * (n : Int))) ∧
      (∃ ys, w'.ownsRow base 62 3 (.slice (some ⟨g, 0, none⟩) n cap) n ys ∧ RowIs ys (mk3 k0 n) n) ∧ w.grownBy w' (some g) := by
  go_enter Try.func28, Try.ntmps28
  go_wp2
  go_loopw [1, 5] (fun q i wr => ∃ (j : Nat) (ys : List Value), j ≤ n ∧ i = .int .i64 j ∧ q = .int .i64 ((k0 : Int) + 3 * (j : Int)) ∧ wr.ownsRow base 62 3 (.slice (some ⟨g, 0, none⟩) n cap) n ys ∧ RowIs ys (mk3 k0 n) j ∧ w.grownBy wr (some g)) (fun _ i _ => n - (intOf i).toNat)
  case atStart => exact ⟨0, xs, Nat.zero_le _, rfl, by simp, ho, fun i h hk => by omega, World.grownBy.refl _ _⟩
  case round =>
    obtain ⟨j, ys, hj, rfl, rfl, hown, hrow, hgr⟩ := hrel
    by_cases hlt : j < n
    · have hlen := hown.1
      have z0 := hown.frozenAt (j * 3)
      have z1 := hown.frozenAt (j * 3 + 1)
      have z2 := hown.frozenAt (j * 3 + 2)
      have c0 := hown.cellAt (j * 3) (by omega)
      have c1 := hown.cellAt (j * 3 + 1) (by omega)
      have c2 := hown.cellAt (j * 3 + 2) (by omega)
      rw [List.getElem?_eq_getElem (by omega)] at c0 c1 c2
      go_wp2
      obtain ⟨zs, ho', hr', hg'⟩ := own_step hown hrow (mk3_len k0 n) (by rw [mk3_len]; exact hlt) (mk3_get k0 n j (by rw [mk3_len]; exact hlt))
      clear c0 c1 c2 z0 z1 z2 hlen hrow hown
      go_roundw
      case rel => exact ⟨j + 1, zs, by omega, by go_num, by go_num, ho', hr', grown3 hgr hg'⟩
      case measure => simp [intOf]; omega
    · go_wp2
      go_ret
      have hjn : j = n := by omega
      subst hjn
      exact ⟨rfl, ⟨ys, hown, hrow⟩, hgr⟩
/-- of no devices at all -/
theorem markDv0 (a : Option Addr) (cap k0 : Nat) (w : World) :
    Calls Try.prog 28 #[.slice a 0 cap, .int .i64 (k0 : Int)] w fun e w' => e = .returned (.int .i64 (k0 : Int)) ∧ w' = w := by
  go_enter Try.func28, Try.ntmps28
  go_wp2
  go_loop [1, 5] (fun q i => i = .int .i64 0 ∧ q = .int .i64 (k0 : Int)) (fun _ _ => 0)
  case atStart => exact ⟨rfl, rfl⟩
  case round =>
    obtain ⟨rfl, rfl⟩ := hrel
    go_wp2
    go_ret
    exact ⟨rfl, rfl⟩

end Go.Proofs.Ytcejeiakgmamdan.Wk
