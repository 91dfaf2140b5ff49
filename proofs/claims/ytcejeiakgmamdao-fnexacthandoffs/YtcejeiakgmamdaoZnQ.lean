/- What the laws' eqIntS, markIntS and heldIntS come to. -/
import Derived.Test.YtcejeiakgmamdaoZnM
import Derived.Deep.QuietTactic
import Derived.BigQuiet
import Derived.Laws.OwnMore
namespace Go.Proofs.Ytcejeiakgmamdao.Wk
set_option linter.unusedVariables false
open Go.ChangeShapes Go.WideShapes Go.ChangeAt Go.RowKit

theorem belowDZ {B : Nat} {a w : World} (h : Below B a w) (n : Nat) : Below B a (w.drewN n) := h.trans ⟨rfl, rfl, rfl, Nat.le_refl _, fun _ _ => rfl⟩
set_option maxHeartbeats 400000 in
set_option maxRecDepth 100000 in
theorem eqZS (a b : Option Addr) (ca cb : Nat) (l : List Int) (w : World) (hl : l.length ≤ 1048576) (hr : RdZ w a l) (hs : RdZ w b l) :
    Calls Try.prog 14 #[.slice a l.length ca, .slice b l.length cb] w fun e w' => e = .returned (.bool true) ∧ Below w.heap.size w w' := by
  go_enter Try.func14, Try.ntmps14
  go_wp2
  go_loopw [5] (fun i wr => ∃ k : Nat, k ≤ l.length ∧ i = .int .i64 k ∧ ∃ n, wr = w.drewN n) (fun i _ => l.length - (intOf i).toNat)
  case atStart => exact ⟨0, Nat.zero_le _, rfl, 0, rfl⟩
  case round =>
    obtain ⟨k, hk, rfl, n, rfl⟩ := hrel
    by_cases hlt : k < l.length
    · obtain ⟨b1, o1, rfl, hc1⟩ := hr k hlt
      obtain ⟨b2, o2, rfl, hc2⟩ := hs k hlt
      go_wp2
      go_quiet (fail)
      go_wp2
      go_roundw
      case rel => exact ⟨k + 1, by omega, by go_num, n + nq, by simp⟩
      case measure => simp [intOf]; omega
    · go_wp2
      go_ret
      exact ⟨rfl, belowDZ (Below.refl _ _) n⟩

/-- the marks k0, k0 + 1, .. -/
def mkz (k0 n : Nat) : List Int := (List.range n).map fun i : Nat => (k0 : Int) + (i : Int)
theorem mkz_len (k0 n : Nat) : (mkz k0 n).length = n := by simp [mkz]
theorem mkz_succ (k0 n : Nat) : mkz k0 (n + 1) = mkz k0 n ++ [(k0 : Int) + (n : Int)] := by simp [mkz, List.range_succ]
theorem mkz_get (k0 n j : Nat) (h : j < (mkz k0 n).length) : (mkz k0 n)[j] = (k0 : Int) + (j : Int) := by simp [mkz]
theorem mkz_set (k0 j : Nat) (xs : List Value) (h : j < xs.length) :
    (Zv (mkz k0 j) ++ xs.drop j).set j (.int .i64 ((k0 : Int) + (j : Int))) = Zv (mkz k0 (j + 1)) ++ xs.drop (j + 1) := by
  have e : (Zv (mkz k0 j)).length = j := by rw [Zv_len, mkz_len]
  rw [List.set_append_right _ _ (by omega), e, Nat.sub_self, List.drop_eq_getElem_cons h, mkz_succ, Zv_snoc, List.set_cons_zero, List.append_assoc]
  rfl
theorem mkz_mid (k0 j : Nat) (xs : List Value) (h : j < xs.length) : (Zv (mkz k0 j) ++ xs.drop j)[j]? = some xs[j] := by
  have e : (Zv (mkz k0 j)).length = j := by rw [Zv_len, mkz_len]
  rw [List.getElem?_append_right (by omega), e, Nat.sub_self, List.drop_eq_getElem_cons h]
  simp

set_option maxHeartbeats 400000 in
set_option maxRecDepth 100000 in
theorem markZS (base cap n k0 : Nat) (a : Option Addr) (xs : List Value) (w : World) (hn : n ≤ 1048576) (hk0 : k0 ≤ 1048576)
    (ho : w.ownsRow base 3 1 (.slice a n cap) n xs) :
    Calls Try.prog 16 #[.slice a n cap, .int .i64 (k0 : Int)] w fun e w' => e = .returned (.int .i64 ((k0 : Int) + (n : Int))) ∧
      w'.ownsRow base 3 1 (.slice a n cap) n (Zv (mkz k0 n)) ∧ w.grownBy w' (Value.slice a n cap).ownBlock := by
  have hxs : xs.length = n := by have := ho.1; omega
  go_enter Try.func16, Try.ntmps16
  go_wp2
  go_loopw [1, 5] (fun q i wr => ∃ j : Nat, j ≤ n ∧ i = .int .i64 j ∧ q = .int .i64 ((k0 : Int) + (j : Int)) ∧ wr.ownsRow base 3 1 (.slice a n cap) n (Zv (mkz k0 j) ++ xs.drop j) ∧ w.grownBy wr (Value.slice a n cap).ownBlock) (fun _ i _ => n - (intOf i).toNat)
  case atStart => exact ⟨0, Nat.zero_le _, rfl, by go_num, by simpa [mkz, Zv] using ho, World.grownBy.refl _ _⟩
  case round =>
    obtain ⟨j, hj, rfl, rfl, hown, hgr⟩ := hrel
    by_cases hlt : j < n
    · obtain ⟨m, rfl⟩ : ∃ m, n = m + 1 := ⟨n - 1, by omega⟩
      obtain ⟨g, cp, he, -⟩ := Zv_some hown
      simp only [Value.slice.injEq, true_and] at he
      obtain ⟨rfl, rfl⟩ := he
      have hfz := hown.frozenAt j
      have hat : wr.cell? ⟨g, j, none⟩ = some (xs[j]'(by omega)) := by rw [hown.cellAt j (by omega)]; exact mkz_mid k0 j xs (by omega)
      go_wp2
      have hst := hown.stored j (.int .i64 ((k0 : Int) + (j : Int)))
      rw [mkz_set k0 j xs (by omega)] at hst
      go_roundw
      case rel => exact ⟨j + 1, by omega, by go_num, by go_num, hst.1, grownZ hgr hst.2⟩
      case measure => simp [intOf]; omega
    · go_wp2
      go_ret
      have hjn : j = n := by omega
      subst hjn
      refine ⟨rfl, ?_, hgr⟩
      have := hown
      rw [List.drop_of_length_le (by omega), List.append_nil] at this
      exact this

set_option maxHeartbeats 400000 in
set_option maxRecDepth 100000 in
theorem heldZS (a : Option Addr) (cap n k0 : Nat) (w : World) (hn : n ≤ 1048576) (hk0 : k0 ≤ 1048576) (hr : RdZ w a (mkz k0 n)) :
    Calls Try.prog 17 #[.slice a n cap, .int .i64 (k0 : Int)] w fun e w' => e = .returned (.int .i64 ((k0 : Int) + (n : Int))) ∧ w' = w := by
  go_enter Try.func17, Try.ntmps17
  go_wp2
  go_loop [1, 5] (fun q i => ∃ j : Nat, j ≤ n ∧ i = .int .i64 j ∧ q = .int .i64 ((k0 : Int) + (j : Int))) (fun _ i => n - (intOf i).toNat)
  case atStart => exact ⟨0, Nat.zero_le _, rfl, by go_num⟩
  case round =>
    obtain ⟨j, hj, rfl, rfl⟩ := hrel
    by_cases hlt : j < n
    · obtain ⟨b, off, rfl, hat⟩ := hr j (by rw [mkz_len]; exact hlt)
      rw [mkz_get] at hat
      go_wp2
      go_round
      case rel => exact ⟨j + 1, by omega, by go_num, by go_num⟩
      case measure => simp [intOf]; omega
    · go_wp2
      go_ret
      have hjn : j = n := by omega
      subst hjn
      exact ⟨rfl, rfl⟩
end Go.Proofs.Ytcejeiakgmamdao.Wk
