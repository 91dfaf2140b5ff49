/- What the laws' helpers on bytes come to: toByteS (a copy in new memory), eqByteS, markByteS, heldByteS. -/
import Derived.Test.YtmappmboedpgmaqBy
namespace Go.Proofs.Ytmappmboedpgmaq.Wk
set_option linter.unusedVariables false
open Go.ChangeShapes Go.WideShapes Go.ChangeAt Go.RowKit

set_option maxHeartbeats 400000 in
set_option maxRecDepth 100000 in
theorem toByteS (a : Option Addr) (cap : Nat) (l : List UInt8) (w : World) (hl : l.length ≤ 1048576) (hr : RdA w a l) :
    Calls Try.prog 68 #[.slice a l.length cap] w fun e w' => e = .returned (.slice (some ⟨w.heap.size, 0, none⟩) l.length l.length) ∧
      w'.ownsRow w.heap.size 5 1 (.slice (some ⟨w.heap.size, 0, none⟩) l.length l.length) l.length (By l) ∧ Below w.heap.size w w' := by
  obtain ⟨i0, hi, hz0, hz1, hz2⟩ := info_parts Try.info5
  obtain ⟨w1, hrun, hown, hgrow⟩ := run_make_full (P := Try.prog) w w.heap.size 55 5 i0 (.int .u8 0) 1 Try.underlying55 hi hz0 hz1 .i64 .i64 l.length (by rw [hz2]; omega) (by unfold maxLen; omega) (Nat.le_refl _)
  have hbel : Below w.heap.size w w1 := (Below.refl _ _).grown hgrow (Nat.le_refl _) (fun k h => by cases h)
  have hown0 : w1.ownsRow w.heap.size 5 1 (.slice (some ⟨w.heap.size, 0, none⟩) l.length l.length) l.length (By (l.take 0) ++ List.replicate (l.length - 0) (.int .u8 0)) := by
    have := hown; rw [Nat.mul_one, show (Value.int .u8 0).cells = #[.int .u8 0] from rfl, toList_madeCells_one] at this; simpa [By] using this
  clear hown hgrow hi hz0 hz1 hz2
  go_enter Try.func68, Try.ntmps68
  go_wp2
  clear hrun
  go_loopw [4] (fun i wr => ∃ k : Nat, k ≤ l.length ∧ i = .int .i64 k ∧ wr.ownsRow w.heap.size 5 1 (.slice (some ⟨w.heap.size, 0, none⟩) l.length l.length) l.length (By (l.take k) ++ List.replicate (l.length - k) (.int .u8 0)) ∧ Below w.heap.size w wr) (fun i _ => l.length - (intOf i).toNat)
  case atStart => exact ⟨0, Nat.zero_le _, rfl, hown0, hbel⟩
  case round =>
    obtain ⟨k, hk, rfl, hown, hb⟩ := hrel
    clear hown0 hbel
    by_cases hlt : k < l.length
    · obtain ⟨b, off, rfl, hcell⟩ := (hr.below hb) k hlt
      have hfz := hown.frozenAt k
      have hat : wr.cell? ⟨w.heap.size, k, none⟩ = some (.int .u8 0) := by rw [hown.cellAt k (by omega)]; exact mid_get l k _ hlt
      go_wp2
      have hst := hown.stored k (.int .u8 (l[k].toNat : Int))
      rw [mid_set l k _ hlt] at hst
      go_roundw
      case rel => exact ⟨k + 1, by omega, by go_num, hst.1, hb.setCell (Nat.le_refl _) _⟩
      case measure => simp [intOf]; omega
    · go_wp2
      go_ret
      have hkl : k = l.length := by omega
      subst hkl
      exact ⟨rfl, by simpa using hown, hb⟩
set_option maxHeartbeats 400000 in
set_option maxRecDepth 100000 in
theorem eqByteS (a b : Option Addr) (ca cb : Nat) (l : List UInt8) (w : World) (hl : l.length ≤ 1073741824) (hr : RdA w a l) (hs : RdA w b l) :
    Calls Try.prog 71 #[.slice a l.length ca, .slice b l.length cb] w fun e w' => e = .returned (.bool true) ∧ ∃ n, w' = w.drewN n := by
  go_enter Try.func71, Try.ntmps71
  go_wp2
  go_loopw [5] (fun i wr => ∃ k : Nat, k ≤ l.length ∧ i = .int .i64 k ∧ ∃ n, wr = w.drewN n) (fun i _ => l.length - (intOf i).toNat)
  case atStart => exact ⟨0, Nat.zero_le _, rfl, 0, rfl⟩
  case round =>
    obtain ⟨k, hk, rfl, n, rfl⟩ := hrel
    by_cases hlt : k < l.length
    · obtain ⟨b1, o1, rfl, hc1⟩ := hr k hlt
      obtain ⟨b2, o2, rfl, hc2⟩ := hs k hlt
      go_wp2
      go_quiet (fail)
      go_wp2
      go_roundw
      case rel => exact ⟨k + 1, by omega, by go_num, n + nq, by simp⟩
      case measure => simp [intOf]; omega
    · go_wp2
      go_ret
      exact ⟨rfl, n, rfl⟩
/-- the marks k0, k0 + 1, .. as cells -/
def mks (k0 n : Nat) : List Value := (List.range n).map fun i : Nat => Value.int .u8 (((k0 : Int) + (i : Int)) % 256)
theorem mks_length (k0 n : Nat) : (mks k0 n).length = n := by simp [mks]
theorem mks_succ (k0 n : Nat) : mks k0 (n + 1) = mks k0 n ++ [Value.int .u8 (((k0 : Int) + (n : Int)) % 256)] := by simp [mks, List.range_succ]
theorem mks_get (k0 n j : Nat) (h : j < n) : (mks k0 n)[j]? = some (Value.int .u8 (((k0 : Int) + (j : Int)) % 256)) := by simp [mks, h]
theorem mks_set (k0 j : Nat) (xs : List Value) (h : j < xs.length) :
    (mks k0 j ++ xs.drop j).set j (Value.int .u8 (((k0 : Int) + (j : Int)) % 256)) = mks k0 (j + 1) ++ xs.drop (j + 1) := by
  have e := mks_length k0 j
  rw [List.set_append_right _ _ (by omega), e, Nat.sub_self, List.drop_eq_getElem_cons h, mks_succ, List.set_cons_zero, List.append_assoc]
  rfl
theorem mks_mid (k0 j : Nat) (xs : List Value) (h : j < xs.length) : (mks k0 j ++ xs.drop j)[j]? = some xs[j] := by
  have e := mks_length k0 j
  rw [List.getElem?_append_right (by omega), e, Nat.sub_self, List.drop_eq_getElem_cons h]
  simp
theorem grownBy_trans {w w1 w2 : World} {r : Option Nat} (h : w.grownBy w1 r) (k : w1.grownBy w2 r) : w.grownBy w2 r :=
  ⟨k.os.trans h.os, k.tape.trans h.tape, k.output.trans h.output, Nat.le_trans h.size k.size, fun i hi hn => (k.block i (Nat.lt_of_lt_of_le hi h.size) hn).trans (h.block i hi hn)⟩

set_option maxHeartbeats 400000 in
set_option maxRecDepth 100000 in
theorem markByteS (base g cap n k0 : Nat) (xs : List Value) (w : World) (hn : n ≤ 1073741824) (hk0 : k0 ≤ 1073741824)
    (ho : w.ownsRow base 5 1 (.slice (some ⟨g, 0, none⟩) n cap) n xs) :
    Calls Try.prog 60 #[.slice (some ⟨g, 0, none⟩) n cap, .int .i64 (k0 : Int)] w fun e w' => e = .returned (.int .i64 ((k0 : Int) + (n : Int))) ∧
      w'.ownsRow base 5 1 (.slice (some ⟨g, 0, none⟩) n cap) n (mks k0 n) ∧ w.grownBy w' (some g) := by
  have hxs : xs.length = n := by have := ho.1; omega
  go_enter Try.func60, Try.ntmps60
  go_wp2
  go_loopw [1, 5] (fun q i wr => ∃ j : Nat, j ≤ n ∧ i = .int .i64 j ∧ q = .int .i64 ((k0 : Int) + (j : Int)) ∧ wr.ownsRow base 5 1 (.slice (some ⟨g, 0, none⟩) n cap) n (mks k0 j ++ xs.drop j) ∧ w.grownBy wr (some g)) (fun _ i _ => n - (intOf i).toNat)
  case atStart => exact ⟨0, Nat.zero_le _, rfl, by go_num, by simpa [mks] using ho, World.grownBy.refl _ _⟩
  case round =>
    obtain ⟨j, hj, rfl, rfl, hown, hgr⟩ := hrel
    by_cases hlt : j < n
    · have hfz := hown.frozenAt j
      have hat : wr.cell? ⟨g, j, none⟩ = some (xs[j]'(by omega)) := by rw [hown.cellAt j (by omega)]; exact mks_mid k0 j xs (by omega)
      go_wp2
      have hst := hown.stored j (Value.int .u8 (((k0 : Int) + (j : Int)) % 256))
      rw [mks_set k0 j xs (by omega)] at hst
      go_roundw
      case rel => exact ⟨j + 1, by omega, by go_num, by go_num, hst.1, grownBy_trans hgr hst.2⟩
      case measure => simp [intOf]; omega
    · go_wp2
      go_ret
      have hjn : j = n := by omega
      subst hjn
      refine ⟨rfl, ?_, hgr⟩
      have := hown
      rw [List.drop_of_length_le (by omega), List.append_nil] at this
      exact this

set_option maxHeartbeats 400000 in
set_option maxRecDepth 100000 in
theorem heldByteS (base g cap n k0 : Nat) (w : World) (hn : n ≤ 1073741824) (hk0 : k0 ≤ 1073741824)
    (ho : w.ownsRow base 5 1 (.slice (some ⟨g, 0, none⟩) n cap) n (mks k0 n)) :
    Calls Try.prog 61 #[.slice (some ⟨g, 0, none⟩) n cap, .int .i64 (k0 : Int)] w fun e w' => e = .returned (.int .i64 ((k0 : Int) + (n : Int))) ∧ w' = w := by
  go_enter Try.func61, Try.ntmps61
  go_wp2
  go_loop [1, 5] (fun q i => ∃ j : Nat, j ≤ n ∧ i = .int .i64 j ∧ q = .int .i64 ((k0 : Int) + (j : Int))) (fun _ i => n - (intOf i).toNat)
  case atStart => exact ⟨0, Nat.zero_le _, rfl, by go_num⟩
  case round =>
    obtain ⟨j, hj, rfl, rfl⟩ := hrel
    by_cases hlt : j < n
    · have hat : w.cell? ⟨g, j, none⟩ = some (Value.int .u8 (((k0 : Int) + (j : Int)) % 256)) := by rw [ho.cellAt j (by omega)]; exact mks_get k0 n j hlt
      go_wp2
      go_round
      case rel => exact ⟨j + 1, by omega, by go_num, by go_num⟩
      case measure => simp [intOf]; omega
    · go_wp2
      go_ret
      have hjn : j = n := by omega
      subst hjn
      exact ⟨rfl, rfl⟩
end Go.Proofs.Ytmappmboedpgmaq.Wk
