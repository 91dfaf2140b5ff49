/- What the laws' helpers on flags come to: toBoolS (a copy in new memory), eqBoolS, markBoolS. -/
import Derived.Test.YtmappmboedpgmaqFaM
import Derived.Test.YtmappmboedpgmaqByW
namespace Go.Proofs.Ytmappmboedpgmaq.Wk
set_option linter.unusedVariables false
open Go.ChangeShapes Go.WideShapes Go.ChangeAt Go.RowKit

def Bl (l : List Bool) : List Value := l.map Value.bool
theorem infoBl : (Try.prog.info? 4).map (fun i => (i.zero, i.size, i.bytes)) = some (some (.bool false), 1, 1) := by kernel_rfl
theorem Bl_take (l : List Bool) (k : Nat) (h : k < l.length) : Bl (l.take (k + 1)) = Bl (l.take k) ++ [.bool l[k]] := by
  unfold Bl
  rw [List.take_succ_eq_append_getElem h, List.map_append]; rfl
theorem midB_get (l : List Bool) (k : Nat) (x : Value) (h : k < l.length) : (Bl (l.take k) ++ List.replicate (l.length - k) x)[k]? = some x := by
  have e : (Bl (l.take k)).length = k := by simp [Bl]; omega
  rw [List.getElem?_append_right (by omega), e, Nat.sub_self, List.getElem?_replicate, if_pos (by omega)]
theorem midB_set (l : List Bool) (k : Nat) (x : Value) (h : k < l.length) : (Bl (l.take k) ++ List.replicate (l.length - k) x).set k (.bool l[k]) = Bl (l.take (k + 1)) ++ List.replicate (l.length - (k + 1)) x := by
  have e : (Bl (l.take k)).length = k := by simp [Bl]; omega
  rw [List.set_append_right _ _ (by omega), e, Nat.sub_self, Bl_take l k h, show l.length - k = (l.length - (k + 1)) + 1 from by omega, List.replicate_succ, List.set_cons_zero, List.append_assoc]
  rfl
theorem RdK.own {w : World} {base n c : Nat} {a : Option Addr} {l : List Bool} (h : w.ownsRow base 4 1 (.slice a n c) n (Bl l)) : RdK w a l := by
  intro i hi
  have hn : l.length = n := by have := h.1; simpa [Bl] using this
  obtain ⟨g, cg, e, -, -⟩ := World.ownsRow.form h (by omega)
  cases e
  refine ⟨g, 0, rfl, ?_⟩
  rw [Nat.zero_add, World.ownsRow.cellAt h i (by omega)]
  simp [Bl, hi]

set_option maxHeartbeats 400000 in
set_option maxRecDepth 100000 in
theorem toBoolS (a : Option Addr) (cap : Nat) (l : List Bool) (w : World) (hl : l.length ≤ 1048576) (hr : RdK w a l) :
    Calls Try.prog 17 #[.slice a l.length cap] w fun e w' => e = .returned (.slice (some ⟨w.heap.size, 0, none⟩) l.length l.length) ∧
      w'.ownsRow w.heap.size 4 1 (.slice (some ⟨w.heap.size, 0, none⟩) l.length l.length) l.length (Bl l) ∧ Below w.heap.size w w' := by
  obtain ⟨i0, hi, hz0, hz1, hz2⟩ := info_parts infoBl
  obtain ⟨w1, hrun, hown, hgrow⟩ := run_make_full (P := Try.prog) w w.heap.size 35 4 i0 (.bool false) 1 Try.underlying35 hi hz0 hz1 .i64 .i64 l.length (by rw [hz2]; omega) (by unfold maxLen; omega) (Nat.le_refl _)
  have hbel : Below w.heap.size w w1 := (Below.refl _ _).grown hgrow (Nat.le_refl _) (fun k h => by cases h)
  have hown0 : w1.ownsRow w.heap.size 4 1 (.slice (some ⟨w.heap.size, 0, none⟩) l.length l.length) l.length (Bl (l.take 0) ++ List.replicate (l.length - 0) (.bool false)) := by
    have := hown; rw [Nat.mul_one, show (Value.bool false).cells = #[.bool false] from rfl, toList_madeCells_one] at this; simpa [Bl] using this
  clear hown hgrow hi hz0 hz1 hz2
  go_enter Try.func17, Try.ntmps17
  go_wp2
  clear hrun
  go_loopw [4] (fun i wr => ∃ k : Nat, k ≤ l.length ∧ i = .int .i64 k ∧ wr.ownsRow w.heap.size 4 1 (.slice (some ⟨w.heap.size, 0, none⟩) l.length l.length) l.length (Bl (l.take k) ++ List.replicate (l.length - k) (.bool false)) ∧ Below w.heap.size w wr) (fun i _ => l.length - (intOf i).toNat)
  case atStart => exact ⟨0, Nat.zero_le _, rfl, hown0, hbel⟩
  case round =>
    obtain ⟨k, hk, rfl, hown, hb⟩ := hrel
    clear hown0 hbel
    by_cases hlt : k < l.length
    · obtain ⟨b, off, rfl, hcell⟩ := (hr.below hb) k hlt
      have hfz := hown.frozenAt k
      have hat : wr.cell? ⟨w.heap.size, k, none⟩ = some (.bool false) := by rw [hown.cellAt k (by omega)]; exact midB_get l k _ hlt
      go_wp2
      have hst := hown.stored k (.bool l[k])
      rw [midB_set l k _ hlt] at hst
      go_roundw
      case rel => exact ⟨k + 1, by omega, by go_num, hst.1, hb.setCell (Nat.le_refl _) _⟩
      case measure => simp [intOf]; omega
    · go_wp2
      go_ret
      have hkl : k = l.length := by omega
      subst hkl
      exact ⟨rfl, by simpa using hown, hb⟩
set_option maxHeartbeats 400000 in
set_option maxRecDepth 100000 in
theorem eqBoolS (a b : Option Addr) (ca cb : Nat) (l : List Bool) (w : World) (hl : l.length ≤ 1048576) (hr : RdK w a l) (hs : RdK w b l) :
    Calls Try.prog 19 #[.slice a l.length ca, .slice b l.length cb] w fun e w' => e = .returned (.bool true) ∧ ∃ n, w' = w.drewN n := by
  go_enter Try.func19, Try.ntmps19
  go_wp2
  go_loopw [5] (fun i wr => ∃ k : Nat, k ≤ l.length ∧ i = .int .i64 k ∧ ∃ n, wr = w.drewN n) (fun i _ => l.length - (intOf i).toNat)
  case atStart => exact ⟨0, Nat.zero_le _, rfl, 0, rfl⟩
  case round =>
    obtain ⟨k, hk, rfl, n, rfl⟩ := hrel
    by_cases hlt : k < l.length
    · obtain ⟨b1, o1, rfl, hc1⟩ := hr k hlt
      obtain ⟨b2, o2, rfl, hc2⟩ := hs k hlt
      generalize l[k] = y at hc1 hc2
      go_wp2
      go_quiet (fail)
      go_wp2
      go_roundw
      case rel => exact ⟨k + 1, by omega, by go_num, n + nq, by simp⟩
      case measure => simp [intOf]; omega
    · go_wp2
      go_ret
      exact ⟨rfl, n, rfl⟩
set_option maxHeartbeats 400000 in
set_option maxRecDepth 100000 in
theorem markBoolS (base g cap n k0 : Nat) (xs : List Value) (w : World) (hn : n ≤ 1073741824) (hk0 : k0 ≤ 1073741824)
    (ho : w.ownsRow base 4 1 (.slice (some ⟨g, 0, none⟩) n cap) n xs) :
    Calls Try.prog 20 #[.slice (some ⟨g, 0, none⟩) n cap, .int .i64 (k0 : Int)] w fun e w' => e = .returned (.int .i64 ((k0 : Int) + (n : Int))) ∧ w.grownBy w' (some g) := by
  go_enter Try.func20, Try.ntmps20
  go_wp2
  go_loopw [1, 5] (fun q i wr => ∃ (j : Nat) (ys : List Value), j ≤ n ∧ i = .int .i64 j ∧ q = .int .i64 ((k0 : Int) + (j : Int)) ∧ wr.ownsRow base 4 1 (.slice (some ⟨g, 0, none⟩) n cap) n ys ∧ w.grownBy wr (some g)) (fun _ i _ => n - (intOf i).toNat)
  case atStart => exact ⟨0, xs, Nat.zero_le _, rfl, by go_num, ho, World.grownBy.refl _ _⟩
  case round =>
    obtain ⟨j, ys, hj, rfl, rfl, hown, hgr⟩ := hrel
    by_cases hlt : j < n
    · have hfz := hown.frozenAt j
      have hyl : ys.length = n := by have := hown.1; omega
      have hat : wr.cell? ⟨g, j, none⟩ = some (ys[j]'(by omega)) := by rw [hown.cellAt j (by omega)]; exact List.getElem?_eq_getElem _
      go_wp2
      all_goals
        go_roundw
        case rel => exact ⟨j + 1, _, by omega, by go_num, by go_num, (hown.stored j _).1, grownBy_trans hgr (hown.stored j _).2⟩
        case measure => simp [intOf]; omega
    · go_wp2
      go_ret
      have hjn : j = n := by omega
      subst hjn
      exact ⟨rfl, hgr⟩
end Go.Proofs.Ytmappmboedpgmaq.Wk
