/- What hasBit, turnBit of the program and bytes.Equal come to. -/
import Derived.Test.YtmappmboedpgmaqRtM
import Derived.Test.YtmappmboedpgmaqDlS
import Derived.BigRegion
namespace Go.Proofs.Ytmappmboedpgmaq.Wk
set_option linter.unusedVariables false
open Go.ChangeShapes Go.WideShapes Go.ChangeAt Go.RowKit

set_option maxHeartbeats 400000 in
set_option maxRecDepth 100000 in
theorem implHas (a : Option Addr) (L c : Nat) (n : Int) (w : World) (hL : L ≤ 1048576) (hn0 : -9223372036854775808 ≤ n) (hn1 : n ≤ 9223372036854775807) :
    Calls Try.prog 48 #[.slice a L c, .int .i64 n] w fun e w' => e = .returned (.bool (decide (0 ≤ n ∧ n.toNat / 8 < L))) ∧ ∃ m, w' = w.drewN m := by
  by_cases h : 0 ≤ n
  · obtain ⟨N, rfl⟩ := Int.eq_ofNat_of_zero_le h
    have hqt : ((N : Int).tdiv 8) = ((N / 8 : Nat) : Int) := by rw [Int.tdiv_eq_ediv_of_nonneg (by omega)]; omega
    have e0 : ((N : Int)).toNat = N := Int.toNat_natCast N
    rw [e0]
    by_cases h' : N / 8 < L
    · rw [decide_eq_true ⟨h, h'⟩]
      go_enter Try.func48, Try.ntmps48
      go_wp2
      go_ret
      exact ⟨by simp; omega, 0, rfl⟩
    · rw [decide_eq_false (fun x => h' x.2)]
      go_enter Try.func48, Try.ntmps48
      go_wp2
      go_ret
      exact ⟨by simp; omega, 0, rfl⟩
  · rw [decide_eq_false (fun x => h x.1)]
    go_enter Try.func48, Try.ntmps48
    go_wp2
    go_ret
    exact ⟨by simp; try omega, 0, rfl⟩

set_option maxHeartbeats 2000000 in
set_option maxRecDepth 100000 in
theorem implTurn (g c L N : Nat) (b : UInt8) (w : World) (hL : L ≤ 1048576) (hN : N / 8 < L) (hn1 : (N : Int) ≤ 9223372036854775807)
    (hc : w.cell? ⟨g, N / 8, none⟩ = some (.int .u8 (b.toNat : Int))) (hf : w.frozen? ⟨g, N / 8, none⟩ = false) :
    Calls Try.prog 50 #[.slice (some ⟨g, 0, none⟩) L c, .int .i64 (N : Int)] w fun e w' => e = .returned (.tuple #[]) ∧ ∃ n, w' = (w.setCell ⟨g, N / 8, none⟩ (.int .u8 ((tbN b N).toNat : Int))).drewN n := by
  have hqt : ((N : Int).tdiv 8) = ((N / 8 : Nat) : Int) := by rw [Int.tdiv_eq_ediv_of_nonneg (by omega)]; omega
  have hmt : ((N : Int).tmod 8) = ((N % 8 : Nat) : Int) := by rw [Int.tmod_eq_emod_of_nonneg (by omega)]; omega
  go_enter Try.func50, Try.ntmps50
  go_region
  rw [tbN_m]
  exact bodyPost_end (v := .tuple #[]) (by simp [results, Try.results50, go_sem]) rfl ⟨rfl, 1, rfl⟩

set_option maxHeartbeats 1000000 in
set_option maxRecDepth 100000 in
theorem implEqual (a1 a2 : Option Addr) (c1 c2 : Nat) (p q : List UInt8) (w : World) (n1 : a1 = none → c1 = 0) (n2 : a2 = none → c2 = 0) (r1 : RdA w a1 p) (r2 : RdA w a2 q) :
    Calls Try.prog 49 #[.slice a1 p.length c1, .slice a2 q.length c2] w fun e w' => e = .returned (.bool (decide (p = q))) ∧ ∃ n, w' = w.drewN n := by
  have hcv1 := convTx a1 c1 p n1 w r1
  have hcv2 := convTx a2 c2 q n2 w r2
  by_cases h : p = q
  · subst h
    rw [decide_eq_true rfl]
    go_enter Try.func49, Try.ntmps49
    go_wp2
    go_ret
    exact ⟨by simp, 0, rfl⟩
  · rw [decide_eq_false h]
    have hbe := bytes_ne (a := ⟨p.toArray⟩) (b := ⟨q.toArray⟩) (fun e => h (by simpa using e))
    generalize (⟨p.toArray⟩ : ByteArray) = S1 at hcv1 hbe
    generalize (⟨q.toArray⟩ : ByteArray) = S2 at hcv2 hbe
    go_enter Try.func49, Try.ntmps49
    go_wp2
    go_ret
    exact ⟨by simp, 0, rfl⟩
end Go.Proofs.Ytmappmboedpgmaq.Wk
