/- What GetNum of the specification comes to: getNum of the bytes; the world stays. -/
import Derived.Test.YtpejeoekpejbladBy
namespace Go.Proofs.Ytpejeoekpejblad.Wk
set_option linter.unusedVariables false
open Go.ChangeShapes Go.WideShapes Go.ChangeAt Go.RowKit

set_option maxHeartbeats 400000 in
set_option maxRecDepth 100000 in
theorem specGetNum_out (a : Option Addr) (cap : Nat) (l : List UInt8) (p : Int) (w : World) (hl : l.length ≤ 1048576) (hp : ¬ (0 ≤ p ∧ p < l.length)) :
    Calls Try.prog 35 #[.slice a l.length cap, .int .i64 p] w fun e w' => e = .returned (numV (Mt.getNum l p)) ∧ w' = w := by
  rw [Mt.getNum_out l p hp]
  rcases (show p < 0 ∨ (0 ≤ p ∧ (l.length : Int) ≤ p) from by omega) with h | ⟨h0, h⟩
  · go_enter Try.func35, Try.ntmps35
    go_wp2
    go_loop [7, 8] (fun _ k => k = .int .i64 0) (fun _ _ => 0)
    case atStart => rfl
    case round =>
      subst hrel
      go_wp2
      go_ret3
      exact ⟨rfl, rfl⟩
  · go_enter Try.func35, Try.ntmps35
    go_wp2
    go_loop [7, 8] (fun _ k => k = .int .i64 0) (fun _ _ => 0)
    case atStart => rfl
    case round =>
      subst hrel
      go_wp2
      go_ret3
      exact ⟨rfl, rfl⟩

set_option maxHeartbeats 1000000 in
set_option maxRecDepth 100000 in
theorem specGetNum_in (a : Option Addr) (cap : Nat) (l : List UInt8) (p : Nat) (w : World) (hl : l.length ≤ 1048576) (hr : RdA w a l) (hp : p < l.length) :
    Calls Try.prog 35 #[.slice a l.length cap, .int .i64 (p : Int)] w fun e w' => e = .returned (numV (Mt.getNum l p)) ∧ w' = w := by
  have HG : Hid (Mt.getNum l p = (Mt.getGo 5 0 0 (l.drop p)).map fun x => (x.1, p + x.2)) := Mt.getNum_in l p hp
  generalize Mt.getNum l p = G at HG
  go_enter Try.func35, Try.ntmps35
  go_wp2
  go_loop [7, 8] (fun x i => ∃ k n : Nat, k ≤ 5 ∧ i = .int .i64 k ∧ x = .int .i64 n ∧ n < 2 ^ (7 * k) ∧ Hid (G = (Mt.getGo (5 - k) k n (l.drop (p + k))).map fun x => (x.1, p + x.2))) (fun _ i => 5 - (intOf i).toNat)
  case atStart => exact ⟨0, 0, Nat.zero_le _, rfl, rfl, by decide, HG⟩
  case round =>
    obtain ⟨k, n, hk, rfl, rfl, hn, HK⟩ := hrel
    clear HG
    by_cases hk5 : k < 5
    · by_cases hpk : p + k < l.length
      · obtain ⟨b, off, rfl, hcell⟩ := hr (p + k) hpk
        have hcl : l[p + k].toNat < 256 := l[p + k].toNat_lt
        obtain ⟨f, hf⟩ : ∃ f, 5 - k = f + 1 := ⟨4 - k, by omega⟩
        have HA : Hid (128 ≤ l[p + k].toNat → G = (Mt.getGo (5 - (k + 1)) (k + 1) (n + l[p + k].toNat % 128 * 128 ^ k) (l.drop (p + (k + 1)))).map fun x => (x.1, p + x.2)) := fun h => by
          rw [HK.out, hf, Mt.getGo_more f k n l (p + k) hpk h, show 5 - (k + 1) = f from by omega]; rfl
        have HB : Hid (l[p + k].toNat < 128 → ((0 < k ∧ l[p + k].toNat = 0) ∨ 1000000000 < n + l[p + k].toNat % 128 * 128 ^ k) → G = none) := fun h h' => by
          rw [HK.out, hf, Mt.getGo_bad f k n l (p + k) hpk h h']; rfl
        have HC : Hid (l[p + k].toNat < 128 → ¬ ((0 < k ∧ l[p + k].toNat = 0) ∨ 1000000000 < n + l[p + k].toNat % 128 * 128 ^ k) → G = some (n + l[p + k].toNat % 128 * 128 ^ k, p + (k + 1))) := fun h h' => by
          rw [HK.out, hf, Mt.getGo_good f k n l (p + k) hpk h h']; rfl
        have hE := Mt.group_i64 n l[p + k].toNat k hk5 hn hcl
        have hM1 := Mt.step_lt n l[p + k].toNat k hn
        have hM2 := Mt.pow35 (k + 1) (by omega)
        clear HK hf
        generalize l[p + k].toNat = c at hcell hcl HA HB HC hE hM1
        generalize n + c % 128 * 128 ^ k = M at HA HB HC hE hM1
        have hM : M < 34359738368 := by omega
        have HM1 : Hid (M < 2 ^ (7 * (k + 1))) := hM1
        clear hM1 hM2
        by_cases hc : 128 ≤ c
        · go_wp2
          go_round
          case rel => exact ⟨k + 1, M, by omega, by go_num, rfl, HM1.out, HA.out hc⟩
          case measure => simp [intOf]; omega
        · by_cases hbad : (0 < k ∧ c = 0) ∨ 1000000000 < M
          · have hG := HB.out (by omega) hbad
            subst hG
            clear HA HB HC
            rcases (show (0 < k ∧ c ≤ 0) ∨ (0 < k ∧ 0 < c ∧ 1000000000 < M) ∨ (¬ 0 < k ∧ 1000000000 < M) from by omega) with ⟨hk0, hc0⟩ | ⟨hk0, hc0, hM9⟩ | ⟨hk0, hM9⟩
            · have hce : c = 0 := by omega
              subst hce
              clear hbad
              go_wp2
              go_ret3
              exact ⟨rfl, rfl⟩
            · have hc1 : ((c : Int) == 0) = false := by simp; omega
              clear hbad
              go_wp2
              go_ret3
              exact ⟨rfl, rfl⟩
            · clear hbad
              go_wp2
              go_ret3
              exact ⟨rfl, rfl⟩
          · have hG := HC.out (by omega) hbad
            subst hG
            clear HA HB HC
            by_cases hk0 : 0 < k
            · have hc0 : ((c : Int) == 0) = false := by simp; omega
              have hM9 : M ≤ 1000000000 := by omega
              clear hbad
              go_wp2
              go_ret3
              exact ⟨ret_num rfl (by omega), rfl⟩
            · have hM9 : M ≤ 1000000000 := by omega
              clear hbad
              go_wp2
              go_ret3
              exact ⟨ret_num rfl (by omega), rfl⟩
      · have HN : Hid (G = none) := by
          rw [HK.out, List.drop_of_length_le (by omega), Mt.getGo_nil]; rfl
        have hG := HN.out
        subst hG
        go_wp2
        go_ret3
        exact ⟨rfl, rfl⟩
    · have hk' : k = 5 := by omega
      subst hk'
      have HN : Hid (G = none) := by rw [HK.out, Mt.getGo_zero]; rfl
      have hG := HN.out
      subst hG
      go_wp2
      go_ret3
      exact ⟨rfl, rfl⟩
theorem specGetNum (a : Option Addr) (cap : Nat) (l : List UInt8) (p : Int) (w : World) (hl : l.length ≤ 1048576) (hr : RdA w a l) :
    Calls Try.prog 35 #[.slice a l.length cap, .int .i64 p] w fun e w' => e = .returned (numV (Mt.getNum l p)) ∧ w' = w := by
  by_cases hp : 0 ≤ p ∧ p < l.length
  · obtain ⟨n, rfl⟩ := Int.eq_ofNat_of_zero_le hp.1
    exact specGetNum_in a cap l n w hl hr (by omega)
  · exact specGetNum_out a cap l p w hl hp
end Go.Proofs.Ytpejeoekpejblad.Wk
