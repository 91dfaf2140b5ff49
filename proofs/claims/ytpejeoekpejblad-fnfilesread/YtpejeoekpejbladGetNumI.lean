/- What GetNum of the program comes to: getNum of the bytes; the world stays. -/
import Derived.Test.YtpejeoekpejbladBy
namespace Go.Proofs.Ytpejeoekpejblad.Wk
set_option linter.unusedVariables false
open Go.ChangeShapes Go.WideShapes Go.ChangeAt Go.RowKit

set_option maxHeartbeats 400000 in
set_option maxRecDepth 100000 in
theorem implGetNum_out (a : Option Addr) (cap : Nat) (l : List UInt8) (p : Int) (w : World) (hl : l.length ≤ 1048576) (hp : ¬ (0 ≤ p ∧ p < l.length)) :
    Calls Try.prog 52 #[.slice a l.length cap, .int .i64 p] w fun e w' => e = .returned (numV (Mt.getNum l p)) ∧ w' = w := by
  rw [Mt.getNum_out l p hp]
  rcases (show p < 0 ∨ (0 ≤ p ∧ (l.length : Int) ≤ p) from by omega) with h | ⟨h0, h⟩
  · go_enter Try.func52, Try.ntmps52
    go_wp2
    go_ret3
    exact ⟨rfl, rfl⟩
  · go_enter Try.func52, Try.ntmps52
    go_wp2
    go_ret3
    exact ⟨rfl, rfl⟩

set_option maxHeartbeats 1000000 in
set_option maxRecDepth 100000 in
theorem implGetNum_in (a : Option Addr) (cap : Nat) (l : List UInt8) (p : Nat) (w : World) (hl : l.length ≤ 1048576) (hcap : l.length ≤ cap) (hcm : cap ≤ maxLen) (hr : RdA w a l) (hp : p < l.length) :
    Calls Try.prog 52 #[.slice a l.length cap, .int .i64 (p : Int)] w fun e w' => e = .returned (numV (Mt.getNum l p)) ∧ w' = w := by
  have HG : Hid (Mt.getNum l p = (Mt.getGo 5 0 0 (l.drop p)).map fun x => (x.1, p + x.2)) := Mt.getNum_in l p hp
  generalize Mt.getNum l p = G at HG
  obtain ⟨b, off, rfl, -⟩ := hr p hp
  unfold maxLen at hcm
  go_enter Try.func52, Try.ntmps52
  by_cases hE : l.length ≤ p + 5
  all_goals
    go_wp2
    go_loop [8, 9, 31] (fun x y i => ∃ k n U : Nat, k ≤ 5 ∧ p + k ≤ l.length ∧ x = .int .i64 n ∧ y = .int .i64 U ∧ i = .int .i64 k ∧ n < 2 ^ (7 * k) ∧ U ≤ 34359738368 ∧ Hid (U = 128 ^ k) ∧ Hid (G = (Mt.getGo (5 - k) k n (l.drop (p + k))).map fun x => (x.1, p + x.2))) (fun _ _ i => 5 - (intOf i).toNat)
    case atStart => exact ⟨0, 0, 1, Nat.zero_le _, by omega, rfl, rfl, rfl, by decide, by decide, rfl, HG⟩
    case round =>
      obtain ⟨k, n, U, hk, hpl, rfl, rfl, rfl, hn, hU, HU, HK⟩ := hrel
      by_cases hk5 : k < 5 ∧ p + k < l.length
      · obtain ⟨hk5, hpk⟩ := hk5
        obtain ⟨b', off', hbo, hcell⟩ := hr (p + k) hpk
        simp only [Option.some.injEq, Addr.mk.injEq, and_true] at hbo
        obtain ⟨rfl, rfl⟩ := hbo
        rw [show off + (p + k) = off + p + k from by omega] at hcell
        have hcl : l[p + k].toNat < 256 := l[p + k].toNat_lt
        obtain ⟨f, hf⟩ : ∃ f, 5 - k = f + 1 := ⟨4 - k, by omega⟩
        have HA : Hid (128 ≤ l[p + k].toNat → G = (Mt.getGo (5 - (k + 1)) (k + 1) (n + l[p + k].toNat % 128 * U) (l.drop (p + (k + 1)))).map fun x => (x.1, p + x.2)) := fun h => by
          rw [HK.out, hf, Mt.getGo_more f k n l (p + k) hpk h, show 5 - (k + 1) = f from by omega, HU.out]; rfl
        have HB : Hid (l[p + k].toNat < 128 → ((0 < k ∧ l[p + k].toNat = 0) ∨ 1000000000 < n + l[p + k].toNat % 128 * U) → G = none) := fun h h' => by
          rw [HU.out] at h'; rw [HK.out, hf, Mt.getGo_bad f k n l (p + k) hpk h h']; rfl
        have HC : Hid (l[p + k].toNat < 128 → ¬ ((0 < k ∧ l[p + k].toNat = 0) ∨ 1000000000 < n + l[p + k].toNat % 128 * U) → G = some (n + l[p + k].toNat % 128 * U, p + (k + 1))) := fun h h' => by
          rw [HU.out] at h' ⊢; rw [HK.out, hf, Mt.getGo_good f k n l (p + k) hpk h h']; rfl
        have HM1 : Hid (n + l[p + k].toNat % 128 * U < 2 ^ (7 * (k + 1))) := by have := Mt.step_lt n l[p + k].toNat k hn; rw [← HU.out] at this; exact this
        have hn35 : n < 34359738368 := Nat.lt_of_lt_of_le hn (Mt.pow35 k hk)
        have hU4 : U ≤ 268435456 := by
          have : (128 : Nat) ^ k ≤ 128 ^ 4 := Nat.pow_le_pow_right (by decide) (by omega)
          rw [HU.out]; exact this
        have hV : l[p + k].toNat % 128 * U ≤ 34091302912 := Nat.le_trans (Nat.mul_le_mul (show l[p + k].toNat % 128 ≤ 127 from by omega) hU4) (by decide)
        have hE1 : wrap64 ((l[p + k].toNat : Int) % 128 * (U : Int)) = ((l[p + k].toNat % 128 * U : Nat) : Int) := by
          rw [show ((l[p + k].toNat : Int) % 128 * (U : Int)) = ((l[p + k].toNat % 128 * U : Nat) : Int) from by rw [Int.natCast_mul]; rfl]
          exact Mt.wrap64_id _ (by omega) (by omega)
        have HU' : Hid (U * 128 = 128 ^ (k + 1)) := by rw [HU.out, Nat.pow_succ]; rfl
        have HN : Hid (n < 2 ^ (7 * k)) := hn
        clear HK hf HU hn
        generalize l[p + k].toNat = c at hcell hcl HA HB HC HM1 hV hE1
        generalize c % 128 * U = V at HA HB HC HM1 hV hE1
        by_cases hc : 128 ≤ c
        · go_wp2
          go_round
          case rel => exact ⟨k + 1, n + V, U * 128, by omega, by omega, by go_num, by go_num, by go_num, HM1.out, by omega, HU', HA.out hc⟩
          case measure => simp [intOf]; omega
        · by_cases hbad : (0 < k ∧ c = 0) ∨ 1000000000 < n + V
          · have hG := HB.out (by omega) hbad
            subst hG
            clear HA HB HC
            rcases (show (0 < k ∧ c = 0) ∨ (0 < k ∧ 0 < c ∧ 1000000000 < n + V) ∨ (¬ 0 < k ∧ 1000000000 < n + V) from by omega) with ⟨hk0, hc0⟩ | ⟨hk0, hc0, hM9⟩ | ⟨hk0, hM9⟩
            · have hg0 : (((c : Int) % 128) == 0) = true := by simp; omega
              clear hbad hc0
              go_wp2
              go_ret3
              exact ⟨rfl, rfl⟩
            · have hg0 : (((c : Int) % 128) == 0) = false := by simp; omega
              clear hbad
              go_wp2
              go_ret3
              exact ⟨rfl, rfl⟩
            · clear hbad
              go_wp2
              go_ret3
              exact ⟨rfl, rfl⟩
          · have hG := HC.out (by omega) hbad
            subst hG
            clear HA HB HC
            by_cases hk0 : 0 < k
            · have hg0 : (((c : Int) % 128) == 0) = false := by simp; omega
              have hM9 : n + V ≤ 1000000000 := by omega
              clear hbad
              go_wp2
              go_ret3
              exact ⟨ret_num (by omega) (by omega), rfl⟩
            · have hM9 : n + V ≤ 1000000000 := by omega
              clear hbad
              go_wp2
              go_ret3
              exact ⟨ret_num (by omega) (by omega), rfl⟩
      · have HN : Hid (G = none) := by
          rw [HK.out]
          by_cases h5 : k = 5
          · rw [h5, Mt.getGo_zero]; rfl
          · rw [List.drop_of_length_le (by omega), Mt.getGo_nil]; rfl
        have hG := HN.out
        subst hG
        have hout : ¬ (k < 5 ∧ p + k < l.length) := hk5
        clear hk5
        go_wp2
        go_ret3
        exact ⟨rfl, rfl⟩

theorem implGetNum (a : Option Addr) (cap : Nat) (l : List UInt8) (p : Int) (w : World) (hl : l.length ≤ 1048576) (hcap : l.length ≤ cap) (hcm : cap ≤ maxLen) (hr : RdA w a l) :
    Calls Try.prog 52 #[.slice a l.length cap, .int .i64 p] w fun e w' => e = .returned (numV (Mt.getNum l p)) ∧ w' = w := by
  by_cases hp : 0 ≤ p ∧ p < l.length
  · obtain ⟨n, rfl⟩ := Int.eq_ofNat_of_zero_le hp.1
    exact implGetNum_in a cap l n w hl hcap hcm hr (by omega)
  · exact implGetNum_out a cap l p w hl hp
end Go.Proofs.Ytpejeoekpejblad.Wk
