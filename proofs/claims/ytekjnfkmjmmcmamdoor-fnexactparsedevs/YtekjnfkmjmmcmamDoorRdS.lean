/- What l2Number of the specification comes to. -/
import Derived.Test.YtekjnfkmjmmcmamDoorRdB
import Derived.Test.YtekjnfkmjmmcmamDoorOkS
namespace Go.Proofs.YtekjnfkmjmmcmamDoor.Wk
set_option linter.unusedVariables false
open Go.ChangeShapes Go.WideShapes Go.ChangeAt Go.RowKit

theorem num_no {l : List UInt8} (h : ¬ (Sm.isNum l = true ∧ l.length ≤ 10)) : Sm.num10 l = -1 := by unfold Sm.num10; rw [if_neg h]
theorem num_yes {l : List UInt8} (h : Sm.isNum l = true) (hl : l.length ≤ 10) : Sm.num10 l = (Sm.val l : Int) := by unfold Sm.num10; rw [if_pos ⟨h, hl⟩]
theorem inB (x a b : Int) (B : Bool) (h : (decide (a ≤ x) && decide (x ≤ b)) = B) (w : World) :
    Calls Tryd.prog 25 #[.int .i64 x, .int .i64 a, .int .i64 b] w fun e w' => e = .returned (.bool B) ∧ w' = w := by
  have := specIn x a b w
  rw [h] at this
  exact this

set_option maxHeartbeats 1000000 in
set_option maxRecDepth 100000 in
theorem l2Num (s : ByteArray) (w : World) (hs : s.size ≤ 1048576) :
    Calls Tryd.prog 22 #[.string s] w fun e w' => e = .returned (.int .i64 (Sm.num10 s.data.toList)) ∧ w' = w := by
  have hlen : s.data.toList.length = s.size := by simp
  obtain ⟨G, hG⟩ : ∃ G, Sm.num10 s.data.toList = G := ⟨_, rfl⟩
  have HG : Hid (Sm.num10 s.data.toList = G) := hG
  rw [hG]
  clear hG
  by_cases h0 : 1 ≤ s.size ∧ s.size ≤ 10
  · obtain ⟨hpos, h10⟩ := h0
    have hp' : 0 < s.size := hpos
    have cl := fun w => inB (s.size : Int) 1 10 true (by simp; omega) w
    have HH := head_get s hp'
    by_cases hz : 1 < s.size ∧ s[0].toNat = 48
    · obtain ⟨h1, hz⟩ := hz
      have hn : G = -1 := by
        rw [← HG.out]
        refine num_no (fun h => Sm.isNum_head h.1 (by omega) ?_)
        rw [HH, show s[0] = 48 from UInt8.toNat_inj.1 (by rw [hz]; rfl)]
      subst hn
      clear HG HH hlen
      have hzb : ((s[0].toNat : Int) == 48) = true := by simp [hz]
      go_enter Tryd.func22, Tryd.ntmps22
      go_wp2_with (go_at_call 25; refine (cl _).mono ?_; rintro e w1 ⟨rfl, rfl⟩)
      go_ret
      exact ⟨rfl, rfl⟩
    · have HN : Hid (1 < s.data.toList.length → s.data.toList.head? ≠ some 48) := by
        intro h1 e
        rw [HH] at e
        refine hz ⟨by omega, ?_⟩
        rw [Option.some.inj e]; rfl
      have hzb : 1 < s.size → ((s[0].toNat : Int) == 48) = false := by
        intro h1
        have : ¬ s[0].toNat = 48 := fun e => hz ⟨h1, e⟩
        simp; omega
      clear HH hz
      by_cases h1 : 1 < s.size
      all_goals
        first | (have hzc := hzb h1; clear hzb) | clear hzb
        go_enter Tryd.func22, Tryd.ntmps22
        go_wp2_with (go_at_call 25; refine (cl _).mono ?_; rintro e w1 ⟨rfl, rfl⟩)
        go_loop [3, 4] (fun n j => ∃ k : Nat, k ≤ s.size ∧ j = .int .i64 k ∧ n = .int .i64 (Sm.val (s.data.toList.take k) : Int) ∧ Sm.val (s.data.toList.take k) < 10000000000 ∧ Hid (∀ c ∈ s.data.toList.take k, 48 ≤ c.toNat ∧ c.toNat ≤ 57)) (fun _ j => s.size - (intOf j).toNat)
        case atStart => exact ⟨0, Nat.zero_le _, rfl, rfl, (show (0 : Nat) < 10000000000 by decide), fun c hc => by simp at hc⟩
        case round =>
          obtain ⟨k, hk, rfl, rfl, hv, HD⟩ := hrel
          by_cases hlt : k < s.size
          · have HS : Hid (Sm.val (s.data.toList.take (k + 1)) = Sm.val (s.data.toList.take k) * 10 + (s[k].toNat - 48)) := by
              show _ = _
              rw [take_snoc s k hlt, Sm.val_snoc]
            have HM : Hid (s[k] ∈ s.data.toList) := mem_get s k hlt
            have HE : Hid (48 ≤ s[k].toNat ∧ s[k].toNat ≤ 57 → ∀ c ∈ s.data.toList.take (k + 1), 48 ≤ c.toNat ∧ c.toNat ≤ 57) := by
              intro hc c hx
              rw [take_snoc s k hlt] at hx
              rcases List.mem_append.1 hx with hx | hx
              · exact HD.out c hx
              · rw [List.mem_singleton] at hx; rw [hx]; exact hc
            have hcl : s[k].toNat < 256 := s[k].toNat_lt
            by_cases hc : 48 ≤ s[k].toNat ∧ s[k].toNat ≤ 57
            · obtain ⟨hc0, hc1⟩ := hc
              have HX' : Hid (∀ c ∈ s.data.toList.take (k + 1), 48 ≤ c.toNat ∧ c.toNat ≤ 57) := HE.out ⟨hc0, hc1⟩
              have HV : Hid (Sm.val (s.data.toList.take (k + 1)) < 10000000000) := val_ten _ HX'.out (by rw [List.length_take]; omega)
              have cd := fun w => inB (s[k].toNat : Int) 48 57 true (by simp; omega) w
              clear HE HM
              go_wp2_with (go_at_call 25; refine (cd _).mono ?_; rintro e w2 ⟨rfl, rfl⟩)
              go_round
              case rel => exact ⟨k + 1, by omega, by go_num, int_eq (by rw [HS.out]; omega), HV.out, HX'⟩
              case measure => simp [intOf]; omega
            · have hn : G = -1 := by
                rw [← HG.out]
                exact num_no (fun h => hc (Sm.isNum_digits h.1 _ HM.out))
              subst hn
              have cd := fun w => inB (s[k].toNat : Int) 48 57 false (by simp; omega) w
              clear HG HE HM HS HD HN hc
              go_wp2_with (go_at_call 25; refine (cd _).mono ?_; rintro e w2 ⟨rfl, rfl⟩)
              go_ret
              exact ⟨rfl, rfl⟩
          · have hkl : s.data.toList.take k = s.data.toList := List.take_of_length_le (by omega)
            have hn : G = (Sm.val (s.data.toList.take k) : Int) := by
              rw [← HG.out, hkl]
              have hd := HD.out
              rw [hkl] at hd
              exact num_yes (num_mk (by omega) HN.out hd) (by omega)
            subst hn
            clear HG HD HN hkl
            go_wp2
            go_ret
            exact ⟨rfl, rfl⟩
  · have hn : G = -1 := by
      rw [← HG.out]
      refine num_no (fun h => ?_)
      have := Sm.isNum_pos h.1
      omega
    subst hn
    have cl := fun w => inB (s.size : Int) 1 10 false (by simp; omega) w
    clear HG hlen
    go_enter Tryd.func22, Tryd.ntmps22
    go_wp2_with (go_at_call 25; refine (cl _).mono ?_; rintro e w1 ⟨rfl, rfl⟩)
    go_ret
    exact ⟨rfl, rfl⟩
end Go.Proofs.YtekjnfkmjmmcmamDoor.Wk
