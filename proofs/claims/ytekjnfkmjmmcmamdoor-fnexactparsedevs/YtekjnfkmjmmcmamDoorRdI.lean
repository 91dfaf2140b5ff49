/- What readNumber of the program comes to. -/
import Derived.Test.YtekjnfkmjmmcmamDoorRdB
namespace Go.Proofs.YtekjnfkmjmmcmamDoor.Wk
set_option linter.unusedVariables false
open Go.ChangeShapes Go.WideShapes Go.ChangeAt Go.RowKit

set_option maxHeartbeats 1000000 in
set_option maxRecDepth 100000 in
theorem readNum (s : ByteArray) (m : Nat) (w : World) (hm : m ≤ 1000000000) (hs : s.size ≤ 1048576) :
    Calls Tryd.prog 41 #[.string s, .int .i64 (m : Int)] w fun e w' => e = .returned (rdV (Sm.rd m s.data.toList)) ∧ w' = w := by
  have hlen : s.data.toList.length = s.size := by simp
  obtain ⟨G, hG⟩ : ∃ G, Sm.rd m s.data.toList = G := ⟨_, rfl⟩
  have HG : Hid (Sm.rd m s.data.toList = G) := hG
  rw [hG]
  clear hG
  by_cases h0 : s.size = 0
  · have hE : s = ByteArray.empty := by
      apply ByteArray.ext
      apply Array.eq_empty_of_size_eq_zero
      exact h0
    subst hE
    have hn : G = none := by rw [← HG.out]; exact rd_no (fun h => by have := Sm.isNum_pos h.1; simp at this)
    subst hn
    clear HG hlen h0
    go_enter Tryd.func41, Tryd.ntmps41
    go_wp2
    go_ret2
    exact ⟨rfl, rfl⟩
  · have hemp : s.toList.isEmpty = false := by
      rw [ByteArray.toList_eq]
      cases hl : s.data.toList with
      | nil => rw [hl] at hlen; simp at hlen; omega
      | cons c r => rfl
    have hpos : 0 < s.size := by omega
    have HH := head_get s hpos
    by_cases hz : 1 < s.size ∧ s[0].toNat = 48
    · obtain ⟨h1, hz⟩ := hz
      have hn : G = none := by
        rw [← HG.out]
        refine rd_no (fun h => Sm.isNum_head h.1 (by omega) ?_)
        rw [HH, show s[0] = 48 from UInt8.toNat_inj.1 (by rw [hz]; rfl)]
      subst hn
      clear HG HH hlen
      have hzb : ((s[0].toNat : Int) == 48) = true := by simp [hz]
      go_enter Tryd.func41, Tryd.ntmps41
      go_wp2
      go_ret2
      exact ⟨rfl, rfl⟩
    · have HN : Hid (1 < s.data.toList.length → s.data.toList.head? ≠ some 48) := by
        intro h1 e
        rw [HH] at e
        refine hz ⟨by omega, ?_⟩
        rw [Option.some.inj e]; rfl
      have hzb : 1 < s.size → ((s[0].toNat : Int) == 48) = false := by
        intro h1
        have : ¬ s[0].toNat = 48 := fun e => hz ⟨h1, e⟩
        simp; omega
      clear HH hz
      by_cases h1 : 1 < s.size
      all_goals
        first | (have hzc := hzb h1; clear hzb) | clear hzb
        go_enter Tryd.func41, Tryd.ntmps41
        go_wp2
        go_loop [6, 7, 22] (fun n i j => ∃ k : Nat, k ≤ s.size ∧ j = .int .i64 k ∧ n = .int .i64 (Sm.val (s.data.toList.take k) : Int) ∧ Sm.val (s.data.toList.take k) ≤ m ∧ Hid (∀ c ∈ s.data.toList.take k, 48 ≤ c.toNat ∧ c.toNat ≤ 57)) (fun _ _ j => s.size - (intOf j).toNat)
        case atStart => exact ⟨0, Nat.zero_le _, rfl, rfl, Nat.zero_le _, fun c hc => by simp at hc⟩
        case round =>
          obtain ⟨k, hk, rfl, rfl, hv, HD⟩ := hrel
          by_cases hlt : k < s.size
          · have HS : Hid (Sm.val (s.data.toList.take (k + 1)) = Sm.val (s.data.toList.take k) * 10 + (s[k].toNat - 48)) := by
              show _ = _
              rw [take_snoc s k hlt, Sm.val_snoc]
            have HT : Hid (Sm.val (s.data.toList.take (k + 1)) ≤ Sm.val s.data.toList) := Sm.val_take _ _
            have HM : Hid (s[k] ∈ s.data.toList) := mem_get s k hlt
            have HE : Hid (48 ≤ s[k].toNat ∧ s[k].toNat ≤ 57 → ∀ c ∈ s.data.toList.take (k + 1), 48 ≤ c.toNat ∧ c.toNat ≤ 57) := by
              intro hc c hx
              rw [take_snoc s k hlt] at hx
              rcases List.mem_append.1 hx with hx | hx
              · exact HD.out c hx
              · rw [List.mem_singleton] at hx; rw [hx]; exact hc
            have hcl : s[k].toNat < 256 := s[k].toNat_lt
            by_cases hc : 48 ≤ s[k].toNat ∧ s[k].toNat ≤ 57
            · obtain ⟨hc0, hc1⟩ := hc
              by_cases hov : Sm.val (s.data.toList.take k) * 10 + (s[k].toNat - 48) ≤ m
              · have HV : Hid (Sm.val (s.data.toList.take (k + 1)) ≤ m) := by show _ ≤ _; rw [HS.out]; exact hov
                have HX := HE.out ⟨hc0, hc1⟩
                have HX' : Hid (∀ c ∈ s.data.toList.take (k + 1), 48 ≤ c.toNat ∧ c.toNat ≤ 57) := HX
                clear HX HE HT HM
                go_wp2
                go_round
                case rel => exact ⟨k + 1, by omega, by go_num, int_eq (by rw [HS.out]; omega), HV.out, HX'⟩
                case measure => simp [intOf]; omega
              · have hn : G = none := by
                  rw [← HG.out]
                  refine rd_no (fun h => hov ?_)
                  rw [← HS.out]; exact Nat.le_trans HT.out h.2
                subst hn
                clear HG HE HT HM HS HD HN
                go_wp2
                go_ret2
                exact ⟨rfl, rfl⟩
            · have hn : G = none := by
                rw [← HG.out]
                exact rd_no (fun h => hc (Sm.isNum_digits h.1 _ HM.out))
              subst hn
              have hc2 : s[k].toNat < 48 ∨ (48 ≤ s[k].toNat ∧ 57 < s[k].toNat) := by omega
              clear HG HE HT HM HS HD HN hc
              rcases hc2 with hc2 | ⟨hc2, hc3⟩
              · go_wp2
                go_ret2
                exact ⟨rfl, rfl⟩
              · go_wp2
                go_ret2
                exact ⟨rfl, rfl⟩
          · have hkl : s.data.toList.take k = s.data.toList := List.take_of_length_le (by omega)
            have hn : G = some (Sm.val (s.data.toList.take k)) := by
              rw [← HG.out, hkl]
              rw [hkl] at hv
              have hd := HD.out
              rw [hkl] at hd
              exact rd_yes (num_mk (by omega) HN.out hd) hv
            subst hn
            clear HG HD HN hkl
            go_wp2
            go_ret2
            exact ⟨rfl, rfl⟩
end Go.Proofs.YtekjnfkmjmmcmamDoor.Wk
