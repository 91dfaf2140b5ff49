/- What NameOk of the specification comes to. -/
import Derived.Test.YtmappmboedpgmaqNmM
import Derived.Sort.AtCall
namespace Go.Proofs.Ytmappmboedpgmaq.Wk
set_option linter.unusedVariables false
open Go.ChangeShapes Go.WideShapes Go.ChangeAt Go.RowKit

theorem retB {a b : Bool} (h : a = b) : Ending.returned (.bool a) = .returned (.bool b) := by rw [h]
set_option maxHeartbeats 400000 in
set_option maxRecDepth 100000 in
theorem nmIn (x a b : Int) (B : Bool) (hB : (decide (a ≤ x) && decide (x ≤ b)) = B) (w : World) :
    Calls Try.prog 47 #[.int .i64 x, .int .i64 a, .int .i64 b] w fun e w' => e = .returned (.bool B) ∧ w' = w := by
  subst hB
  go_enter Try.func47, Try.ntmps47
  by_cases h : a ≤ x
  · go_wp2
    go_ret
    exact ⟨retB (by simp [h]), rfl⟩
  · go_wp2
    go_ret
    exact ⟨retB (by simp; omega), rfl⟩

set_option maxHeartbeats 1000000 in
set_option maxRecDepth 100000 in
theorem specName (s : ByteArray) (w : World) (hs : s.size ≤ 1048576) :
    Calls Try.prog 52 #[.string s] w fun e w' => e = .returned (.bool (Nm.name s.data.toList)) ∧ w' = w := by
  obtain ⟨K, hK⟩ : ∃ K, Nm.name s.data.toList = K := ⟨_, rfl⟩
  have HK : Hid (Nm.name s.data.toList = K) := hK
  rw [hK]
  clear hK
  go_enter Try.func52, Try.ntmps52
  go_wp2
  go_loop [3] (fun i => ∃ k : Nat, k ≤ s.size ∧ i = .int .i64 k ∧ Hid (Nm.signs (s.data.toList.take k) = true)) (fun i => s.size - (intOf i).toNat)
  case atStart => exact ⟨0, Nat.zero_le _, rfl, rfl⟩
  case round =>
    obtain ⟨k, hk, rfl, HS⟩ := hrel
    by_cases hlt : k < s.size
    · have hw : wrap64 (s[k].toNat : Int) = (s[k].toNat : Int) := Mt.wrap64_id _ (by omega) (by have := s[k].toNat_lt; omega)
      have HT : Hid (Nm.signs (s.data.toList.take (k + 1)) = Nm.sign (s[k].toNat : Int)) := by
        show Nm.signs _ = _
        rw [Nm.signs_take hlt, HS.out, Bool.true_and]
      have HF : Hid (Nm.sign (s[k].toNat : Int) = false → K = false) := fun h => HK.out ▸ Nm.signs_no hlt h
      clear HS
      rcases Nm.sign_cases (s[k].toNat : Int) with ⟨hA, hX⟩ | ⟨hA, hD, hX⟩ | ⟨hA, hD, hX⟩
      · have cA := nmIn _ _ _ _ hA
        rw [hX] at HT
        clear hA hX HF HK
        go_wp2_with (go_at_call 47; refine (cA _).mono ?_; rintro e w1 ⟨rfl, rfl⟩)
        go_round
        case rel => exact ⟨k + 1, by omega, by go_num, HT⟩
        case measure => simp [intOf]; omega
      · have cA := nmIn _ _ _ _ hA
        have cD := nmIn _ _ _ _ hD
        rw [hX] at HT
        clear hA hD hX HF HK
        go_wp2_with (first | (go_at_call_has 47 (Value.int .i64 97); refine (cA _).mono ?_; rintro e w1 ⟨rfl, rfl⟩) | (go_at_call_has 47 (Value.int .i64 48); refine (cD _).mono ?_; rintro e w1 ⟨rfl, rfl⟩))
        go_round
        case rel => exact ⟨k + 1, by omega, by go_num, HT⟩
        case measure => simp [intOf]; omega
      · have cA := nmIn _ _ _ _ hA
        have cD := nmIn _ _ _ _ hD
        have HX : Nm.Mark (s[k].toNat : Int) (Nm.sign (s[k].toNat : Int)) := hX
        clear hA hD hX
        go_wp2_with (first | (go_at_call_has 47 (Value.int .i64 97); refine (cA _).mono ?_; rintro e w1 ⟨rfl, rfl⟩) | (go_at_call_has 47 (Value.int .i64 48); refine (cD _).mono ?_; rintro e w1 ⟨rfl, rfl⟩))
        · go_round
          case rel => exact ⟨k + 1, by omega, by go_num, HT.out.trans (HX.yes (.inl ‹_›))⟩
          case measure => simp [intOf]; omega
        · go_round
          case rel => exact ⟨k + 1, by omega, by go_num, HT.out.trans (HX.yes (.inr (.inl ‹_›)))⟩
          case measure => simp [intOf]; omega
        · go_ret
          exact ⟨retB (HF.out (HX.no ‹_›)).symm, rfl⟩
        · go_round
          case rel => exact ⟨k + 1, by omega, by go_num, HT.out.trans (HX.yes (.inr (.inr ‹_›)))⟩
          case measure => simp [intOf]; omega
    · have HN := Nm.name_all hlt HS.out
      rw [HK.out] at HN
      have cl := fun w => nmIn (s.size : Int) 1 20 K (by rw [HN, Bool.eq_iff_iff]; simp; omega) w
      clear HN
      go_wp2_with (go_at_call 47; refine (cl _).mono ?_; rintro e w1 ⟨rfl, rfl⟩)
      go_ret
      exact ⟨rfl, rfl⟩
end Go.Proofs.Ytmappmboedpgmaq.Wk
