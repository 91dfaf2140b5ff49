/- The text of three numbers reads as these numbers: plain facts. -/
import Derived.Test.YtekjnfkmjmmcmabDoorBackN
namespace Go.Proofs.YtekjnfkmjmmcmabDoor.Sm
open Go.RowKit

theorem dig_nat (d : Nat) (h : d < 10) : (UInt8.ofNat (48 + d)).toNat = 48 + d := by simp; omega
theorem dec_facts (v : Nat) : val (Lib.decDigits v) = v ∧ (∀ c ∈ Lib.decDigits v, 48 ≤ c.toNat ∧ c.toNat ≤ 57) ∧ 0 < (Lib.decDigits v).length ∧ (10 ≤ v → 1 < (Lib.decDigits v).length) ∧ (1 ≤ v → (Lib.decDigits v).head? ≠ some 48) := by
  induction v using Nat.strongRecOn with
  | ind v ih =>
    by_cases h : v < 10
    · rw [Lib.decDigits_one h]
      refine ⟨?_, ?_, by simp, by omega, ?_⟩
      · show 0 * 10 + ((UInt8.ofNat (48 + v)).toNat - 48) = v
        rw [dig_nat v h]; omega
      · intro c hc
        rw [List.mem_singleton] at hc
        rw [hc, dig_nat v h]; omega
      · intro h1 e
        have e2 : (UInt8.ofNat (48 + v)).toNat = (48 : UInt8).toNat := by rw [Option.some.inj e]
        rw [dig_nat v h] at e2
        have : (48 : UInt8).toNat = 48 := rfl
        omega
    · obtain ⟨a, b, c, d, e⟩ := ih (v / 10) (by omega)
      have hd : Lib.decDigits v = Lib.decDigits (v / 10) ++ [UInt8.ofNat (48 + v % 10)] := by rw [Lib.decDigits, dif_neg h]
      rw [hd]
      refine ⟨?_, ?_, by simp, by simp; omega, ?_⟩
      · rw [val_snoc, a, dig_nat _ (by omega)]; omega
      · intro x hx
        rcases List.mem_append.1 hx with hx | hx
        · exact b x hx
        · rw [List.mem_singleton] at hx
          rw [hx, dig_nat _ (by omega)]; omega
      · intro _
        have : (Lib.decDigits (v / 10) ++ [UInt8.ofNat (48 + v % 10)]).head? = (Lib.decDigits (v / 10)).head? := by
          cases hl : Lib.decDigits (v / 10) with
          | nil => rw [hl] at c; simp at c
          | cons x y => rfl
        rw [this]
        exact e (by omega)
theorem rd_of (v m : Nat) (h : v ≤ m) : rd m (Lib.decDigits v) = some v := by
  obtain ⟨a, b, c, d, e⟩ := dec_facts v
  have hn : isNum (Lib.decDigits v) = true := by
    refine Wk.num_mk c (fun hl => ?_) b
    by_cases hv : 1 ≤ v
    · exact e hv
    · have : v = 0 := by omega
      subst this
      rw [Lib.decDigits_one (by omega)] at hl
      simp at hl
  unfold rd
  rw [if_pos ⟨hn, by rw [a]; exact h⟩, a]
theorem no_dot (v : Nat) : ∀ c ∈ Lib.decDigits v, c ≠ 46 := by
  intro c hc e
  have := (dec_facts v).2.1 c hc
  rw [e] at this
  have : (46 : UInt8).toNat = 46 := rfl
  omega
theorem parse_dot (t q n : Nat) (h : ok t q n = true) : parse (Wk.dotted t q n).data.toList = some (t, q, n) := by
  obtain ⟨h0, h1, h2⟩ := ok_true h
  have e : (Wk.dotted t q n).data.toList = Lib.decDigits t ++ 46 :: (Lib.decDigits q ++ 46 :: Lib.decDigits n) := by unfold Wk.dotted; simp
  have hp : pieces (Wk.dotted t q n).data.toList = [Lib.decDigits t, Lib.decDigits q, Lib.decDigits n] := by
    rw [e, pieces_run _ _ (no_dot t), pieces_run _ _ (no_dot q), pieces_end _ (no_dot n)]
  rw [Wk.parse_three hp, rd_of t _ (by omega), rd_of q _ (by omega), rd_of n _ (by omega)]
  rfl
theorem parse_nil : parse [] = none := rfl
end Go.Proofs.YtekjnfkmjmmcmabDoor.Sm
