/- What Hash of the specification and Hash of the program come to: the same number, hashN; nothing old is turned. -/
import Derived.Test.YtcejeiakgmamdacBy
namespace Go.Proofs.Ytcejeiakgmamdac.Wk
set_option linter.unusedVariables false
open Go.ChangeShapes Go.WideShapes Go.ChangeAt Go.RowKit

theorem ret_int {k : IntKind} {a b : Int} (h : a = b) : Ending.returned (.int k a) = .returned (.int k b) := by rw [h]
theorem val_int {k : IntKind} {a b : Int} (h : a = b) : Value.int k a = .int k b := by rw [h]

theorem specHash (s : ByteArray) (w : World) (hs : s.size ≤ 1048576) :
    Calls Try.prog 94 #[.string s] w fun e w' => e = .returned (.int .i64 (Mt.hashN s.data.toList)) ∧ w' = w := by
  go_enter Try.func94, Try.ntmps94
  go_wp2
  go_loop [3, 4] (fun h i => ∃ k : Nat, k ≤ s.size ∧ i = .int .i64 k ∧ h = .int .i64 (Mt.hashN (s.data.toList.take k))) (fun _ i => s.size - (intOf i).toNat)
  case atStart => exact ⟨0, Nat.zero_le _, rfl, rfl⟩
  case round =>
    obtain ⟨k, hk, rfl, rfl⟩ := hrel
    by_cases hlt : k < s.size
    · have HS : Hid (Mt.hashN (s.data.toList.take (k + 1)) = Mt.hashStep (Mt.hashN (s.data.toList.take k)) s[k]) := by
        rw [Mt.take_snoc s k hlt]; exact Mt.hashN_snoc _ _
      go_wp2
      go_round
      case rel => exact ⟨k + 1, by omega, by go_num, by rw [HS.out]; exact val_int (Mt.hash_i64 _ _ (Mt.hashN_lt _))⟩
      case measure => simp [intOf]; omega
    · go_wp2
      go_ret
      exact ⟨ret_int (by rw [List.take_of_length_le (by simp; omega)]), rfl⟩

theorem implHash (s : ByteArray) (w : World) (hs : s.size ≤ 1048576) :
    Calls Try.prog 114 #[.string s] w fun e w' => e = .returned (.int .i64 (Mt.hashN s.data.toList)) ∧ Grown w w' ∧ Below w.heap.size w w' := by
  have hmf : ∀ (fn : Fn) (first cap : Array Value) (w : World), (Instr.makeFunc fn first cap).run Try.prog w = .ok (.func fn first cap) w := fun _ _ _ _ => rfl
  go_enter Try.func114, Try.ntmps114
  go_wp2
  go_loopw [9] (fun i w' => ∃ k : Nat, k ≤ s.size ∧ i = .int .i64 k ∧ Grown w w' ∧ Below w.heap.size w w' ∧ w'.cell? ⟨w.heap.size, 0, none⟩ = some (.int .u32 (Mt.hashN (s.data.toList.take k))) ∧ w'.frozen? ⟨w.heap.size, 0, none⟩ = false) (fun i _ => s.size - (intOf i).toNat)
  case atStart => exact ⟨0, Nat.zero_le _, rfl, (Grown.refl _).alloc _ _, (Below.refl _ _).alloc (Nat.le_refl _) _, by rw [World.cell?_alloc_at _ _ _ _ rfl]; rfl, World.frozen?_alloc_at _ _ _ _ rfl⟩
  case round =>
    obtain ⟨k, hk, rfl, hg, hb, hcell, hfz⟩ := hrel
    by_cases hlt : k < s.size
    · have HS : Hid (Mt.hashN (s.data.toList.take (k + 1)) = Mt.hashStep (Mt.hashN (s.data.toList.take k)) s[k]) := by
        rw [Mt.take_snoc s k hlt]; exact Mt.hashN_snoc _ _
      go_wp2_with go_in
      go_end0
      go_wp2
      have hst : bits BinOp.xor IntKind.u32 (Mt.hashN (List.take k s.data.toList) : Int) ((s[k].toNat : Int) % 4294967296) * 16777619 % 4294967296 = ((Mt.hashN (s.data.toList.take (k + 1)) : Nat) : Int) := by
        have hc : s[k].toNat < 256 := s[k].toNat_lt
        rw [HS.out, Int.emod_eq_of_lt (a := (s[k].toNat : Int)) (by omega) (by omega)]; exact Mt.hash_u32 _ _ (Mt.hashN_lt _)
      go_roundw
      case rel => exact ⟨k + 1, by omega, by go_num, hg.setCell (Nat.le_refl _) _, hb.setCell (Nat.le_refl _) _, by rw [World.cell?_setCell_same' _ _ _ (by rw [hcell]; rfl), hst], by rw [World.frozen?_setCell]; exact hfz⟩
      case measure => simp [intOf]; omega
    · go_wp2
      go_ret
      have hh := Mt.hashN_lt s.data.toList
      exact ⟨ret_int (by rw [List.take_of_length_le (by simp; omega), Mt.wrap64_id _ (by omega) (by omega)]), hg, hb⟩
end Go.Proofs.Ytcejeiakgmamdac.Wk
