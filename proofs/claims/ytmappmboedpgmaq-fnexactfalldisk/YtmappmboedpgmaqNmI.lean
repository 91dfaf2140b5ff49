/- What signOk and NameOk of the program come to. -/
import Derived.Test.YtmappmboedpgmaqNmM
import Derived.LoopTactic
namespace Go.Proofs.Ytmappmboedpgmaq.Wk
set_option linter.unusedVariables false
open Go.ChangeShapes Go.WideShapes Go.ChangeAt Go.RowKit

theorem rtB {a b : Bool} (h : a = b) : Ending.returned (.bool a) = .returned (.bool b) := by rw [h]
set_option maxHeartbeats 1000000 in
set_option maxRecDepth 100000 in
theorem implSign (c : Int) (w : World) :
    Calls Try.prog 62 #[.int .i32 c] w fun e w' => e = .returned (.bool (Nm.sign c)) ∧ w' = w := by
  obtain ⟨K, hK⟩ : ∃ K, Nm.sign c = K := ⟨_, rfl⟩
  have HK : Hid (Nm.sign c = K) := hK
  rw [hK]
  clear hK
  rcases Nm.in_cases c with ⟨h1, h2, hS⟩ | ⟨h1, hS⟩
  · have e : K = true := HK.out.symm.trans hS
    subst e
    clear HK hS
    go_enter Try.func62, Try.ntmps62
    go_wp2
    go_ret
    exact ⟨rfl, rfl⟩
  · rcases hS with ⟨h3, h4, hS⟩ | ⟨h3, hS⟩
    · have e : K = true := HK.out.symm.trans hS
      subst e
      clear HK hS
      rcases h1 with h1 | ⟨h1, h2⟩
      all_goals
        go_enter Try.func62, Try.ntmps62
        go_wp2
        go_ret
        exact ⟨rfl, rfl⟩
    · have HX : Nm.Mark c K := HK.out.symm.trans hS
      clear HK hS
      rcases h1 with h1 | ⟨h1, h2⟩
      all_goals
        rcases h3 with h3 | ⟨h3, h4⟩
      all_goals
        go_enter Try.func62, Try.ntmps62
        go_wp2
      all_goals
        go_ret
        first
        | exact ⟨rtB HX.is, rfl⟩
        | exact ⟨rtB (HX.yes (.inl ‹_›)).symm, rfl⟩
        | exact ⟨rtB (HX.yes (.inr (.inl ‹_›))).symm, rfl⟩
set_option maxHeartbeats 1000000 in
set_option maxRecDepth 100000 in
theorem implName (s : ByteArray) (w : World) (hs : s.size ≤ 1048576) :
    Calls Try.prog 40 #[.string s] w fun e w' => e = .returned (.bool (Nm.name s.data.toList)) ∧ Below w.heap.size w w' := by
  obtain ⟨K, hK⟩ : ∃ K, Nm.name s.data.toList = K := ⟨_, rfl⟩
  have HK : Hid (Nm.name s.data.toList = K) := hK
  rw [hK]
  clear hK
  go_enter Try.func40, Try.ntmps40
  go_wp2
  go_loopw [3] (fun n w' => ∃ k : Nat, k ≤ s.size ∧ k ≤ 20 ∧ n = .int .i64 k ∧ w' = w.iter s k ∧ Hid (Nm.signs (s.data.toList.take k) = true)) (fun _ w' => s.size - w'.iterPos w.heap.size)
  case atStart => exact ⟨0, Nat.zero_le _, by omega, rfl, rfl, rfl⟩
  case round =>
    obtain ⟨k, hk, h20, rfl, rfl, HS⟩ := hrel
    by_cases hlt : k < s.size
    · have hnx : ∀ ty, (Instr.next (.pointer (some ⟨w.heap.size, 0, none⟩)) true ty).run Try.prog (w.iter s k) = _ := fun ty => run_next_any w s k ty hlt
      by_cases hm : k = 20
      · subst hm
        have e := HK.out.symm.trans (Nm.name_long hlt)
        subst e
        clear HK HS
        go_wp2
        go_ret
        exact ⟨rfl, (Below.refl _ _).alloc (Nat.le_refl _) _⟩
      · obtain ⟨hM, hW⟩ := Nm.met s k hlt
        have cS := implSign (((Utf8.decode s k).1 : Nat) : Int)
        rw [hM] at cS
        have HT : Hid (Nm.signs (s.data.toList.take (k + 1)) = Nm.sign (s[k].toNat : Int)) := by
          show Nm.signs _ = _
          rw [Nm.signs_take hlt, HS.out, Bool.true_and]
        have HF : Hid (Nm.sign (s[k].toNat : Int) = false → K = false) := fun h => HK.out ▸ Nm.signs_no hlt h
        clear hM HS
        generalize Nm.sign (s[k].toNat : Int) = S at cS HT HF hW
        cases S with
        | true =>
          have hd := hW rfl
          rw [hd] at hnx
          clear hW HF hd
          go_wp2_with (go_at_call 62; refine (cS _).mono ?_; rintro e w1 ⟨rfl, rfl⟩)
          go_roundw
          case rel => exact ⟨k + 1, by omega, by omega, by go_num, rfl, HT⟩
          case measure =>
            simp
            omega
        | false =>
          have e := HF.out rfl
          subst e
          clear hW HT HF HK
          go_wp2_with (go_at_call 62; refine (cS _).mono ?_; rintro e w1 ⟨rfl, rfl⟩)
          go_ret
          exact ⟨rfl, (Below.refl _ _).alloc (Nat.le_refl _) _⟩
    · have hnx : ∀ ty, (Instr.next (.pointer (some ⟨w.heap.size, 0, none⟩)) true ty).run Try.prog (w.iter s k) = _ := fun ty => run_next_end w s k ty hlt
      have HN := (Nm.name_end hlt hk h20 HS.out).trans HK.out
      have HN' : Hid (decide (0 < k) = K) := HN
      clear HN HS HK
      go_wp2
      go_ret
      exact ⟨rtB HN'.out, (Below.refl _ _).alloc (Nat.le_refl _) _⟩
end Go.Proofs.Ytmappmboedpgmaq.Wk
