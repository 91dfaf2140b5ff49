/- What the laws' markText comes to: a text of its own for each number. -/
import Derived.Test.YtmappmboedpgmaqBy
import Derived.Test.YtmappmboedpgmaqStB
namespace Go.Proofs.Ytmappmboedpgmaq.Wk
set_option linter.unusedVariables false
open Go.ChangeShapes Go.WideShapes Go.ChangeAt Go.RowKit

/-- the digits of k ahead of o -/
def mtGo (k : Nat) (o : ByteArray) : ByteArray := if h : k = 0 then o else mtGo (k / 10) (⟨#[48 + UInt8.ofNat (k % 10)]⟩ ++ o)
termination_by k
decreasing_by omega
theorem mtGo_zero (o : ByteArray) : mtGo 0 o = o := by rw [mtGo]; simp
theorem mtGo_step {k : Nat} (h : 0 < k) (o : ByteArray) : mtGo k o = mtGo (k / 10) (⟨#[48 + UInt8.ofNat (k % 10)]⟩ ++ o) := by
  rw [mtGo]
  simp [show ¬ k = 0 by omega]
def mtT (k : Nat) : ByteArray := ⟨#[109]⟩ ++ mtGo k ⟨#[]⟩

set_option maxHeartbeats 1000000 in
set_option maxRecDepth 100000 in
theorem markText (k : Nat) (w : World) (h0 : 0 < k) (hk : k ≤ 1073741824) :
    Calls Try.prog 59 #[.int .i64 (k : Int)] w fun e w' => e = .returned (.string (mtT k)) ∧ Below w.heap.size w w' := by
  have h1 : ¬ ((k : Int) ≤ 0) := by omega
  obtain ⟨T, HT⟩ : ∃ T, Hid (mtT k = T) := ⟨_, rfl⟩
  rw [HT.out]
  go_enter Try.func59, Try.ntmps59
  go_wp2
  go_loopw [0, 3] (fun q s wr => ∃ (j : Nat) (o : ByteArray), q = .int .i64 (j : Int) ∧ s = .string o ∧ j + o.size ≤ 1073741824 ∧ Hid (mtGo j o = mtGo k ⟨#[]⟩) ∧ Below w.heap.size w wr) (fun q _ _ => (intOf q).toNat)
  case atStart => exact ⟨k, _, rfl, rfl, (show k + 0 ≤ 1073741824 by omega), rfl, Below.refl _ _⟩
  case round =>
    obtain ⟨j, o, rfl, rfl, hj, HG, hb⟩ := hrel
    by_cases hj0 : 0 < j
    · have hj1 : (0 : Int) < (j : Int) := by omega
      have hd : (48 + UInt8.ofNat (j % 10)).toNat = 48 + j % 10 := by rw [UInt8.toNat_add]; simp; omega
      have hcv := run_convert_bytes_back (P := Try.prog) (wr.alloc (.cells #[.int .u8 (48 + (j : Int) % 10)] 5)) 55 9 5 ⟨wr.heap.size, 0, none⟩ 1 [48 + UInt8.ofNat (j % 10)] Try.underlying55 Try.underlying5 Try.underlying9 (by
        intro i hi
        have : i = 0 := by simpa using hi
        subst this
        simp only [List.getElem_cons_zero, hd, Addr.add, if_true]
        rw [World.cell?_alloc_at _ _ _ _ rfl]
        simp)
      simp only [List.length_cons, List.length_nil, Nat.zero_add] at hcv
      have HS : Hid (mtGo (j / 10) (⟨#[48 + UInt8.ofNat (j % 10)]⟩ ++ o) = mtGo k ⟨#[]⟩) := by show _ = _; rw [← mtGo_step hj0]; exact HG.out
      have hB := behind hb (bel1 wr (.cells #[.int .u8 (48 + (j : Int) % 10)] 5))
      have hle : j / 10 + (o.size + 1) ≤ 1073741824 := by omega
      have hos : o.size ≤ 1073741824 := by omega
      clear hd HG
      go_wp2
      go_roundw
      case rel => exact ⟨j / 10, _, by rw [show ((j / 10 : Nat) : Int) = (j : Int) / 10 by omega], rfl, by rw [ByteArray.size_append]; show j / 10 + (1 + o.size) ≤ 1073741824; omega, HS, hB⟩
      case measure => simp [intOf]; omega
    · have hj1 : ¬ (0 : Int) < (j : Int) := by omega
      have e0 : j = 0 := by omega
      subst e0
      have HE : Hid (⟨#[109]⟩ ++ o = T) := by
        show _ = _
        rw [← HT.out]
        unfold mtT
        rw [← HG.out, mtGo_zero]
      have hos : o.size ≤ 1073741824 := by omega
      go_wp2
      go_ret
      exact ⟨by rw [← HE.out]; rfl, hb⟩
end Go.Proofs.Ytmappmboedpgmaq.Wk
