/- A right file with a byte turned is none: plain facts. -/
import Derived.Test.YtpejeoekpejbladGfM
import Derived.Test.YtpejeoekpejbladSumM
namespace Go.Proofs.Ytpejeoekpejblad.Wk
set_option linter.unusedVariables false

theorem crc4_inj {x z : Nat} (hx : x < 4294967296) (hz : z < 4294967296) (h : crc4 x = crc4 z) : x = z := by
  have e : ∀ a b : Nat, a.toUInt8 = b.toUInt8 → a % 256 = b % 256 := fun a b e => by
    have := congrArg UInt8.toNat e
    simpa using this
  unfold crc4 at h
  simp only [List.cons.injEq, and_true] at h
  obtain ⟨h1, h2, h3, h4⟩ := h
  have := e _ _ h1
  have := e _ _ h2
  have := e _ _ h3
  have := e _ _ h4
  omega
theorem crc4_len (x : Nat) : (crc4 x).length = 4 := rfl
theorem getF_some {l : List UInt8} {f : Fl} (h : getF l = some f) : ∃ b : List UInt8, l = b ++ crc4 (Mt.crcN b) := by
  unfold getF at h
  cases hg : gGood l && gRight l with
  | false => rw [hg] at h; cases h
  | true =>
    have hr : gRight l = true := by rw [Bool.and_eq_true] at hg; exact hg.2
    unfold gRight at hr
    simp only [Bool.and_eq_true, decide_eq_true_eq] at hr
    have e := hr.2
    unfold fileBytes at e
    rw [if_pos hr.1] at e
    exact ⟨_, e.symm⟩
/-- no bytes that bear their own sum do so with a byte turned -/
theorem sum_turned (b : List UInt8) (k : Nat) (y : UInt8) (hk : k < (b ++ crc4 (Mt.crcN b)).length) (hy : y ≠ (b ++ crc4 (Mt.crcN b))[k]) (b' : List UInt8) : (b ++ crc4 (Mt.crcN b)).set k y ≠ b' ++ crc4 (Mt.crcN b') := by
  intro e
  have hl : b.length = b'.length := by
    have := congrArg List.length e
    simp only [List.length_set, List.length_append, crc4_len] at this
    omega
  by_cases h : k < b.length
  · rw [List.set_append_left _ _ h] at e
    have hb := List.append_inj e (by simpa using hl)
    have hy' : y ≠ b[k] := by rwa [List.getElem_append_left h] at hy
    have hc := crc4_inj (Mt.crcN_lt _) (Mt.crcN_lt _) hb.2
    rw [← hb.1] at hc
    exact Mt.crcN_set b k h y hy' hc
  · rw [List.set_append_right _ _ (by omega)] at e
    have hb := List.append_inj e hl
    rw [← hb.1] at hb
    have hy' : y ≠ (crc4 (Mt.crcN b))[k - b.length]'(by simp only [List.length_append, crc4_len] at hk ⊢; omega) := by rwa [List.getElem_append_right (by omega)] at hy
    have h4 : k - b.length < (crc4 (Mt.crcN b)).length := by simp only [List.length_append, crc4_len] at hk ⊢; omega
    have := congrArg (fun l => l[k - b.length]?) hb.2
    simp only [List.getElem?_set_self h4, List.getElem?_eq_getElem h4, Option.some.injEq] at this
    exact hy' this
theorem getF_turned {l : List UInt8} {f : Fl} (h : getF l = some f) (k : Nat) (y : UInt8) (hk : k < l.length) (hy : y ≠ l[k]) : getF (l.set k y) = none := by
  obtain ⟨b, rfl⟩ := getF_some h
  cases hg : getF ((b ++ crc4 (Mt.crcN b)).set k y) with
  | none => rfl
  | some f' =>
    obtain ⟨b', e⟩ := getF_some hg
    exact absurd e (sum_turned b k y hk hy b')
end Go.Proofs.Ytpejeoekpejblad.Wk
