/- Numbers and texts come back of their bytes: plain facts, nothing of the program is named here. -/
import Derived.Test.YtpejeoekpejbladNumM
namespace Go.Proofs.Ytpejeoekpejblad.Mt

theorem toNat_ofNat (n : Nat) (h : n < 256) : (UInt8.ofNat n).toNat = n := by simp; omega

theorem getGo_last (f k n r : Nat) (t : List UInt8) (hr : r < 128) (hk : 0 < k → 0 < r) (hv : n + r * 128 ^ k ≤ 1000000000) :
    getGo (f + 1) k n (UInt8.ofNat r :: t) = some (n + r * 128 ^ k, k + 1) := by
  have h1 := toNat_ofNat r (by omega)
  simp only [getGo, h1]
  rw [if_neg (by omega), Nat.mod_eq_of_lt hr, if_neg (by rintro (⟨a, b⟩ | a); have := hk a; omega; omega)]

theorem getGo_enc (f : Nat) : ∀ (k n r : Nat) (t : List UInt8), r < 128 ^ (f + 1) → (0 < k → 0 < r) → n + r * 128 ^ k ≤ 1000000000 →
    getGo (f + 1) k n (encGo f r ++ t) = some (n + r * 128 ^ k, k + (encGo f r).length) := by
  induction f with
  | zero =>
    intro k n r t hr hk hv
    exact getGo_last 0 k n r t (by simpa using hr) hk hv
  | succ f ih =>
    intro k n r t hr hk hv
    by_cases h : 128 ≤ r
    · have e : encGo (f + 1) r = UInt8.ofNat (r % 128 + 128) :: encGo f (r / 128) := by
        conv => lhs; unfold encGo
        rw [if_pos h]
      have h1 := toNat_ofNat (r % 128 + 128) (by omega)
      have h2 : (r % 128 + 128) % 128 = r % 128 := by omega
      have h3 : r / 128 < 128 ^ (f + 1) := by rw [Nat.div_lt_iff_lt_mul (by decide)]; rw [Nat.pow_succ] at hr; exact hr
      have h4 : n + r % 128 * 128 ^ k + r / 128 * 128 ^ (k + 1) = n + r * 128 ^ k := by
        rw [Nat.pow_succ, Nat.add_assoc, ← Nat.mul_assoc, Nat.mul_right_comm, ← Nat.add_mul]
        congr 2
        omega
      rw [e, List.cons_append]
      conv => lhs; unfold getGo
      simp only [h1]
      rw [if_pos (by omega), h2, ih (k + 1) _ (r / 128) t h3 (fun _ => by omega) (by rw [h4]; exact hv), h4]
      simp only [List.length_cons, Option.some.injEq, Prod.mk.injEq, true_and]
      omega
    · have e : encGo (f + 1) r = [UInt8.ofNat r] := encGo_last (f + 1) r (by omega)
      rw [e]
      exact getGo_last (f + 1) k n r t (by omega) hk hv

theorem getGo_cut (f : Nat) : ∀ (k n r : Nat), getGo (f + 1) k n (encGo f r).dropLast = none := by
  induction f with
  | zero => intro k n r; rfl
  | succ f ih =>
    intro k n r
    by_cases h : 128 ≤ r
    · have e : encGo (f + 1) r = UInt8.ofNat (r % 128 + 128) :: encGo f (r / 128) := by
        conv => lhs; unfold encGo
        rw [if_pos h]
      have h1 := toNat_ofNat (r % 128 + 128) (by omega)
      have hne : encGo f (r / 128) ≠ [] := fun e => by have := (encGo_len f (r / 128)).1; rw [e] at this; simp at this
      rw [e, List.dropLast_cons_of_ne_nil hne]
      conv => lhs; unfold getGo
      simp only [h1]
      rw [if_pos (by omega)]
      exact ih _ _ _
    · rw [encGo_last (f + 1) r (by omega)]; rfl

theorem getNum_enc (l t : List UInt8) (N : Nat) (h : N ≤ 1000000000) : getNum (l ++ enc N ++ t) (l.length : Int) = some (N, (l ++ enc N).length) := by
  have he := enc_len N
  rw [getNum_in _ _ (by simp only [List.length_append]; omega), List.append_assoc, List.drop_left, enc]
  rw [getGo_enc 4 0 0 N t (by omega) (by omega) (by omega)]
  simp
theorem getNum_cut (l : List UInt8) (N : Nat) : getNum (l ++ (enc N).dropLast) (l.length : Int) = none := by
  by_cases h : 0 < (enc N).dropLast.length
  · rw [getNum_in _ _ (by simp only [List.length_append]; omega), List.drop_left, enc, getGo_cut 4 0 0 N]; rfl
  · exact getNum_out _ _ (by rw [List.length_append]; omega)
theorem getText_enc (l t : List UInt8) (N : Nat) (h : N ≤ 1000000000) (ht : t.length = N) : getText (l ++ enc N ++ t) (l.length : Int) = some (t, (l ++ enc N ++ t).length) := by
  rw [getText_good _ _ _ _ (getNum_enc l t N h) (by simp only [List.length_append]; omega), List.drop_left, List.take_of_length_le (by omega)]
  simp only [List.length_append, ht]
theorem dropLast_append (l e : List UInt8) (h : 0 < e.length) : (l ++ e).take ((l ++ e).length - 1) = l ++ e.dropLast := by
  rw [← List.dropLast_eq_take, List.dropLast_append_of_ne_nil (by intro e'; rw [e'] at h; simp at h)]
end Go.Proofs.Ytpejeoekpejblad.Mt
