/- Numbers as groups of seven bits: plain facts, nothing of the program is named here. -/
import Derived.Test.YtmappmboedpgmaqMath
namespace Go.Proofs.Ytmappmboedpgmaq.Mt
open Go.RowKit

/-- the number whose groups stand at the head of a list, and how many groups it has: read on from the k-th group, n read so far -/
def getGo : Nat → Nat → Nat → List UInt8 → Option (Nat × Nat)
  | 0, _, _, _ => none
  | _ + 1, _, _, [] => none
  | f + 1, k, n, c :: r =>
    if 128 ≤ c.toNat then getGo f (k + 1) (n + c.toNat % 128 * 128 ^ k) r
    else if (0 < k ∧ c.toNat = 0) ∨ 1000000000 < n + c.toNat % 128 * 128 ^ k then none else some (n + c.toNat % 128 * 128 ^ k, k + 1)

def getNum (l : List UInt8) (p : Int) : Option (Nat × Nat) :=
  if 0 ≤ p ∧ p < l.length then (getGo 5 0 0 (l.drop p.toNat)).map fun x => (x.1, p.toNat + x.2) else none

theorem getGo_zero (k n : Nat) (l : List UInt8) : getGo 0 k n l = none := rfl
theorem getGo_nil (f k n : Nat) : getGo f k n [] = none := by cases f <;> rfl
theorem getGo_more (f k n : Nat) (l : List UInt8) (p : Nat) (h : p < l.length) (hc : 128 ≤ l[p].toNat) :
    getGo (f + 1) k n (l.drop p) = getGo f (k + 1) (n + l[p].toNat % 128 * 128 ^ k) (l.drop (p + 1)) := by
  rw [List.drop_eq_getElem_cons h]; simp only [getGo]; rw [if_pos hc]
theorem getGo_bad (f k n : Nat) (l : List UInt8) (p : Nat) (h : p < l.length) (hc : l[p].toNat < 128) (hb : (0 < k ∧ l[p].toNat = 0) ∨ 1000000000 < n + l[p].toNat % 128 * 128 ^ k) :
    getGo (f + 1) k n (l.drop p) = none := by
  rw [List.drop_eq_getElem_cons h]; simp only [getGo]; rw [if_neg (by omega), if_pos hb]
theorem getGo_good (f k n : Nat) (l : List UInt8) (p : Nat) (h : p < l.length) (hc : l[p].toNat < 128) (hb : ¬ ((0 < k ∧ l[p].toNat = 0) ∨ 1000000000 < n + l[p].toNat % 128 * 128 ^ k)) :
    getGo (f + 1) k n (l.drop p) = some (n + l[p].toNat % 128 * 128 ^ k, k + 1) := by
  rw [List.drop_eq_getElem_cons h]; simp only [getGo]; rw [if_neg (by omega), if_neg hb]
theorem getNum_out (l : List UInt8) (p : Int) (h : ¬ (0 ≤ p ∧ p < l.length)) : getNum l p = none := by unfold getNum; rw [if_neg h]
theorem getNum_in (l : List UInt8) (p : Nat) (h : p < l.length) : getNum l p = (getGo 5 0 0 (l.drop p)).map fun x => (x.1, p + x.2) := by
  unfold getNum; rw [if_pos (by omega), Int.toNat_natCast]

theorem and127 (c : Nat) (h : c < 256) : bits .and .i64 (c : Int) 127 = ((c % 128 : Nat) : Int) := by
  have := i64_and c 127 (by omega) (by omega)
  rw [show (127 : Nat) = 2 ^ 7 - 1 from rfl, Nat.and_two_pow_sub_one_eq_mod] at this; exact this
theorem or_shift (n c i : Nat) (hn : n < 2 ^ i) (hs : n + c * 2 ^ i < 9223372036854775808) : bits .or .i64 (n : Int) ((c * 2 ^ i : Nat) : Int) = ((n + c * 2 ^ i : Nat) : Int) := by
  rw [i64_or n (c * 2 ^ i) (by omega) (by omega), Nat.or_comm, Nat.mul_comm, ← Nat.two_pow_add_eq_or_of_lt hn, Nat.add_comm]

theorem pow128 (k : Nat) : 128 ^ k = 2 ^ (7 * k) := by rw [Nat.pow_mul]
theorem step_lt (n c k : Nat) (hn : n < 2 ^ (7 * k)) : n + c % 128 * 128 ^ k < 2 ^ (7 * (k + 1)) := by
  have h1 : c % 128 < 128 := Nat.mod_lt _ (by decide)
  rw [pow128, show 7 * (k + 1) = 7 + 7 * k from by omega, Nat.pow_add]
  have : (c % 128 + 1) * 2 ^ (7 * k) ≤ 2 ^ 7 * 2 ^ (7 * k) := Nat.mul_le_mul_right _ (by omega)
  rw [Nat.add_mul, Nat.one_mul] at this
  omega
theorem pow35 (k : Nat) (h : k ≤ 5) : 2 ^ (7 * k) ≤ 34359738368 := by
  have : 2 ^ (7 * k) ≤ 2 ^ 35 := Nat.pow_le_pow_right (by decide) (by omega)
  exact this
/-- one group more, as the specification's text reckons it -/
theorem group_i64 (n c k : Nat) (hk : k < 5) (hn : n < 2 ^ (7 * k)) (hc : c < 256) :
    bits .or .i64 (n : Int) (wrap64 (bits .and .i64 (c : Int) 127 * 2 ^ (7 * k))) = ((n + c % 128 * 128 ^ k : Nat) : Int) := by
  have h1 := step_lt n c k hn
  have h2 := pow35 (k + 1) (by omega)
  rw [pow128] at h1 ⊢
  have e : ((c % 128 : Nat) : Int) * 2 ^ (7 * k) = ((c % 128 * 2 ^ (7 * k) : Nat) : Int) := by rw [Int.natCast_mul, Int.natCast_pow]; rfl
  rw [and127 c hc, e, wrap64_id _ (by omega) (by omega)]
  exact or_shift n (c % 128) (7 * k) hn (by omega)

theorem getGo_le (f : Nat) : ∀ (k n : Nat) (l : List UInt8) (m j : Nat), getGo f k n l = some (m, j) → j ≤ k + l.length ∧ m ≤ 1000000000 ∧ 0 < l.length := by
  induction f with
  | zero => intro k n l m j h; simp [getGo] at h
  | succ f ih =>
    intro k n l m j h
    cases l with
    | nil => simp [getGo] at h
    | cons c r =>
      simp only [getGo] at h
      split at h
      · have := ih _ _ _ _ _ h
        simp only [List.length_cons]; omega
      · split at h
        · simp at h
        · simp only [Option.some.injEq, Prod.mk.injEq] at h
          simp only [List.length_cons]; omega
theorem getNum_le (l : List UInt8) (p : Int) (m j : Nat) (h : getNum l p = some (m, j)) : j ≤ l.length ∧ m ≤ 1000000000 ∧ 0 ≤ p ∧ p < l.length := by
  unfold getNum at h
  split at h
  · rename_i hp
    cases hg : getGo 5 0 0 (l.drop p.toNat) with
    | none => rw [hg] at h; simp at h
    | some x =>
      rw [hg] at h
      obtain ⟨m', j'⟩ := x
      simp only [Option.map_some, Option.some.injEq, Prod.mk.injEq] at h
      have := getGo_le 5 0 0 _ m' j' hg
      simp only [List.length_drop] at this
      omega
  · simp at h

/-- the text whose bytes begin at this place -/
def getText (l : List UInt8) (p : Int) : Option (List UInt8 × Nat) :=
  match getNum l p with
  | none => none
  | some (n, k) => if n ≤ l.length - k then some ((l.drop k).take n, k + n) else none
theorem getText_none (l : List UInt8) (p : Int) (h : getNum l p = none) : getText l p = none := by unfold getText; rw [h]
theorem getText_bad (l : List UInt8) (p : Int) (n k : Nat) (h : getNum l p = some (n, k)) (hn : ¬ n ≤ l.length - k) : getText l p = none := by unfold getText; rw [h]; simp only; rw [if_neg hn]
theorem getText_good (l : List UInt8) (p : Int) (n k : Nat) (h : getNum l p = some (n, k)) (hn : n ≤ l.length - k) : getText l p = some ((l.drop k).take n, k + n) := by unfold getText; rw [h]; simp only; rw [if_pos hn]

/-! ### putting a number -/
def clamp (n : Int) : Nat := if n < 0 then 0 else if 1000000000 < n then 1000000000 else n.toNat
theorem clamp_le (n : Int) : clamp n ≤ 1000000000 := by unfold clamp; split; omega; split <;> omega
/-- the groups of a number: at most f + 1 of them -/
def encGo : Nat → Nat → List UInt8
  | 0, n => [UInt8.ofNat n]
  | f + 1, n => if 128 ≤ n then UInt8.ofNat (n % 128 + 128) :: encGo f (n / 128) else [UInt8.ofNat n]
def enc (n : Nat) : List UInt8 := encGo 4 n
theorem encGo_last (f n : Nat) (h : n < 128) : encGo f n = [UInt8.ofNat n] := by
  cases f with
  | zero => rfl
  | succ f => unfold encGo; rw [if_neg (by omega)]
theorem encGo_more (f n : Nat) (h : 128 ≤ n) (hb : n < 128 ^ (f + 1)) : ∃ f', encGo f n = UInt8.ofNat (n % 128 + 128) :: encGo f' (n / 128) ∧ n / 128 < 128 ^ (f' + 1) := by
  cases f with
  | zero => omega
  | succ f =>
    refine ⟨f, by conv => lhs; unfold encGo
                  rw [if_pos h], ?_⟩
    rw [Nat.div_lt_iff_lt_mul (by decide)]
    rw [Nat.pow_succ] at hb; exact hb
theorem encGo_len (f n : Nat) : 0 < (encGo f n).length ∧ (encGo f n).length ≤ f + 1 := by
  induction f generalizing n with
  | zero => simp [encGo]
  | succ f ih =>
    unfold encGo
    split
    · have := ih (n / 128); simp only [List.length_cons]; omega
    · simp
theorem enc_len (n : Nat) : 0 < (enc n).length ∧ (enc n).length ≤ 5 := encGo_len 4 n
theorem enc_fits (n : Int) : clamp n < 128 ^ (4 + 1) := by have := clamp_le n; omega

theorem or128 (n : Nat) (h : n < 4294967296) : bits .or .i64 (bits .and .i64 (n : Int) 127) 128 % 256 = (((UInt8.ofNat (n % 128 + 128)).toNat : Nat) : Int) := by
  have h1 := i64_and n 127 (by omega) (by omega)
  rw [show (127 : Nat) = 2 ^ 7 - 1 from rfl, Nat.and_two_pow_sub_one_eq_mod] at h1
  have h2 := or_shift (n % 128) 1 7 (by omega) (by omega)
  have h3 : (UInt8.ofNat (n % 128 + 128)).toNat = n % 128 + 128 := by simp; omega
  rw [h3]
  have e : bits .and .i64 (n : Int) 127 = ((n % 128 : Nat) : Int) := h1
  have e2 : bits .or .i64 ((n % 128 : Nat) : Int) 128 = ((n % 128 + 128 : Nat) : Int) := h2
  rw [e, e2]; omega
/-- the groups of several numbers, one behind the other -/
def encs (ns : List Int) : List UInt8 := ns.flatMap fun n => enc (clamp n)
theorem encs_snoc (ns : List Int) (n : Int) : encs (ns ++ [n]) = encs ns ++ enc (clamp n) := by simp [encs]
theorem encs_len (ns : List Int) : (encs ns).length ≤ 5 * ns.length := by
  induction ns with
  | nil => simp [encs]
  | cons n ns ih =>
    have h := enc_len (clamp n)
    have e : encs (n :: ns) = enc (clamp n) ++ encs ns := by simp [encs]
    rw [e, List.length_append, List.length_cons]; omega
theorem encs_one (n : Int) : encs [n] = enc (clamp n) := by simp [encs]
theorem clamp3 (n : Int) : n < 0 ∧ clamp n = 0 ∨ (1000000000 < n ∧ clamp n = 1000000000) ∨ (0 ≤ n ∧ n ≤ 1000000000 ∧ n = (clamp n : Int)) := by
  unfold clamp
  split
  · exact .inl ⟨by assumption, rfl⟩
  · split
    · exact .inr (.inl ⟨by assumption, rfl⟩)
    · exact .inr (.inr ⟨by omega, by omega, by omega⟩)
theorem byte128 (r : Nat) : (r : Int) % 128 + 128 = (((UInt8.ofNat (r % 128 + 128)).toNat : Nat) : Int) := by
  have h3 : (UInt8.ofNat (r % 128 + 128)).toNat = r % 128 + 128 := by simp; omega
  rw [h3]; omega
end Go.Proofs.Ytmappmboedpgmaq.Mt
