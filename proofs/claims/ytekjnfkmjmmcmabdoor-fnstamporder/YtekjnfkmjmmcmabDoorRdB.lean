/- Texts that are read as numbers: small facts. -/
import Derived.Test.YtekjnfkmjmmcmabDoorStB
import Derived.Test.YtekjnfkmjmmcmabDoorPaM
namespace Go.Proofs.YtekjnfkmjmmcmabDoor.Wk
set_option linter.unusedVariables false
open Go.ChangeShapes Go.WideShapes Go.ChangeAt Go.RowKit

def rdV : Option Nat → Value
  | some v => .tuple #[.int .i64 (v : Int), .bool true]
  | none => .tuple #[.int .i64 0, .bool false]
theorem take_snoc (s : ByteArray) (k : Nat) (h : k < s.size) : s.data.toList.take (k + 1) = s.data.toList.take k ++ [s[k]] := by
  rw [List.take_succ_eq_append_getElem (by simpa using h)]; rfl
theorem mem_get (s : ByteArray) (k : Nat) (h : k < s.size) : s[k] ∈ s.data.toList := by
  have : s.data.toList[k]'(by simpa using h) ∈ s.data.toList := List.getElem_mem _
  exact this

theorem int_eq {a b : Int} (h : a = b) : Value.int .i64 a = .int .i64 b := by rw [h]
theorem rd_no {m : Nat} {l : List UInt8} (h : ¬ (Sm.isNum l = true ∧ Sm.val l ≤ m)) : Sm.rd m l = none := by unfold Sm.rd; rw [if_neg h]
theorem rd_yes {m : Nat} {l : List UInt8} (h : Sm.isNum l = true) (hv : Sm.val l ≤ m) : Sm.rd m l = some (Sm.val l) := by unfold Sm.rd; rw [if_pos ⟨h, hv⟩]
theorem num_mk {l : List UInt8} (h0 : 0 < l.length) (h1 : 1 < l.length → l.head? ≠ some 48) (h2 : ∀ c ∈ l, 48 ≤ c.toNat ∧ c.toNat ≤ 57) : Sm.isNum l = true := by
  unfold Sm.isNum
  simp only [Bool.and_eq_true, List.all_eq_true, Bool.not_eq_true']
  refine ⟨⟨?_, ?_⟩, ?_⟩
  · cases l with
    | nil => simp at h0
    | cons c r => rfl
  · by_cases hl : 1 < l.length
    · have := h1 hl
      simp [hl, this]
    · simp [hl]
  · intro c hc
    have := h2 c hc
    unfold Sm.digit
    simp; omega
theorem head_get (s : ByteArray) (h : 0 < s.size) : s.data.toList.head? = some s[0] := by
  rw [List.head?_eq_getElem?, List.getElem?_eq_getElem (by simpa using h)]; rfl
theorem val_lt : ∀ (r : List UInt8) (n : Nat), (∀ c ∈ r, c.toNat ≤ 57) → r.foldl (fun n c => n * 10 + (c.toNat - 48)) n < (n + 1) * 10 ^ r.length := by
  intro r
  induction r with
  | nil => intro n _; simp
  | cons c r ih =>
    intro n h
    have hc := h c List.mem_cons_self
    refine Nat.lt_of_lt_of_le (ih (n * 10 + (c.toNat - 48)) (fun x hx => h x (List.mem_cons_of_mem _ hx))) ?_
    rw [List.length_cons, Nat.pow_succ]
    have e : (n + 1) * (10 ^ r.length * 10) = (n + 1) * 10 * 10 ^ r.length := by rw [Nat.mul_comm (10 ^ r.length) 10, Nat.mul_assoc]
    rw [e]
    exact Nat.mul_le_mul_right _ (by omega)
theorem val_ten (l : List UInt8) (h : ∀ c ∈ l, 48 ≤ c.toNat ∧ c.toNat ≤ 57) (hl : l.length ≤ 10) : Sm.val l < 10000000000 := by
  have h1 := val_lt l 0 (fun c hc => (h c hc).2)
  have h2 : 10 ^ l.length ≤ 10 ^ 10 := Nat.pow_le_pow_right (by decide) hl
  unfold Sm.val
  omega
end Go.Proofs.YtekjnfkmjmmcmabDoor.Wk
