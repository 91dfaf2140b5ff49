/- The text of devices. -/
import Derived.Test.YtcejeiakgmamdacDot
import Derived.Test.YtcejeiakgmamdacDvM
import Derived.Lib.Join
namespace Go.Proofs.Ytcejeiakgmamdac.Dv
set_option linter.unusedVariables false

/-- the text of a device -/
def wtext (d : Sm.St) : List UInt8 := (((Lib.decDigits d.1.toNat ++ [58]) ++ Lib.decDigits d.2.1.toNat) ++ [58]) ++ Lib.decDigits d.2.2.toNat
/-- the text of devices -/
def dtext (l : List Sm.St) : List UInt8 := Lib.join (l.map wtext) [32]
theorem dtext_one (d : Sm.St) : dtext [d] = wtext d := by simp [dtext, Lib.join_one]
theorem tail_snoc (sep : List UInt8) (r : List (List UInt8)) (y : List UInt8) : Lib.joinTail sep (r ++ [y]) = Lib.joinTail sep r ++ sep ++ y := by
  simp [Lib.joinTail]
theorem dtext_snoc {l : List Sm.St} (h : l ≠ []) (d : Sm.St) : dtext (l ++ [d]) = dtext l ++ [32] ++ wtext d := by
  cases l with
  | nil => exact absurd rfl h
  | cons x r => simp only [dtext, List.cons_append, List.map_cons, List.map_append, List.map_nil, Lib.join_cons, tail_snoc, List.append_assoc]
theorem take_ne {l : List Sm.St} {k : Nat} (h : k < l.length) (h0 : ¬ k = 0) : l.take k ≠ [] := by
  intro e
  have h9 : (l.take k).length = 0 := by rw [e]; rfl
  rw [List.length_take] at h9
  omega
theorem wtext_len {d : Sm.St} (h : dev d.1 d.2.1 d.2.2 = true) : (wtext d).length ≤ 65 := by
  unfold dev at h
  simp at h
  have h1 := Wk.dec_len d.1.toNat (by omega)
  have h2 := Wk.dec_len d.2.1.toNat (by omega)
  have h3 := Wk.dec_len d.2.2.toNat (by omega)
  simp only [wtext, List.length_append, List.length_singleton]
  omega
theorem lens_le (l : List Sm.St) (h : ∀ d ∈ l, (wtext d).length ≤ 65) : Lib.lens (l.map wtext) ≤ 65 * l.length := by
  induction l with
  | nil => simp [Lib.lens]
  | cons d l ih =>
    have h1 := ih (fun x hx => h x (List.mem_cons_of_mem _ hx))
    have h2 := h d (List.mem_cons_self ..)
    simp only [Lib.lens, List.map_cons, List.sum_cons, List.length_cons] at h1 ⊢
    omega
theorem dtext_len (l : List Sm.St) (h : ∀ d ∈ l, (wtext d).length ≤ 65) : (dtext l).length ≤ 66 * l.length := by
  cases l with
  | nil => simp [dtext, Lib.join_nil]
  | cons d l =>
    have h1 := lens_le (d :: l) h
    unfold dtext
    rw [List.map_cons] at h1 ⊢
    rw [Lib.join_length]
    simp only [List.length_cons, List.length_map, List.length_nil] at h1 ⊢
    omega
/-- of devices that are right each is as told -/
theorem devs_dev {l : List Sm.St} (h : devs l = true) : (1 ≤ l.length ∧ l.length ≤ 12) ∧ ∀ d ∈ l, dev d.1 d.2.1 d.2.2 = true := by
  unfold devs at h
  simp only [Bool.and_eq_true, decide_eq_true_eq] at h
  refine ⟨h.2, fun d hd => ?_⟩
  obtain ⟨k, hk, rfl⟩ := List.mem_iff_getElem.1 hd
  have h1 := h.1
  unfold upto at h1
  rw [List.all_eq_true] at h1
  have h2 := h1 k (List.mem_range.2 hk)
  unfold okAt at h2
  rw [List.getElem?_eq_getElem hk] at h2
  simp only [Bool.and_eq_true] at h2
  exact h2.1
theorem dev_nat {i z n : Int} (h : dev i z n = true) : ∃ a b c : Nat, i = a ∧ z = b ∧ n = c ∧ a ≤ 20 ∧ b ≤ 20 ∧ c ≤ 1000 := by
  unfold dev at h
  simp at h
  exact ⟨i.toNat, z.toNat, n.toNat, by omega, by omega, by omega, by omega, by omega, by omega⟩
end Go.Proofs.Ytcejeiakgmamdac.Dv
