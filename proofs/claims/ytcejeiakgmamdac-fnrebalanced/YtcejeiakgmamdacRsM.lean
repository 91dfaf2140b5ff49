/- Devices that are right: their Ids rise, each is found by its own; their zones. Plain facts. -/
import Derived.Test.YtcejeiakgmamdacTxM
import Derived.Test.YtcejeiakgmamdacAtS
import Derived.Test.YtcejeiakgmamdacZnM
namespace Go.Proofs.Ytcejeiakgmamdac.Dv
set_option linter.unusedVariables false

theorem devs_next {l : List Sm.St} (h : devs l = true) (k : Nat) (hk : k + 1 < l.length) : l[k].1 < l[k + 1].1 := by
  unfold devs at h
  simp only [Bool.and_eq_true, decide_eq_true_eq] at h
  have h1 := h.1
  unfold upto at h1
  rw [List.all_eq_true] at h1
  have h2 := h1 (k + 1) (List.mem_range.2 hk)
  rw [okAt_succ (i := l[k + 1].1) (z := l[k + 1].2.1) (n := l[k + 1].2.2) (i' := l[k].1) (z' := l[k].2.1) (n' := l[k].2.2) hk rfl rfl] at h2
  simp only [Bool.and_eq_true, decide_eq_true_eq] at h2
  exact h2.2
theorem devs_rise {l : List Sm.St} (h : devs l = true) : ∀ (k : Nat) (hk : k < l.length) (j : Nat) (hj : j < k), l[j].1 < l[k].1
  | 0, _, j, hj => by omega
  | k + 1, hk, j, hj => by
    have h1 := devs_next h k hk
    by_cases e : j = k
    · subst e; exact h1
    · have h2 := devs_rise h k (by omega) j (by omega)
      omega
/-- each is found by its Id -/
theorem devs_at {l : List Sm.St} (h : devs l = true) (k : Nat) (hk : k < l.length) : at_ l l[k].1 = some l[k] := by
  refine at_yes hk ?_ rfl
  rw [List.all_eq_true]
  intro x hx
  obtain ⟨j, hj, rfl⟩ := List.mem_iff_getElem.1 hx
  rw [List.length_take] at hj
  rw [List.getElem_take]
  have := devs_rise h k hk j (by omega)
  simp only [Bool.not_eq_true', beq_eq_false_iff_ne, ne_eq]
  omega
theorem zs_step {l : List Sm.St} {R : List Int} (h : Zs l R) (j : Nat) (hj : j + 1 < R.length) : R[j] < R[j + 1] := List.pairwise_iff_getElem.1 h.1 j (j + 1) (by omega) hj (by omega)
theorem zs_mem {l : List Sm.St} {R : List Int} (h : Zs l R) (k : Nat) (hk : k < l.length) : l[k].2.1 ∈ R := (h.2.1 _).2 ⟨l[k], List.getElem_mem hk, rfl⟩
theorem zs_pos {l : List Sm.St} {R : List Int} (h : Zs l R) (hl : 1 ≤ l.length) : 1 ≤ R.length := List.length_pos_of_mem (zs_mem h 0 (by omega))
end Go.Proofs.Ytcejeiakgmamdac.Dv
