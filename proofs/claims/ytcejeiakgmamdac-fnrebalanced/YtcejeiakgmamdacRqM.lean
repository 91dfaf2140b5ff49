/- A ring that is rebalanced: no part has more than one moved, none is there twice, what was right is right. Plain facts. -/
import Derived.Test.YtcejeiakgmamdacRbAll
namespace Go.Proofs.Ytcejeiakgmamdac.Rg
set_option linter.unusedVariables false
open Dv

theorem rebK_ix {l : List Sm.St} {Q : List (List Int)} : ∀ k, k ≤ Q.length → ∀ i (hi : i < Q.length), i < k → ∃ R', (rebK l Q k).1[i]? = some (mvTo Q[i] (mvOne R' l Q[i]))
  | 0, _, i, _, h => absurd h (Nat.not_lt_zero i)
  | k + 1, hk, i, hi, h => by
    rw [rebK_step (by omega)]
    by_cases e : i = k
    · subst e
      exact ⟨_, by rw [List.getElem?_set_self (by rw [rebK_len]; exact hi)]⟩
    · obtain ⟨R', h'⟩ := rebK_ix (l := l) (Q := Q) k (by omega) i hi (by omega)
      exact ⟨R', by rw [List.getElem?_set_ne (by omega)]; exact h'⟩
theorem moved_one (p q : List Int) : moved [p] [q] = mvRow p q := by simp [moved]
theorem reb_facts {reps : Int} {Q R : List (List Int)} {l : List Sm.St} {n : Int} (h : reb reps Q l = (R, n)) (hn : 0 ≤ n) :
    (∀ i (hi : i < Q.length) (hr : i < R.length), moved [Q[i]] [R[i]] ≤ 1 ∧ (R[i].length : Int) = reps ∧ R[i].Nodup) ∧ (moved Q R : Int) = n ∧ (ringB reps Q l = true → ringB reps R l = true) ∧ 1 ≤ reps := by
  unfold reb at h
  by_cases hm : movB reps Q l = true
  · rw [if_pos hm] at h
    simp only [Prod.mk.injEq] at h
    obtain ⟨rfl, rfl⟩ := h
    obtain ⟨hd, ⟨hr1, hr5⟩, hq, hrl⟩ := mov_head hm
    have he := mov_each hm
    have he2 : ∀ q ∈ Q, q.Nodup ∧ q.length ≤ l.length := fun q hq => ⟨(he q hq).1, by have := (he q hq).2; omega⟩
    refine ⟨fun i hi hr => ?_, by rw [rebK_moved hd he2 _ (Nat.le_refl _)], fun hring => ?_, hr1⟩
    · obtain ⟨R', h'⟩ := rebK_ix (l := l) (Q := Q) Q.length (Nat.le_refl _) i hi hi
      rw [List.getElem?_eq_getElem hr] at h'
      have h' := Option.some.inj h'
      obtain ⟨h1, h2⟩ := he2 _ (List.getElem_mem hi)
      rw [h', moved_one, mvRow_to hd h1 h2]
      refine ⟨mvN_le _, by rw [mvTo_len]; exact (he _ (List.getElem_mem hi)).2, mvTo_nodup hd h1 h2⟩
    · have hh : headB reps Q.length l = true := by
        unfold ringB at hring
        simp only [Bool.and_eq_true] at hring
        exact hring.1
      have hk : ∀ q ∈ Q, known l q = true := by
        unfold ringB at hring
        simp only [Bool.and_eq_true, List.all_eq_true] at hring
        intro q hq
        have := hring.2 q hq
        unfold partOk at this
        simp only [Bool.and_eq_true] at this
        exact this.2
      unfold ringB
      rw [rebK_len, hh, Bool.true_and, List.all_eq_true]
      refine rebK_each (φ := fun p => partOk reps l p = true) (fun q hq => ?_) (fun R q hq => ?_) Q.length (Nat.le_refl _)
      · unfold partOk partB
        simp [(he q hq).1, (he q hq).2, hk q hq]
      · obtain ⟨h1, h2⟩ := he2 q hq
        unfold partOk partB
        rw [mvTo_len]
        simp [mvTo_nodup (Q := R) hd h1 h2, (he q hq).2, mvTo_known (Q := R) hd h1 h2 (hk q hq)]
  · rw [if_neg hm] at h
    simp only [Prod.mk.injEq] at h
    obtain ⟨-, rfl⟩ := h
    omega
end Go.Proofs.Ytcejeiakgmamdac.Rg
