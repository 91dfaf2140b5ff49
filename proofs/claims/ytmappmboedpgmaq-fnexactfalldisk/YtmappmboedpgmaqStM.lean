/- Stamps: which are right, which of two is less, the next one, the latest of a list: plain facts, nothing of the program is named here. -/
import Derived.RowKit
namespace Go.Proofs.Ytmappmboedpgmaq.Sm
open Go.RowKit

/-- Time, Seq, Node -/
abbrev St : Type := Int × Int × Int

def ok (t q n : Int) : Bool := decide (0 ≤ t) && decide (t ≤ 1000000000) && decide (0 ≤ q) && decide (q ≤ 1000000) && decide (0 ≤ n) && decide (n ≤ 20)

def less (t q n t' q' n' : Int) : Bool := if t = t' then (if q = q' then decide (n < n') else decide (q < q')) else decide (t < t')

theorem ok_true {t q n : Int} (h : ok t q n = true) : (0 ≤ t ∧ t ≤ 1000000000) ∧ (0 ≤ q ∧ q ≤ 1000000) ∧ (0 ≤ n ∧ n ≤ 20) := by
  unfold ok at h; simp at h; omega
theorem ok_false {t q n : Int} (h : ok t q n = false) : ¬ ((0 ≤ t ∧ t ≤ 1000000000) ∧ (0 ≤ q ∧ q ≤ 1000000) ∧ (0 ≤ n ∧ n ≤ 20)) := by
  unfold ok at h; simp at h; omega
theorem ok_mk {t q n : Int} (h : (0 ≤ t ∧ t ≤ 1000000000) ∧ (0 ≤ q ∧ q ≤ 1000000) ∧ (0 ≤ n ∧ n ≤ 20)) : ok t q n = true := by
  unfold ok; simp; omega
theorem ok_no {t q n : Int} (h : ¬ ((0 ≤ t ∧ t ≤ 1000000000) ∧ (0 ≤ q ∧ q ≤ 1000000) ∧ (0 ≤ n ∧ n ≤ 20))) : ok t q n = false := by
  unfold ok; simp; omega

def near (x m : Int) : Int := min (max x 0) m
theorem near_in (x m : Int) (h0 : 0 ≤ x) (h1 : x ≤ m) : near x m = x := by unfold near; omega
theorem near_out (x m : Int) (hm : 0 ≤ m) (h : ¬ (0 ≤ x ∧ x ≤ m)) : (x == near x m) = false := by
  unfold near; simp; omega

theorem eqNear (t q n : Int) : ((t == near t 1000000000) && ((q == near q 1000000) && (n == near n 20))) = ok t q n := by
  cases h : ok t q n with
  | true =>
    obtain ⟨⟨a, b⟩, ⟨c, d⟩, e, f⟩ := ok_true h
    rw [near_in t _ a b, near_in q _ c d, near_in n _ e f]; simp
  | false =>
    have := ok_false h
    unfold near; simp; omega
theorem less_t {t q n t' q' n' : Int} (h : ¬ t = t') : less t q n t' q' n' = decide (t < t') := by unfold less; rw [if_neg h]
theorem less_q {t q n q' n' : Int} (h : ¬ q = q') : less t q n t q' n' = decide (q < q') := by unfold less; rw [if_pos rfl, if_neg h]
theorem less_n {t q n n' : Int} : less t q n t q n' = decide (n < n') := by unfold less; rw [if_pos rfl, if_pos rfl]
theorem way_t {t q n t' q' n' : Int} (h : (t != t') = true) : decide (t < t') = less t q n t' q' n' := (less_t (by simpa using h)).symm
theorem way_q {t q n t' q' n' : Int} (h : (t != t') = false) (k : (q != q') = true) : decide (q < q') = less t q n t' q' n' := by
  obtain rfl : t = t' := by simpa using h
  exact (less_q (by simpa using k)).symm
theorem way_n {t q n t' q' n' : Int} (h : (t != t') = false) (k : (q != q') = false) : decide (n < n') = less t q n t' q' n' := by
  obtain rfl : t = t' := by simpa using h
  obtain rfl : q = q' := by simpa using k
  exact less_n.symm
theorem less_asym {t q n t' q' n' : Int} (h : less t q n t' q' n' = true) : less t' q' n' t q n = false := by
  unfold less at h ⊢
  by_cases e : t = t'
  · subst e
    by_cases e2 : q = q'
    · subst e2; simp at h ⊢; omega
    · rw [if_pos rfl, if_neg e2] at h
      rw [if_pos rfl, if_neg (fun x => e2 x.symm)]
      simp at h ⊢; omega
  · rw [if_neg e] at h
    rw [if_neg (fun x => e x.symm)]
    simp at h ⊢; omega
theorem less_tot {t q n t' q' n' : Int} (h : ¬ (t = t' ∧ q = q' ∧ n = n')) (hl : less t q n t' q' n' = false) : less t' q' n' t q n = true := by
  unfold less at hl ⊢
  by_cases e : t = t'
  · subst e
    by_cases e2 : q = q'
    · subst e2; simp at hl h ⊢; omega
    · rw [if_pos rfl, if_neg e2] at hl
      rw [if_pos rfl, if_neg (fun x => e2 x.symm)]
      simp at hl ⊢; omega
  · rw [if_neg e] at hl
    rw [if_neg (fun x => e x.symm)]
    simp at hl ⊢; omega
theorem less_irr (t q n : Int) : less t q n t q n = false := by rw [less_n]; simp
theorem less_trans {t q n t' q' n' t'' q'' n'' : Int} (h : less t q n t' q' n' = true) (k : less t' q' n' t'' q'' n'' = true) : less t q n t'' q'' n'' = true := by
  unfold less at h k ⊢
  repeat' split at h
  all_goals repeat' split at k
  all_goals repeat' split
  all_goals simp at h k ⊢
  all_goals omega

/-- the next stamp: what would come next, and what is answered -/
def cand (s : St) (time node : Int) : St := if time ≤ s.1 then (s.1, wrap64 (s.2.1 + 1), node) else (time, 0, node)
def okS (s : St) : Bool := ok s.1 s.2.1 s.2.2
def lessS (a b : St) : Bool := less a.1 a.2.1 a.2.2 b.1 b.2.1 b.2.2
def next (s : St) (time node : Int) : St := if okS (cand s time node) then cand s time node else s

theorem next_le (s : St) (time node : Int) (h : time ≤ s.1) : (ok s.1 (wrap64 (s.2.1 + 1)) node = true → (s.1, wrap64 (s.2.1 + 1), node) = next s time node) ∧ (ok s.1 (wrap64 (s.2.1 + 1)) node = false → s = next s time node) := by
  have hc : cand s time node = (s.1, wrap64 (s.2.1 + 1), node) := by unfold cand; rw [if_pos h]
  constructor
  · intro hk; unfold next; rw [hc, if_pos (show okS (s.1, wrap64 (s.2.1 + 1), node) = true from hk)]
  · intro hk; unfold next; rw [hc, if_neg (by rw [show okS (s.1, wrap64 (s.2.1 + 1), node) = false from hk]; decide)]
theorem next_gt (s : St) (time node : Int) (h : ¬ time ≤ s.1) : (ok time 0 node = true → (time, 0, node) = next s time node) ∧ (ok time 0 node = false → s = next s time node) := by
  have hc : cand s time node = (time, 0, node) := by unfold cand; rw [if_neg h]
  constructor
  · intro hk; unfold next; rw [hc, if_pos (show okS (time, 0, node) = true from hk)]
  · intro hk; unfold next; rw [hc, if_neg (by rw [show okS (time, 0, node) = false from hk]; decide)]

/-- the latest so far, and then those of a list -/
def later (a b : St) : St := if lessS a b then b else a
theorem later_yes {t q n t' q' n' : Int} (h : less t q n t' q' n' = true) : later (t, q, n) (t', q', n') = (t', q', n') := by unfold later; rw [if_pos (show lessS (t, q, n) (t', q', n') = true from h)]
theorem later_no {t q n t' q' n' : Int} (h : less t q n t' q' n' = false) : later (t, q, n) (t', q', n') = (t, q, n) := by unfold later; rw [if_neg (by rw [show lessS (t, q, n) (t', q', n') = false from h]; decide)]
def latest : List St → St
  | [] => (0, 0, 0)
  | s :: r => r.foldl later s

theorem latest_snoc (l : List St) (b : St) (h : 0 < l.length) : latest (l ++ [b]) = later (latest l) b := by
  cases l with
  | nil => simp at h
  | cons s r =>
    show (r ++ [b]).foldl later s = later (r.foldl later s) b
    rw [List.foldl_append]; rfl
theorem latest_one (b : St) : latest [b] = b := rfl
/-- what the next one is: the last itself, or a later one that is right -/
theorem next_cases (t q n time node : Int) (hq : -1 ≤ q ∧ q ≤ 1000001) : next (t, q, n) time node = (t, q, n) ∨
    (∃ a b c, next (t, q, n) time node = (a, b, c) ∧ less t q n a b c = true ∧ ok a b c = true ∧ (¬ a = t ∨ (a = t ∧ ¬ b = q))) := by
  by_cases h : time ≤ t
  · have hw : wrap64 (q + 1) = q + 1 := by unfold wrap64; omega
    have hn := next_le (t, q, n) time node h
    simp only [hw] at hn
    cases hk : ok t (q + 1) node with
    | true => exact .inr ⟨t, q + 1, node, (hn.1 hk).symm, by rw [less_q (by omega)]; simp; omega, hk, .inr ⟨rfl, by omega⟩⟩
    | false => exact .inl (hn.2 hk).symm
  · have hn := next_gt (t, q, n) time node h
    cases hk : ok time 0 node with
    | true => exact .inr ⟨time, 0, node, (hn.1 hk).symm, by rw [less_t (by omega)]; simp; omega, hk, .inl (by omega)⟩
    | false => exact .inl (hn.2 hk).symm

theorem fold_latest : ∀ (r : List St) (s : St), lessS (r.foldl later s) s = false ∧ (∀ x ∈ r, lessS (r.foldl later s) x = false) ∧ (r.foldl later s = s ∨ r.foldl later s ∈ r) := by
  intro r
  induction r with
  | nil => intro s; exact ⟨less_irr _ _ _, fun x h => by simp at h, .inl rfl⟩
  | cons b r ih =>
    intro s
    obtain ⟨h1, h2, h3⟩ := ih (later s b)
    show lessS (r.foldl later (later s b)) s = false ∧ (∀ x ∈ b :: r, lessS (r.foldl later (later s b)) x = false) ∧ (r.foldl later (later s b) = s ∨ r.foldl later (later s b) ∈ b :: r)
    generalize r.foldl later (later s b) = m at h1 h2 h3
    cases hk : lessS s b with
    | true =>
      have e : later s b = b := by unfold later; rw [if_pos hk]
      rw [e] at h1 h3
      refine ⟨?_, ?_, ?_⟩
      · cases hm : lessS m s with
        | false => rfl
        | true => have := less_trans hm hk; rw [show lessS m b = true from this] at h1; cases h1
      · intro x hx
        rcases List.mem_cons.1 hx with rfl | hx
        · exact h1
        · exact h2 x hx
      · rcases h3 with rfl | h3
        · exact .inr List.mem_cons_self
        · exact .inr (List.mem_cons_of_mem _ h3)
    | false =>
      have e : later s b = s := by unfold later; rw [if_neg (by rw [hk]; decide)]
      rw [e] at h1 h3
      refine ⟨h1, ?_, ?_⟩
      · intro x hx
        rcases List.mem_cons.1 hx with rfl | hx
        · cases hm : lessS m x with
          | false => rfl
          | true =>
            by_cases e2 : m = s
            · rw [e2] at hm; rw [hm] at hk; cases hk
            · have h4 : lessS s m = true := less_tot (fun h => e2 (Prod.ext h.1 (Prod.ext h.2.1 h.2.2))) h1
              have := less_trans h4 hm
              rw [show lessS s x = true from this] at hk; cases hk
        · exact h2 x hx
      · rcases h3 with rfl | h3
        · exact .inl rfl
        · exact .inr (List.mem_cons_of_mem _ h3)
theorem latest_top (l : List St) (x : St) (h : x ∈ l) : lessS (latest l) x = false := by
  cases l with
  | nil => simp at h
  | cons s r =>
    obtain ⟨h1, h2, _⟩ := fold_latest r s
    rcases List.mem_cons.1 h with rfl | h
    · exact h1
    · exact h2 x h
theorem latest_mem (l : List St) (h : 0 < l.length) : latest l ∈ l := by
  cases l with
  | nil => simp at h
  | cons s r =>
    rcases (fold_latest r s).2.2 with h | h
    · show r.foldl later s ∈ s :: r; rw [h]; exact List.mem_cons_self
    · exact List.mem_cons_of_mem _ h
end Go.Proofs.Ytmappmboedpgmaq.Sm
