/- Moving: a part's first device that is not there, the first that is two above another one; a ring that is moved. Plain facts. -/
import Derived.Test.YtoemblcheahbeacLwM
import Derived.Test.YtoemblcheahbeacMvM
namespace Go.Proofs.Ytoemblcheahbeac.Rg
set_option linter.unusedVariables false
open Dv

/-- a place as a number; -1: there is none -/
def idxI (o : Option Nat) : Int := match o with
  | none => -1
  | some k => k
theorem find_hit {f : Int → Bool} {p : List Int} {k : Nat} (hk : k < p.length) (h : ((p.take k).all fun x => !f x) = true) (hf : f p[k] = true) : p.findIdx? f = some k := by
  rw [List.findIdx?_eq_some_iff_getElem]
  refine ⟨hk, hf, fun j hj => ?_⟩
  have := List.all_eq_true.1 h p[j] (by
    rw [List.mem_iff_getElem]
    exact ⟨j, by rw [List.length_take]; omega, by rw [List.getElem_take]⟩)
  simpa using this
theorem find_step {f : Int → Bool} {p : List Int} {k : Nat} (hk : k < p.length) (h : ((p.take k).all fun x => !f x) = true) (hf : f p[k] = false) : ((p.take (k + 1)).all fun x => !f x) = true :=
  all_step (f := fun x => !f x) hk (by rw [hf]; rfl) h
theorem find_end {f : Int → Bool} {p : List Int} {k : Nat} (hk : ¬ k < p.length) (h : ((p.take k).all fun x => !f x) = true) : p.findIdx? f = none := by
  have := all_end (f := fun x => !f x) hk h
  rw [List.findIdx?_eq_none_iff]
  intro x hx
  simpa using List.all_eq_true.1 this x hx

def lostB (l : List Sm.St) (x : Int) : Bool := (at_ l x).isNone
def heavyB (Q : List (List Int)) (l : List Sm.St) (b z x : Int) : Bool := match at_ l x with
  | none => false
  | some y => decide (y.2.1 = z) && decide (2 ≤ (load Q x : Int) - (load Q b : Int))
def heavyK (Q : List (List Int)) (l : List Sm.St) (p : List Int) (b : Int) : Option Nat := match at_ l b with
  | none => none
  | some d => p.findIdx? (heavyB Q l b d.2.1)
/-- which place of a part is changed, and for what -/
def mvOne (Q : List (List Int)) (l : List Sm.St) (p : List Int) : Option (Nat × Int) := match p.findIdx? (lostB l) with
  | some k => some (k, best Q (p.eraseIdx k) l)
  | none => (heavyK Q l p (best Q p l)).map fun k => (k, best Q p l)
def mvTo (p : List Int) (m : Option (Nat × Int)) : List Int := match m with
  | none => p
  | some (k, x) => p.set k x
def mvN (m : Option (Nat × Int)) : Nat := match m with
  | none => 0
  | some _ => 1
/-- behind k parts: the ring, and how many were changed -/
def rebK (l : List Sm.St) (Q : List (List Int)) : Nat → List (List Int) × Nat
  | 0 => (Q, 0)
  | k + 1 => ((rebK l Q k).1.set k (mvTo (Q.getD k []) (mvOne (rebK l Q k).1 l (Q.getD k []))), (rebK l Q k).2 + mvN (mvOne (rebK l Q k).1 l (Q.getD k [])))
def movB (reps : Int) (Q : List (List Int)) (l : List Sm.St) : Bool := headB reps Q.length l && (decide (reps ≤ (l.length : Int)) && Q.all fun p => partB p reps)
/-- the ring that is answered, and the number -/
def reb (reps : Int) (Q : List (List Int)) (l : List Sm.St) : List (List Int) × Int :=
  if movB reps Q l = true then ((rebK l Q Q.length).1, ((rebK l Q Q.length).2 : Int)) else (Q, -1)

/-- what is asked ahead of the parts -/
def MvHead (reps : Int) (n : Nat) (l : List Sm.St) : Prop := devs l = true ∧ (1 ≤ reps ∧ reps ≤ 5) ∧ (1 ≤ n ∧ n ≤ 64) ∧ reps ≤ (l.length : Int)
theorem mov_no {reps : Int} {Q : List (List Int)} {l : List Sm.St} (h : ¬ MvHead reps Q.length l) : movB reps Q l = false := by
  cases hq : movB reps Q l with
  | false => rfl
  | true =>
    unfold movB headB at hq
    simp only [Bool.and_eq_true, decide_eq_true_eq] at hq
    exact absurd ⟨hq.1.1, hq.1.2.1, hq.1.2.2, hq.2.1⟩ h
theorem mov_yes {reps : Int} {Q : List (List Int)} {l : List Sm.St} (h : MvHead reps Q.length l) : movB reps Q l = Q.all fun p => partB p reps := by
  obtain ⟨h1, ⟨h2, h3⟩, ⟨h4, h5⟩, h6⟩ := h
  unfold movB headB
  rw [h1, decide_eq_true h2, decide_eq_true h3, decide_eq_true h4, decide_eq_true h5, decide_eq_true h6]
  rfl
theorem mov_head {reps : Int} {Q : List (List Int)} {l : List Sm.St} (h : movB reps Q l = true) : MvHead reps Q.length l := by
  refine Classical.byContradiction fun hc => ?_
  rw [mov_no hc] at h
  cases h
theorem mov_each {reps : Int} {Q : List (List Int)} {l : List Sm.St} (h : movB reps Q l = true) : ∀ q ∈ Q, q.Nodup ∧ (q.length : Int) = reps := by
  have hh := mov_head h
  rw [mov_yes hh, List.all_eq_true] at h
  intro q hq
  have := h q hq
  unfold partB at this
  simpa using this

theorem mvTo_len (p : List Int) (m : Option (Nat × Int)) : (mvTo p m).length = p.length := by
  unfold mvTo
  split <;> simp
theorem mvN_le (m : Option (Nat × Int)) : mvN m ≤ 1 := by unfold mvN; split <;> omega
theorem rebK_len (l : List Sm.St) (Q : List (List Int)) : ∀ k, (rebK l Q k).1.length = Q.length
  | 0 => rfl
  | k + 1 => by simp only [rebK, List.length_set]; exact rebK_len l Q k
theorem rebK_le (l : List Sm.St) (Q : List (List Int)) : ∀ k, (rebK l Q k).2 ≤ k
  | 0 => Nat.le_refl _
  | k + 1 => by
    have h1 := rebK_le l Q k
    have h2 := mvN_le (mvOne (rebK l Q k).1 l (Q.getD k []))
    simp only [rebK]
    omega
theorem rebK_old (l : List Sm.St) (Q : List (List Int)) : ∀ k j, k ≤ j → (rebK l Q k).1[j]? = Q[j]?
  | 0, j, _ => rfl
  | k + 1, j, h => by
    simp only [rebK]
    rw [List.getElem?_set_ne (by omega)]
    exact rebK_old l Q k j (by omega)
theorem rebK_at {l : List Sm.St} {Q : List (List Int)} {k : Nat} (hk : k < Q.length) (h : k < (rebK l Q k).1.length) : (rebK l Q k).1[k] = Q[k] := by
  have := rebK_old l Q k k (Nat.le_refl _)
  rw [List.getElem?_eq_getElem h, List.getElem?_eq_getElem hk] at this
  exact Option.some.inj this
theorem rebK_step {l : List Sm.St} {Q : List (List Int)} {k : Nat} (hk : k < Q.length) :
    rebK l Q (k + 1) = ((rebK l Q k).1.set k (mvTo Q[k] (mvOne (rebK l Q k).1 l Q[k])), (rebK l Q k).2 + mvN (mvOne (rebK l Q k).1 l Q[k])) := by
  have e : Q.getD k [] = Q[k] := by rw [List.getD_eq_getElem?_getD, List.getElem?_eq_getElem hk]; rfl
  simp only [rebK, e]

theorem find_lt {f : Int → Bool} {p : List Int} {k : Nat} (h : p.findIdx? f = some k) : ∃ hk : k < p.length, f p[k] = true := by
  obtain ⟨hk, h1, -⟩ := List.findIdx?_eq_some_iff_getElem.1 h
  exact ⟨hk, h1⟩
/-- what a place is changed for is a device that the part has not -/
theorem mvOne_is {Q : List (List Int)} {l : List Sm.St} {p : List Int} {k : Nat} {x : Int} (hd : devs l = true) (hn : p.Nodup) (hl : p.length ≤ l.length) (h : mvOne Q l p = some (k, x)) :
    k < p.length ∧ x ∉ p ∧ 0 ≤ x ∧ x ≤ 20 ∧ (at_ l x).isSome = true := by
  have key : ∀ (q : List Int), (∃ e ∈ l, e.1 ∉ q) → best Q q l ∉ q ∧ 0 ≤ best Q q l ∧ best Q q l ≤ 20 ∧ (at_ l (best Q q l)).isSome = true := by
    intro q hq
    obtain ⟨d, h1, h2, h3, -⟩ := best_is hd Q q hq
    rw [h2]
    exact ⟨h3, (devs_weight hd h1).1.1, (devs_weight hd h1).1.2, by rw [at_self hd h1]; rfl⟩
  unfold mvOne at h
  split at h
  · rename_i k0 hk0
    obtain ⟨hlt, hlost⟩ := find_lt hk0
    simp only [Option.some.injEq, Prod.mk.injEq] at h
    obtain ⟨rfl, rfl⟩ := h
    have hlen : (p.eraseIdx k0).length < l.length := by rw [List.length_eraseIdx_of_lt hlt]; omega
    obtain ⟨h1, h2, h3, h4⟩ := key _ (left_one hd hlen)
    refine ⟨hlt, fun hm => ?_, h2, h3, h4⟩
    rw [List.mem_iff_getElem] at hm
    obtain ⟨j, hj, e⟩ := hm
    by_cases hjk : j = k0
    · subst hjk
      rw [← e] at h4
      unfold lostB at hlost
      cases hat : at_ l p[j] with
      | none => rw [hat] at h4; cases h4
      | some d => rw [hat] at hlost; cases hlost
    · apply h1
      rw [List.mem_eraseIdx_iff_getElem]
      exact ⟨j, hj, hjk, e⟩
  · rename_i hnone
    cases hk : heavyK Q l p (best Q p l) with
    | none => rw [hk] at h; cases h
    | some k0 =>
      rw [hk] at h
      simp only [Option.map_some, Option.some.injEq, Prod.mk.injEq] at h
      obtain ⟨rfl, rfl⟩ := h
      unfold heavyK at hk
      split at hk
      · cases hk
      · rename_i d hat
        obtain ⟨hlt, -⟩ := find_lt hk
        obtain ⟨h5, h6⟩ := at_mem hat
        have hex : ∃ e ∈ l, e.1 ∉ p := by
          refine Classical.byContradiction fun hc => ?_
          have hall : best Q p l = -1 := by
            have ho : openL p (zns l p) l = [] ∨ ¬ openL p (zns l p) l = [] := by
              cases openL p (zns l p) l with
              | nil => exact .inl rfl
              | cons a r => exact .inr (by simp)
            rcases ho with ho | ho
            · rw [best_open Q p hd, ho]; rfl
            · cases hop : openL p (zns l p) l with
              | nil => exact absurd hop ho
              | cons a r =>
                obtain ⟨g1, g2⟩ := open_mem (p := p) (Z := zns l p) (l := l) (d := a) (by rw [hop]; simp)
                exact absurd ⟨a, g1, g2⟩ hc
          rw [hall] at h6
          have := (devs_weight hd h5).1.1
          omega
        obtain ⟨g1, g2, g3, g4⟩ := key p hex
        exact ⟨hlt, g1, g2, g3, g4⟩
theorem set_nodup {p : List Int} {k : Nat} {x : Int} (hn : p.Nodup) (hx : x ∉ p) : (p.set k x).Nodup := by
  rw [List.nodup_iff_pairwise_ne, List.pairwise_iff_getElem] at hn ⊢
  intro i j hi hj hij
  rw [List.length_set] at hi hj
  have h1 := hn i j hi hj hij
  have h2 : p[i] ≠ x := fun e => hx (e ▸ List.getElem_mem hi)
  have h3 : p[j] ≠ x := fun e => hx (e ▸ List.getElem_mem hj)
  rw [List.getElem_set, List.getElem_set]
  split
  · split
    · omega
    · exact fun e => h3 e.symm
  · split
    · exact h2
    · exact h1
theorem mvTo_nodup {Q : List (List Int)} {l : List Sm.St} {p : List Int} (hd : devs l = true) (hn : p.Nodup) (hl : p.length ≤ l.length) : (mvTo p (mvOne Q l p)).Nodup := by
  cases h : mvOne Q l p with
  | none => exact hn
  | some kx =>
    obtain ⟨k, x⟩ := kx
    exact set_nodup hn (mvOne_is hd hn hl h).2.1
theorem mvTo_known {Q : List (List Int)} {l : List Sm.St} {p : List Int} (hd : devs l = true) (hn : p.Nodup) (hl : p.length ≤ l.length) (hk : known l p = true) : known l (mvTo p (mvOne Q l p)) = true := by
  cases h : mvOne Q l p with
  | none => exact hk
  | some kx =>
    obtain ⟨k, x⟩ := kx
    have hx := (mvOne_is hd hn hl h).2.2.2.2
    unfold known at hk ⊢
    rw [List.all_eq_true] at hk ⊢
    intro y hy
    rcases List.mem_or_eq_of_mem_set hy with h1 | h1
    · exact hk y h1
    · rw [h1]; exact hx
/-- what holds of each part as it was, and of what it is changed for, holds of all -/
theorem rebK_each {l : List Sm.St} {Q : List (List Int)} {φ : List Int → Prop} (h0 : ∀ q ∈ Q, φ q) (h1 : ∀ R q, q ∈ Q → φ (mvTo q (mvOne R l q))) : ∀ k, k ≤ Q.length → ∀ q ∈ (rebK l Q k).1, φ q
  | 0, _ => h0
  | k + 1, hk => by
    intro q hq
    rw [rebK_step (by omega)] at hq
    rcases List.mem_or_eq_of_mem_set hq with h | h
    · exact rebK_each h0 h1 k (by omega) q h
    · rw [h]; exact h1 _ _ (List.getElem_mem _)

theorem count_one : ∀ {p : List Int} {x : Int}, p.Nodup → x ∈ p → p.count x = 1
  | [], x, _, h => by cases h
  | y :: r, x, hn, h => by
    rw [List.nodup_cons] at hn
    by_cases e : y = x
    · subst e
      rw [List.count_cons_self, List.count_eq_zero_of_not_mem hn.1]
    · rw [List.count_cons_of_ne e]
      rcases List.mem_cons.1 h with h1 | h1
      · exact absurd h1.symm e
      · exact count_one hn.2 h1
theorem mvRow_self (p : List Int) : mvRow p p = 0 := by
  unfold mvRow
  rw [List.countP_eq_zero]
  intro x hx
  simp [hx]
theorem mvRow_set {p : List Int} {k : Nat} {x : Int} (hn : p.Nodup) (hk : k < p.length) (hx : x ∉ p) : mvRow p (p.set k x) = 1 := by
  have e : mvRow p (p.set k x) = p.count p[k] := by
    unfold mvRow List.count
    apply List.countP_congr
    intro y hy
    obtain ⟨j, hj, rfl⟩ := List.mem_iff_getElem.1 hy
    simp only [Bool.not_eq_true', decide_eq_false_iff_not, beq_iff_eq]
    constructor
    · intro h
      by_cases hjk : j = k
      · subst hjk; rfl
      · exact absurd (List.mem_iff_getElem.2 ⟨j, by rw [List.length_set]; exact hj, by rw [List.getElem_set_ne (by omega)]⟩) h
    · intro h hm
      have hjk := (List.getElem_inj (h₀ := hj) (h₁ := hk) hn).1 h
      subst hjk
      obtain ⟨i, hi, e⟩ := List.mem_iff_getElem.1 hm
      rw [List.length_set] at hi
      rw [List.getElem_set] at e
      split at e
      · exact hx (e ▸ List.getElem_mem hj)
      · have := (List.getElem_inj (h₀ := hi) (h₁ := hj) hn).1 e
        omega
  rw [e]
  exact count_one hn (List.getElem_mem hk)
theorem mvRow_to {Q : List (List Int)} {l : List Sm.St} {p : List Int} (hd : devs l = true) (hn : p.Nodup) (hl : p.length ≤ l.length) : mvRow p (mvTo p (mvOne Q l p)) = mvN (mvOne Q l p) := by
  cases h : mvOne Q l p with
  | none => exact mvRow_self p
  | some kx =>
    obtain ⟨k, x⟩ := kx
    obtain ⟨h1, h2, -⟩ := mvOne_is hd hn hl h
    exact mvRow_set hn h1 h2
theorem moved_self : ∀ Q : List (List Int), moved Q Q = 0
  | [] => rfl
  | a :: A => by
    have h1 := moved_self A
    have h2 := mvRow_self a
    simp only [moved, List.zip_cons_cons, List.map_cons, List.sum_cons] at h1 ⊢
    omega
theorem moved_set : ∀ (Q R : List (List Int)) (k : Nat) (p : List Int) (hq : k < Q.length) (hr : k < R.length), moved Q (R.set k p) + mvRow Q[k] R[k] = moved Q R + mvRow Q[k] p
  | a :: Q, b :: R, 0, p, _, _ => by
    simp only [moved, List.set_cons_zero, List.zip_cons_cons, List.map_cons, List.sum_cons, List.getElem_cons_zero]
    omega
  | a :: Q, b :: R, k + 1, p, hq, hr => by
    have := moved_set Q R k p (by simpa using hq) (by simpa using hr)
    simp only [moved, List.set_cons_succ, List.zip_cons_cons, List.map_cons, List.sum_cons, List.getElem_cons_succ] at this ⊢
    omega
theorem rebK_moved {l : List Sm.St} {Q : List (List Int)} (hd : devs l = true) (hQ : ∀ q ∈ Q, q.Nodup ∧ q.length ≤ l.length) : ∀ k, k ≤ Q.length → moved Q (rebK l Q k).1 = (rebK l Q k).2
  | 0, _ => moved_self Q
  | k + 1, hk => by
    have ih := rebK_moved hd hQ k (by omega)
    have hlt : k < Q.length := by omega
    obtain ⟨h1, h2⟩ := hQ _ (List.getElem_mem hlt)
    have hs := moved_set Q (rebK l Q k).1 k (mvTo Q[k] (mvOne (rebK l Q k).1 l Q[k])) hlt (by rw [rebK_len]; exact hlt)
    rw [rebK_at hlt, mvRow_self, mvRow_to hd h1 h2] at hs
    rw [rebK_step hlt]
    simp only
    omega
/-- where all is there and no load is two above another, all stays -/
theorem mvOne_stay {Q : List (List Int)} {l : List Sm.St} {p : List Int} (hk : known l p = true) (hev : ∀ x ∈ l, ∀ y ∈ l, load Q x.1 ≤ load Q y.1 + 1) : mvOne Q l p = none := by
  have h1 : p.findIdx? (lostB l) = none := by
    rw [List.findIdx?_eq_none_iff]
    intro x hx
    have := List.all_eq_true.1 hk x hx
    unfold lostB
    cases h : at_ l x with
    | none => rw [h] at this; cases this
    | some d => rfl
  unfold mvOne
  rw [h1]
  simp only
  unfold heavyK
  cases hb : at_ l (best Q p l) with
  | none => rfl
  | some d =>
    simp only
    have h2 : p.findIdx? (heavyB Q l (best Q p l) d.2.1) = none := by
      rw [List.findIdx?_eq_none_iff]
      intro x hx
      unfold heavyB
      cases h : at_ l x with
      | none => rfl
      | some y =>
        obtain ⟨g1, g2⟩ := at_mem h
        obtain ⟨g3, g4⟩ := at_mem hb
        have := hev y g1 d g3
        rw [g2, g4] at this
        simp only [Bool.and_eq_false_iff, decide_eq_false_iff_not]
        right
        omega
    rw [h2]
    rfl
theorem rebK_stay {l : List Sm.St} {Q : List (List Int)} (hk : ∀ q ∈ Q, known l q = true) (hev : ∀ x ∈ l, ∀ y ∈ l, load Q x.1 ≤ load Q y.1 + 1) : ∀ k, k ≤ Q.length → rebK l Q k = (Q, 0)
  | 0, _ => rfl
  | k + 1, h => by
    have hlt : k < Q.length := by omega
    rw [rebK_step hlt, rebK_stay hk hev k (by omega)]
    simp only
    rw [mvOne_stay (hk _ (List.getElem_mem hlt)) hev]
    simp [mvTo, mvN]
end Go.Proofs.Ytoemblcheahbeac.Rg
