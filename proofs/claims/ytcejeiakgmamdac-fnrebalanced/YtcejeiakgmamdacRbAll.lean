/- Moving a part's replica, all of it in one text: the plain facts, the specification's side, the program's side, both. -/
import Derived.Test.YtcejeiakgmamdacLwM
import Derived.Test.YtcejeiakgmamdacMvM
import Derived.Test.YtcejeiakgmamdacBuM
import Derived.Test.YtcejeiakgmamdacOwM
import Derived.Test.YtcejeiakgmamdacAtS
import Derived.Test.YtcejeiakgmamdacRgB
import Derived.Test.YtcejeiakgmamdacLdS
import Derived.Test.YtcejeiakgmamdacRkS
import Derived.Test.YtcejeiakgmamdacApZ
import Derived.Test.YtcejeiakgmamdacRgZ
import Derived.Test.YtcejeiakgmamdacBuS
import Derived.Test.YtcejeiakgmamdacRgK
import Derived.Test.YtcejeiakgmamdacBsS
import Derived.Test.YtcejeiakgmamdacRkI
import Derived.Test.YtcejeiakgmamdacAtI
import Derived.Test.YtcejeiakgmamdacShelfD
import Derived.Test.YtcejeiakgmamdacLdI
import Derived.Test.YtcejeiakgmamdacBsI
import Derived.Deep.RegionHeld3
import Derived.BigQuiet
import Derived.Deep.QuietTactic
import Derived.Deep.AppendLies
import Derived.Deep.RegionLaw
import Derived.Deep.CutBlock
import Derived.Deep.DeepCutAuto
import Derived.Lib.SliceRun
import Derived.Sort.OwnSortedInts
import Derived.Laws.CopyOwn
import Derived.Laws.StructEq
import Derived.Tactics2
namespace Go.Proofs.Ytcejeiakgmamdac.Rg
set_option linter.unusedVariables false
open Dv

/-- a place as a number; -1: there is none -/
def idxI (o : Option Nat) : Int := match o with
  | none => -1
  | some k => k
theorem find_hit {f : Int → Bool} {p : List Int} {k : Nat} (hk : k < p.length) (h : ((p.take k).all fun x => !f x) = true) (hf : f p[k] = true) : p.findIdx? f = some k := by
  rw [List.findIdx?_eq_some_iff_getElem]
  refine ⟨hk, hf, fun j hj => ?_⟩
  have := List.all_eq_true.1 h p[j] (by
    rw [List.mem_iff_getElem]
    exact ⟨j, by rw [List.length_take]; omega, by rw [List.getElem_take]⟩)
  simpa using this
theorem find_step {f : Int → Bool} {p : List Int} {k : Nat} (hk : k < p.length) (h : ((p.take k).all fun x => !f x) = true) (hf : f p[k] = false) : ((p.take (k + 1)).all fun x => !f x) = true :=
  all_step (f := fun x => !f x) hk (by rw [hf]; rfl) h
theorem find_end {f : Int → Bool} {p : List Int} {k : Nat} (hk : ¬ k < p.length) (h : ((p.take k).all fun x => !f x) = true) : p.findIdx? f = none := by
  have := all_end (f := fun x => !f x) hk h
  rw [List.findIdx?_eq_none_iff]
  intro x hx
  simpa using List.all_eq_true.1 this x hx

def lostB (l : List Sm.St) (x : Int) : Bool := (at_ l x).isNone
def heavyB (Q : List (List Int)) (l : List Sm.St) (b z x : Int) : Bool := match at_ l x with
  | none => false
  | some y => decide (y.2.1 = z) && decide (2 ≤ (load Q x : Int) - (load Q b : Int))
def heavyK (Q : List (List Int)) (l : List Sm.St) (p : List Int) (b : Int) : Option Nat := match at_ l b with
  | none => none
  | some d => p.findIdx? (heavyB Q l b d.2.1)
/-- which place of a part is changed, and for what -/
def mvOne (Q : List (List Int)) (l : List Sm.St) (p : List Int) : Option (Nat × Int) := match p.findIdx? (lostB l) with
  | some k => some (k, best Q (p.eraseIdx k) l)
  | none => (heavyK Q l p (best Q p l)).map fun k => (k, best Q p l)
def mvTo (p : List Int) (m : Option (Nat × Int)) : List Int := match m with
  | none => p
  | some (k, x) => p.set k x
def mvN (m : Option (Nat × Int)) : Nat := match m with
  | none => 0
  | some _ => 1
/-- behind k parts: the ring, and how many were changed -/
def rebK (l : List Sm.St) (Q : List (List Int)) : Nat → List (List Int) × Nat
  | 0 => (Q, 0)
  | k + 1 => ((rebK l Q k).1.set k (mvTo (Q.getD k []) (mvOne (rebK l Q k).1 l (Q.getD k []))), (rebK l Q k).2 + mvN (mvOne (rebK l Q k).1 l (Q.getD k [])))
def movB (reps : Int) (Q : List (List Int)) (l : List Sm.St) : Bool := headB reps Q.length l && (decide (reps ≤ (l.length : Int)) && Q.all fun p => partB p reps)
/-- the ring that is answered, and the number -/
def reb (reps : Int) (Q : List (List Int)) (l : List Sm.St) : List (List Int) × Int :=
  if movB reps Q l = true then ((rebK l Q Q.length).1, ((rebK l Q Q.length).2 : Int)) else (Q, -1)

/-- what is asked ahead of the parts -/
def MvHead (reps : Int) (n : Nat) (l : List Sm.St) : Prop := devs l = true ∧ (1 ≤ reps ∧ reps ≤ 5) ∧ (1 ≤ n ∧ n ≤ 64) ∧ reps ≤ (l.length : Int)
theorem mov_no {reps : Int} {Q : List (List Int)} {l : List Sm.St} (h : ¬ MvHead reps Q.length l) : movB reps Q l = false := by
  cases hq : movB reps Q l with
  | false => rfl
  | true =>
    unfold movB headB at hq
    simp only [Bool.and_eq_true, decide_eq_true_eq] at hq
    exact absurd ⟨hq.1.1, hq.1.2.1, hq.1.2.2, hq.2.1⟩ h
theorem mov_yes {reps : Int} {Q : List (List Int)} {l : List Sm.St} (h : MvHead reps Q.length l) : movB reps Q l = Q.all fun p => partB p reps := by
  obtain ⟨h1, ⟨h2, h3⟩, ⟨h4, h5⟩, h6⟩ := h
  unfold movB headB
  rw [h1, decide_eq_true h2, decide_eq_true h3, decide_eq_true h4, decide_eq_true h5, decide_eq_true h6]
  rfl
theorem mov_head {reps : Int} {Q : List (List Int)} {l : List Sm.St} (h : movB reps Q l = true) : MvHead reps Q.length l := by
  refine Classical.byContradiction fun hc => ?_
  rw [mov_no hc] at h
  cases h
theorem mov_each {reps : Int} {Q : List (List Int)} {l : List Sm.St} (h : movB reps Q l = true) : ∀ q ∈ Q, q.Nodup ∧ (q.length : Int) = reps := by
  have hh := mov_head h
  rw [mov_yes hh, List.all_eq_true] at h
  intro q hq
  have := h q hq
  unfold partB at this
  simpa using this

theorem mvTo_len (p : List Int) (m : Option (Nat × Int)) : (mvTo p m).length = p.length := by
  unfold mvTo
  split <;> simp
theorem mvN_le (m : Option (Nat × Int)) : mvN m ≤ 1 := by unfold mvN; split <;> omega
theorem rebK_len (l : List Sm.St) (Q : List (List Int)) : ∀ k, (rebK l Q k).1.length = Q.length
  | 0 => rfl
  | k + 1 => by simp only [rebK, List.length_set]; exact rebK_len l Q k
theorem rebK_le (l : List Sm.St) (Q : List (List Int)) : ∀ k, (rebK l Q k).2 ≤ k
  | 0 => Nat.le_refl _
  | k + 1 => by
    have h1 := rebK_le l Q k
    have h2 := mvN_le (mvOne (rebK l Q k).1 l (Q.getD k []))
    simp only [rebK]
    omega
theorem rebK_old (l : List Sm.St) (Q : List (List Int)) : ∀ k j, k ≤ j → (rebK l Q k).1[j]? = Q[j]?
  | 0, j, _ => rfl
  | k + 1, j, h => by
    simp only [rebK]
    rw [List.getElem?_set_ne (by omega)]
    exact rebK_old l Q k j (by omega)
theorem rebK_at {l : List Sm.St} {Q : List (List Int)} {k : Nat} (hk : k < Q.length) (h : k < (rebK l Q k).1.length) : (rebK l Q k).1[k] = Q[k] := by
  have := rebK_old l Q k k (Nat.le_refl _)
  rw [List.getElem?_eq_getElem h, List.getElem?_eq_getElem hk] at this
  exact Option.some.inj this
theorem rebK_step {l : List Sm.St} {Q : List (List Int)} {k : Nat} (hk : k < Q.length) :
    rebK l Q (k + 1) = ((rebK l Q k).1.set k (mvTo Q[k] (mvOne (rebK l Q k).1 l Q[k])), (rebK l Q k).2 + mvN (mvOne (rebK l Q k).1 l Q[k])) := by
  have e : Q.getD k [] = Q[k] := by rw [List.getD_eq_getElem?_getD, List.getElem?_eq_getElem hk]; rfl
  simp only [rebK, e]

theorem find_lt {f : Int → Bool} {p : List Int} {k : Nat} (h : p.findIdx? f = some k) : ∃ hk : k < p.length, f p[k] = true := by
  obtain ⟨hk, h1, -⟩ := List.findIdx?_eq_some_iff_getElem.1 h
  exact ⟨hk, h1⟩
/-- what a place is changed for is a device that the part has not -/
theorem mvOne_is {Q : List (List Int)} {l : List Sm.St} {p : List Int} {k : Nat} {x : Int} (hd : devs l = true) (hn : p.Nodup) (hl : p.length ≤ l.length) (h : mvOne Q l p = some (k, x)) :
    k < p.length ∧ x ∉ p ∧ 0 ≤ x ∧ x ≤ 20 ∧ (at_ l x).isSome = true := by
  have key : ∀ (q : List Int), (∃ e ∈ l, e.1 ∉ q) → best Q q l ∉ q ∧ 0 ≤ best Q q l ∧ best Q q l ≤ 20 ∧ (at_ l (best Q q l)).isSome = true := by
    intro q hq
    obtain ⟨d, h1, h2, h3, -⟩ := best_is hd Q q hq
    rw [h2]
    exact ⟨h3, (devs_weight hd h1).1.1, (devs_weight hd h1).1.2, by rw [at_self hd h1]; rfl⟩
  unfold mvOne at h
  split at h
  · rename_i k0 hk0
    obtain ⟨hlt, hlost⟩ := find_lt hk0
    simp only [Option.some.injEq, Prod.mk.injEq] at h
    obtain ⟨rfl, rfl⟩ := h
    have hlen : (p.eraseIdx k0).length < l.length := by rw [List.length_eraseIdx_of_lt hlt]; omega
    obtain ⟨h1, h2, h3, h4⟩ := key _ (left_one hd hlen)
    refine ⟨hlt, fun hm => ?_, h2, h3, h4⟩
    rw [List.mem_iff_getElem] at hm
    obtain ⟨j, hj, e⟩ := hm
    by_cases hjk : j = k0
    · subst hjk
      rw [← e] at h4
      unfold lostB at hlost
      cases hat : at_ l p[j] with
      | none => rw [hat] at h4; cases h4
      | some d => rw [hat] at hlost; cases hlost
    · apply h1
      rw [List.mem_eraseIdx_iff_getElem]
      exact ⟨j, hj, hjk, e⟩
  · rename_i hnone
    cases hk : heavyK Q l p (best Q p l) with
    | none => rw [hk] at h; cases h
    | some k0 =>
      rw [hk] at h
      simp only [Option.map_some, Option.some.injEq, Prod.mk.injEq] at h
      obtain ⟨rfl, rfl⟩ := h
      unfold heavyK at hk
      split at hk
      · cases hk
      · rename_i d hat
        obtain ⟨hlt, -⟩ := find_lt hk
        obtain ⟨h5, h6⟩ := at_mem hat
        have hex : ∃ e ∈ l, e.1 ∉ p := by
          refine Classical.byContradiction fun hc => ?_
          have hall : best Q p l = -1 := by
            have ho : openL p (zns l p) l = [] ∨ ¬ openL p (zns l p) l = [] := by
              cases openL p (zns l p) l with
              | nil => exact .inl rfl
              | cons a r => exact .inr (by simp)
            rcases ho with ho | ho
            · rw [best_open Q p hd, ho]; rfl
            · cases hop : openL p (zns l p) l with
              | nil => exact absurd hop ho
              | cons a r =>
                obtain ⟨g1, g2⟩ := open_mem (p := p) (Z := zns l p) (l := l) (d := a) (by rw [hop]; simp)
                exact absurd ⟨a, g1, g2⟩ hc
          rw [hall] at h6
          have := (devs_weight hd h5).1.1
          omega
        obtain ⟨g1, g2, g3, g4⟩ := key p hex
        exact ⟨hlt, g1, g2, g3, g4⟩
theorem set_nodup {p : List Int} {k : Nat} {x : Int} (hn : p.Nodup) (hx : x ∉ p) : (p.set k x).Nodup := by
  rw [List.nodup_iff_pairwise_ne, List.pairwise_iff_getElem] at hn ⊢
  intro i j hi hj hij
  rw [List.length_set] at hi hj
  have h1 := hn i j hi hj hij
  have h2 : p[i] ≠ x := fun e => hx (e ▸ List.getElem_mem hi)
  have h3 : p[j] ≠ x := fun e => hx (e ▸ List.getElem_mem hj)
  rw [List.getElem_set, List.getElem_set]
  split
  · split
    · omega
    · exact fun e => h3 e.symm
  · split
    · exact h2
    · exact h1
theorem mvTo_nodup {Q : List (List Int)} {l : List Sm.St} {p : List Int} (hd : devs l = true) (hn : p.Nodup) (hl : p.length ≤ l.length) : (mvTo p (mvOne Q l p)).Nodup := by
  cases h : mvOne Q l p with
  | none => exact hn
  | some kx =>
    obtain ⟨k, x⟩ := kx
    exact set_nodup hn (mvOne_is hd hn hl h).2.1
theorem mvTo_known {Q : List (List Int)} {l : List Sm.St} {p : List Int} (hd : devs l = true) (hn : p.Nodup) (hl : p.length ≤ l.length) (hk : known l p = true) : known l (mvTo p (mvOne Q l p)) = true := by
  cases h : mvOne Q l p with
  | none => exact hk
  | some kx =>
    obtain ⟨k, x⟩ := kx
    have hx := (mvOne_is hd hn hl h).2.2.2.2
    unfold known at hk ⊢
    rw [List.all_eq_true] at hk ⊢
    intro y hy
    rcases List.mem_or_eq_of_mem_set hy with h1 | h1
    · exact hk y h1
    · rw [h1]; exact hx
/-- what holds of each part as it was, and of what it is changed for, holds of all -/
theorem rebK_each {l : List Sm.St} {Q : List (List Int)} {φ : List Int → Prop} (h0 : ∀ q ∈ Q, φ q) (h1 : ∀ R q, q ∈ Q → φ (mvTo q (mvOne R l q))) : ∀ k, k ≤ Q.length → ∀ q ∈ (rebK l Q k).1, φ q
  | 0, _ => h0
  | k + 1, hk => by
    intro q hq
    rw [rebK_step (by omega)] at hq
    rcases List.mem_or_eq_of_mem_set hq with h | h
    · exact rebK_each h0 h1 k (by omega) q h
    · rw [h]; exact h1 _ _ (List.getElem_mem _)

theorem count_one : ∀ {p : List Int} {x : Int}, p.Nodup → x ∈ p → p.count x = 1
  | [], x, _, h => by cases h
  | y :: r, x, hn, h => by
    rw [List.nodup_cons] at hn
    by_cases e : y = x
    · subst e
      rw [List.count_cons_self, List.count_eq_zero_of_not_mem hn.1]
    · rw [List.count_cons_of_ne e]
      rcases List.mem_cons.1 h with h1 | h1
      · exact absurd h1.symm e
      · exact count_one hn.2 h1
theorem mvRow_self (p : List Int) : mvRow p p = 0 := by
  unfold mvRow
  rw [List.countP_eq_zero]
  intro x hx
  simp [hx]
theorem mvRow_set {p : List Int} {k : Nat} {x : Int} (hn : p.Nodup) (hk : k < p.length) (hx : x ∉ p) : mvRow p (p.set k x) = 1 := by
  have e : mvRow p (p.set k x) = p.count p[k] := by
    unfold mvRow List.count
    apply List.countP_congr
    intro y hy
    obtain ⟨j, hj, rfl⟩ := List.mem_iff_getElem.1 hy
    simp only [Bool.not_eq_true', decide_eq_false_iff_not, beq_iff_eq]
    constructor
    · intro h
      by_cases hjk : j = k
      · subst hjk; rfl
      · exact absurd (List.mem_iff_getElem.2 ⟨j, by rw [List.length_set]; exact hj, by rw [List.getElem_set_ne (by omega)]⟩) h
    · intro h hm
      have hjk := (List.getElem_inj (h₀ := hj) (h₁ := hk) hn).1 h
      subst hjk
      obtain ⟨i, hi, e⟩ := List.mem_iff_getElem.1 hm
      rw [List.length_set] at hi
      rw [List.getElem_set] at e
      split at e
      · exact hx (e ▸ List.getElem_mem hj)
      · have := (List.getElem_inj (h₀ := hi) (h₁ := hj) hn).1 e
        omega
  rw [e]
  exact count_one hn (List.getElem_mem hk)
theorem mvRow_to {Q : List (List Int)} {l : List Sm.St} {p : List Int} (hd : devs l = true) (hn : p.Nodup) (hl : p.length ≤ l.length) : mvRow p (mvTo p (mvOne Q l p)) = mvN (mvOne Q l p) := by
  cases h : mvOne Q l p with
  | none => exact mvRow_self p
  | some kx =>
    obtain ⟨k, x⟩ := kx
    obtain ⟨h1, h2, -⟩ := mvOne_is hd hn hl h
    exact mvRow_set hn h1 h2
theorem moved_self : ∀ Q : List (List Int), moved Q Q = 0
  | [] => rfl
  | a :: A => by
    have h1 := moved_self A
    have h2 := mvRow_self a
    simp only [moved, List.zip_cons_cons, List.map_cons, List.sum_cons] at h1 ⊢
    omega
theorem moved_set : ∀ (Q R : List (List Int)) (k : Nat) (p : List Int) (hq : k < Q.length) (hr : k < R.length), moved Q (R.set k p) + mvRow Q[k] R[k] = moved Q R + mvRow Q[k] p
  | a :: Q, b :: R, 0, p, _, _ => by
    simp only [moved, List.set_cons_zero, List.zip_cons_cons, List.map_cons, List.sum_cons, List.getElem_cons_zero]
    omega
  | a :: Q, b :: R, k + 1, p, hq, hr => by
    have := moved_set Q R k p (by simpa using hq) (by simpa using hr)
    simp only [moved, List.set_cons_succ, List.zip_cons_cons, List.map_cons, List.sum_cons, List.getElem_cons_succ] at this ⊢
    omega
theorem rebK_moved {l : List Sm.St} {Q : List (List Int)} (hd : devs l = true) (hQ : ∀ q ∈ Q, q.Nodup ∧ q.length ≤ l.length) : ∀ k, k ≤ Q.length → moved Q (rebK l Q k).1 = (rebK l Q k).2
  | 0, _ => moved_self Q
  | k + 1, hk => by
    have ih := rebK_moved hd hQ k (by omega)
    have hlt : k < Q.length := by omega
    obtain ⟨h1, h2⟩ := hQ _ (List.getElem_mem hlt)
    have hs := moved_set Q (rebK l Q k).1 k (mvTo Q[k] (mvOne (rebK l Q k).1 l Q[k])) hlt (by rw [rebK_len]; exact hlt)
    rw [rebK_at hlt, mvRow_self, mvRow_to hd h1 h2] at hs
    rw [rebK_step hlt]
    simp only
    omega
/-- where all is there and no load is two above another, all stays -/
theorem mvOne_stay {Q : List (List Int)} {l : List Sm.St} {p : List Int} (hk : known l p = true) (hev : ∀ x ∈ l, ∀ y ∈ l, load Q x.1 ≤ load Q y.1 + 1) : mvOne Q l p = none := by
  have h1 : p.findIdx? (lostB l) = none := by
    rw [List.findIdx?_eq_none_iff]
    intro x hx
    have := List.all_eq_true.1 hk x hx
    unfold lostB
    cases h : at_ l x with
    | none => rw [h] at this; cases this
    | some d => rfl
  unfold mvOne
  rw [h1]
  simp only
  unfold heavyK
  cases hb : at_ l (best Q p l) with
  | none => rfl
  | some d =>
    simp only
    have h2 : p.findIdx? (heavyB Q l (best Q p l) d.2.1) = none := by
      rw [List.findIdx?_eq_none_iff]
      intro x hx
      unfold heavyB
      cases h : at_ l x with
      | none => rfl
      | some y =>
        obtain ⟨g1, g2⟩ := at_mem h
        obtain ⟨g3, g4⟩ := at_mem hb
        have := hev y g1 d g3
        rw [g2, g4] at this
        simp only [Bool.and_eq_false_iff, decide_eq_false_iff_not]
        right
        omega
    rw [h2]
    rfl
theorem rebK_stay {l : List Sm.St} {Q : List (List Int)} (hk : ∀ q ∈ Q, known l q = true) (hev : ∀ x ∈ l, ∀ y ∈ l, load Q x.1 ≤ load Q y.1 + 1) : ∀ k, k ≤ Q.length → rebK l Q k = (Q, 0)
  | 0, _ => rfl
  | k + 1, h => by
    have hlt : k < Q.length := by omega
    rw [rebK_step hlt, rebK_stay hk hev k (by omega)]
    simp only
    rw [mvOne_stay (hk _ (List.getElem_mem hlt)) hev]
    simp [mvTo, mvN]
end Go.Proofs.Ytcejeiakgmamdac.Rg

namespace Go.Proofs.Ytcejeiakgmamdac.Wk
set_option linter.unusedVariables false
open Go.ChangeShapes Go.WideShapes Go.ChangeAt Go.RowKit

/-- the address a leads to these lists of numbers; a list that is nil has no capacity -/
def RdN (w : World) (a : Option Addr) (ps : List (List Int)) : Prop := ∀ i (h : i < ps.length), ∃ b off ai ci, a = some ⟨b, off, none⟩ ∧ w.cell? ⟨b, off + i, none⟩ = some (.slice ai ps[i].length ci) ∧ RdZ w ai ps[i] ∧ ps[i].length ≤ ci ∧ (ai = none → ci = 0)
theorem RdN.rd {w : World} {a : Option Addr} {ps : List (List Int)} (h : RdN w a ps) : RdP w a ps := fun i hi =>
  let ⟨b, off, ai, ci, h1, h2, h3, h4, _⟩ := h i hi; ⟨b, off, ai, ci, h1, h2, h3, h4⟩
theorem RdN.below {w w' : World} {a : Option Addr} {ps : List (List Int)} (h : RdN w a ps) (hb : Below w.heap.size w w') : RdN w' a ps := fun i hi =>
  let ⟨b, off, ai, ci, h1, h2, h3, h4⟩ := h i hi; ⟨b, off, ai, ci, h1, cellOn h2 hb, h3.below hb, h4⟩
theorem own_nil {w : World} {base e n cap : Nat} {a : Option Addr} {xs : List Value} (h : w.ownsRow base e 1 (.slice a n cap) n xs) : a = none → cap = 0 := by
  rintro rfl
  rcases h.2 with ⟨e, _⟩ | ⟨g, cap', cur, e, _⟩
  · simp only [Value.slice.injEq] at e
    exact e.2.2
  · simp at e
theorem OwnP.rdN {w : World} {base n cap : Nat} {a : Option Addr} {ps : List (List Int)} (h : OwnP w base (.slice a n cap) ps) : RdN w a ps := by
  obtain ⟨vs, h1, h2⟩ := h
  rcases h1.2 with ⟨e, h0⟩ | ⟨g, cap', cur, e, _⟩
  · exact fun i hi => by omega
  · simp only [Value.slice.injEq] at e
    obtain ⟨rfl, rfl, rfl⟩ := e
    intro i hi
    obtain ⟨u, e1, e2, -⟩ := h2.1 i hi hi
    obtain ⟨ai, ci, rfl⟩ := Zv_shape e2
    exact ⟨g, 0, ai, ci, rfl, by rw [Nat.zero_add, h1.cellAt i (show i < ps.length * 1 by omega)]; exact e1, Zv_rd e2, own_cap e2, own_nil e2⟩

/-- one list more, which lies in memory that is newer than the others' -/
theorem OwnE.snocL {w0 w w' : World} {base : Nat} {v v' u : Value} {vs : List Value} {ps : List (List Int)} {p : List Int} {T : TypeId} (hv : w0.ownsRow base T 1 v ps.length vs) (h : OwnE w0 base v.ownBlock vs ps ps.length) (hb : Below w0.heap.size w0 w)
    (hu : w.ownsRow base 3 1 u p.length (Zv p)) (hn : ∀ j, u.ownBlock = some j → w0.heap.size ≤ j) (hg : w.grownBy w' v.ownBlock) (hat : v'.ownBlock = v.ownBlock ∨ v'.ownBlock = some w.heap.size) :
    OwnE w' base v'.ownBlock (vs ++ [u]) (ps ++ [p]) (ps ++ [p]).length := by
  have hlen := hv.1
  have huv : u.ownBlock = none ∨ u.ownBlock ≠ v.ownBlock := by
    cases hub : u.ownBlock with
    | none => exact .inl rfl
    | some j => exact .inr (fun e => by
        have h1 := hn j hub
        have h2 := (World.ownsRow.lt hv j e.symm).2
        omega)
  have hlt : ∀ j, u.ownBlock = some j → j < w.heap.size := fun j e => (World.ownsRow.lt hu j e).2
  refine ⟨?_, ?_⟩
  · intro i hi _
    by_cases e : i < ps.length
    · obtain ⟨x, e1, e2, e3⟩ := h.1 i e e
      refine ⟨x, by rw [List.getElem?_append_left (by omega)]; exact e1, ?_, ?_⟩
      · rw [List.getElem_append_left e]
        exact (ownOn e2 hb).kept hg e3
      · rcases hat with h9 | h9
        · rw [h9]; exact e3
        · rw [h9]
          refine .inr (fun e9 => ?_)
          have := (World.ownsRow.lt e2 _ e9).2
          have := hb.size
          omega
    · have e' : i = ps.length := by simp at hi; omega
      subst e'
      refine ⟨u, by rw [List.getElem?_append_right (by omega)]; simp [hlen], ?_, ?_⟩
      · simp only [List.getElem_append_right (Nat.le_refl _), Nat.sub_self, List.getElem_cons_zero]
        exact hu.kept hg huv
      · rcases hat with h9 | h9
        · rw [h9]; exact huv
        · rw [h9]
          refine .inr (fun e9 => ?_)
          have := hlt _ e9
          omega
  · intro i j ui uj hi hj hij h1 h2
    have hl : (vs ++ [u])[ps.length]? = some u := by rw [List.getElem?_append_right (by omega)]; simp [hlen]
    have hold : ∀ i ui, i < ps.length → vs[i]? = some ui → ∀ j, ui.ownBlock = some j → j < w0.heap.size := by
      intro i ui hi h1 j e
      obtain ⟨x, e1, e2, -⟩ := h.1 i hi hi
      rw [h1] at e1
      have := Option.some.inj e1
      subst this
      exact (World.ownsRow.lt e2 j e).2
    simp only [List.length_append, List.length_cons, List.length_nil] at hi hj
    by_cases e : i = ps.length
    · subst e
      rw [hl] at h1
      have := Option.some.inj h1
      subst this
      rw [List.getElem?_append_left (by omega)] at h2
      cases hub : u.ownBlock with
      | none => exact .inl rfl
      | some x => exact .inr (fun e9 => by
          have h3 := hn x hub
          have h4 := hold j uj (by omega) h2 x e9.symm
          omega)
    · rw [List.getElem?_append_left (by omega)] at h1
      by_cases e2 : j = ps.length
      · subst e2
        rw [hl] at h2
        have := Option.some.inj h2
        subst this
        cases hub : ui.ownBlock with
        | none => exact .inl rfl
        | some x => exact .inr (fun e9 => by
            have h3 := hn x e9.symm
            have h4 := hold i ui (by omega) h1 x hub
            omega)
      · rw [List.getElem?_append_left (by omega)] at h2
        exact h.2 i j ui uj (by omega) (by omega) hij h1 h2
/-- the k-th cell is given a list of its own, which lies in memory that is newer than the others' -/
theorem OwnE.putN {w0 w : World} {base B k : Nat} {u : Value} {vs : List Value} {ps : List (List Int)} (h : OwnE w0 base (some B) vs ps k) (hb : Below w0.heap.size w0 w) (hB : B < w0.heap.size) (hk : k < ps.length) (hlen : vs.length = ps.length * 1)
    (ho : w.ownsRow base 3 1 u ps[k].length (Zv ps[k])) (hn : ∀ j, u.ownBlock = some j → w0.heap.size ≤ j) :
    OwnE (w.setCell ⟨B, k, none⟩ u) base (some B) (vs.set k u) ps (k + 1) := by
  have hub : u.ownBlock = none ∨ u.ownBlock ≠ some B := by
    cases hu : u.ownBlock with
    | none => exact .inl rfl
    | some j => exact .inr (fun e => by
        have h1 := hn j hu
        cases e
        omega)
  have far : ∀ {n : Nat} {x : Value} {xs : List Value}, w.ownsRow base 3 1 x n xs → (x.ownBlock = none ∨ x.ownBlock ≠ some B) → (w.setCell ⟨B, k, none⟩ u).ownsRow base 3 1 x n xs := fun hx hy =>
    hx.kept (row := some B) ⟨rfl, rfl, rfl, by simp, fun i _ hi => heap_setCell_other w ⟨B, k, none⟩ i u (fun e => hi (by simp [e]))⟩ hy
  refine ⟨?_, ?_⟩
  · intro i hi hik
    by_cases e : i = k
    · subst e
      exact ⟨u, List.getElem?_set_self (by omega), far ho hub, hub⟩
    · obtain ⟨x, h1, h2, h3⟩ := h.1 i hi (by omega)
      exact ⟨x, by rw [List.getElem?_set_ne (by omega)]; exact h1, far (ownOn h2 hb) h3, h3⟩
  · intro i j ui uj hi hj hij h1 h2
    have hold : ∀ i ui, i < k → vs[i]? = some ui → ∀ j, ui.ownBlock = some j → j < w0.heap.size := by
      intro i ui hi h1 j e
      obtain ⟨x, e1, e2, -⟩ := h.1 i (by omega) hi
      rw [h1] at e1
      have := Option.some.inj e1
      subst this
      exact (World.ownsRow.lt e2 j e).2
    by_cases e : i = k
    · subst e
      rw [List.getElem?_set_self (by omega)] at h1
      rw [List.getElem?_set_ne (by omega)] at h2
      have := Option.some.inj h1
      subst this
      cases hu : u.ownBlock with
      | none => exact .inl rfl
      | some x => exact .inr (fun e9 => by
          have h3 := hn x hu
          have h4 := hold j uj (by omega) h2 x e9.symm
          omega)
    · rw [List.getElem?_set_ne (by omega)] at h1
      by_cases e2 : j = k
      · subst e2
        rw [List.getElem?_set_self (by omega)] at h2
        have := Option.some.inj h2
        subst this
        cases hu : ui.ownBlock with
        | none => exact .inl rfl
        | some x => exact .inr (fun e9 => by
            have h3 := hn x e9.symm
            have h4 := hold i ui (by omega) h1 x hu
            omega)
      · rw [List.getElem?_set_ne (by omega)] at h2
        exact h.2 i j ui uj (by omega) (by omega) hij h1 h2
/-- a row of cells that read as these lists -/
def RowP (w : World) (vs : List Value) (ps : List (List Int)) : Prop := vs.length = ps.length ∧ ∀ i (h : i < ps.length), ∃ ai ci, vs[i]? = some (.slice ai ps[i].length ci) ∧ RdZ w ai ps[i] ∧ ps[i].length ≤ ci ∧ (ai = none → ci = 0)
theorem RdN.row {w : World} : ∀ {ps : List (List Int)} {b off : Nat}, RdN w (some ⟨b, off, none⟩) ps → ∃ vs, RowP w vs ps ∧ ∀ j u, vs[j]? = some u → w.cell? ((⟨b, off, none⟩ : Addr).add j) = some u := by
  intro ps b off h
  have step : ∀ k, k ≤ ps.length → ∃ vs : List Value, vs.length = k ∧ ∀ i (h : i < ps.length), i < k → ∃ ai ci, vs[i]? = some (.slice ai ps[i].length ci) ∧ RdZ w ai ps[i] ∧ ps[i].length ≤ ci ∧ (ai = none → ci = 0) ∧ w.cell? ⟨b, off + i, none⟩ = some (.slice ai ps[i].length ci) := by
    intro k
    induction k with
    | zero => exact fun _ => ⟨[], rfl, fun i _ hi => absurd hi (Nat.not_lt_zero i)⟩
    | succ k ih =>
      intro hk
      obtain ⟨vs, hl, hv⟩ := ih (by omega)
      obtain ⟨b', off', ai, ci, e, hc, hz, hcap, hnil⟩ := h k (by omega)
      simp only [Option.some.injEq, Addr.mk.injEq, and_true] at e
      obtain ⟨rfl, rfl⟩ := e
      refine ⟨vs ++ [.slice ai ps[k].length ci], by simp [hl], ?_⟩
      intro i hi hik
      by_cases e : i = k
      · subst e
        exact ⟨ai, ci, by rw [List.getElem?_append_right (by omega)]; simp [hl], hz, hcap, hnil, hc⟩
      · obtain ⟨ai', ci', e1, e2⟩ := hv i hi (by omega)
        exact ⟨ai', ci', by rw [List.getElem?_append_left (by omega)]; exact e1, e2⟩
  obtain ⟨vs, hl, hv⟩ := step ps.length (Nat.le_refl _)
  refine ⟨vs, ⟨hl, fun i hi => ?_⟩, fun j u hj => ?_⟩
  · obtain ⟨ai, ci, e1, e2, e3, e4, -⟩ := hv i hi hi
    exact ⟨ai, ci, e1, e2, e3, e4⟩
  · have hjl : j < ps.length := by
      have := (List.getElem?_eq_some_iff.1 hj).1
      omega
    obtain ⟨ai, ci, e1, -, -, -, e5⟩ := hv j hjl hjl
    rw [hj] at e1
    have := Option.some.inj e1
    subst this
    rw [show (⟨b, off, none⟩ : Addr).add j = ⟨b, off + j, none⟩ from by simp [Addr.add]]
    exact e5
theorem RdN.rowOf {w0 w : World} {ps : List (List Int)} {vs : List Value} {b off : Nat} {fld : _} (h : RdN w0 (some ⟨b, off, fld⟩) ps) (hb : Below w0.heap.size w0 w) (hl : vs.length = ps.length) (hc : ∀ j u, vs[j]? = some u → w.cell? ((⟨b, off, fld⟩ : Addr).add j) = some u) : RowP w0 vs ps := by
  refine ⟨hl, fun i hi => ?_⟩
  obtain ⟨b', off', ai, ci, e, hcell, hz, hcap, hnil⟩ := h i hi
  simp only [Option.some.injEq, Addr.mk.injEq] at e
  obtain ⟨rfl, rfl, rfl⟩ := e
  have hi' : i < vs.length := by omega
  have h1 := hc i vs[i] (List.getElem?_eq_getElem hi')
  rw [show (⟨b, off, none⟩ : Addr).add i = ⟨b, off + i, none⟩ from by simp [Addr.add], cellOn hcell hb] at h1
  exact ⟨ai, ci, by rw [List.getElem?_eq_getElem hi', Option.some.inj h1], hz, hcap, hnil⟩
theorem Slot2.set2 {w : World} {b : Nat} {u v : Value} (h : Slot2 w b u v) (u' v' : Value) : Slot2 ((w.setCell ⟨b, 0, none⟩ u').setCell ⟨b, 1, none⟩ v') b u' v' :=
  ⟨⟨by rw [World.cell?_setCell_other _ _ _ _ (by simp)]; exact World.cell?_setCell_same' _ _ _ (by rw [h.1.1]; rfl), World.cell?_setCell_same' _ _ _ (by rw [World.cell?_setCell_other _ _ _ _ (by simp), h.1.2]; rfl)⟩,
    by rw [World.frozen?_setCell, World.frozen?_setCell]; exact h.2.1, by rw [World.frozen?_setCell, World.frozen?_setCell]; exact h.2.2⟩
theorem Slot1.grw {w w' : World} {b : Nat} {v : Value} {r : Option Nat} (h : Slot1 w b v) (hg : w.grownBy w' r) (hne : some b ≠ r) : Slot1 w' b v :=
  ⟨hg.cell h.1 hne, by rw [World.frozen?_of_block (w := w) (hg.block b h.lt hne)]; exact h.2⟩
theorem RowP.below {w w' : World} {vs : List Value} {ps : List (List Int)} (h : RowP w vs ps) (hb : Below w.heap.size w w') : RowP w' vs ps :=
  ⟨h.1, fun i hi => let ⟨ai, ci, h1, h2, h3⟩ := h.2 i hi; ⟨ai, ci, h1, h2.below hb, h3⟩⟩
theorem RowP.one {w : World} {vs : List Value} {ps : List (List Int)} (h : RowP w vs ps) : ∀ u ∈ vs, u.oneCell' = true := by
  intro u hu
  obtain ⟨j, hj, rfl⟩ := List.mem_iff_getElem.1 hu
  obtain ⟨ai, ci, e, -⟩ := h.2 j (by rw [← h.1]; exact hj)
  rw [List.getElem?_eq_getElem hj] at e
  rw [Option.some.inj e]
  rfl
end Go.Proofs.Ytcejeiakgmamdac.Wk

namespace Go.Proofs.Ytcejeiakgmamdac.Wk
set_option linter.unusedVariables false
open Go.ChangeShapes Go.WideShapes Go.ChangeAt Go.RowKit

theorem lost_yes {l : List Sm.St} {x : Int} (h : Dv.at_ l x = none) : Rg.lostB l x = true := by unfold Rg.lostB; rw [h]; rfl
theorem lost_no {l : List Sm.St} {x : Int} {d : Sm.St} (h : Dv.at_ l x = some d) : Rg.lostB l x = false := by unfold Rg.lostB; rw [h]; rfl

set_option maxHeartbeats 2000000 in
set_option maxRecDepth 100000 in
theorem specLost (a c : Option Addr) (ca cc : Nat) (p : List Int) (l : List Sm.St) (w : World) (hp : p.length ≤ 1048576) (hl : l.length ≤ 1048576) (hr : RdZ w a p) (hs : RdS w c l) :
    Calls Try.prog 64 #[.agg #[.slice a p.length ca], .slice c l.length cc] w fun e w' => e = .returned (.int .i64 (Rg.idxI (p.findIdx? (Rg.lostB l)))) ∧ Below w.heap.size w w' := by
  obtain ⟨K, hK⟩ : ∃ K, Rg.idxI (p.findIdx? (Rg.lostB l)) = K := ⟨_, rfl⟩
  have HK : Hid (Rg.idxI (p.findIdx? (Rg.lostB l)) = K) := hK
  rw [hK]
  clear hK
  have s0 := slot1New w (.slice a p.length ca) 36
  have hB0 := bel1 w (.cells #[.slice a p.length ca] 36)
  have hr0 := hr.below hB0
  have hs0 := hs.below hB0
  go_enter Try.func64, Try.ntmps64
  go_wp2
  generalize w.alloc (.cells #[.slice a p.length ca] 36) = w0 at s0 hB0 hr0 hs0 ⊢
  go_loopw [5] (fun i wr => ∃ k : Nat, k ≤ p.length ∧ i = .int .i64 k ∧ Hid (((p.take k).all fun x => !Rg.lostB l x) = true) ∧ Below w0.heap.size w0 wr) (fun i _ => p.length - (intOf i).toNat)
  case atStart => exact ⟨0, Nat.zero_le _, rfl, rfl, Below.refl _ _⟩
  case round =>
    obtain ⟨k, hk, rfl, HA, hb⟩ := hrel
    obtain ⟨c0, -⟩ := s0.below hb
    by_cases hlt : k < p.length
    · have HY : Hid (Rg.lostB l p[k] = true → K = k) := fun h => by rw [← HK.out, Rg.find_hit hlt HA.out h]; rfl
      have HN : Hid (Rg.lostB l p[k] = false → ((p.take (k + 1)).all fun x => !Rg.lostB l x) = true) := fun h => Rg.find_step hlt HA.out h
      obtain ⟨b1, o1, rfl, hx⟩ := (hr0.below hb) k hlt
      generalize p[k] = x at HY HN hx
      have cA := specAt c cc l x _ hl (hs0.below hb)
      cases hd : Dv.at_ l x with
      | none =>
        rw [hd] at cA
        dsimp only [dvAtV] at cA
        have eK := HY.out (lost_yes hd)
        subst eK
        clear HY HN HK HA hd
        go_wp2_with fail
        refine cA.mono ?_
        rintro e w4 ⟨rfl, hb4⟩
        go_wp2
        go_ret
        exact ⟨rfl, behind (behind (behind hB0 hb) hb4) (bel1 _ _)⟩
      | some d =>
        rw [hd] at cA
        have HT' : Hid (((p.take (k + 1)).all fun x => !Rg.lostB l x) = true) := HN.out (lost_no hd)
        obtain ⟨i, z, n⟩ := d
        dsimp only [dvAtV] at cA
        clear HY HN hd
        go_wp2_with fail
        refine cA.mono ?_
        rintro e w4 ⟨rfl, hb4⟩
        go_wp2
        go_roundw
        case rel => exact ⟨k + 1, by omega, by go_num, HT', behind (behind hb hb4) (bel1 _ _)⟩
        case measure => simp [intOf]; omega
    · have eK : K = -1 := by rw [← HK.out, Rg.find_end hlt HA.out]; rfl
      subst eK
      clear HK HA
      go_wp2
      go_ret
      exact ⟨rfl, behind hB0 hb⟩
end Go.Proofs.Ytcejeiakgmamdac.Wk

namespace Go.Proofs.Ytcejeiakgmamdac.Wk
set_option linter.unusedVariables false
open Go.ChangeShapes Go.WideShapes Go.ChangeAt Go.RowKit

theorem heavy_none {Q : List (List Int)} {l : List Sm.St} {b z x : Int} (h : Dv.at_ l x = none) : Rg.heavyB Q l b z x = false := by unfold Rg.heavyB; rw [h]
theorem heavy_zone {Q : List (List Int)} {l : List Sm.St} {b z x : Int} {d : Sm.St} (h : Dv.at_ l x = some d) (hz : ¬ d.2.1 = z) : Rg.heavyB Q l b z x = false := by unfold Rg.heavyB; rw [h]; simp [hz]
theorem heavy_less {Q : List (List Int)} {l : List Sm.St} {b z x : Int} {d : Sm.St} (h : Dv.at_ l x = some d) (hg : ¬ 2 ≤ (Rg.load Q x : Int) - (Rg.load Q b : Int)) : Rg.heavyB Q l b z x = false := by
  unfold Rg.heavyB; rw [h]; simp only [Bool.and_eq_false_iff]; right; exact decide_eq_false hg
theorem heavy_yes {Q : List (List Int)} {l : List Sm.St} {b z x : Int} {d : Sm.St} (h : Dv.at_ l x = some d) (hz : d.2.1 = z) (hg : 2 ≤ (Rg.load Q x : Int) - (Rg.load Q b : Int)) : Rg.heavyB Q l b z x = true := by
  unfold Rg.heavyB; rw [h]; simp only [Bool.and_eq_true]; exact ⟨decide_eq_true hz, decide_eq_true hg⟩
theorem keepH {w w' : World} {a1 a2 a3 a4 a5 : Addr} {v1 v2 v3 v4 v5 : Value} (h : w.cell? a1 = some v1 ∧ w.cell? a2 = some v2 ∧ w.cell? a3 = some v3 ∧ w.cell? a4 = some v4 ∧ w.cell? a5 = some v5) (hb : Below w.heap.size w w') :
    w'.cell? a1 = some v1 ∧ w'.cell? a2 = some v2 ∧ w'.cell? a3 = some v3 ∧ w'.cell? a4 = some v4 ∧ w'.cell? a5 = some v5 :=
  ⟨by rw [hb.cell (World.block_lt_of_cell? w _ h.1)]; exact h.1, keepR4 h.2 hb⟩
theorem belowQ5 {B : Nat} {a w : World} (h : Below B a w) (n : Nat) : Below B a (w.drewN n) := h.trans ⟨rfl, rfl, rfl, Nat.le_refl _, fun _ _ => rfl⟩
theorem wrapH (n : Int) (h0 : -9223372036854775808 ≤ n) (h1 : n < 9223372036854775808) : IntKind.i64.wrap n = n := by
  simp only [IntKind.wrap, IntKind.bits, IntKind.signed]
  simp
  omega
/-- a share, and that it fits -/
theorem at_id {l : List Sm.St} {x : Int} {d : Sm.St} (h : Dv.at_ l x = some d) : d.1 = x := (Rg.at_mem h).2

set_option maxHeartbeats 4000000 in
set_option maxRecDepth 100000 in
theorem specHeavy (reps : Int) (a b c : Option Addr) (ca cb cc : Nat) (Q : List (List Int)) (p : List Int) (l : List Sm.St) (idn : Int) (w : World) (hQ : Q.length ≤ 1048576) (ht : tot Q ≤ 1048576) (hp : p.length ≤ 1048576) (hl : l.length ≤ 1048576) (hrQ : RdP w a Q) (hr : RdZ w b p) (hs : RdS w c l) :
    Calls Try.prog 65 #[.agg #[.int .i64 reps, .slice a Q.length ca], .agg #[.slice b p.length cb], .slice c l.length cc, .int .i64 idn] w fun e w' => e = .returned (.int .i64 (Rg.idxI (Rg.heavyK Q l p idn))) ∧ Below w.heap.size w w' := by
  have sQ := (slot2New w (.int .i64 reps) (.slice a Q.length ca) 29).below (bel1 _ (.cells #[.slice b p.length cb] 36))
  have sP := slot1New (w.alloc (.cells #[.int .i64 reps, .slice a Q.length ca] 29)) (.slice b p.length cb) 36
  have hB0 := bel2 w (.cells #[.int .i64 reps, .slice a Q.length ca] 29) (.cells #[.slice b p.length cb] 36)
  have hQ0 := hrQ.below hB0
  have hr0 := hr.below hB0
  have hs0 := hs.below hB0
  rw [World.size_alloc] at sP
  have HL : Hid (∀ x, Rg.load Q x ≤ 1048576) := fun x => Nat.le_trans (Rg.load_le Q x) ht
  cases hd : Dv.at_ l idn with
  | none =>
    have eK : Rg.heavyK Q l p idn = none := by unfold Rg.heavyK; rw [hd]
    rw [eK]
    clear eK
    have cA := fun w' h => specAt c cc l idn w' hl h
    rw [hd] at cA
    dsimp only [dvAtV] at cA
    clear hd
    by_cases hpl : 0 < p.length
    all_goals
      go_enter Try.func65, Try.ntmps65
      go_wp2_with fail
      generalize (w.alloc (.cells #[.int .i64 reps, .slice a Q.length ca] 29)).alloc (.cells #[.slice b p.length cb] 36) = w0 at sQ sP hB0 hQ0 hr0 hs0 ⊢
      refine (cA _ hs0).mono ?_
      rintro e w1 ⟨rfl, hb1⟩
      have hB1 := behind (behind hB0 hb1) (bel1 w1 (.cells #[.int .i64 0, .int .i64 0, .int .i64 0] 42))
      obtain ⟨c0, -⟩ := (sP.below hb1).below (bel1 w1 (.cells #[.int .i64 0, .int .i64 0, .int .i64 0] 42))
      clear sQ hB0 hQ0 hr0 hs0
      go_wp2
      go_loopw [11] (fun i wr => i = .int .i64 0 ∧ wr = w1.alloc (.cells #[.int .i64 0, .int .i64 0, .int .i64 0] 42)) (fun i _ => 0)
      case atStart => exact ⟨rfl, rfl⟩
      case round =>
        obtain ⟨rfl, rfl⟩ := hrel
        go_wp2
        go_ret
        exact ⟨rfl, hB1⟩
  | some d =>
    obtain ⟨i0, z0, n0⟩ := d
    have eK : Rg.heavyK Q l p idn = p.findIdx? (Rg.heavyB Q l idn z0) := by unfold Rg.heavyK; rw [hd]
    rw [eK]
    clear eK
    have cA := fun w' h => specAt c cc l idn w' hl h
    rw [hd] at cA
    dsimp only [dvAtV] at cA
    clear hd
    obtain ⟨K, hK⟩ : ∃ K, Rg.idxI (p.findIdx? (Rg.heavyB Q l idn z0)) = K := ⟨_, rfl⟩
    have HK : Hid (Rg.idxI (p.findIdx? (Rg.heavyB Q l idn z0)) = K) := hK
    rw [hK]
    clear hK
    go_enter Try.func65, Try.ntmps65
    go_wp2_with fail
    generalize (w.alloc (.cells #[.int .i64 reps, .slice a Q.length ca] 29)).alloc (.cells #[.slice b p.length cb] 36) = w0 at sQ sP hB0 hQ0 hr0 hs0 ⊢
    refine (cA _ hs0).mono ?_
    rintro e w1 ⟨rfl, hb1⟩
    have bN := bel1 w1 (.cells #[.int .i64 i0, .int .i64 z0, .int .i64 n0] 42)
    have xD := boxNew w1 i0 z0 n0 42
    have hB1 := behind (behind hB0 hb1) bN
    have sQ := (sQ.below hb1).below bN
    have sP := (sP.below hb1).below bN
    have hQ0 := (hQ0.below hb1).below bN
    have hr0 := (hr0.below hb1).below bN
    have hs0 := (hs0.below hb1).below bN
    clear hB0 hb1 cA
    go_wp2
    generalize w1.alloc (.cells #[.int .i64 i0, .int .i64 z0, .int .i64 n0] 42) = wA at bN xD hB1 sQ sP hQ0 hr0 hs0 ⊢
    clear bN
    go_loopw [11] (fun i wr => ∃ k : Nat, k ≤ p.length ∧ i = .int .i64 k ∧ Hid (((p.take k).all fun x => !Rg.heavyB Q l idn z0 x) = true) ∧ Below wA.heap.size wA wr) (fun i _ => p.length - (intOf i).toNat)
    case atStart => exact ⟨0, Nat.zero_le _, rfl, rfl, Below.refl _ _⟩
    case round =>
      obtain ⟨k, hk, rfl, HA, hb⟩ := hrel
      obtain ⟨c0, -⟩ := sP.below hb
      by_cases hlt : k < p.length
      · have HY : Hid (Rg.heavyB Q l idn z0 p[k] = true → K = k) := fun h => by rw [← HK.out, Rg.find_hit hlt HA.out h]; rfl
        have HN : Hid (Rg.heavyB Q l idn z0 p[k] = false → ((p.take (k + 1)).all fun x => !Rg.heavyB Q l idn z0 x) = true) := fun h => Rg.find_step hlt HA.out h
        obtain ⟨b1, o1, rfl, hx⟩ := (hr0.below hb) k hlt
        generalize p[k] = x at HY HN hx
        have cX := specAt c cc l x _ hl (hs0.below hb)
        cases hd : Dv.at_ l x with
        | none =>
          rw [hd] at cX
          dsimp only [dvAtV] at cX
          have HT' : Hid (((p.take (k + 1)).all fun x => !Rg.heavyB Q l idn z0 x) = true) := HN.out (heavy_none hd)
          clear HY HN hd
          go_wp2_with fail
          refine cX.mono ?_
          rintro e w4 ⟨rfl, hb4⟩
          go_wp2_with fail
          go_quiet (fail)
          go_wp2
          go_roundw
          case rel => exact ⟨k + 1, by omega, by go_num, HT', belowQ5 (behind (behind hb hb4) (bel1 _ _)) nq⟩
          case measure => simp [intOf]; omega
        | some d =>
          rw [hd] at cX
          have hi := at_id hd
          obtain ⟨i, z, n⟩ := d
          dsimp only at hi
          subst hi
          dsimp only [dvAtV] at cX
          by_cases hz : z = z0
          · subst hz
            have HG : Hid (2 ≤ (Rg.load Q i : Int) - (Rg.load Q idn : Int) → K = k) := fun h => HY.out (heavy_yes hd rfl h)
            have HM : Hid (¬ 2 ≤ (Rg.load Q i : Int) - (Rg.load Q idn : Int) → ((p.take (k + 1)).all fun x => !Rg.heavyB Q l idn z x) = true) := fun h => HN.out (heavy_less hd h)
            have hLi := HL.out i
            have hLd := HL.out idn
            have cL := fun (w' : World) (h : RdP w' a Q) => specLoad reps a ca Q i w' hQ ht h
            have cM := fun (w' : World) (h : RdP w' a Q) => specLoad reps a ca Q idn w' hQ ht h
            generalize Rg.load Q i = Li at HG HM hLi cL
            generalize Rg.load Q idn = Ld at HG HM hLd cM
            clear HY HN hd
            go_wp2_with fail
            refine cX.mono ?_
            rintro e w4 ⟨rfl, hb4⟩
            have bX := bel1 w4 (.cells #[.int .i64 i, .int .i64 z, .int .i64 n] 42)
            have xX := boxNew w4 i z n 42
            have hB4 := behind (behind hb hb4) bX
            obtain ⟨⟨q0, q1⟩, -⟩ := sQ.below hB4
            obtain ⟨t0, t1, t2⟩ := xD.below hB4
            obtain ⟨y0, y1, y2⟩ := id xX
            have hQ4 := hQ0.below hB4
            clear hx c0 cX
            go_upto_region 6 with fail
            generalize w4.alloc (.cells #[.int .i64 i, .int .i64 z, .int .i64 n] 42) = w5 at bX xX hB4 q0 q1 t0 t1 t2 y0 y1 y2 hQ4 ⊢
            -- @region
            refine wp_region_held_drew (S := fun wy => wy.cell? ⟨w.heap.size, 0, none⟩ = some (.int .i64 reps) ∧ wy.cell? ⟨w.heap.size, 1, none⟩ = some (.slice a Q.length ca) ∧ wy.cell? ⟨w1.heap.size, 1, none⟩ = some (.int .i64 z) ∧ wy.cell? ⟨w4.heap.size, 0, none⟩ = some (.int .i64 i) ∧ wy.cell? ⟨w4.heap.size, 1, none⟩ = some (.int .i64 z)) (by kernel_rfl) ⟨q0, q1, t1, y0, y1⟩ (fun hHeld => ?_)
            refine wpAnyH_take (i := 0) (oi := ?_) (v := ?_) ?_ ?_ ?_ ?_ ?_ ?_ (by assumption) ?_
            rotate_left 2
            · simp only [List.getElem?_toArray, List.getElem?_cons_zero]
              rfl
            · kernel_rfl
            · kernel_rfl
            · kernel_rfl
            · exact fun _ _ _ h => h
            · refine Or.inl ⟨by kernel_rfl, ?_⟩
              intro wS hSw
              try dsimp only at hSw
              go_simp
              try with_reducible rfl
            simp only [Act.put, List.setIfInBounds_toArray, List.set_cons_zero, List.set_cons_succ]
            refine wpAnyH_take (i := 1) (oi := ?_) (v := ?_) ?_ ?_ ?_ ?_ ?_ ?_ (by assumption) ?_
            rotate_left 2
            · simp only [List.getElem?_toArray, List.getElem?_cons_succ, List.getElem?_cons_zero]
              rfl
            · kernel_rfl
            · kernel_rfl
            · kernel_rfl
            · exact fun _ _ _ h => h
            · refine Or.inl ⟨by kernel_rfl, ?_⟩
              intro wS hSw
              try dsimp only at hSw
              go_simp
              try with_reducible rfl
            simp only [Act.put, List.setIfInBounds_toArray, List.set_cons_zero, List.set_cons_succ]
            refine wpAnyH_take (i := 2) (oi := ?_) (v := ?_) ?_ ?_ ?_ ?_ ?_ ?_ (by assumption) ?_
            rotate_left 2
            · simp only [List.getElem?_toArray, List.getElem?_cons_succ, List.getElem?_cons_zero]
              rfl
            · kernel_rfl
            · kernel_rfl
            · kernel_rfl
            · exact fun _ _ _ h => h
            · refine Or.inl ⟨by kernel_rfl, ?_⟩
              intro wS hSw
              try dsimp only at hSw
              go_simp
              try with_reducible rfl
            simp only [Act.put, List.setIfInBounds_toArray, List.set_cons_zero, List.set_cons_succ]
            refine wpAnyH_take (i := 3) (oi := ?_) (v := ?_) ?_ ?_ ?_ ?_ ?_ ?_ (by assumption) ?_
            rotate_left 2
            · simp only [List.getElem?_toArray, List.getElem?_cons_succ, List.getElem?_cons_zero]
              rfl
            · kernel_rfl
            · kernel_rfl
            · kernel_rfl
            · exact fun _ _ _ h => h
            · refine Or.inl ⟨by kernel_rfl, ?_⟩
              intro wS hSw
              try dsimp only at hSw
              go_simp
              try with_reducible rfl
            simp only [Act.put, List.setIfInBounds_toArray, List.set_cons_zero, List.set_cons_succ]
            refine wpAnyH_take (i := 4) (oi := ?_) (v := ?_) ?_ ?_ ?_ ?_ ?_ ?_ (by assumption) ?_
            rotate_left 2
            · simp only [List.getElem?_toArray, List.getElem?_cons_succ, List.getElem?_cons_zero]
              rfl
            · kernel_rfl
            · kernel_rfl
            · kernel_rfl
            · exact fun _ _ _ h => h
            · refine Or.inl ⟨by kernel_rfl, ?_⟩
              intro wS hSw
              try dsimp only at hSw
              go_simp
              try with_reducible rfl
            simp only [Act.put, List.setIfInBounds_toArray, List.set_cons_zero, List.set_cons_succ]
            refine wpAnyH_take (i := 5) (oi := ?_) (v := ?_) ?_ ?_ ?_ ?_ ?_ ?_ (by assumption) ?_
            rotate_left 2
            · simp only [List.getElem?_toArray, List.getElem?_cons_succ, List.getElem?_cons_zero]
              rfl
            · kernel_rfl
            · kernel_rfl
            · kernel_rfl
            · exact fun _ _ _ h => h
            · refine Or.inl ⟨by kernel_rfl, ?_⟩
              intro wS hSw
              try dsimp only at hSw
              go_simp
              try with_reducible rfl
            simp only [Act.put, List.setIfInBounds_toArray, List.set_cons_zero, List.set_cons_succ]
            refine wpAnyH_take (i := 6) (oi := ?_) (v := ?_) ?_ ?_ ?_ ?_ ?_ ?_ (by assumption) ?_
            rotate_left 2
            · simp only [List.getElem?_toArray, List.getElem?_cons_succ, List.getElem?_cons_zero]
              rfl
            · kernel_rfl
            · kernel_rfl
            · kernel_rfl
            · exact fun _ _ _ h => h
            · refine Or.inl ⟨by kernel_rfl, ?_⟩
              intro wS hSw
              try dsimp only at hSw
              go_simp
              try with_reducible rfl
            simp only [Act.put, List.setIfInBounds_toArray, List.set_cons_zero, List.set_cons_succ]
            refine wpAnyH_take (i := 7) (oi := ?_) (v := ?_) ?_ ?_ ?_ ?_ ?_ ?_ (by assumption) ?_
            rotate_left 2
            · simp only [List.getElem?_toArray, List.getElem?_cons_succ, List.getElem?_cons_zero]
              rfl
            · kernel_rfl
            · kernel_rfl
            · kernel_rfl
            · exact fun _ _ _ h => h
            · refine Or.inl ⟨by kernel_rfl, ?_⟩
              intro wS hSw
              try dsimp only at hSw
              go_simp
              try with_reducible rfl
            simp only [Act.put, List.setIfInBounds_toArray, List.set_cons_zero, List.set_cons_succ]
            refine wpAnyH_take (i := 8) (oi := ?_) (v := ?_) ?_ ?_ ?_ ?_ ?_ ?_ (by assumption) ?_
            rotate_left 2
            · simp only [List.getElem?_toArray, List.getElem?_cons_succ, List.getElem?_cons_zero]
              rfl
            · kernel_rfl
            · kernel_rfl
            · kernel_rfl
            · exact fun _ _ _ h => h
            · refine Or.inl ⟨by kernel_rfl, ?_⟩
              intro wS hSw
              try dsimp only at hSw
              go_simp
              try with_reducible rfl
            simp only [Act.put, List.setIfInBounds_toArray, List.set_cons_zero, List.set_cons_succ]
            refine wpAnyH_take (i := 9) (oi := ?_) (v := ?_) ?_ ?_ ?_ ?_ ?_ ?_ (by assumption) ?_
            rotate_left 2
            · simp only [List.getElem?_toArray, List.getElem?_cons_succ, List.getElem?_cons_zero]
              rfl
            · kernel_rfl
            · kernel_rfl
            · kernel_rfl
            · exact fun _ _ _ h => h
            · refine Or.inl ⟨by kernel_rfl, ?_⟩
              intro wS hSw
              try dsimp only at hSw
              go_simp
              try with_reducible rfl
            simp only [Act.put, List.setIfInBounds_toArray, List.set_cons_zero, List.set_cons_succ]
            refine wpAnyH_take (i := 10) (oi := ?_) (v := ?_) ?_ ?_ ?_ ?_ ?_ ?_ (by assumption) ?_
            rotate_left 2
            · simp only [List.getElem?_toArray, List.getElem?_cons_succ, List.getElem?_cons_zero]
              rfl
            · kernel_rfl
            · kernel_rfl
            · kernel_rfl
            · exact fun _ _ _ h => h
            · refine Or.inl ⟨by kernel_rfl, ?_⟩
              intro wS hSw
              try dsimp only at hSw
              go_simp
              try with_reducible rfl
            simp only [Act.put, List.setIfInBounds_toArray, List.set_cons_zero, List.set_cons_succ]
            refine wpAnyH_take (i := 11) (oi := ?_) (v := ?_) ?_ ?_ ?_ ?_ ?_ ?_ (by assumption) ?_
            rotate_left 2
            · simp only [List.getElem?_toArray, List.getElem?_cons_succ, List.getElem?_cons_zero]
              rfl
            · kernel_rfl
            · kernel_rfl
            · kernel_rfl
            · exact fun _ _ _ h => h
            · refine Or.inl ⟨by kernel_rfl, ?_⟩
              intro wS hSw
              try dsimp only at hSw
              go_simp
              try with_reducible rfl
            simp only [Act.put, List.setIfInBounds_toArray, List.set_cons_zero, List.set_cons_succ]
            refine wpAnyH_take (i := 13) (oi := ?_) (v := ?_) ?_ ?_ ?_ ?_ ?_ ?_ (by assumption) ?_
            rotate_left 2
            · simp only [List.getElem?_toArray, List.getElem?_cons_succ, List.getElem?_cons_zero]
              rfl
            · kernel_rfl
            · kernel_rfl
            · kernel_rfl
            · exact fun _ _ _ h => h
            · refine Or.inl ⟨by kernel_rfl, ?_⟩
              intro wS hSw
              try dsimp only at hSw
              go_simp
              try with_reducible rfl
            simp only [Act.put, List.setIfInBounds_toArray, List.set_cons_zero, List.set_cons_succ]
            refine wpAnyH_take (i := 14) (oi := ?_) (v := ?_) ?_ ?_ ?_ ?_ ?_ ?_ (by assumption) ?_
            rotate_left 2
            · simp only [List.getElem?_toArray, List.getElem?_cons_succ, List.getElem?_cons_zero]
              rfl
            · kernel_rfl
            · kernel_rfl
            · kernel_rfl
            · exact fun _ _ _ h => h
            · refine Or.inl ⟨by kernel_rfl, ?_⟩
              intro wS hSw
              try dsimp only at hSw
              go_simp
              try with_reducible rfl
            simp only [Act.put, List.setIfInBounds_toArray, List.set_cons_zero, List.set_cons_succ]
            refine wpAnyH_ready (rs := [12]) (by kernel_rfl) (by simp) ?_
            refine AllReadyH.cons rfl (fun K hK => ?_) ?_
            rotate_left
            · exact AllReadyH.nil
            go_simp
            refine (cL _ (by exact hQ4)).mono ?_
            rintro e w6 ⟨rfl, hb6⟩
            go_wp2_with fail
            refine hK.out _ _ ?_ (fun hHeld => ?_)
            · exact keepH hHeld hb6
            clear hK K
            try simp only [Act.put, List.setIfInBounds_toArray, List.set_cons_zero, List.set_cons_succ]
            refine wpAnyH_ready (rs := [15]) (by kernel_rfl) (by simp) ?_
            refine AllReadyH.cons rfl (fun K hK => ?_) ?_
            rotate_left
            · exact AllReadyH.nil
            go_simp
            refine (cM _ (RdP.below (w := w5.drew) (by exact hQ4) hb6)).mono ?_
            rintro e w7 ⟨rfl, hb7⟩
            go_wp2_with fail
            refine hK.out _ _ ?_ (fun hHeld => ?_)
            · exact keepH hHeld hb7
            clear hK K
            try simp only [Act.put, List.setIfInBounds_toArray, List.set_cons_zero, List.set_cons_succ]
            refine wpAnyH_take (i := 16) (oi := ?_) (v := ?_) ?_ ?_ ?_ ?_ ?_ ?_ (by assumption) ?_
            rotate_left 2
            · simp only [List.getElem?_toArray, List.getElem?_cons_succ, List.getElem?_cons_zero]
              rfl
            · kernel_rfl
            · kernel_rfl
            · kernel_rfl
            · exact fun _ _ _ h => h
            · refine Or.inl ⟨by kernel_rfl, ?_⟩
              intro wS hSw
              try dsimp only at hSw
              go_simp
              try with_reducible rfl
            simp only [Act.put, List.setIfInBounds_toArray, List.set_cons_zero, List.set_cons_succ]
            refine wpAnyH_take (i := 17) (oi := ?_) (v := ?_) ?_ ?_ ?_ ?_ ?_ ?_ (by assumption) ?_
            rotate_left 2
            · simp only [List.getElem?_toArray, List.getElem?_cons_succ, List.getElem?_cons_zero]
              rfl
            · kernel_rfl
            · kernel_rfl
            · kernel_rfl
            · exact fun _ _ _ h => h
            · refine Or.inl ⟨by kernel_rfl, ?_⟩
              intro wS hSw
              try dsimp only at hSw
              go_simp
              try with_reducible rfl
            simp only [Act.put, List.setIfInBounds_toArray, List.set_cons_zero, List.set_cons_succ]
            refine wpAnyH_take (i := 18) (oi := ?_) (v := ?_) ?_ ?_ ?_ ?_ ?_ ?_ (by assumption) ?_
            rotate_left 2
            · simp only [List.getElem?_toArray, List.getElem?_cons_succ, List.getElem?_cons_zero]
              rfl
            · kernel_rfl
            · kernel_rfl
            · kernel_rfl
            · exact fun _ _ _ h => h
            · refine Or.inl ⟨by kernel_rfl, ?_⟩
              intro wS hSw
              try dsimp only at hSw
              go_simp
              try with_reducible rfl
            simp only [Act.put, List.setIfInBounds_toArray, List.set_cons_zero, List.set_cons_succ]
            refine wpAnyH_done (by kernel_rfl) ?_ _
            -- @end
            have hw : IntKind.i64.wrap ((Li : Int) - (Ld : Int)) = (Li : Int) - (Ld : Int) := wrapH _ (by omega) (by omega)
            by_cases hge : 2 ≤ (Li : Int) - (Ld : Int)
            · have eK := HG.out hge
              subst eK
              clear HG HM HK HA
              go_wp2
              go_ret
              exact ⟨rfl, behind (behind (behind hB1 hB4).drew hb6) hb7⟩
            · have HT' : Hid (((p.take (k + 1)).all fun x => !Rg.heavyB Q l idn z x) = true) := HM.out (by omega)
              clear HG HM
              go_wp2
              go_roundw
              case rel => exact ⟨k + 1, by omega, by go_num, HT', behind (behind hB4.drew hb6) hb7⟩
              case measure => simp [intOf]; omega
          · have HT' : Hid (((p.take (k + 1)).all fun x => !Rg.heavyB Q l idn z0 x) = true) := HN.out (heavy_zone hd hz)
            clear HY HN hd
            go_wp2_with fail
            refine cX.mono ?_
            rintro e w4 ⟨rfl, hb4⟩
            have bX := bel1 w4 (.cells #[.int .i64 i, .int .i64 z, .int .i64 n] 42)
            have hB4 := behind (behind hb hb4) bX
            obtain ⟨t0, t1, t2⟩ := xD.below hB4
            have hzb : (z == z0) = false := by simpa using hz
            go_wp2_with fail
            go_quiet (fail)
            go_wp2
            go_roundw
            case rel => exact ⟨k + 1, by omega, by go_num, HT', belowQ5 hB4 nq⟩
            case measure => simp [intOf]; omega
      · have eK : K = -1 := by rw [← HK.out, Rg.find_end hlt HA.out]; rfl
        subst eK
        clear HK HA
        go_wp2
        go_ret
        exact ⟨rfl, behind hB1 hb⟩
end Go.Proofs.Ytcejeiakgmamdac.Wk

namespace Go.Proofs.Ytcejeiakgmamdac.Wk
set_option linter.unusedVariables false
open Go.ChangeShapes Go.WideShapes Go.ChangeAt Go.RowKit

set_option maxHeartbeats 4000000 in
set_option maxRecDepth 100000 in
theorem specMov (reps : Int) (a c : Option Addr) (cap cc : Nat) (ps : List (List Int)) (l : List Sm.St) (w : World) (hps : ps.length ≤ 1048576) (hpp : ∀ p ∈ ps, p.length ≤ 1048576) (hl : l.length ≤ 1048576) (hr : RdP w a ps) (hs : RdS w c l) :
    Calls Try.prog 63 #[.agg #[.int .i64 reps, .slice a ps.length cap], .slice c l.length cc] w fun e w' => e = .returned (.bool (Rg.movB reps ps l)) ∧ Below w.heap.size w w' := by
  have cD := fun w h => specDevs c cc l w (by omega) h
  have s0 := slot2New w (.int .i64 reps) (.slice a ps.length cap) 29
  have hB0 := bel1 w (.cells #[.int .i64 reps, .slice a ps.length cap] 29)
  have hr0 := hr.below hB0
  have hs0 := hs.below hB0
  have HH : Hid (¬ Rg.MvHead reps ps.length l → Rg.movB reps ps l = false) := Rg.mov_no
  have HG : Hid (Rg.MvHead reps ps.length l → Rg.movB reps ps l = ps.all fun p => Rg.partB p reps) := Rg.mov_yes
  obtain ⟨K, hK⟩ : ∃ K, Rg.movB reps ps l = K := ⟨_, rfl⟩
  rw [hK] at HH HG ⊢
  clear hK
  cases hd : Dv.devs l with
  | false =>
    have eK := HH.out (fun h => by rw [h.1] at hd; cases hd)
    subst eK
    rw [hd] at cD
    clear hd HH HG
    go_enter Try.func63, Try.ntmps63
    go_wp2_with fail
    refine (cD _ hs0).mono ?_
    rintro e w1 ⟨rfl, hb1⟩
    go_wp2
    go_ret
    exact ⟨rfl, behind hB0 hb1⟩
  | true =>
    rw [hd] at cD
    by_cases h1 : 1 ≤ reps ∧ reps ≤ 5
    · have c1 := inC reps 1 5 true (by simp; omega)
      by_cases h3 : reps ≤ (l.length : Int)
      · have h3' : ¬ (l.length : Int) < reps := by omega
        by_cases h2 : 1 ≤ ps.length ∧ ps.length ≤ 64
        · have hK : K = ps.all fun p => Rg.partB p reps := HG.out ⟨hd, h1, h2, h3⟩
          have HK : Hid ((ps.all fun p => Rg.partB p reps) = K) := hK.symm
          obtain ⟨h1a, h1b⟩ := h1
          obtain ⟨h2a, h2b⟩ := h2
          clear hK hd HH HG
          have c2 := inC (ps.length : Int) 1 64 true (by simp; omega)
          go_enter Try.func63, Try.ntmps63
          go_wp2_with fail
          refine (cD _ hs0).mono ?_
          rintro e w1 ⟨rfl, hb1⟩
          have s1 := s0.below hb1
          have hB1 := behind hB0 hb1
          have hr1 := hr0.below hb1
          have hs1 := hs0.below hb1
          obtain ⟨⟨g0, g1⟩, -⟩ := id s1
          clear s0 hB0 hr0 hs0 hb1
          go_wp2_with fail
          refine (c1 _).mono ?_
          rintro e wa ⟨rfl, hwa⟩
          subst wa
          go_wp2_with fail
          refine (c2 _).mono ?_
          rintro e wa ⟨rfl, hwa⟩
          subst wa
          go_wp2
          clear g0 g1 c1 c2
          go_loopw [5] (fun i wr => ∃ k : Nat, k ≤ ps.length ∧ i = .int .i64 k ∧ Hid (((ps.take k).all fun p => Rg.partB p reps) = true) ∧ Below w1.heap.size w1 wr) (fun i _ => ps.length - (intOf i).toNat)
          case atStart => exact ⟨0, Nat.zero_le _, rfl, rfl, Below.refl _ _⟩
          case round =>
            obtain ⟨k, hk, rfl, HA, hb⟩ := hrel
            obtain ⟨⟨g0, g1⟩, -⟩ := s1.below hb
            by_cases hlt : k < ps.length
            · have HN : Hid (Rg.partB ps[k] reps = false → K = false) := fun h => by rw [← HK.out]; exact Rg.all_no (f := fun p => Rg.partB p reps) hlt h
              have HY : Hid (Rg.partB ps[k] reps = true → ((ps.take (k + 1)).all fun p => Rg.partB p reps) = true) := fun h => Rg.all_step (f := fun p => Rg.partB p reps) hlt h HA.out
              have hpl := hpp ps[k] (List.getElem_mem hlt)
              obtain ⟨b, off, ai, ci, rfl, hc, hz, hci⟩ := (hr1.below hb) k hlt
              generalize ps[k] = p at HN HY hpl hc hz hci
              have cP := fun (w' : World) (h : RdZ w' ai p) => specPart5 ai ci p reps w' hpl hci h
              have hkl : (k : Int) < (ps.length : Int) := by omega
              cases hB : Rg.partB p reps with
              | false =>
                rw [hB] at cP
                have eK := HN.out hB
                subst eK
                clear HN HY HK HA hB
                go_wp2_with fail
                go_region_held3 (fun wy => wy.cell? ⟨w.heap.size, 0, none⟩ = some (.int .i64 reps) ∧ wy.cell? ⟨w.heap.size, 1, none⟩ = some (.slice (some ⟨b, off, none⟩) ps.length cap) ∧ wy.cell? ⟨b, off + k, none⟩ = some (.slice ai p.length ci))
                  (first | exact ⟨g0, g1, hc⟩ | exact keepR3 ‹_› ‹_› | go_keep)
                  (first | (go_at_call 67; refine (cP _ (by exact hz)).mono ?_; rintro e w2 ⟨rfl, hb2⟩) | fail)
                go_wp2
                go_ret
                exact ⟨rfl, behind (behind hB1 hb).drew hb2⟩
              | true =>
                rw [hB] at cP
                have HY' : Hid (((ps.take (k + 1)).all fun p => Rg.partB p reps) = true) := HY.out hB
                clear hB HN HY
                go_wp2_with fail
                go_region_held3 (fun wy => wy.cell? ⟨w.heap.size, 0, none⟩ = some (.int .i64 reps) ∧ wy.cell? ⟨w.heap.size, 1, none⟩ = some (.slice (some ⟨b, off, none⟩) ps.length cap) ∧ wy.cell? ⟨b, off + k, none⟩ = some (.slice ai p.length ci))
                  (first | exact ⟨g0, g1, hc⟩ | exact keepR3 ‹_› ‹_› | go_keep)
                  (first | (go_at_call 67; refine (cP _ (by exact hz)).mono ?_; rintro e w2 ⟨rfl, hb2⟩) | fail)
                go_wp2
                go_roundw
                case rel => exact ⟨k + 1, by omega, by go_num, HY', behind hb.drew hb2⟩
                case measure => simp [intOf]; omega
            · have eK : K = true := by rw [← HK.out]; exact Rg.all_end (f := fun p => Rg.partB p reps) hlt HA.out
              subst eK
              clear HK HA
              go_wp2
              go_ret
              exact ⟨rfl, behind hB1 hb⟩
        · have eK := HH.out (fun h => h2 h.2.2.1)
          subst eK
          have c2 := inC (ps.length : Int) 1 64 false (by simp; omega)
          obtain ⟨h1a, h1b⟩ := h1
          clear hd HH HG h2
          go_enter Try.func63, Try.ntmps63
          go_wp2_with fail
          refine (cD _ hs0).mono ?_
          rintro e w1 ⟨rfl, hb1⟩
          obtain ⟨⟨g0, g1⟩, -⟩ := s0.below hb1
          go_wp2_with fail
          refine (c1 _).mono ?_
          rintro e wa ⟨rfl, hwa⟩
          subst wa
          go_wp2_with fail
          refine (c2 _).mono ?_
          rintro e wa ⟨rfl, hwa⟩
          subst wa
          go_wp2
          go_ret
          exact ⟨rfl, behind hB0 hb1⟩
      · have eK := HH.out (fun h => h3 h.2.2.2)
        subst eK
        have h3' : (l.length : Int) < reps := by omega
        obtain ⟨h1a, h1b⟩ := h1
        clear hd HH HG h3
        go_enter Try.func63, Try.ntmps63
        go_wp2_with fail
        refine (cD _ hs0).mono ?_
        rintro e w1 ⟨rfl, hb1⟩
        obtain ⟨⟨g0, g1⟩, -⟩ := s0.below hb1
        go_wp2_with fail
        refine (c1 _).mono ?_
        rintro e wa ⟨rfl, hwa⟩
        subst wa
        go_wp2
        go_ret
        exact ⟨rfl, behind hB0 hb1⟩
    · have eK := HH.out (fun h => h1 h.2.1)
      subst eK
      have c1 := inC reps 1 5 false (by simp; omega)
      clear hd HH HG h1
      go_enter Try.func63, Try.ntmps63
      go_wp2_with fail
      refine (cD _ hs0).mono ?_
      rintro e w1 ⟨rfl, hb1⟩
      obtain ⟨⟨g0, g1⟩, -⟩ := s0.below hb1
      go_wp2_with fail
      refine (c1 _).mono ?_
      rintro e wa ⟨rfl, hwa⟩
      subst wa
      go_wp2
      go_ret
      exact ⟨rfl, behind hB0 hb1⟩
end Go.Proofs.Ytcejeiakgmamdac.Wk

namespace Go.Proofs.Ytcejeiakgmamdac.Wk
set_option linter.unusedVariables false
open Go.ChangeShapes Go.WideShapes Go.ChangeAt Go.RowKit

theorem oneS_one (a : Option Addr) (n c : Nat) : ∀ u ∈ [Value.slice a n c], u.oneCell' = true := by
  intro u hu
  simp at hu
  subst hu
  rfl
set_option maxHeartbeats 4000000 in
set_option maxRecDepth 100000 in
theorem specCopy (reps : Int) (a : Option Addr) (ca : Nat) (Q : List (List Int)) (w : World) (hQ : Q.length ≤ 1048576) (hpp : ∀ p ∈ Q, p.length ≤ 1048576) (hr : RdN w a Q) :
    Calls Try.prog 62 #[.agg #[.int .i64 reps, .slice a Q.length ca]] w fun e w' => ∃ (a' : Option Addr) (ca' : Nat), e = .returned (.agg #[.int .i64 reps, .slice a' Q.length ca']) ∧
      OwnP w' w.heap.size (.slice a' Q.length ca') Q ∧ Below w.heap.size w w' := by
  obtain ⟨i0, hi0, hz0, hz1, hz2⟩ := info_parts infoPt
  have s0 := (slot2New w (.int .i64 reps) (.slice a Q.length ca) 29).below (bel1 _ (.cells #[.int .i64 0, .slice none 0 0] 29))
  have r0 := slot2New (w.alloc (.cells #[.int .i64 reps, .slice a Q.length ca] 29)) (.int .i64 0) (.slice none 0 0) 29
  have hB0 := bel2 w (.cells #[.int .i64 reps, .slice a Q.length ca] 29) (.cells #[.int .i64 0, .slice none 0 0] 29)
  have hr0 := hr.below hB0
  have hs0 : ((w.alloc (.cells #[.int .i64 reps, .slice a Q.length ca] 29)).alloc (.cells #[.int .i64 0, .slice none 0 0] 29)).heap.size = w.heap.size + 2 := by simp
  rw [World.size_alloc] at r0
  go_enter Try.func62, Try.ntmps62
  go_wp2
  generalize (w.alloc (.cells #[.int .i64 reps, .slice a Q.length ca] 29)).alloc (.cells #[.int .i64 0, .slice none 0 0] 29) = w2 at s0 r0 hB0 hr0 hs0 ⊢
  have o0 := slot2New w2 (.int .i64 reps) (.slice none 0 0) 29
  have hO0 := bel1 w2 (.cells #[.int .i64 reps, .slice none 0 0] 29)
  rw [hs0] at o0
  go_loopw [4] (fun i wr => ∃ (k : Nat) (v : Value), k ≤ Q.length ∧ i = .int .i64 k ∧ Slot2 wr (w.heap.size + 2) (.int .i64 reps) v ∧ OwnP wr (w.heap.size + 3) v (Q.take k) ∧ Below w2.heap.size w2 wr) (fun i _ => Q.length - (intOf i).toNat)
  case atStart => exact ⟨0, .slice none 0 0, Nat.zero_le _, rfl, o0, ⟨[], World.ownsRow_nil _ _ _ _, fun i hi => by simp at hi, fun i j ui uj hi => by simp at hi⟩, hO0⟩
  case round =>
    obtain ⟨k, v, hk, rfl, sk, hO, hb⟩ := hrel
    clear o0 hO0
    have sB := s0.below hb
    have hwr : w.heap.size + 3 ≤ wr.heap.size := sk.lt
    by_cases hlt : k < Q.length
    · obtain ⟨vs, hrow, hE⟩ := hO
      have htl : (Q.take k).length = k := by rw [List.length_take]; omega
      have HT : Hid (Q.take (k + 1) = Q.take k ++ [Q[k]]) := List.take_succ_eq_append_getElem hlt
      have hpl := hpp Q[k] (List.getElem_mem hlt)
      obtain ⟨b, off, ai, ci, rfl, hc, hz, hcap, hnil⟩ := (hr0.below hb) k hlt
      generalize Q[k] = p at HT hpl hc hz hcap
      rw [htl] at hrow
      obtain ⟨av, cv, rfl⟩ := Zv_shape hrow
      have hneV : some (w.heap.size + 2) ≠ (Value.slice av k cv).ownBlock := fun e => by
        have := (World.ownsRow.lt hrow _ e.symm).1
        omega
      have hneW : (Value.slice av k cv).ownBlock ≠ some wr.heap.size := fun e => by
        have := (World.ownsRow.lt hrow _ e).2
        omega
      have hkc : (k : Int) < (Q.length : Int) := by omega
      have bA := bel1 wr (.cells #[] 3)
      have skA := sk.below bA
      have rowA := ownOn hrow bA
      have hzA := hz.below bA
      have hE9 : Hid (OwnE wr (w.heap.size + 3) (Value.slice av k cv).ownBlock vs (Q.take k) (Q.take k).length) := hE
      obtain ⟨⟨g0, g1⟩, f0, f1⟩ := id sk
      obtain ⟨⟨x0, x1⟩, -⟩ := id sB
      have FIN : Hid (∀ (a7 : Option Addr) (c7 : Nat) (w7 : World), w7.ownsRow wr.heap.size 3 1 (.slice a7 p.length c7) p.length (Zv p) → (wr.alloc (.cells #[] 3)).grownBy w7 (some wr.heap.size) →
          ∀ (g9 cap9 : Nat) (w9 : World), w9.ownsRow (w.heap.size + 3) 36 1 (.slice (some ⟨g9, 0, none⟩) (k + 1) cap9) (k + 1) (vs ++ [.slice a7 p.length c7]) →
          (w7.alloc (.cells #[.slice a7 p.length c7] 36)).grownBy w9 (Value.slice av k cv).ownBlock → ((Value.slice av k cv).ownBlock = some g9 ∨ g9 = (w7.alloc (.cells #[.slice a7 p.length c7] 36)).heap.size) →
          Slot2 (w9.setCell ⟨w.heap.size + 2, 1, none⟩ (.slice (some ⟨g9, 0, none⟩) (k + 1) cap9)) (w.heap.size + 2) (.int .i64 reps) (.slice (some ⟨g9, 0, none⟩) (k + 1) cap9) ∧
          OwnP (w9.setCell ⟨w.heap.size + 2, 1, none⟩ (.slice (some ⟨g9, 0, none⟩) (k + 1) cap9)) (w.heap.size + 3) (.slice (some ⟨g9, 0, none⟩) (k + 1) cap9) (Q.take (k + 1)) ∧
          Below w2.heap.size w2 (w9.setCell ⟨w.heap.size + 2, 1, none⟩ (.slice (some ⟨g9, 0, none⟩) (k + 1) cap9))) := by
        intro a7 c7 w7 hown7 hg7 g9 cap9 w9 hown9 hg9 hat9
        have hb7 : Below wr.heap.size wr w7 := bA.grown hg7 (by simp) (fun j e => by cases e; exact Nat.le_refl _)
        have b9 := bel1 w7 (.cells #[.slice a7 p.length c7] 36)
        have hb8 := behind hb7 b9
        have s9 := Slot2.grown (sk.below hb8) hg9 hneV
        refine ⟨s9.put1 _, ?_, ?_⟩
        · have hE' := OwnE.snocL (v' := .slice (some ⟨g9, 0, none⟩) (k + 1) cap9) (p := p) (by rw [htl]; exact hrow) hE9.out hb8 ((ownOn hown7 b9).mono (by omega)) (fun j e => (World.ownsRow.lt hown7 j e).1) hg9 (by rcases hat9 with h | h; exact .inl h.symm; exact .inr (congrArg some h))
          rw [← HT.out] at hE'
          have hl : (Q.take (k + 1)).length = k + 1 := by rw [List.length_take]; omega
          have hP : OwnP w9 (w.heap.size + 3) (.slice (some ⟨g9, 0, none⟩) (k + 1) cap9) (Q.take (k + 1)) := ⟨_, by rw [hl]; exact hown9, hE'⟩
          exact hP.far (by omega)
        · have h8 : Below w2.heap.size w2 (w7.alloc (.cells #[.slice a7 p.length c7] 36)) := behind hb hb8
          exact (h8.grown hg9 h8.size (fun j e => by have := (World.ownsRow.lt hrow j e).1; omega)).setCell (by show w2.heap.size ≤ w.heap.size + 2; omega) _
      obtain ⟨⟨xA0, xA1⟩, -⟩ := id (sB.below bA)
      obtain ⟨⟨gA0, gA1⟩, fA0, fA1⟩ := id skA
      have hcA := cellOn hc bA
      clear hE
      go_wp2_with fail
      go_region_law (first | (refine step_appZ _ (by rfl) (.tmp 17) (.tmp 23) (by rfl) wr.heap.size _ [] (by rfl) (by exact emptyB wr _ (Nat.le_refl _)) ai ci p (by rfl) (by exact hzA) hnil (by simp; omega) (by simp) ?_; intro v7 w7 hown7 hgrow7; simp only [List.nil_append] at hown7; obtain ⟨a7, c7, rfl⟩ := Zv_shape hown7; have hg7 : (wr.alloc (.cells #[] 3)).grownBy w7 (some wr.heap.size) := ⟨hgrow7.os, hgrow7.tape, hgrow7.output, hgrow7.size, hgrow7.block⟩; clear hgrow7; have sk7 := Slot2.grown skA hg7 (by simp only [ne_eq, Option.some.injEq]; omega); obtain ⟨⟨a0, a1⟩, b0, b1⟩ := id sk7; have row7 := ownOn (World.ownsRow.kept rowA hg7 (.inr hneW)) (bel1 w7 (.cells #[.slice a7 p.length c7] 36)); have sk8 := sk7.below (bel1 w7 (.cells #[.slice a7 p.length c7] 36)); have hz7 := hg7.size; obtain ⟨⟨a2, a3⟩, b2, b3⟩ := id sk8) | (refine step_append_lies _ (by rfl) (.tmp 16) (.tmp 26) 27 (by rfl) (w.heap.size + 3) 36 i0 _ 1 24 Try.underlying27 hi0 hz0 hz1 hz2 rfl (by decide) _ _ _ (by rfl) (by exact row7) ⟨_, 0, none⟩ 1 1 [.slice a7 p.length c7] (by rfl) rfl oneZ_at (oneS_one _ _ _) (by omega) (by unfold maxLen; omega) (by omega) (by simp at hz7 ⊢; omega) _ rfl ?_; intro g9 cap9 w9 hown9 hgrow9 hat9 hlt9; have hg9 : (w7.alloc (.cells #[.slice a7 p.length c7] 36)).grownBy w9 (Value.slice av k cv).ownBlock := ⟨hgrow9.os, hgrow9.tape, hgrow9.output, hgrow9.size, hgrow9.block⟩; clear hgrow9; obtain ⟨⟨m0, m1⟩, n0, n1⟩ := Slot2.grown sk8 hg9 hneV) | fail)
      all_goals
        obtain ⟨x1, x2, x3⟩ := FIN.out a7 c7 w7 hown7 hg7 g9 cap9 w9 hown9 hg9 hat9
        clear xA0 xA1 gA0 gA1 fA0 fA1 hcA FIN hown7 hg7 hown9 hg9 hat9 a0 a1 b0 b1 a2 a3 b2 b3 m0 m1 n0 n1 sk7 sk8 row7 hz7 hlt9 g0 g1 f0 f1
        go_wp2
        go_roundw
        case rel => exact ⟨k + 1, _, by omega, by go_num, x1, x2, x3⟩
        case measure => simp [intOf]; omega
    · have hke : k = Q.length := by omega
      subst hke
      rw [List.take_length] at hO
      obtain ⟨av, cv, rfl⟩ : ∃ av cv, v = .slice av Q.length cv := by
        obtain ⟨vs, hrow, -⟩ := hO
        exact Zv_shape hrow
      obtain ⟨⟨t0, t1⟩, t2, t3⟩ := r0.below hb
      obtain ⟨⟨x0, x1⟩, -⟩ := id sB
      obtain ⟨⟨g0, g1⟩, -⟩ := id sk
      go_wp2
      have e0 : ((wr.setCell ⟨w.heap.size + 1, 0, none⟩ (.int .i64 reps)).setCell ⟨w.heap.size + 1, 1, none⟩ (.slice av Q.length cv)).cell? ⟨w.heap.size + 1, 0, none⟩ = some (.int .i64 reps) := by
        rw [World.cell?_setCell_other _ _ _ _ (by simp)]
        exact World.cell?_setCell_same' _ _ _ (by rw [t0]; rfl)
      have e1 : ((wr.setCell ⟨w.heap.size + 1, 0, none⟩ (.int .i64 reps)).setCell ⟨w.heap.size + 1, 1, none⟩ (.slice av Q.length cv)).cell? ⟨w.heap.size + 1, 1, none⟩ = some (.slice av Q.length cv) :=
        World.cell?_setCell_same' _ _ _ (by rw [World.cell?_setCell_other _ _ _ _ (by simp), t1]; rfl)
      refine bodyPost_ret (v := .agg #[.int .i64 reps, .slice av Q.length cv]) (by simp [results, Try.results62, go_sem, e0, e1]) rfl ⟨av, cv, rfl, ?_, ?_⟩
      · exact ((hO.far (by omega)).far (by omega)).mono (by omega)
      · exact ((behind hB0 hb).setCell (by show w.heap.size ≤ w.heap.size + 1; omega) _).setCell (by show w.heap.size ≤ w.heap.size + 1; omega) _
end Go.Proofs.Ytcejeiakgmamdac.Wk

namespace Go.Proofs.Ytcejeiakgmamdac.Wk
set_option linter.unusedVariables false
open Go.ChangeShapes Go.WideShapes Go.ChangeAt Go.RowKit

theorem own_farS {w : World} {base n c H : Nat} {a : Option Addr} {l : List Int} {u : Value} (ho : w.ownsRow base 3 1 (.slice a n c) n (Zv l)) (hl : l.length = n) (hk : w.cell? ⟨H, 0, none⟩ = some (.slice none 0 0)) : RdZ (w.setCell ⟨H, 0, none⟩ u) a l := by
  subst hl
  have hr := Zv_rd ho
  intro i hi
  obtain ⟨b, off, rfl, hc⟩ := hr i hi
  have hbH : b ≠ H := by
    rintro rfl
    obtain ⟨b', off', e, hc0⟩ := hr 0 (by omega)
    have h9 : off' = 0 := by
      rcases ho.2 with ⟨e9, _⟩ | ⟨g', cap', cur, e9, _⟩
      · simp at e9
      · simp only [Value.slice.injEq] at e9
        rw [e9.1] at e
        cases e
        rfl
    subst h9
    cases e
    rw [Nat.add_zero, hk] at hc0
    cases hc0
  exact ⟨b, off, rfl, by rw [World.cell?_setCell_other _ _ _ _ (fun e => hbH (congrArg Addr.block e).symm)]; exact hc⟩

set_option maxHeartbeats 4000000 in
set_option maxRecDepth 100000 in
theorem specRebNo (reps : Int) (a c : Option Addr) (ca cc : Nat) (Q : List (List Int)) (l : List Sm.St) (w : World) (hQ : Q.length ≤ 1048576) (ht : tot Q ≤ 1048576) (hl : l.length ≤ 1048576) (hr : RdN w a Q) (hs : RdS w c l) (hno : Rg.movB reps Q l = false) :
    Calls Try.prog 27 #[.agg #[.int .i64 reps, .slice a Q.length ca], .slice c l.length cc] w fun e w' => ∃ (a' : Option Addr) (ca' : Nat), e = .returned (.tuple #[.agg #[.int .i64 reps, .slice a' Q.length ca'], .int .i64 (-1)]) ∧
      OwnP w' w.heap.size (.slice a' Q.length ca') Q ∧ Below w.heap.size w w' := by
  have hpp : ∀ p ∈ Q, p.length ≤ 1048576 := fun p h => Nat.le_trans (tot_mem h) ht
  have cM := fun a' ca' w' h1 h2 => specMov reps a' c ca' cc Q l w' hQ hpp hl h1 h2
  rw [hno] at cM
  have s0 := (slot2New w (.int .i64 reps) (.slice a Q.length ca) 29).below (bel1 _ (.cells #[.int .i64 0, .slice none 0 0] 29))
  have r0 := slot2New (w.alloc (.cells #[.int .i64 reps, .slice a Q.length ca] 29)) (.int .i64 0) (.slice none 0 0) 29
  have hB0 := bel2 w (.cells #[.int .i64 reps, .slice a Q.length ca] 29) (.cells #[.int .i64 0, .slice none 0 0] 29)
  have hr0 := hr.below hB0
  have hs0 := hs.below hB0
  have hz0 : ((w.alloc (.cells #[.int .i64 reps, .slice a Q.length ca] 29)).alloc (.cells #[.int .i64 0, .slice none 0 0] 29)).heap.size = w.heap.size + 2 := by simp
  rw [World.size_alloc] at r0
  go_enter Try.func27, Try.ntmps27
  go_wp2_with fail
  generalize (w.alloc (.cells #[.int .i64 reps, .slice a Q.length ca] 29)).alloc (.cells #[.int .i64 0, .slice none 0 0] 29) = w2 at s0 r0 hB0 hr0 hs0 hz0 ⊢
  refine (specCopy reps a ca Q _ hQ hpp hr0).mono ?_
  rintro e w3 ⟨a3, c3, rfl, hO3, hb3⟩
  have bN := bel1 w3 (.cells #[.int .i64 reps, .slice a3 Q.length c3] 29)
  have n0 := slot2New w3 (.int .i64 reps) (.slice a3 Q.length c3) 29
  have hb4 := behind hb3 bN
  have s4 := s0.below hb4
  have r4 := r0.below hb4
  have hB4 := behind hB0 hb4
  have hO4 := hO3.below bN
  have hr4 := hr0.below hb4
  have hs4 := hs0.below hb4
  obtain ⟨⟨x0, x1⟩, -⟩ := id s4
  go_wp2_with fail
  generalize w3.alloc (.cells #[.int .i64 reps, .slice a3 Q.length c3] 29) = w4 at bN n0 hb4 s4 r4 hB4 hO4 hr4 hs4 x0 x1 ⊢
  refine (cM _ _ _ hr4.rd hs4).mono ?_
  rintro e w5 ⟨rfl, hb5⟩
  have r5 := r4.below hb5
  have n5 := n0.below hb5
  have hO5 := hO4.below hb5
  have hB5 := behind hB4 hb5
  obtain ⟨⟨t0, t1⟩, t2, t3⟩ := id r5
  obtain ⟨⟨y0, y1⟩, -⟩ := id n5
  clear x0 x1 cM s0 s4 r0 r4
  go_wp2
  have e0 : ((w5.setCell ⟨w.heap.size + 1, 0, none⟩ (.int .i64 reps)).setCell ⟨w.heap.size + 1, 1, none⟩ (.slice a3 Q.length c3)).cell? ⟨w.heap.size + 1, 0, none⟩ = some (.int .i64 reps) := by
    rw [World.cell?_setCell_other _ _ _ _ (by simp)]
    exact World.cell?_setCell_same' _ _ _ (by rw [t0]; rfl)
  have e1 : ((w5.setCell ⟨w.heap.size + 1, 0, none⟩ (.int .i64 reps)).setCell ⟨w.heap.size + 1, 1, none⟩ (.slice a3 Q.length c3)).cell? ⟨w.heap.size + 1, 1, none⟩ = some (.slice a3 Q.length c3) :=
    World.cell?_setCell_same' _ _ _ (by rw [World.cell?_setCell_other _ _ _ _ (by simp), t1]; rfl)
  refine bodyPost_ret (v := .tuple #[.agg #[.int .i64 reps, .slice a3 Q.length c3], .int .i64 (-1)]) (by simp [results, Try.results27, go_sem, e0, e1]) rfl ⟨a3, c3, rfl, ?_, ?_⟩
  · exact ((hO5.far (by omega)).far (by omega)).mono (by omega)
  · exact (hB5.setCell (by show w.heap.size ≤ w.heap.size + 1; omega) _).setCell (by show w.heap.size ≤ w.heap.size + 1; omega) _

set_option maxHeartbeats 8000000 in
set_option maxRecDepth 100000 in
theorem specRebYes (reps : Int) (a c : Option Addr) (ca cc : Nat) (Q : List (List Int)) (l : List Sm.St) (w : World) (hr : RdN w a Q) (hs : RdS w c l) (hyes : Rg.movB reps Q l = true) :
    Calls Try.prog 27 #[.agg #[.int .i64 reps, .slice a Q.length ca], .slice c l.length cc] w fun e w' => ∃ (a' : Option Addr) (ca' : Nat), e = .returned (.tuple #[.agg #[.int .i64 reps, .slice a' Q.length ca'], .int .i64 ((Rg.rebK l Q Q.length).2 : Int)]) ∧
      OwnP w' w.heap.size (.slice a' Q.length ca') (Rg.rebK l Q Q.length).1 ∧ Below w.heap.size w w' := by
  obtain ⟨hd, ⟨hr1, hr5⟩, ⟨hq1, hq64⟩, hrl⟩ := Rg.mov_head hyes
  have hev := Rg.mov_each hyes
  have hQ : Q.length ≤ 1048576 := by omega
  obtain ⟨⟨hl1, hl12⟩, -⟩ := Dv.devs_dev hd
  have hl : l.length ≤ 1048576 := by omega
  have hpl : ∀ q ∈ Q, 1 ≤ q.length ∧ q.length ≤ 5 := fun q hq => by have := (hev q hq).2; omega
  have hpp : ∀ p ∈ Q, p.length ≤ 1048576 := fun p h => by have := hpl p h; omega
  have HR : Hid (∀ k, k ≤ Q.length → tot (Rg.rebK l Q k).1 ≤ 1048576) := fun k hk => by
    have h5 : ∀ q ∈ (Rg.rebK l Q k).1, q.length ≤ 5 := Rg.rebK_each (φ := fun q => q.length ≤ 5) (fun q hq => (hpl q hq).2) (fun R q hq => by rw [Rg.mvTo_len]; exact (hpl q hq).2) k hk
    have h6 : ∀ (ps : List (List Int)), (∀ q ∈ ps, q.length ≤ 5) → tot ps ≤ ps.length * 5 := by
      intro ps
      induction ps with
      | nil => intro _; simp [tot]
      | cons a r ih =>
        intro h
        have h1 := ih (fun q hq => h q (List.mem_cons_of_mem _ hq))
        have h2 := h a List.mem_cons_self
        simp only [tot, List.map_cons, List.sum_cons, List.length_cons] at h1 ⊢
        omega
    have := h6 _ h5
    rw [Rg.rebK_len] at this
    omega
  have HQ : Hid (∀ q ∈ Q, q.Nodup ∧ (q.length : Int) = reps) := hev
  have HP : Hid (∀ q ∈ Q, 1 ≤ q.length ∧ q.length ≤ 5) := hpl
  have HD : Hid (Dv.devs l = true) := hd
  have cM := fun a' ca' w' h1 h2 => specMov reps a' c ca' cc Q l w' hQ hpp hl h1 h2
  rw [hyes] at cM
  obtain ⟨G, hG⟩ : ∃ G, Rg.rebK l Q Q.length = G := ⟨_, rfl⟩
  have HG : Hid (Rg.rebK l Q Q.length = G) := hG
  rw [hG]
  clear hd hev hpl hyes hG
  have s0 := (slot2New w (.int .i64 reps) (.slice a Q.length ca) 29).below (bel1 _ (.cells #[.int .i64 0, .slice none 0 0] 29))
  have r0 := slot2New (w.alloc (.cells #[.int .i64 reps, .slice a Q.length ca] 29)) (.int .i64 0) (.slice none 0 0) 29
  have hB0 := bel2 w (.cells #[.int .i64 reps, .slice a Q.length ca] 29) (.cells #[.int .i64 0, .slice none 0 0] 29)
  have hr0 := hr.below hB0
  have hs0 := hs.below hB0
  have hz0 : ((w.alloc (.cells #[.int .i64 reps, .slice a Q.length ca] 29)).alloc (.cells #[.int .i64 0, .slice none 0 0] 29)).heap.size = w.heap.size + 2 := by simp
  rw [World.size_alloc] at r0
  go_enter Try.func27, Try.ntmps27
  go_wp2_with fail
  generalize (w.alloc (.cells #[.int .i64 reps, .slice a Q.length ca] 29)).alloc (.cells #[.int .i64 0, .slice none 0 0] 29) = w2 at s0 r0 hB0 hr0 hs0 hz0 ⊢
  refine (specCopy reps a ca Q _ hQ hpp hr0).mono ?_
  rintro e w3 ⟨a3, c3, rfl, hO3, hb3⟩
  have bN := bel1 w3 (.cells #[.int .i64 reps, .slice a3 Q.length c3] 29)
  have n0 := slot2New w3 (.int .i64 reps) (.slice a3 Q.length c3) 29
  have hb4 := behind hb3 bN
  have s4 := s0.below hb4
  have hr4 := hr0.below hb4
  have hs4 := hs0.below hb4
  obtain ⟨vs, hrow3, hE3⟩ := hO3
  have hrow4 := ownOn hrow3 bN
  have hE4 := hE3.below bN
  have HF : Hid (∀ i u, i < Q.length → vs[i]? = some u → ∀ j, u.ownBlock = some j → j < w3.heap.size) := fun i u hi h j e => by
    obtain ⟨x, e1, e2, -⟩ := hE3.1 i hi hi
    rw [h] at e1
    have := Option.some.inj e1
    subst this
    exact (World.ownsRow.lt e2 j e).2
  obtain ⟨g, rfl⟩ : ∃ g, a3 = some ⟨g, 0, none⟩ := by
    rcases hrow3.2 with ⟨_, h0⟩ | ⟨g, cap', cur, e, _⟩
    · omega
    · simp only [Value.slice.injEq] at e
      exact ⟨g, e.1⟩
  have hg3 := (World.ownsRow.lt hrow3 g rfl)
  obtain ⟨⟨x0, x1⟩, -⟩ := id s4
  obtain ⟨B, hB⟩ : ∃ B, w3.heap.size = B := ⟨_, rfl⟩
  rw [hB] at n0 HF hg3
  clear hrow3 hE3
  go_wp2_with fail
  generalize w3.alloc (.cells #[.int .i64 reps, .slice (some ⟨g, 0, none⟩) Q.length c3] 29) = w4 at bN n0 hb4 s4 hr4 hs4 hrow4 hE4 x0 x1 ⊢
  refine (cM _ _ _ hr4.rd hs4).mono ?_
  rintro e w5 ⟨rfl, hb5⟩
  have n5 := n0.below hb5
  have hrow5 := ownOn hrow4 hb5
  have hE5 := hE4.below hb5
  have hb25 := behind hb4 hb5
  obtain ⟨⟨y0, y1⟩, -⟩ := id n5
  have hs5' := hs0
  clear x0 x1 cM s0 s4 n0 hr0 hr4 hrow4 hE4 hs4 hb4 hb5 bN
  go_wp2
  clear y0 y1
  clear hB
  go_loopw [7, 8] (fun n i wr => ∃ k : Nat, k ≤ Q.length ∧ i = .int .i64 k ∧ n = .int .i64 ((Rg.rebK l Q k).2 : Int) ∧ Slot2 wr B (.int .i64 reps) (.slice (some ⟨g, 0, none⟩) Q.length c3) ∧ wr.ownsRow w2.heap.size 36 1 (.slice (some ⟨g, 0, none⟩) Q.length c3) Q.length vs ∧ OwnE wr w2.heap.size (some g) vs (Rg.rebK l Q k).1 Q.length ∧ Below w2.heap.size w2 wr) (fun _ i _ => Q.length - (intOf i).toNat)
  case atStart => exact ⟨0, Nat.zero_le _, rfl, rfl, n5, hrow5, hE5, hb25⟩
  case round =>
    obtain ⟨k, hk, rfl, rfl, sk, hrowk, hEk, hb⟩ := hrel
    clear n5 hrow5 hE5 hb25
    obtain ⟨⟨y0, y1⟩, -⟩ := id sk
    by_cases hlt : k < Q.length
    · have hRl : (Rg.rebK l Q k).1.length = Q.length := Rg.rebK_len l Q k
      have hnk : (Rg.rebK l Q k).2 ≤ k := Rg.rebK_le l Q k
      have htk := HR.out k hk
      obtain ⟨hnd, hln⟩ := HQ.out Q[k] (List.getElem_mem hlt)
      obtain ⟨hp1, hp5⟩ := HP.out Q[k] (List.getElem_mem hlt)
      have HST : Hid (Rg.rebK l Q (k + 1) = ((Rg.rebK l Q k).1.set k (Rg.mvTo Q[k] (Rg.mvOne (Rg.rebK l Q k).1 l Q[k])), (Rg.rebK l Q k).2 + Rg.mvN (Rg.mvOne (Rg.rebK l Q k).1 l Q[k]))) := Rg.rebK_step hlt
      have hRk : (Rg.rebK l Q k).1[k]'(by omega) = Q[k] := Rg.rebK_at hlt (by omega)
      have HMV : Hid (∀ j x, Rg.mvOne (Rg.rebK l Q k).1 l Q[k] = some (j, x) → j < Q[k].length ∧ x ∉ Q[k] ∧ 0 ≤ x) := fun j x h => by
        have := Rg.mvOne_is HD.out hnd (by omega) h
        exact ⟨this.1, this.2.1, this.2.2.1⟩
      obtain ⟨u, hu1, hu2, hu3⟩ := hEk.1 k (by omega) (by omega)
      have hub := HF.out k u hlt hu1
      rw [hRk] at hu2
      obtain ⟨au, cu, rfl⟩ := Zv_shape hu2
      have hRP : RdP wr (some ⟨g, 0, none⟩) (Rg.rebK l Q k).1 := (show OwnP wr w2.heap.size (.slice (some ⟨g, 0, none⟩) Q.length c3) (Rg.rebK l Q k).1 from ⟨vs, by rw [hRl]; exact hrowk, by rw [hRl]; exact hEk⟩).rdS
      have hcell := hrowk.cellAt k (by have := hrowk.1; omega)
      rw [hu1] at hcell
      have hsr := hs5'.below hb
      have HST2 : Hid (∀ M, Rg.mvOne (Rg.rebK l Q k).1 l Q[k] = M → Rg.rebK l Q (k + 1) = ((Rg.rebK l Q k).1.set k (Rg.mvTo Q[k] M), (Rg.rebK l Q k).2 + Rg.mvN M)) := fun M h => by rw [← h]; exact HST.out
      clear hRk hln HST
      generalize (Rg.rebK l Q k).2 = n at HST2 hnk
      generalize (Rg.rebK l Q k).1 = R at HST2 hRl htk HMV hEk hRP
      generalize Q[k] = p at HST2 hnd hp1 hp5 HMV hu1 hu2 hu3 hub hcell
      obtain ⟨gu, rfl⟩ : ∃ gu, au = some ⟨gu, 0, none⟩ := by
        rcases hu2.2 with ⟨_, h0⟩ | ⟨g', cap', cur, e, _⟩
        · omega
        · simp only [Value.slice.injEq] at e
          exact ⟨g', e.1⟩
      have hguB : gu < B := hub gu rfl
      have hgug : gu ≠ g := fun e => by
        rcases hu3 with h9 | h9
        · cases h9
        · exact h9 (by rw [e]; rfl)
      have hgu2 := (World.ownsRow.lt hu2 gu rfl).1
      have hcu := own_cap hu2
      have cL := fun (w' : World) (h : RdZ w' (some ⟨gu, 0, none⟩) p) (h3 : RdS w' c l) => specLost (some ⟨gu, 0, none⟩) c cu cc p l w' (by omega) hl h h3
      have bP := bel1 wr (.cells #[.slice (some ⟨gu, 0, none⟩) p.length cu] 36)
      have sP := slot1New wr (.slice (some ⟨gu, 0, none⟩) p.length cu) 36
      obtain ⟨P, hP⟩ : ∃ P, wr.heap.size = P := ⟨_, rfl⟩
      rw [hP] at sP
      go_upto_region 9 with fail
      generalize wr.alloc (.cells #[.slice (some ⟨gu, 0, none⟩) p.length cu] 36) = wP at bP sP ⊢
      have kP := sk.below bP
      have rowP := ownOn hrowk bP
      have uP := ownOn hu2 bP
      have EP := hEk.below bP
      have RP := hRP.below bP
      have lP := hsr.below bP
      have hbP := behind hb bP
      obtain ⟨p0, -⟩ := id sP
      clear sk hrowk hu2 hEk hRP hsr bP y0 y1 hcell hP
      cases hg : p.findIdx? (Rg.lostB l) with
      | some j =>
        obtain ⟨hj, -⟩ := Rg.find_lt hg
        have hM : Rg.mvOne R l p = some (j, Rg.best R (p.eraseIdx j) l) := by unfold Rg.mvOne; rw [hg]
        rw [hg] at cL
        dsimp only [Rg.idxI] at cL
        have hel : (p.eraseIdx j).length ≤ 1048576 := by have := List.length_eraseIdx_le p j; omega
        have cB := fun (b5 : Option Addr) (c5 : Nat) (w' : World) (h1 : RdP w' (some ⟨g, 0, none⟩) R) (h2 : RdZ w' b5 (p.eraseIdx j)) (h3 : RdS w' c l) => specBest reps (some ⟨g, 0, none⟩) b5 c c3 c5 cc R (p.eraseIdx j) l w' (by omega) htk hel hl h1 h2 h3
        have HX := HST2.out _ hM
        obtain ⟨-, hx, hx0⟩ := HMV.out _ _ hM
        generalize Rg.best R (p.eraseIdx j) l = x at cB HX hx hx0
        rw [hRl] at cB
        have HST : Hid (Rg.rebK l Q (k + 1) = (R.set k (Rg.mvTo p (some (j, x))), n + Rg.mvN (some (j, x)))) := HX
        clear HX hM HST2 HMV hg
        have hj0 : (0 : Int) ≤ (j : Int) := by omega
        go_wp2_with fail
        refine (cL _ (Zv_rd uP) lP).mono ?_
        rintro e wL ⟨rfl, hbL⟩
        have sP := sP.below hbL
        have kL := kP.below hbL
        have rowL := ownOn rowP hbL
        have uL := ownOn uP hbL
        have EL := EP.below hbL
        have RL := RP.below hbL
        have lL := lP.below hbL
        have hbL' := behind hbP hbL
        clear kP rowP uP EP RP lP hbP p0 hbL cL
        obtain ⟨p0, -⟩ := id sP
        go_upto_region 12 with fail
        have htl : (p.take j).length = j := by rw [List.length_take]; omega
        have hdl : (p.drop (j + 1)).length = p.length - (j + 1) := List.length_drop
        have hfl : p.take j ++ p.drop (j + 1) = p.eraseIdx j := (List.eraseIdx_eq_take_drop_succ p j).symm
        have hj1 : (0 : Int) ≤ (j : Int) + 1 := by omega
        have hj2 : (j : Int) + 1 ≤ (p.length : Int) := by omega
        have hj3 : (j : Int) ≤ (cu : Int) := by omega
        have hcuc : cu = j + 1 ∨ j + 1 < cu := by omega
        have zL := Zv_rd uL
        go_cut [12] (fun v wx => ∃ (Bo : Nat) (ao : Option Addr) (co : Nat), v = .pointer (some ⟨Bo, 0, none⟩) ∧ wx.cell? ⟨Bo, 0, none⟩ = some (.slice ao (p.eraseIdx j).length co) ∧ RdZ wx ao (p.eraseIdx j) ∧ Below wL.heap.size wL wx)
        case first =>
          have b1 : Below wL.heap.size wL (wL.alloc (.cells #[] 3)).drew := (bel1 wL _).drew
          have b2 : Below wL.heap.size wL ((wL.alloc (.cells #[] 3)).alloc (.cells #[.slice none 0 0] 36)).drew := (bel2 wL _ _).drew
          have b3 : Below wL.heap.size wL ((wL.alloc (.cells #[.slice none 0 0] 36)).alloc (.cells #[] 3)).drew := (bel2 wL _ _).drew
          have b4 : Below wL.heap.size wL (wL.alloc (.cells #[.slice none 0 0] 36)).drew := (bel1 wL _).drew
          have e1 : (wL.alloc (.cells #[] 3)).drew.ownsRow wL.heap.size 3 1 (.slice (some ⟨wL.heap.size, 0, none⟩) 0 0) ([] : List Int).length (Zv []) := emptyB wL _ (Nat.le_refl _)
          have e2 : ((wL.alloc (.cells #[] 3)).alloc (.cells #[.slice none 0 0] 36)).drew.ownsRow wL.heap.size 3 1 (.slice (some ⟨wL.heap.size, 0, none⟩) 0 0) ([] : List Int).length (Zv []) := World.ownsRow.alloc (emptyB wL _ (Nat.le_refl _)) _
          have e3 : ((wL.alloc (.cells #[.slice none 0 0] 36)).alloc (.cells #[] 3)).drew.ownsRow wL.heap.size 3 1 (.slice (some ⟨wL.heap.size + 1, 0, none⟩) 0 0) ([] : List Int).length (Zv []) := by
            have h := emptyB (wL.alloc (.cells #[.slice none 0 0] 36)) wL.heap.size (by simp)
            rw [World.size_alloc] at h
            exact h
          have z0 : RdZ wL (some ⟨gu, 0, none⟩) (p.take j) := zL.take j
          have z1 : RdZ (wL.alloc (.cells #[] 3)).drew (some ⟨gu, 0, none⟩) (p.take j) := z0.below b1
          have z2 : RdZ ((wL.alloc (.cells #[] 3)).alloc (.cells #[.slice none 0 0] 36)).drew (some ⟨gu, 0, none⟩) (p.take j) := z0.below b2
          have z3 : RdZ ((wL.alloc (.cells #[.slice none 0 0] 36)).alloc (.cells #[] 3)).drew (some ⟨gu, 0, none⟩) (p.take j) := z0.below b3
          have x2 : Slot1 ((wL.alloc (.cells #[] 3)).alloc (.cells #[.slice none 0 0] 36)) (wL.heap.size + 1) (.slice none 0 0) := by
            have h := slot1New (wL.alloc (.cells #[] 3)) (.slice none 0 0) 36
            rw [World.size_alloc] at h
            exact h
          have x3 : Slot1 ((wL.alloc (.cells #[.slice none 0 0] 36)).alloc (.cells #[] 3)) wL.heap.size (.slice none 0 0) := (slot1New wL (.slice none 0 0) 36).below (bel1 _ _)
          have q0 : wL.cell? ⟨P, 0, none⟩ = some (.slice (some ⟨gu, 0, none⟩) p.length cu) := p0
          have HQ0 : Hid (wL.cell? ⟨P, 0, none⟩ = some (.slice (some ⟨gu, 0, none⟩) p.length cu)) := q0
          have HQ1 : Hid (wL.drew.cell? ⟨P, 0, none⟩ = some (.slice (some ⟨gu, 0, none⟩) p.length cu)) := q0
          have HQE : Hid ((wL.alloc (.cells #[] 3)).drew.cell? ⟨P, 0, none⟩ = some (.slice (some ⟨gu, 0, none⟩) p.length cu)) := cellOn q0 b1
          have HQX : Hid ((wL.alloc (.cells #[.slice none 0 0] 36)).drew.cell? ⟨P, 0, none⟩ = some (.slice (some ⟨gu, 0, none⟩) p.length cu)) := cellOn q0 b4
          have HQEX : Hid (((wL.alloc (.cells #[] 3)).alloc (.cells #[.slice none 0 0] 36)).drew.cell? ⟨P, 0, none⟩ = some (.slice (some ⟨gu, 0, none⟩) p.length cu)) := cellOn q0 b2
          have HQXE : Hid (((wL.alloc (.cells #[.slice none 0 0] 36)).alloc (.cells #[] 3)).drew.cell? ⟨P, 0, none⟩ = some (.slice (some ⟨gu, 0, none⟩) p.length cu)) := cellOn q0 b3
          obtain ⟨ad, had⟩ : ∃ ad : Option Addr, (if cu = j + 1 then some ⟨gu, 0, none⟩ else some ⟨gu, j + 1, none⟩) = ad := ⟨_, rfl⟩
          have HADN : Hid (ad ≠ none) := by show ad ≠ none; rw [← had]; split <;> exact fun e => by cases e
          have zD : ∀ w', Below wL.heap.size wL w' → RdZ w' ad (p.drop (j + 1)) := by
            intro w' hb'
            rw [← had]
            split
            · intro i hi
              rw [List.length_drop] at hi
              omega
            · intro i hi
              rw [List.length_drop] at hi
              obtain ⟨b', off', e, hc⟩ := (zL.below hb') (j + 1 + i) (by omega)
              simp only [Option.some.injEq, Addr.mk.injEq, and_true] at e
              obtain ⟨rfl, rfl⟩ := e
              refine ⟨gu, j + 1, rfl, ?_⟩
              rw [List.getElem_drop]
              rw [Nat.zero_add] at hc
              exact hc
          clear q0 z0
          have hj4 : (j : Int) + 1 ≤ (cu : Int) := by omega
          have hw1 : IntKind.i64.wrap ((j : Int) + 1) = (j : Int) + 1 := wrapH _ (by omega) (by omega)
          clear hcuc
          go_region_held3 (fun wy => wy.cell? ⟨P, 0, none⟩ = some (.slice (some ⟨gu, 0, none⟩) p.length cu)) (first | with_reducible exact HQ0.out | with_reducible exact HQ1.out | with_reducible exact HQE.out | with_reducible exact HQX.out | with_reducible exact HQEX.out | with_reducible exact HQXE.out | with_reducible exact cellOn HQ0.out hb8 | with_reducible exact cellOn HQ0.out (behind hb8 (bel1 _ _)) | with_reducible exact cellOn HQ0.out hb7 | with_reducible exact cellOn HQ0.out (behind hb7 (bel1 _ _)) | exact cellOn HQ0.out (Below.setCell hb8 (by dsimp only; omega) _) | fail) (first | (refine step_appL _ (by rfl) (.tmp 37) (.tmp 41) (by rfl) wL b1 _ [] (by rfl) e1 (some ⟨gu, 0, none⟩) cu (p.take j) (by rw [htl]; rfl) z1 (fun e => by cases e) (by rw [htl]; simp; omega) ?_; intro v1 w7 hown7 hg7 hat7 hb7; simp only [List.nil_append] at hown7; have hz7 := hg7.size; have hzL := hb7.size; skip) | (refine step_appL _ (by rfl) (.tmp 37) (.tmp 41) (by rfl) wL b2 _ [] (by rfl) e2 (some ⟨gu, 0, none⟩) cu (p.take j) (by rw [htl]; rfl) z2 (fun e => by cases e) (by rw [htl]; simp; omega) ?_; intro v1 w7 hown7 hg7 hat7 hb7; simp only [List.nil_append] at hown7; have hz7 := hg7.size; have hzL := hb7.size; have x7 : Slot1 w7 (wL.heap.size + 1) (.slice none 0 0) := Slot1.grw (w := ((wL.alloc (.cells #[] 3)).alloc (.cells #[.slice none 0 0] 36)).drew) x2 hg7 (by simp only [Value.ownBlock, ne_eq, Option.some.injEq]; omega); obtain ⟨k7, f7⟩ := id x7) | (refine step_appL _ (by rfl) (.tmp 37) (.tmp 41) (by rfl) wL b3 _ [] (by rfl) e3 (some ⟨gu, 0, none⟩) cu (p.take j) (by rw [htl]; rfl) z3 (fun e => by cases e) (by rw [htl]; simp; omega) ?_; intro v1 w7 hown7 hg7 hat7 hb7; simp only [List.nil_append] at hown7; have hz7 := hg7.size; have hzL := hb7.size; have x7 : Slot1 w7 wL.heap.size (.slice none 0 0) := Slot1.grw (w := ((wL.alloc (.cells #[.slice none 0 0] 36)).alloc (.cells #[] 3)).drew) x3 hg7 (by simp only [Value.ownBlock, ne_eq, Option.some.injEq]; omega); obtain ⟨k7, f7⟩ := id x7) | (refine step_appL (w7.alloc (.cells #[.slice none 0 0] 36)) (by rfl) (.tmp 42) (.tmp 47) (by rfl) wL (behind hb7 (bel1 w7 (.cells #[.slice none 0 0] 36))) v1 (p.take j) (by rfl) (World.ownsRow.alloc hown7 (.cells #[.slice none 0 0] 36)) ad (cu - (j + 1)) (p.drop (j + 1)) (by rw [hdl]; rfl) (RdZ.below (zD w7 hb7) (bel1 w7 (.cells #[.slice none 0 0] 36))) (fun e => absurd e HADN.out) (by rw [htl, hdl]; omega) ?_; intro v2 w8 hown8 hg8 hat8 hb8; rw [hfl] at hown8; obtain ⟨a8, c8, rfl⟩ := Zv_shape hown8; have x8 := Slot1.grw (slot1New w7 (.slice none 0 0) 36) hg8 (fun e => by have h9 := (World.ownsRow.lt hown7 _ e.symm).2; omega); obtain ⟨k8, f8⟩ := id x8) | (refine step_appL _ (by rfl) (.tmp 42) (.tmp 47) (by rfl) wL hb7 v1 (p.take j) (by rfl) hown7 ad (cu - (j + 1)) (p.drop (j + 1)) (by rw [hdl]; rfl) (zD w7 hb7) (fun e => absurd e HADN.out) (by rw [htl, hdl]; omega) ?_; intro v2 w8 hown8 hg8 hat8 hb8; rw [hfl] at hown8; obtain ⟨a8, c8, rfl⟩ := Zv_shape hown8; (first | (have x8 := Slot1.grw x7 hg8 (fun e => by rcases hat7 with h | h <;> rw [h] at e <;> simp only [Value.ownBlock, World.size_drew, World.size_alloc, Option.some.injEq] at e <;> omega); obtain ⟨k8, f8⟩ := id x8) | skip)) | fail)
          all_goals
            go_wp2_with fail
            go_meet
            first
              | exact ⟨w8.heap.size, a8, c8, rfl, (slot1New w8 _ _).1, RdZ.below (Zv_rd hown8) (bel1 _ _), behind hb8 (bel1 _ _)⟩
              | exact ⟨_, a8, c8, rfl, World.cell?_setCell_same' _ _ _ (by rw [k8]; rfl), own_farS hown8 rfl k8, hb8.setCell (by dsimp only; omega) _⟩
        case rest =>
          obtain ⟨Bo, ao, co, rfl, hko, hro, hbo⟩ := hcut
          have kN := kL.below hbo
          have rowN := ownOn rowL hbo
          have uN := ownOn uL hbo
          have EN := EL.below hbo
          have RN := RL.below hbo
          have lN := lL.below hbo
          have hbN := behind hbL' hbo
          clear kL rowL uL EL RL lL hbL' hbo p0 zL sP hcuc
          obtain ⟨⟨y0, y1⟩, -⟩ := id kN
          go_wp2_with fail
          refine (cB _ _ _ RN hro lN).mono ?_
          rintro e wB ⟨rfl, hbB⟩
          clear y0 y1 hko hro RN lN cB
          have rowB := ownOn rowN hbB
          have uB := ownOn uN hbB
          have EB := EN.below hbB
          have kB := kN.below hbB
          have hbB' := behind hbN hbB
          have hcB := rowB.cellAt k (by have := rowB.1; omega)
          rw [hu1] at hcB
          have hcj := uB.cellAt j (by have := uB.1; omega)
          have hfj := uB.frozenAt j
          have hjl : (Zv p)[j]? = some (.int .i64 p[j]) := by simp [Zv, hj]
          rw [hjl] at hcj
          have hst := uB.stored j (.int .i64 x)
          rw [Zv_set] at hst
          have hgq := hst.2
          have kz := Slot2.grown kB hgq (by simp only [ne_eq, Option.some.injEq]; omega)
          have rowz := World.ownsRow.kept rowB hgq (.inr (by simp only [Value.ownBlock, ne_eq, Option.some.injEq]; exact fun e => hgug e.symm))
          have hsl : (p.set j x).length = p.length := by simp
          have Ez : OwnE (wB.setCell ⟨gu, j, none⟩ (.int .i64 x)) w2.heap.size (some g) vs (R.set k (p.set j x)) Q.length := OwnE.turn EB (by omega) hlt hu1 hgq (by rw [hsl]; exact hst.1)
          have hbz : Below w2.heap.size w2 (wB.setCell ⟨gu, j, none⟩ (.int .i64 x)) := hbB'.setCell hgu2 _
          obtain ⟨⟨y0, y1⟩, -⟩ := id kB
          have hji : (j : Int) < (p.length : Int) := by omega
          have hki : (k : Int) < (Q.length : Int) := by omega
          generalize p[j] = pj at hcj
          clear hst hgq hjl EB rowB uB kB hbB' hbB
          go_wp2
          go_roundw
          case rel => exact ⟨k + 1, by omega, by go_num, by rw [HST.out]; go_num, kz, rowz, by rw [HST.out]; exact Ez, hbz⟩
          case measure => simp [intOf]; omega
      | none =>
        have hM : Rg.mvOne R l p = (Rg.heavyK R l p (Rg.best R p l)).map fun k => (k, Rg.best R p l) := by unfold Rg.mvOne; rw [hg]
        rw [hg] at cL
        dsimp only [Rg.idxI] at cL
        have cB := fun (w' : World) (h1 : RdP w' (some ⟨g, 0, none⟩) R) (h2 : RdZ w' (some ⟨gu, 0, none⟩) p) (h3 : RdS w' c l) => specBest reps (some ⟨g, 0, none⟩) (some ⟨gu, 0, none⟩) c c3 cu cc R p l w' (by omega) htk (by omega) hl h1 h2 h3
        generalize Rg.best R p l = x at cB hM
        have cH := fun (w' : World) (h1 : RdP w' (some ⟨g, 0, none⟩) R) (h2 : RdZ w' (some ⟨gu, 0, none⟩) p) (h3 : RdS w' c l) => specHeavy reps (some ⟨g, 0, none⟩) (some ⟨gu, 0, none⟩) c c3 cu cc R p l x w' (by omega) htk (by omega) hl h1 h2 h3
        rw [hRl] at cB cH
        clear hg
        cases hh : Rg.heavyK R l p x with
        | none =>
          rw [hh] at cH hM
          dsimp only [Rg.idxI, Option.map] at cH hM
          have HX := HST2.out _ hM
          have HST : Hid (Rg.rebK l Q (k + 1) = (R.set k (Rg.mvTo p none), n + Rg.mvN none)) := HX
          clear HX hM HST2 HMV hh
          go_wp2_with fail
          refine (cL _ (Zv_rd uP) lP).mono ?_
          rintro e wL ⟨rfl, hbL⟩
          have sP := sP.below hbL
          have kL := kP.below hbL
          have rowL := ownOn rowP hbL
          have uL := ownOn uP hbL
          have EL := EP.below hbL
          have RL := RP.below hbL
          have lL := lP.below hbL
          have hbL' := behind hbP hbL
          clear kP rowP uP EP RP lP hbP p0 hbL cL
          obtain ⟨p0, -⟩ := id sP
          obtain ⟨⟨y0, y1⟩, -⟩ := id kL
          go_wp2_with fail
          refine (cB _ RL (Zv_rd uL) lL).mono ?_
          rintro e wM ⟨rfl, hbM⟩
          have sP := sP.below hbM
          have kM := kL.below hbM
          have rowM := ownOn rowL hbM
          have uM := ownOn uL hbM
          have EM := EL.below hbM
          have RM := RL.below hbM
          have lM := lL.below hbM
          have hbM' := behind hbL' hbM
          clear kL rowL uL EL RL lL hbL' p0 y0 y1 hbM cB
          obtain ⟨p0, -⟩ := id sP
          obtain ⟨⟨y0, y1⟩, -⟩ := id kM
          go_wp2_with fail
          refine (cH _ RM (Zv_rd uM) lM).mono ?_
          rintro e wB ⟨rfl, hbB⟩
          have kB := kM.below hbB
          have rowB := ownOn rowM hbB
          have uB := ownOn uM hbB
          have EB := EM.below hbB
          have hbB' := behind hbM' hbB
          have hgR : wB.grownBy wB (Value.slice (some ⟨gu, 0, none⟩) p.length cu).ownBlock := ⟨rfl, rfl, rfl, Nat.le_refl _, fun _ _ _ => rfl⟩
          have FIN : OwnE wB w2.heap.size (some g) vs (R.set k p) Q.length := OwnE.turn EB (by omega) hlt hu1 hgR uB
          clear kM rowM uM EM RM lM hbM' p0 y0 y1 hbB cH EB uB hgR
          go_wp2
          go_roundw
          case rel => exact ⟨k + 1, by omega, by go_num, by rw [HST.out]; rfl, kB, rowB, by rw [HST.out]; exact FIN, hbB'⟩
          case measure => simp [intOf]; omega
        | some j =>
          rw [hh] at cH hM
          dsimp only [Rg.idxI, Option.map] at cH hM
          have HX := HST2.out _ hM
          obtain ⟨hj, hx, hx0⟩ := HMV.out _ _ hM
          have HST : Hid (Rg.rebK l Q (k + 1) = (R.set k (Rg.mvTo p (some (j, x))), n + Rg.mvN (some (j, x)))) := HX
          clear HX hM HST2 HMV hh
          have hj0 : (0 : Int) ≤ (j : Int) := by omega
          go_wp2_with fail
          refine (cL _ (Zv_rd uP) lP).mono ?_
          rintro e wL ⟨rfl, hbL⟩
          have sP := sP.below hbL
          have kL := kP.below hbL
          have rowL := ownOn rowP hbL
          have uL := ownOn uP hbL
          have EL := EP.below hbL
          have RL := RP.below hbL
          have lL := lP.below hbL
          have hbL' := behind hbP hbL
          clear kP rowP uP EP RP lP hbP p0 hbL cL
          obtain ⟨p0, -⟩ := id sP
          obtain ⟨⟨y0, y1⟩, -⟩ := id kL
          go_wp2_with fail
          refine (cB _ RL (Zv_rd uL) lL).mono ?_
          rintro e wM ⟨rfl, hbM⟩
          have sP := sP.below hbM
          have kN := kL.below hbM
          have rowN := ownOn rowL hbM
          have uN := ownOn uL hbM
          have EN := EL.below hbM
          have RN := RL.below hbM
          have lN := lL.below hbM
          have hbN := behind hbL' hbM
          clear kL rowL uL EL RL lL hbL' p0 y0 y1 hbM cB
          obtain ⟨p0, -⟩ := id sP
          obtain ⟨⟨y0, y1⟩, -⟩ := id kN
          go_wp2_with fail
          refine (cH _ RN (Zv_rd uN) lN).mono ?_
          rintro e wB ⟨rfl, hbB⟩
          clear y0 y1 p0 RN lN cH
          have rowB := ownOn rowN hbB
          have uB := ownOn uN hbB
          have EB := EN.below hbB
          have kB := kN.below hbB
          have hbB' := behind hbN hbB
          have hcB := rowB.cellAt k (by have := rowB.1; omega)
          rw [hu1] at hcB
          have hcj := uB.cellAt j (by have := uB.1; omega)
          have hfj := uB.frozenAt j
          have hjl : (Zv p)[j]? = some (.int .i64 p[j]) := by simp [Zv, hj]
          rw [hjl] at hcj
          have hst := uB.stored j (.int .i64 x)
          rw [Zv_set] at hst
          have hgq := hst.2
          have kz := Slot2.grown kB hgq (by simp only [ne_eq, Option.some.injEq]; omega)
          have rowz := World.ownsRow.kept rowB hgq (.inr (by simp only [Value.ownBlock, ne_eq, Option.some.injEq]; exact fun e => hgug e.symm))
          have hsl : (p.set j x).length = p.length := by simp
          have Ez : OwnE (wB.setCell ⟨gu, j, none⟩ (.int .i64 x)) w2.heap.size (some g) vs (R.set k (p.set j x)) Q.length := OwnE.turn EB (by omega) hlt hu1 hgq (by rw [hsl]; exact hst.1)
          have hbz : Below w2.heap.size w2 (wB.setCell ⟨gu, j, none⟩ (.int .i64 x)) := hbB'.setCell hgu2 _
          obtain ⟨⟨y0, y1⟩, -⟩ := id kB
          have hji : (j : Int) < (p.length : Int) := by omega
          have hki : (k : Int) < (Q.length : Int) := by omega
          generalize p[j] = pj at hcj
          clear hst hgq hjl EB rowB uB kB hbB' hbB
          go_wp2
          go_roundw
          case rel => exact ⟨k + 1, by omega, by go_num, by rw [HST.out]; go_num, kz, rowz, by rw [HST.out]; exact Ez, hbz⟩
          case measure => simp [intOf]; omega
    · have hke : k = Q.length := by omega
      subst hke
      have r5 := r0.below hb
      obtain ⟨⟨t0, t1⟩, t2, t3⟩ := id r5
      have hO : OwnP wr w2.heap.size (.slice (some ⟨g, 0, none⟩) Q.length c3) (Rg.rebK l Q Q.length).1 := ⟨vs, by rw [Rg.rebK_len]; exact hrowk, by rw [Rg.rebK_len]; exact hEk⟩
      rw [HG.out] at hO ⊢
      clear hrowk hEk
      go_wp2
      have e0 : ((wr.setCell ⟨w.heap.size + 1, 0, none⟩ (.int .i64 reps)).setCell ⟨w.heap.size + 1, 1, none⟩ (.slice (some ⟨g, 0, none⟩) Q.length c3)).cell? ⟨w.heap.size + 1, 0, none⟩ = some (.int .i64 reps) := by
        rw [World.cell?_setCell_other _ _ _ _ (by simp)]
        exact World.cell?_setCell_same' _ _ _ (by rw [t0]; rfl)
      have e1 : ((wr.setCell ⟨w.heap.size + 1, 0, none⟩ (.int .i64 reps)).setCell ⟨w.heap.size + 1, 1, none⟩ (.slice (some ⟨g, 0, none⟩) Q.length c3)).cell? ⟨w.heap.size + 1, 1, none⟩ = some (.slice (some ⟨g, 0, none⟩) Q.length c3) :=
        World.cell?_setCell_same' _ _ _ (by rw [World.cell?_setCell_other _ _ _ _ (by simp), t1]; rfl)
      refine bodyPost_ret (v := .tuple #[.agg #[.int .i64 reps, .slice (some ⟨g, 0, none⟩) Q.length c3], .int .i64 (G.2 : Int)]) (by simp [results, Try.results27, go_sem, e0, e1]) rfl ⟨some ⟨g, 0, none⟩, c3, rfl, ?_, ?_⟩
      · exact ((hO.far (by omega)).far (by omega)).mono (by omega)
      · exact ((behind hB0 hb).setCell (by show w.heap.size ≤ w.heap.size + 1; omega) _).setCell (by show w.heap.size ≤ w.heap.size + 1; omega) _
end Go.Proofs.Ytcejeiakgmamdac.Wk

namespace Go.Proofs.Ytcejeiakgmamdac.Wk
set_option linter.unusedVariables false
open Go.ChangeShapes Go.WideShapes Go.ChangeAt Go.RowKit

theorem part_of {p : List Int} {reps : Int} (h : (p.length : Int) = reps) : Rg.partB p reps = decide p.Nodup := by unfold Rg.partB; rw [decide_eq_true h, Bool.and_true]
theorem part_len {p : List Int} {reps : Int} (h : ¬ (p.length : Int) = reps) : Rg.partB p reps = false := by unfold Rg.partB; rw [decide_eq_false h, Bool.and_false]
theorem dup_of {p : List Int} {k : Nat} (hk : k < p.length) (h : p[k] ∈ p.take k) : decide p.Nodup = false := by
  have := Rg.partB_no (reps := (p.length : Int)) hk h
  rw [part_of rfl] at this
  exact this

set_option maxHeartbeats 2000000 in
set_option maxRecDepth 100000 in
theorem implTwice (a : Option Addr) (ca : Nat) (p : List Int) (w : World) (hp : p.length ≤ 1048576) (hcap : p.length ≤ ca) (hr : RdZ w a p) :
    Calls Try.prog 83 #[.slice a p.length ca] w fun e w' => e = .returned (.bool (!decide p.Nodup)) ∧ Below w.heap.size w w' := by
  obtain ⟨K, hK⟩ : ∃ K, decide p.Nodup = K := ⟨_, rfl⟩
  have HK : Hid (decide p.Nodup = K) := hK
  rw [hK]
  clear hK
  go_enter Try.func83, Try.ntmps83
  go_wp2
  go_loopw [7] (fun i wr => ∃ k : Nat, k ≤ p.length ∧ i = .int .i64 k ∧ Hid ((p.take k).Nodup) ∧ Below w.heap.size w wr) (fun i _ => p.length - (intOf i).toNat)
  case atStart => exact ⟨0, Nat.zero_le _, rfl, by show (p.take 0).Nodup; simp, Below.refl _ _⟩
  case round =>
    obtain ⟨k, hk, rfl, HN, hb⟩ := hrel
    by_cases hlt : k < p.length
    · have HY : Hid (p[k] ∈ p.take k → K = false) := fun h => by rw [← HK.out]; exact dup_of hlt h
      have HM : Hid (p[k] ∉ p.take k → (p.take (k + 1)).Nodup) := fun h => Rg.nodup_step hlt h HN.out
      obtain ⟨b1, o1, e1, hx⟩ := (hr.below hb) k hlt
      have htl : (p.take k).length = k := by rw [List.length_take]; omega
      have cH := fun (x : Int) (w' : World) (h : RdZ w' a (p.take k)) => containsZ a ca (p.take k) x w' (by omega) h
      rw [htl] at cH
      have hrt := (hr.below hb).take k
      generalize p[k] = x at HY HM hx
      have cX := cH x
      obtain ⟨B, hB⟩ : ∃ B, decide (x ∈ p.take k) = B := ⟨_, rfl⟩
      have HB : Hid (decide (x ∈ p.take k) = B) := hB
      rw [hB] at cX
      clear hB cH htl
      subst e1
      have hkc : (k : Int) ≤ (ca : Int) := by omega
      cases B
      · have HM' : Hid ((p.take (k + 1)).Nodup) := HM.out (of_decide_eq_false HB.out)
        clear HY HM HB HN
        go_wp2_with fail
        refine (cX _ hrt).mono ?_
        rintro e wa ⟨rfl, hwa⟩
        subst wa
        go_wp2
        go_roundw
        case rel => exact ⟨k + 1, by omega, by go_num, HM', hb⟩
        case measure => simp [intOf]; omega
      · have eK := HY.out (of_decide_eq_true HB.out)
        subst eK
        clear HY HM HB HK
        go_wp2_with fail
        refine (cX _ hrt).mono ?_
        rintro e wa ⟨rfl, hwa⟩
        subst wa
        go_wp2
        go_ret
        exact ⟨rfl, hb⟩
    · have eK : K = true := by
        rw [← HK.out]
        have := HN.out
        rw [List.take_of_length_le (by omega)] at this
        exact decide_eq_true this
      subst eK
      clear HK HN
      go_wp2
      go_ret
      exact ⟨rfl, hb⟩

theorem head_size {reps : Int} {n : Nat} {l : List Sm.St} (h : Rg.MvHead reps n l) : ((decide (1 ≤ reps) && decide (reps ≤ 5)) && (decide (1 ≤ (n : Int)) && decide ((n : Int) ≤ 64))) = true := by
  obtain ⟨-, ⟨h2, h3⟩, ⟨h4, h5⟩, -⟩ := h
  simp only [Bool.and_eq_true, decide_eq_true_eq]
  omega
theorem size_head {reps : Int} {n : Nat} {l : List Sm.St} (hd : Dv.devs l = true) (h : ((decide (1 ≤ reps) && decide (reps ≤ 5)) && (decide (1 ≤ (n : Int)) && decide ((n : Int) ≤ 64))) = true) (h3 : reps ≤ (l.length : Int)) : Rg.MvHead reps n l := by
  simp only [Bool.and_eq_true, decide_eq_true_eq] at h
  exact ⟨hd, h.1, by omega, h3⟩

set_option maxHeartbeats 4000000 in
set_option maxRecDepth 100000 in
theorem implMov (reps : Int) (a c : Option Addr) (cap cc : Nat) (ps : List (List Int)) (l : List Sm.St) (w : World) (hps : ps.length ≤ 1048576) (hpp : ∀ p ∈ ps, p.length ≤ 1048576) (hl : l.length ≤ 1048576) (hr : RdP w a ps) (hs : RdS w c l) :
    Calls Try.prog 59 #[.agg #[.int .i64 reps, .slice a ps.length cap], .slice c l.length cc] w fun e w' => e = .returned (.bool (Rg.movB reps ps l)) ∧ Below w.heap.size w w' := by
  have cD := fun w h => implDevs c cc l w (by omega) h
  have s0 := slot2New w (.int .i64 reps) (.slice a ps.length cap) 29
  have hB0 := bel1 w (.cells #[.int .i64 reps, .slice a ps.length cap] 29)
  have hr0 := hr.below hB0
  have hs0 := hs.below hB0
  have HH : Hid (¬ Rg.MvHead reps ps.length l → Rg.movB reps ps l = false) := Rg.mov_no
  have HG : Hid (Rg.MvHead reps ps.length l → Rg.movB reps ps l = ps.all fun p => Rg.partB p reps) := Rg.mov_yes
  obtain ⟨K, hK⟩ : ∃ K, Rg.movB reps ps l = K := ⟨_, rfl⟩
  rw [hK] at HH HG ⊢
  clear hK
  cases hd : Dv.devs l with
  | false =>
    have eK := HH.out (fun h => by rw [h.1] at hd; cases hd)
    subst eK
    rw [hd] at cD
    clear hd HH HG
    go_enter Try.func59, Try.ntmps59
    go_wp2_with fail
    refine (cD _ hs0).mono ?_
    rintro e w1 ⟨rfl, hb1⟩
    go_wp2
    go_ret
    exact ⟨rfl, behind hB0 hb1⟩
  | true =>
    rw [hd] at cD
    obtain ⟨B, hB⟩ : ∃ B, ((decide (1 ≤ reps) && decide (reps ≤ 5)) && (decide (1 ≤ (ps.length : Int)) && decide ((ps.length : Int) ≤ 64))) = B := ⟨_, rfl⟩
    have cZ := sizeOkI (ps.length : Int) reps B hB
    cases B with
    | false =>
      have eK := HH.out (fun h => by rw [head_size h] at hB; cases hB)
      subst eK
      clear hd HH HG hB
      go_enter Try.func59, Try.ntmps59
      go_wp2_with fail
      refine (cD _ hs0).mono ?_
      rintro e w1 ⟨rfl, hb1⟩
      obtain ⟨⟨g0, g1⟩, -⟩ := s0.below hb1
      go_wp2_with fail
      refine (cZ _).mono ?_
      rintro e wa ⟨rfl, hwa⟩
      subst wa
      go_wp2
      go_ret
      exact ⟨rfl, behind hB0 hb1⟩
    | true =>
      by_cases h3 : reps ≤ (l.length : Int)
      · have hK : K = ps.all fun p => Rg.partB p reps := HG.out (size_head hd hB h3)
        have HK : Hid ((ps.all fun p => Rg.partB p reps) = K) := hK.symm
        have h3' : ¬ (l.length : Int) < reps := by omega
        clear hK hd HH HG hB
        go_enter Try.func59, Try.ntmps59
        go_wp2_with fail
        refine (cD _ hs0).mono ?_
        rintro e w1 ⟨rfl, hb1⟩
        have s1 := s0.below hb1
        have hB1 := behind hB0 hb1
        have hr1 := hr0.below hb1
        obtain ⟨⟨g0, g1⟩, -⟩ := id s1
        clear s0 hB0 hr0 hs0 hb1
        go_wp2_with fail
        refine (cZ _).mono ?_
        rintro e wa ⟨rfl, hwa⟩
        subst wa
        go_wp2
        clear g0 g1
        go_loopw [29] (fun i wr => ∃ k : Nat, k ≤ ps.length ∧ i = .int .i64 k ∧ Hid (((ps.take k).all fun p => Rg.partB p reps) = true) ∧ Below w1.heap.size w1 wr) (fun i _ => ps.length - (intOf i).toNat)
        case atStart => exact ⟨0, Nat.zero_le _, rfl, rfl, Below.refl _ _⟩
        case round =>
          obtain ⟨k, hk, rfl, HA, hb⟩ := hrel
          by_cases hlt : k < ps.length
          · have HN : Hid (Rg.partB ps[k] reps = false → K = false) := fun h => by rw [← HK.out]; exact Rg.all_no (f := fun p => Rg.partB p reps) hlt h
            have HY : Hid (Rg.partB ps[k] reps = true → ((ps.take (k + 1)).all fun p => Rg.partB p reps) = true) := fun h => Rg.all_step (f := fun p => Rg.partB p reps) hlt h HA.out
            have hpl := hpp ps[k] (List.getElem_mem hlt)
            obtain ⟨b, off, ai, ci, rfl, hc, hz, hci⟩ := (hr1.below hb) k hlt
            generalize ps[k] = p at HN HY hpl hc hz hci
            have bA := bel1 wr (.cells #[.slice ai p.length ci] 36)
            obtain ⟨⟨g0, g1⟩, -⟩ := (s1.below hb).below bA
            have hbA := behind hb bA
            have hzA := hz.below bA
            have cT := fun (w' : World) (h : RdZ w' ai p) => implTwice ai ci p w' hpl hci h
            by_cases hle : (p.length : Int) = reps
            · have hq := part_of hle
              have hne : ((p.length : Int) != reps) = false := by simpa using hle
              cases hB : decide p.Nodup with
              | false =>
                rw [hB] at cT hq
                have eK := HN.out hq
                subst eK
                clear HN HY HK HA hB hq
                go_wp2_with fail
                refine (cT _ hzA).mono ?_
                rintro e w2 ⟨rfl, hb2⟩
                go_wp2
                go_ret
                exact ⟨rfl, behind (behind hB1 hbA) hb2⟩
              | true =>
                rw [hB] at cT hq
                have HY' : Hid (((ps.take (k + 1)).all fun p => Rg.partB p reps) = true) := HY.out hq
                clear hB HN HY hq
                go_wp2_with fail
                refine (cT _ hzA).mono ?_
                rintro e w2 ⟨rfl, hb2⟩
                go_wp2
                go_roundw
                case rel => exact ⟨k + 1, by omega, by go_num, HY', behind hbA hb2⟩
                case measure => simp [intOf]; omega
            · have eK := HN.out (part_len hle)
              have hne : ((p.length : Int) != reps) = true := by simpa using hle
              subst eK
              clear HN HY HK HA
              go_wp2
              go_ret
              exact ⟨rfl, behind hB1 hbA⟩
          · have eK : K = true := by rw [← HK.out]; exact Rg.all_end (f := fun p => Rg.partB p reps) hlt HA.out
            subst eK
            clear HK HA
            go_wp2
            go_ret
            exact ⟨rfl, behind hB1 hb⟩
      · have eK := HH.out (fun h => h3 h.2.2.2)
        subst eK
        have h3' : (l.length : Int) < reps := by omega
        clear hd HH HG h3 hB
        go_enter Try.func59, Try.ntmps59
        go_wp2_with fail
        refine (cD _ hs0).mono ?_
        rintro e w1 ⟨rfl, hb1⟩
        obtain ⟨⟨g0, g1⟩, -⟩ := s0.below hb1
        go_wp2_with fail
        refine (cZ _).mono ?_
        rintro e wa ⟨rfl, hwa⟩
        subst wa
        go_wp2
        go_ret
        exact ⟨rfl, behind hB0 hb1⟩
end Go.Proofs.Ytcejeiakgmamdac.Wk

namespace Go.Proofs.Ytcejeiakgmamdac.Wk
set_option linter.unusedVariables false
open Go.ChangeShapes Go.WideShapes Go.ChangeAt Go.RowKit

set_option maxHeartbeats 1000000 in
set_option maxRecDepth 100000 in
theorem cloneZ (a : Option Addr) (ca : Nat) (p : List Int) (w : World) (hp : p.length ≤ 1048576) (hr : RdZ w a p) (hnil : a = none → ca = 0) :
    Calls Try.prog 82 #[.slice a p.length ca] w fun e w' => ∃ (a' : Option Addr) (c' : Nat), e = .returned (.slice a' p.length c') ∧ w'.ownsRow w.heap.size 3 1 (.slice a' p.length c') p.length (Zv p) ∧ Below w.heap.size w w' := by
  cases a with
  | none =>
    obtain rfl := hnil rfl
    have hm : p = [] := by
      cases p with
      | nil => rfl
      | cons y r =>
        obtain ⟨_, _, e, _⟩ := hr 0 (by simp)
        cases e
    subst hm
    have qN : ∀ (w : World) (a : Option Addr) (n c n' c' : Nat), (binOp .eql 32 (.slice a n c) (.slice none n' c')).run Try.prog w = .ok (.bool a.isNone) w := fun w a n c n' c' => Go.Lib.run_eql_slice_nil w _ _ a n c n' c' Try.underlying32
    go_enter Try.func82, Try.ntmps82
    go_wp2
    go_ret
    exact ⟨none, 0, rfl, World.ownsRow_nil _ _ _ _, Below.refl _ _⟩
  | some ad =>
    have hb := bel1 w (.cells #[] 3)
    have hrA := hr.below hb
    have qN : ∀ (w : World) (a : Option Addr) (n c n' c' : Nat), (binOp .eql 32 (.slice a n c) (.slice none n' c')).run Try.prog w = .ok (.bool a.isNone) w := fun w a n c n' c' => Go.Lib.run_eql_slice_nil w _ _ a n c n' c' Try.underlying32
    go_enter Try.func82, Try.ntmps82
    go_wp2_with (at_builtin; refine wpList_appZ _ rfl (.tmp 5) (.tmp 6) rfl w.heap.size (.slice (some ⟨w.heap.size, 0, none⟩) 0 0) [] rfl (emptyB w _ (Nat.le_refl _)) (some ad) ca p rfl hrA (fun e => by cases e) (by simp; omega) (by simp) ?_; intro v7 w7 hown7 hg7)
    simp only [List.nil_append] at hown7
    obtain ⟨a7, c7, rfl⟩ := Zv_shape hown7
    go_ret
    exact ⟨a7, c7, rfl, hown7, hb.grown hg7 (by simp) (fun j e => by cases e; exact Nat.le_refl _)⟩

theorem emptyP (w : World) : (w.alloc (.cells #[] 36)).ownsRow w.heap.size 36 1 (.slice (some ⟨w.heap.size, 0, none⟩) 0 0) 0 [] := World.ownsRow_made w #[] 0 (Nat.le_refl _) (Nat.zero_le _) rfl
set_option maxHeartbeats 1000000 in
set_option maxRecDepth 100000 in
theorem cloneP (a : Option Addr) (ca : Nat) (Q : List (List Int)) (w : World) (hQ : Q.length ≤ 1048576) (hr : RdN w a Q) (hnil : a = none → ca = 0) :
    Calls Try.prog 81 #[.slice a Q.length ca] w fun e w' => ∃ (a' : Option Addr) (c' : Nat) (vs : List Value), e = .returned (.slice a' Q.length c') ∧ w'.ownsRow w.heap.size 36 1 (.slice a' Q.length c') Q.length vs ∧ (∀ w0 : World, Below w0.heap.size w0 w → RdN w0 a Q → RowP w0 vs Q) ∧ Below w.heap.size w w' := by
  cases a with
  | none =>
    obtain rfl := hnil rfl
    have hm : Q = [] := by
      cases Q with
      | nil => rfl
      | cons y r =>
        obtain ⟨_, _, _, _, e, _⟩ := hr 0 (by simp)
        cases e
    subst hm
    have qN : ∀ (w : World) (a : Option Addr) (n c n' c' : Nat), (binOp .eql 27 (.slice a n c) (.slice none n' c')).run Try.prog w = .ok (.bool a.isNone) w := fun w a n c n' c' => Go.Lib.run_eql_slice_nil w _ _ a n c n' c' Try.underlying27
    go_enter Try.func81, Try.ntmps81
    go_wp2
    go_ret
    exact ⟨none, 0, rfl, [], World.ownsRow_nil _ _ _ _, fun _ _ _ => ⟨rfl, fun i hi => absurd hi (Nat.not_lt_zero i)⟩, Below.refl _ _⟩
  | some ad =>
    obtain ⟨b, off, fld⟩ := ad
    obtain ⟨i0, hi0, hz0, hz1, hz2⟩ := info_parts infoPt
    have hb := bel1 w (.cells #[] 36)
    have hflat : ∃ vs, RowP w vs Q ∧ ∀ j u, vs[j]? = some u → w.cell? ((⟨b, off, fld⟩ : Addr).add j) = some u := by
      by_cases h0 : 0 < Q.length
      · obtain ⟨b', off', _, _, e, _⟩ := hr 0 h0
        simp only [Option.some.injEq, Addr.mk.injEq] at e
        obtain ⟨rfl, rfl, rfl⟩ := e
        exact RdN.row hr
      · have hm : Q = [] := List.length_eq_zero_iff.1 (by omega)
        subst hm
        exact ⟨[], ⟨rfl, fun i hi => absurd hi (Nat.not_lt_zero i)⟩, fun j u h => by simp at h⟩
    obtain ⟨vs, hR, hcells⟩ := hflat
    have hvl : vs.length = Q.length := hR.1
    have HS : Hid (∀ w0 : World, Below w0.heap.size w0 w → RdN w0 (some ⟨b, off, fld⟩) Q → RowP w0 vs Q) := fun w0 h1 h2 => h2.rowOf h1 hvl hcells
    have HC : Hid (∀ j u, vs[j]? = some u → (w.alloc (.cells #[] 36)).cell? ((⟨b, off, fld⟩ : Addr).add j) = some u) := fun j u h => by
      have h9 := hcells j u h
      rw [hb.cell (World.block_lt_of_cell? w _ h9)]
      exact h9
    clear hcells
    have qN : ∀ (w : World) (a : Option Addr) (n c n' c' : Nat), (binOp .eql 27 (.slice a n c) (.slice none n' c')).run Try.prog w = .ok (.bool a.isNone) w := fun w a n c n' c' => Go.Lib.run_eql_slice_nil w _ _ a n c n' c' Try.underlying27
    go_enter Try.func81, Try.ntmps81
    go_wp2_with (at_builtin; refine wpList_append_own _ rfl (.tmp 5) (.tmp 6) 27 rfl w.heap.size 36 i0 _ 1 24 Try.underlying27 hi0 hz0 hz1 hz2 rfl (by decide) (.slice (some ⟨w.heap.size, 0, none⟩) 0 0) 0 [] rfl (emptyP w) ⟨b, off, fld⟩ Q.length ca vs rfl (by omega) HC.out hR.one (by unfold maxLen; omega) (by omega) (by simp) ?_; intro v7 w7 hown7 hg7 hnil7)
    simp only [List.nil_append, Nat.zero_add] at hown7
    obtain ⟨a7, c7, rfl⟩ := Zv_shape hown7
    have hB7 : Below w.heap.size w w7 := hb.grown hg7 (by simp) (fun j e => by cases e; exact Nat.le_refl _)
    go_ret
    exact ⟨a7, c7, vs, rfl, hown7, HS.out, hB7⟩
end Go.Proofs.Ytcejeiakgmamdac.Wk

namespace Go.Proofs.Ytcejeiakgmamdac.Wk
set_option linter.unusedVariables false
open Go.ChangeShapes Go.WideShapes Go.ChangeAt Go.RowKit

set_option maxHeartbeats 4000000 in
set_option maxRecDepth 100000 in
theorem implCopy (reps : Int) (a : Option Addr) (ca : Nat) (Q : List (List Int)) (w : World) (hQ : Q.length ≤ 1048576) (hpp : ∀ p ∈ Q, p.length ≤ 1048576) (hr : RdN w a Q) (hnil : a = none → ca = 0) :
    Calls Try.prog 58 #[.agg #[.int .i64 reps, .slice a Q.length ca]] w fun e w' => ∃ (a' : Option Addr) (ca' : Nat), e = .returned (.agg #[.int .i64 reps, .slice a' Q.length ca']) ∧
      OwnP w' w.heap.size (.slice a' Q.length ca') Q ∧ Below w.heap.size w w' := by
  have s0 := (slot2New w (.int .i64 reps) (.slice a Q.length ca) 29).below (bel1 _ (.cells #[.int .i64 0, .slice none 0 0] 29))
  have r0 := slot2New (w.alloc (.cells #[.int .i64 reps, .slice a Q.length ca] 29)) (.int .i64 0) (.slice none 0 0) 29
  have hB0 := bel2 w (.cells #[.int .i64 reps, .slice a Q.length ca] 29) (.cells #[.int .i64 0, .slice none 0 0] 29)
  have hr0 := hr.below hB0
  have hs0 : ((w.alloc (.cells #[.int .i64 reps, .slice a Q.length ca] 29)).alloc (.cells #[.int .i64 0, .slice none 0 0] 29)).heap.size = w.heap.size + 2 := by simp
  rw [World.size_alloc] at r0
  go_enter Try.func58, Try.ntmps58
  go_upto_region 1 with fail
  generalize (w.alloc (.cells #[.int .i64 reps, .slice a Q.length ca] 29)).alloc (.cells #[.int .i64 0, .slice none 0 0] 29) = w2 at s0 r0 hB0 hr0 hs0 ⊢
  go_cut [3] (fun v wx => ∃ (Bc : Nat) (a' : Option Addr) (c' : Nat) (vs : List Value), v = .pointer (some ⟨Bc, 0, none⟩) ∧ Slot2 wx Bc (.int .i64 reps) (.slice a' Q.length c') ∧ wx.ownsRow w2.heap.size 36 1 (.slice a' Q.length c') Q.length vs ∧ RowP w2 vs Q ∧ w2.heap.size ≤ Bc ∧ (Value.slice a' Q.length c').ownBlock ≠ some Bc ∧ Below w2.heap.size w2 wx)
  case first =>
    obtain ⟨⟨x0, x1⟩, -⟩ := id s0
    have cC := fun (w' : World) (h : RdN w' a Q) => cloneP a ca Q w' hQ h hnil
    have bN := bel1 w2 (.cells #[.int .i64 0, .slice none 0 0] 29)
    have nN := slot2New w2 (.int .i64 0) (.slice none 0 0) 29
    have xN := s0.below bN
    have hrN := hr0.below bN
    rw [hs0] at nN
    go_region_held3 (fun wy => wy.cell? ⟨w.heap.size, 0, none⟩ = some (.int .i64 reps) ∧ wy.cell? ⟨w.heap.size, 1, none⟩ = some (.slice a Q.length ca))
      (first | exact ⟨x0, x1⟩ | exact keepR2 ‹_› ‹_› | exact (Slot2.below (Slot2.below (w := w2.drew) s0 hb3) (bel1 _ _)).1 | exact xN.1 | go_keep)
      (first | (go_at_call 81; refine (cC _ (by first | exact hr0 | exact hrN)).mono ?_; rintro e w3 ⟨a3, c3, vs, rfl, ho3, hS3, hb3⟩; (first | (have n3 : Slot2 w3 (w.heap.size + 2) (.int .i64 0) (.slice none 0 0) := Slot2.below (w := (w2.alloc (.cells #[.int .i64 0, .slice none 0 0] 29)).drew) nN hb3; obtain ⟨⟨k0, k1⟩, l0, l1⟩ := id n3) | skip)) | fail)
    · have bM := bel1 w3 (.cells #[.int .i64 reps, .slice a3 Q.length c3] 29)
      have hBx : Below w2.heap.size w2 (w3.alloc (.cells #[.int .i64 reps, .slice a3 Q.length c3] 29)) := behind (behind (Below.refl _ _).drew hb3) bM
      have hRx := hS3 w2 (Below.refl _ _).drew hr0
      have hoB : (Value.slice a3 Q.length c3).ownBlock ≠ some w3.heap.size := fun e => by
        have := (World.ownsRow.lt ho3 _ e).2
        omega
      have hsz := hBx.size
      go_wp2_with fail
      go_meet
      exact ⟨w3.heap.size, a3, c3, vs, rfl, slot2New _ _ _ _, ownOn ho3 bM, hRx, hb3.size, hoB, hBx⟩
    · have n9 := n3.set2 (.int .i64 reps) (.slice a3 Q.length c3)
      have hoB : ∀ j, (Value.slice a3 Q.length c3).ownBlock = some j → w.heap.size + 3 ≤ j := fun j e => by
        have : w2.heap.size + 1 ≤ j := by simpa using (World.ownsRow.lt ho3 _ e).1
        omega
      have hBx : Below w2.heap.size w2 ((w3.setCell ⟨w.heap.size + 2, 0, none⟩ (.int .i64 reps)).setCell ⟨w.heap.size + 2, 1, none⟩ (.slice a3 Q.length c3)) :=
        ((behind bN.drew hb3).setCell (by show w2.heap.size ≤ w.heap.size + 2; omega) _).setCell (by show w2.heap.size ≤ w.heap.size + 2; omega) _
      have hRx := hS3 w2 bN.drew hr0
      have hox : (Value.slice a3 Q.length c3).ownBlock ≠ some (w.heap.size + 2) := fun e => by
        have := hoB _ e
        omega
      have hoW := ownFar (o := 1) (u := .slice a3 Q.length c3) (ownFar (o := 0) (u := .int .i64 reps) ho3 hox) hox
      go_wp2_with fail
      go_meet
      exact ⟨w.heap.size + 2, a3, c3, vs, rfl, n9, hoW.mono (by simp), hRx, by omega, hox, hBx⟩
  case rest =>
    obtain ⟨Bc, a3, c3, vs, rfl, sC, hrow, hR, hBc, hoB, hB3⟩ := hcut
    obtain ⟨⟨c0, c1⟩, -⟩ := id sC
    go_wp2
    clear c0 c1
    go_loopw [15] (fun i wr => ∃ (k : Nat) (us : List Value), k ≤ Q.length ∧ i = .int .i64 k ∧ Slot2 wr Bc (.int .i64 reps) (.slice a3 Q.length c3) ∧ wr.ownsRow w2.heap.size 36 1 (.slice a3 Q.length c3) Q.length us ∧ OwnE wr w2.heap.size (Value.slice a3 Q.length c3).ownBlock us Q k ∧ Hid (∀ j, k ≤ j → us[j]? = vs[j]?) ∧ Below w2.heap.size w2 wr) (fun i _ => Q.length - (intOf i).toNat)
    case atStart => exact ⟨0, vs, Nat.zero_le _, rfl, sC, hrow, ⟨fun i _ hi => absurd hi (Nat.not_lt_zero i), fun i j ui uj hi => absurd hi (Nat.not_lt_zero i)⟩, fun _ _ => rfl, hB3⟩
    case round =>
      obtain ⟨k, us, hk, rfl, sk, hrowk, hE, HU, hb⟩ := hrel
      clear sC hrow hB3
      obtain ⟨⟨c0, c1⟩, f0, f1⟩ := id sk
      by_cases hlt : k < Q.length
      · obtain ⟨ai, ci, hvk, hz, hcap, hnl⟩ := hR.2 k hlt
        have hpl := hpp Q[k] (List.getElem_mem hlt)
        obtain ⟨g, rfl⟩ : ∃ g, a3 = some ⟨g, 0, none⟩ := by
          rcases hrowk.2 with ⟨_, h0⟩ | ⟨g, cap', cur, e, _⟩
          · omega
          · simp only [Value.slice.injEq] at e
            exact ⟨g, e.1⟩
        have huk : us[k]? = some (.slice ai Q[k].length ci) := by rw [HU.out k (Nat.le_refl _)]; exact hvk
        have hcell := hrowk.cellAt k (by omega)
        rw [huk] at hcell
        have hfk := hrowk.frozenAt k
        have hgs := (World.ownsRow.lt hrowk g rfl).2
        have hg2 := (World.ownsRow.lt hrowk g rfl).1
        have hul : us.length = Q.length * 1 := hrowk.1
        have hne : Bc ≠ g := fun e => hoB (by rw [e]; rfl)
        have HE : Hid (OwnE wr w2.heap.size (some g) us Q k) := hE
        have cC := fun (w' : World) (h : RdZ w' ai Q[k]) => cloneZ ai ci Q[k] w' hpl h hnl
        obtain ⟨n, hn⟩ : ∃ n, Q[k].length = n := ⟨_, rfl⟩
        rw [hn] at hcell
        have cC' := cC wr (hz.below hb)
        rw [hn] at cC'
        clear cC hE huk
        go_wp2_with fail
        refine cC'.mono ?_
        rintro e w5 ⟨a5, c5, rfl, ho5, hb5⟩
        have s5 := sk.below hb5
        have row5 := ownOn hrowk hb5
        have hcell5 := cellOn hcell hb5
        have hfk5 := row5.frozenAt k
        have FIN : OwnE (w5.setCell ⟨g, k, none⟩ (.slice a5 n c5)) w2.heap.size (some g) (us.set k (.slice a5 n c5)) Q (k + 1) := by
          refine OwnE.putN HE.out hb5 hgs hlt hul ?_ (fun j e => (World.ownsRow.lt ho5 j e).1)
          rw [hn]
          exact ho5.mono hb.size
        have hBx : Below w2.heap.size w2 (w5.setCell ⟨g, k, none⟩ (.slice a5 n c5)) := (behind hb hb5).setCell hg2 _
        have sx := Slot2.far (o := k) (x := .slice a5 n c5) s5 (fun e => hne e.symm)
        have rowx := (row5.stored k (.slice a5 n c5)).1
        clear HE cC' ho5 hb5 hcell hfk hrowk sk c0 c1 f0 f1
        go_wp2
        go_roundw
        case rel => exact ⟨k + 1, us.set k (.slice a5 n c5), by omega, by go_num, sx, rowx, FIN, fun j hj => by rw [List.getElem?_set_ne (by omega)]; exact HU.out j (by omega), hBx⟩
        case measure => simp [intOf]; omega
      · have hke : k = Q.length := by omega
        subst hke
        obtain ⟨⟨t0, t1⟩, t2, t3⟩ := r0.below hb
        go_wp2
        have e0 : ((wr.setCell ⟨w.heap.size + 1, 0, none⟩ (.int .i64 reps)).setCell ⟨w.heap.size + 1, 1, none⟩ (.slice a3 Q.length c3)).cell? ⟨w.heap.size + 1, 0, none⟩ = some (.int .i64 reps) := by
          rw [World.cell?_setCell_other _ _ _ _ (by simp)]
          exact World.cell?_setCell_same' _ _ _ (by rw [t0]; rfl)
        have e1 : ((wr.setCell ⟨w.heap.size + 1, 0, none⟩ (.int .i64 reps)).setCell ⟨w.heap.size + 1, 1, none⟩ (.slice a3 Q.length c3)).cell? ⟨w.heap.size + 1, 1, none⟩ = some (.slice a3 Q.length c3) :=
          World.cell?_setCell_same' _ _ _ (by rw [World.cell?_setCell_other _ _ _ _ (by simp), t1]; rfl)
        have hO : OwnP wr w2.heap.size (.slice a3 Q.length c3) Q := ⟨us, hrowk, hE⟩
        refine bodyPost_ret (v := .agg #[.int .i64 reps, .slice a3 Q.length c3]) (by simp [results, Try.results58, go_sem, e0, e1]) rfl ⟨a3, c3, rfl, ?_, ?_⟩
        · exact ((hO.far (by omega)).far (by omega)).mono (by omega)
        · exact ((behind hB0 hb).setCell (by show w.heap.size ≤ w.heap.size + 1; omega) _).setCell (by show w.heap.size ≤ w.heap.size + 1; omega) _
end Go.Proofs.Ytcejeiakgmamdac.Wk

namespace Go.Proofs.Ytcejeiakgmamdac.Wk
set_option linter.unusedVariables false
open Go.ChangeShapes Go.WideShapes Go.ChangeAt Go.RowKit Go.Sort

set_option maxHeartbeats 1000000 in
set_option maxRecDepth 100000 in
theorem idxFuncZ (g : Nat) (lb : Array Value) (eg : ∀ args w, (callFunc g args).run Try.prog w = .ok (.enter g args) w) (f : Int → Bool) (a : Option Addr) (ca : Nat) (p : List Int) (w : World) (hp : p.length ≤ 1048576) (hr : RdZ w a p)
    (hf : ∀ (W : World) (x : Int), Below w.heap.size w W → Calls Try.prog g (#[.int .i64 x] ++ lb) W fun e w' => e = .returned (.bool (f x)) ∧ Below W.heap.size W w') :
    Calls Try.prog 97 #[.slice a p.length ca, .func (.func g) #[] lb] w fun e w' => e = .returned (.int .i64 (Rg.idxI (p.findIdx? f))) ∧ Below w.heap.size w w' := by
  obtain ⟨K, hK⟩ : ∃ K, Rg.idxI (p.findIdx? f) = K := ⟨_, rfl⟩
  have HK : Hid (Rg.idxI (p.findIdx? f) = K) := hK
  rw [hK]
  clear hK
  have HF : Hid (∀ (W : World) (x : Int), Below w.heap.size w W → Calls Try.prog g (#[.int .i64 x] ++ lb) W fun e w' => e = .returned (.bool (f x)) ∧ Below W.heap.size W w') := hf
  clear hf
  go_enter Try.func97, Try.ntmps97
  go_wp2
  go_loopw [8] (fun i wr => ∃ k : Nat, k ≤ p.length ∧ i = .int .i64 k ∧ Hid (((p.take k).all fun x => !f x) = true) ∧ Below w.heap.size w wr) (fun i _ => p.length - (intOf i).toNat)
  case atStart => exact ⟨0, Nat.zero_le _, rfl, rfl, Below.refl _ _⟩
  case round =>
    obtain ⟨k, hk, rfl, HA, hb⟩ := hrel
    by_cases hlt : k < p.length
    · have HY : Hid (f p[k] = true → K = k) := fun h => by rw [← HK.out, Rg.find_hit hlt HA.out h]; rfl
      have HN : Hid (f p[k] = false → ((p.take (k + 1)).all fun x => !f x) = true) := fun h => Rg.find_step hlt HA.out h
      obtain ⟨b1, o1, rfl, hx⟩ := (hr.below hb) k hlt
      generalize p[k] = x at HY HN hx
      have hcall := HF.out wr x hb
      cases hq : f x with
      | true =>
        rw [hq] at hcall
        have eK := HY.out hq
        subst eK
        clear HY HN HK HA hq
        go_wp2_with (go_at_fn g; refine hcall.mono ?_; rintro e w4 ⟨rfl, hb4⟩)
        go_ret
        exact ⟨rfl, behind hb hb4⟩
      | false =>
        rw [hq] at hcall
        have HT' := HN.out hq
        have HT : Hid (((p.take (k + 1)).all fun x => !f x) = true) := HT'
        clear HY HN hq HT'
        go_wp2_with (go_at_fn g; refine hcall.mono ?_; rintro e w4 ⟨rfl, hb4⟩)
        go_roundw
        case rel => exact ⟨k + 1, by omega, by go_num, HT, behind hb hb4⟩
        case measure => simp [intOf]; omega
    · have eK : K = -1 := by rw [← HK.out, Rg.find_end hlt HA.out]; rfl
      subst eK
      clear HK HA
      go_wp2
      go_ret
      exact ⟨rfl, hb⟩

set_option maxHeartbeats 1000000 in
set_option maxRecDepth 100000 in
theorem goneFn (B : Nat) (c : Option Addr) (cc : Nat) (l : List Sm.St) (x : Int) (w : World) (hl : l.length ≤ 1048576) (hB : w.cell? ⟨B, 0, none⟩ = some (.slice c l.length cc)) (hs : RdS w c l) :
    Calls Try.prog 98 #[.int .i64 x, .pointer (some ⟨B, 0, none⟩)] w fun e w' => e = .returned (.bool (Rg.lostB l x)) ∧ Below w.heap.size w w' := by
  have cA := implAt c cc l x w hl hs
  cases hd : Dv.at_ l x with
  | none =>
    rw [hd] at cA
    rw [lost_yes hd]
    dsimp only [dvAtV] at cA
    clear hd
    go_enter Try.func98, Try.ntmps98
    go_wp2_with fail
    refine cA.mono ?_
    rintro e w4 ⟨rfl, hb4⟩
    go_wp2
    go_ret
    exact ⟨rfl, behind hb4 (bel1 _ _)⟩
  | some d =>
    rw [hd] at cA
    rw [lost_no hd]
    obtain ⟨i, z, n⟩ := d
    dsimp only [dvAtV] at cA
    clear hd
    go_enter Try.func98, Try.ntmps98
    go_wp2_with fail
    refine cA.mono ?_
    rintro e w4 ⟨rfl, hb4⟩
    go_wp2
    go_ret
    exact ⟨rfl, behind hb4 (bel1 _ _)⟩
set_option maxHeartbeats 1000000 in
set_option maxRecDepth 100000 in
theorem implGone (a c : Option Addr) (ca cc : Nat) (p : List Int) (l : List Sm.St) (w : World) (hp : p.length ≤ 1048576) (hl : l.length ≤ 1048576) (hr : RdZ w a p) (hs : RdS w c l) :
    Calls Try.prog 84 #[.agg #[.slice a p.length ca], .slice c l.length cc] w fun e w' => e = .returned (.int .i64 (Rg.idxI (p.findIdx? (Rg.lostB l)))) ∧ Below w.heap.size w w' := by
  have s0 := (slot1New w (.slice a p.length ca) 36).below (bel1 _ (.cells #[.slice c l.length cc] 24))
  have s1 := slot1New (w.alloc (.cells #[.slice a p.length ca] 36)) (.slice c l.length cc) 24
  have hB0 := bel2 w (.cells #[.slice a p.length ca] 36) (.cells #[.slice c l.length cc] 24)
  have hr0 := hr.below hB0
  have hs0 := hs.below hB0
  rw [World.size_alloc] at s1
  go_enter Try.func84, Try.ntmps84
  go_wp2_with fail
  generalize (w.alloc (.cells #[.slice a p.length ca] 36)).alloc (.cells #[.slice c l.length cc] 24) = w0 at s0 s1 hB0 hr0 hs0 ⊢
  refine (idxFuncZ 98 #[.pointer (some ⟨w.heap.size + 1, 0, none⟩)] (enters_of Try.func98 (by kernel_rfl) rfl) (Rg.lostB l) a ca p _ hp hr0 (fun W x hb => goneFn _ c cc l x W hl (s1.below hb).1 (hs0.below hb))).mono ?_
  rintro e w4 ⟨rfl, hb4⟩
  go_wp2
  go_ret
  exact ⟨rfl, behind hB0 hb4⟩

theorem erase_eq (p : List Int) (k : Nat) : p.take k ++ p.drop (k + 1) = p.eraseIdx k := (List.eraseIdx_eq_take_drop_succ p k).symm
theorem putBy {w : World} {g q : Nat} (d : Array Int) : w.grownBy (putRow (Value.int .i64) (Sort.ahead w q) g 0 d) (some g) := by
  refine ⟨rfl, rfl, rfl, by simp, fun k hk hne => ?_⟩
  have : g ≠ k := fun e => hne (by rw [e])
  simp [putRow, mapBlock, Sort.ahead, Array.getElem?_modify, this]
theorem deleteZ (g c k base : Nat) (p : List Int) (w : World) (hk : k < p.length) (ho : w.ownsRow base 3 1 (.slice (some ⟨g, 0, none⟩) p.length c) p.length (Zv p)) :
    Calls Try.prog 99 #[.slice (some ⟨g, 0, none⟩) p.length c, .int .i64 (k : Int), .int .i64 ((k : Int) + 1)] w fun e w' => e = .returned (.slice (some ⟨g, 0, none⟩) (p.eraseIdx k).length c) ∧ RdZ w' (some ⟨g, 0, none⟩) (p.eraseIdx k) ∧ w.grownBy w' (some g) := by
  have hH : Holds (Value.int .i64) w g 0 p.toArray := by
    intro j hj
    have hjl : j < p.length := by simpa using hj
    have hc := ho.cellAt j (by omega)
    refine ⟨?_, by rw [Nat.zero_add]; exact ho.frozenAt j⟩
    rw [Nat.zero_add, hc]
    simp [Zv, hjl]
  have hcap := own_cap ho
  have hm : c ≤ 9223372036854775807 := by
    rcases ho.2 with ⟨e, _⟩ | ⟨g', cap', cur, e, _, _, _, h, _⟩
    · simp at e
    · simp only [Value.slice.injEq] at e
      unfold maxLen at h
      omega
  have h := Any.slices_Delete_int Try.deleteA g 0 c k (k + 1) p w hH hcap hm (by omega) (by omega)
  refine Calls.mono (show Calls Try.prog 99 #[.slice (some ⟨g, 0, none⟩) p.length c, .int .i64 (k : Int), .int .i64 ((k : Int) + 1)] w _ from h) ?_
  rintro e w' ⟨rfl, q, rfl⟩
  have e1 : k + 1 - k = 1 := by omega
  have hl : (p.eraseIdx k).length = p.length - 1 := List.length_eraseIdx_of_lt hk
  rw [e1, ← hl]
  refine ⟨rfl, ?_, putBy _⟩
  have h2 := holds_putRow (Value.int .i64) (Sort.ahead w q) g 0 p.toArray (p.take k ++ p.drop (k + 1) ++ List.replicate 1 0).toArray hH (by simp; omega)
  rw [erase_eq] at h2 ⊢
  intro i hi
  refine ⟨g, 0, rfl, ?_⟩
  have h3 := (h2 i (by simp; omega)).1
  rw [h3]
  simp [hi, List.getElem?_append_left]
set_option maxHeartbeats 1000000 in
set_option maxRecDepth 100000 in
theorem implWithout (b : Option Addr) (cb k : Nat) (p : List Int) (w : World) (hp : p.length ≤ 1048576) (hk : k < p.length) (hr : RdZ w b p) :
    Calls Try.prog 85 #[.agg #[.slice b p.length cb], .int .i64 (k : Int)] w fun e w' => ∃ (b' : Option Addr) (cb' : Nat), e = .returned (.agg #[.slice b' (p.eraseIdx k).length cb']) ∧ RdZ w' b' (p.eraseIdx k) ∧ Below w.heap.size w w' := by
  have s0 := (slot1New w (.slice b p.length cb) 36).below (bel1 _ (.cells #[.slice none 0 0] 36))
  have s1 := slot1New (w.alloc (.cells #[.slice b p.length cb] 36)) (.slice none 0 0) 36
  have hB0 := bel2 w (.cells #[.slice b p.length cb] 36) (.cells #[.slice none 0 0] 36)
  have hr0 := hr.below hB0
  rw [World.size_alloc] at s1
  have hs0 : ((w.alloc (.cells #[.slice b p.length cb] 36)).alloc (.cells #[.slice none 0 0] 36)).heap.size = w.heap.size + 2 := by simp
  have hnb : b = none → cb = 0 := by
    rintro rfl
    obtain ⟨_, _, e, _⟩ := hr k hk
    cases e
  go_enter Try.func85, Try.ntmps85
  go_wp2_with fail
  generalize (w.alloc (.cells #[.slice b p.length cb] 36)).alloc (.cells #[.slice none 0 0] 36) = w0 at s0 s1 hB0 hr0 hs0 ⊢
  refine (cloneZ b cb p _ hp hr0 hnb).mono ?_
  rintro e w5 ⟨a5, c5, rfl, ho5, hb5⟩
  obtain ⟨g, rfl⟩ : ∃ g, a5 = some ⟨g, 0, none⟩ := by
    rcases ho5.2 with ⟨_, h0⟩ | ⟨g, cap', cur, e, _⟩
    · omega
    · simp only [Value.slice.injEq] at e
      exact ⟨g, e.1⟩
  have hg : w0.heap.size ≤ g := (World.ownsRow.lt ho5 g rfl).1
  have s5 := s1.below hb5
  go_wp2_with fail
  refine (deleteZ g c5 k w0.heap.size p _ hk ho5).mono ?_
  rintro e w7 ⟨rfl, hr7, hg7⟩
  have hB7 : Below w.heap.size w w7 := (behind hB0 hb5).grown hg7 (behind hB0 hb5).size (fun j e => by cases e; omega)
  have s7 := Slot1.grw s5 hg7 (fun e => by simp only [Option.some.injEq] at e; omega)
  obtain ⟨t0, t1⟩ := id s7
  clear hr0 s0 s1 ho5 hb5 s5 hg7
  go_wp2
  have e0 : (w7.setCell ⟨w.heap.size + 1, 0, none⟩ (.slice (some ⟨g, 0, none⟩) (p.eraseIdx k).length c5)).cell? ⟨w.heap.size + 1, 0, none⟩ = some (.slice (some ⟨g, 0, none⟩) (p.eraseIdx k).length c5) :=
    World.cell?_setCell_same' _ _ _ (by rw [t0]; rfl)
  refine bodyPost_ret (v := .agg #[.slice (some ⟨g, 0, none⟩) (p.eraseIdx k).length c5]) (by simp [results, Try.results85, go_sem, e0]) rfl ⟨some ⟨g, 0, none⟩, c5, rfl, ?_, ?_⟩
  · exact hr7.far (fun x e => by cases e; show g ≠ w.heap.size + 1; omega)
  · exact hB7.setCell (by show w.heap.size ≤ w.heap.size + 1; omega) _
end Go.Proofs.Ytcejeiakgmamdac.Wk

namespace Go.Proofs.Ytcejeiakgmamdac.Wk
set_option linter.unusedVariables false
open Go.ChangeShapes Go.WideShapes Go.ChangeAt Go.RowKit

set_option maxHeartbeats 4000000 in
set_option maxRecDepth 100000 in
theorem heavyFn (Bl Bt Br Bb : Nat) (reps : Int) (a c : Option Addr) (ca cc : Nat) (Q : List (List Int)) (l : List Sm.St) (idn z0 x : Int) (w : World) (hQ : Q.length ≤ 1048576) (ht : tot Q ≤ 1048576) (hl : l.length ≤ 1048576) (hrQ : RdP w a Q) (hs : RdS w c l)
    (k0 : w.cell? ⟨Bl, 0, none⟩ = some (.slice c l.length cc)) (k1 : w.cell? ⟨Bt, 1, none⟩ = some (.int .i64 z0)) (k2 : w.cell? ⟨Br, 0, none⟩ = some (.int .i64 reps)) (k3 : w.cell? ⟨Br, 1, none⟩ = some (.slice a Q.length ca)) (k4 : w.cell? ⟨Bb, 0, none⟩ = some (.int .i64 idn)) :
    Calls Try.prog 100 #[.int .i64 x, .pointer (some ⟨Bl, 0, none⟩), .pointer (some ⟨Bt, 0, none⟩), .pointer (some ⟨Br, 0, none⟩), .pointer (some ⟨Bb, 0, none⟩)] w fun e w' => e = .returned (.bool (Rg.heavyB Q l idn z0 x)) ∧ Below w.heap.size w w' := by
  have HL : Hid (∀ x, Rg.load Q x ≤ 1048576) := fun x => Nat.le_trans (Rg.load_le Q x) ht
  have cX := implAt c cc l x w hl hs
  obtain ⟨K, hK⟩ : ∃ K, Rg.heavyB Q l idn z0 x = K := ⟨_, rfl⟩
  have HK : Hid (Rg.heavyB Q l idn z0 x = K) := hK
  rw [hK]
  clear hK
  cases hd : Dv.at_ l x with
  | none =>
    have eK : K = false := by rw [← HK.out]; exact heavy_none hd
    subst eK
    rw [hd] at cX
    dsimp only [dvAtV] at cX
    clear hd HK
    go_enter Try.func100, Try.ntmps100
    go_wp2_with fail
    refine cX.mono ?_
    rintro e w4 ⟨rfl, hb4⟩
    go_wp2_with fail
    go_quiet (fail)
    go_wp2
    go_ret
    exact ⟨rfl, belowQ5 (behind hb4 (bel1 _ _)) nq⟩
  | some d =>
    rw [hd] at cX
    have hi := at_id hd
    obtain ⟨i, z, n⟩ := d
    dsimp only at hi
    subst hi
    dsimp only [dvAtV] at cX
    by_cases hz : z = z0
    · subst hz
      have HG : Hid (2 ≤ (Rg.load Q i : Int) - (Rg.load Q idn : Int) → K = true) := fun h => by rw [← HK.out]; exact heavy_yes hd rfl h
      have HM : Hid (¬ 2 ≤ (Rg.load Q i : Int) - (Rg.load Q idn : Int) → K = false) := fun h => by rw [← HK.out]; exact heavy_less hd h
      have hLi := HL.out i
      have hLd := HL.out idn
      have cL := fun (w' : World) (h : RdP w' a Q) => implLoad reps a ca Q i w' hQ ht h
      have cM := fun (w' : World) (h : RdP w' a Q) => implLoad reps a ca Q idn w' hQ ht h
      generalize Rg.load Q i = Li at HG HM hLi cL
      generalize Rg.load Q idn = Ld at HG HM hLd cM
      clear hd HK HL
      go_enter Try.func100, Try.ntmps100
      go_wp2_with fail
      refine cX.mono ?_
      rintro e w4 ⟨rfl, hb4⟩
      have bX := bel1 w4 (.cells #[.int .i64 i, .int .i64 z, .int .i64 n] 42)
      have xX := boxNew w4 i z n 42
      have hB4 := behind hb4 bX
      have t1 := cellOn k1 hB4
      have q0 := cellOn k2 hB4
      have q1 := cellOn k3 hB4
      have t4 := cellOn k4 hB4
      obtain ⟨y0, y1, y2⟩ := id xX
      have hQ4 := hrQ.below hB4
      clear cX k0 k1 k2 k3 k4
      go_upto_region 2 with fail
      generalize w4.alloc (.cells #[.int .i64 i, .int .i64 z, .int .i64 n] 42) = w5 at bX xX hB4 q0 q1 t1 t4 y0 y1 y2 hQ4 ⊢
      -- @region
      refine wp_region_held_drew (S := fun wy => wy.cell? ⟨Br, 0, none⟩ = some (.int .i64 reps) ∧ wy.cell? ⟨Br, 1, none⟩ = some (.slice a Q.length ca) ∧ wy.cell? ⟨Bt, 1, none⟩ = some (.int .i64 z) ∧ wy.cell? ⟨Bb, 0, none⟩ = some (.int .i64 idn) ∧ wy.cell? ⟨w4.heap.size, 1, none⟩ = some (.int .i64 z)) (by kernel_rfl) ⟨q0, q1, t1, t4, y1⟩ (fun hHeld => ?_)
      refine wpAnyH_take (i := 0) (oi := ?_) (v := ?_) ?_ ?_ ?_ ?_ ?_ ?_ (by assumption) ?_
      rotate_left 2
      · simp only [List.getElem?_toArray, List.getElem?_cons_zero]
        rfl
      · kernel_rfl
      · kernel_rfl
      · kernel_rfl
      · exact fun _ _ _ h => h
      · refine Or.inl ⟨by kernel_rfl, ?_⟩
        intro wS hSw
        try dsimp only at hSw
        go_simp
        try with_reducible rfl
      simp only [Act.put, List.setIfInBounds_toArray, List.set_cons_zero, List.set_cons_succ]
      refine wpAnyH_take (i := 1) (oi := ?_) (v := ?_) ?_ ?_ ?_ ?_ ?_ ?_ (by assumption) ?_
      rotate_left 2
      · simp only [List.getElem?_toArray, List.getElem?_cons_succ, List.getElem?_cons_zero]
        rfl
      · kernel_rfl
      · kernel_rfl
      · kernel_rfl
      · exact fun _ _ _ h => h
      · refine Or.inl ⟨by kernel_rfl, ?_⟩
        intro wS hSw
        try dsimp only at hSw
        go_simp
        try with_reducible rfl
      simp only [Act.put, List.setIfInBounds_toArray, List.set_cons_zero, List.set_cons_succ]
      refine wpAnyH_take (i := 2) (oi := ?_) (v := ?_) ?_ ?_ ?_ ?_ ?_ ?_ (by assumption) ?_
      rotate_left 2
      · simp only [List.getElem?_toArray, List.getElem?_cons_succ, List.getElem?_cons_zero]
        rfl
      · kernel_rfl
      · kernel_rfl
      · kernel_rfl
      · exact fun _ _ _ h => h
      · refine Or.inl ⟨by kernel_rfl, ?_⟩
        intro wS hSw
        try dsimp only at hSw
        go_simp
        try with_reducible rfl
      simp only [Act.put, List.setIfInBounds_toArray, List.set_cons_zero, List.set_cons_succ]
      refine wpAnyH_take (i := 3) (oi := ?_) (v := ?_) ?_ ?_ ?_ ?_ ?_ ?_ (by assumption) ?_
      rotate_left 2
      · simp only [List.getElem?_toArray, List.getElem?_cons_succ, List.getElem?_cons_zero]
        rfl
      · kernel_rfl
      · kernel_rfl
      · kernel_rfl
      · exact fun _ _ _ h => h
      · refine Or.inl ⟨by kernel_rfl, ?_⟩
        intro wS hSw
        try dsimp only at hSw
        go_simp
        try with_reducible rfl
      simp only [Act.put, List.setIfInBounds_toArray, List.set_cons_zero, List.set_cons_succ]
      refine wpAnyH_take (i := 4) (oi := ?_) (v := ?_) ?_ ?_ ?_ ?_ ?_ ?_ (by assumption) ?_
      rotate_left 2
      · simp only [List.getElem?_toArray, List.getElem?_cons_succ, List.getElem?_cons_zero]
        rfl
      · kernel_rfl
      · kernel_rfl
      · kernel_rfl
      · exact fun _ _ _ h => h
      · refine Or.inl ⟨by kernel_rfl, ?_⟩
        intro wS hSw
        try dsimp only at hSw
        go_simp
        try with_reducible rfl
      simp only [Act.put, List.setIfInBounds_toArray, List.set_cons_zero, List.set_cons_succ]
      refine wpAnyH_take (i := 5) (oi := ?_) (v := ?_) ?_ ?_ ?_ ?_ ?_ ?_ (by assumption) ?_
      rotate_left 2
      · simp only [List.getElem?_toArray, List.getElem?_cons_succ, List.getElem?_cons_zero]
        rfl
      · kernel_rfl
      · kernel_rfl
      · kernel_rfl
      · exact fun _ _ _ h => h
      · refine Or.inl ⟨by kernel_rfl, ?_⟩
        intro wS hSw
        try dsimp only at hSw
        go_simp
        try with_reducible rfl
      simp only [Act.put, List.setIfInBounds_toArray, List.set_cons_zero, List.set_cons_succ]
      refine wpAnyH_take (i := 6) (oi := ?_) (v := ?_) ?_ ?_ ?_ ?_ ?_ ?_ (by assumption) ?_
      rotate_left 2
      · simp only [List.getElem?_toArray, List.getElem?_cons_succ, List.getElem?_cons_zero]
        rfl
      · kernel_rfl
      · kernel_rfl
      · kernel_rfl
      · exact fun _ _ _ h => h
      · refine Or.inl ⟨by kernel_rfl, ?_⟩
        intro wS hSw
        try dsimp only at hSw
        go_simp
        try with_reducible rfl
      simp only [Act.put, List.setIfInBounds_toArray, List.set_cons_zero, List.set_cons_succ]
      refine wpAnyH_take (i := 7) (oi := ?_) (v := ?_) ?_ ?_ ?_ ?_ ?_ ?_ (by assumption) ?_
      rotate_left 2
      · simp only [List.getElem?_toArray, List.getElem?_cons_succ, List.getElem?_cons_zero]
        rfl
      · kernel_rfl
      · kernel_rfl
      · kernel_rfl
      · exact fun _ _ _ h => h
      · refine Or.inl ⟨by kernel_rfl, ?_⟩
        intro wS hSw
        try dsimp only at hSw
        go_simp
        try with_reducible rfl
      simp only [Act.put, List.setIfInBounds_toArray, List.set_cons_zero, List.set_cons_succ]
      refine wpAnyH_take (i := 8) (oi := ?_) (v := ?_) ?_ ?_ ?_ ?_ ?_ ?_ (by assumption) ?_
      rotate_left 2
      · simp only [List.getElem?_toArray, List.getElem?_cons_succ, List.getElem?_cons_zero]
        rfl
      · kernel_rfl
      · kernel_rfl
      · kernel_rfl
      · exact fun _ _ _ h => h
      · refine Or.inl ⟨by kernel_rfl, ?_⟩
        intro wS hSw
        try dsimp only at hSw
        go_simp
        try with_reducible rfl
      simp only [Act.put, List.setIfInBounds_toArray, List.set_cons_zero, List.set_cons_succ]
      refine wpAnyH_take (i := 9) (oi := ?_) (v := ?_) ?_ ?_ ?_ ?_ ?_ ?_ (by assumption) ?_
      rotate_left 2
      · simp only [List.getElem?_toArray, List.getElem?_cons_succ, List.getElem?_cons_zero]
        rfl
      · kernel_rfl
      · kernel_rfl
      · kernel_rfl
      · exact fun _ _ _ h => h
      · refine Or.inl ⟨by kernel_rfl, ?_⟩
        intro wS hSw
        try dsimp only at hSw
        go_simp
        try with_reducible rfl
      simp only [Act.put, List.setIfInBounds_toArray, List.set_cons_zero, List.set_cons_succ]
      refine wpAnyH_take (i := 10) (oi := ?_) (v := ?_) ?_ ?_ ?_ ?_ ?_ ?_ (by assumption) ?_
      rotate_left 2
      · simp only [List.getElem?_toArray, List.getElem?_cons_succ, List.getElem?_cons_zero]
        rfl
      · kernel_rfl
      · kernel_rfl
      · kernel_rfl
      · exact fun _ _ _ h => h
      · refine Or.inl ⟨by kernel_rfl, ?_⟩
        intro wS hSw
        try dsimp only at hSw
        go_simp
        try with_reducible rfl
      simp only [Act.put, List.setIfInBounds_toArray, List.set_cons_zero, List.set_cons_succ]
      refine wpAnyH_take (i := 12) (oi := ?_) (v := ?_) ?_ ?_ ?_ ?_ ?_ ?_ (by assumption) ?_
      rotate_left 2
      · simp only [List.getElem?_toArray, List.getElem?_cons_succ, List.getElem?_cons_zero]
        rfl
      · kernel_rfl
      · kernel_rfl
      · kernel_rfl
      · exact fun _ _ _ h => h
      · refine Or.inl ⟨by kernel_rfl, ?_⟩
        intro wS hSw
        try dsimp only at hSw
        go_simp
        try with_reducible rfl
      simp only [Act.put, List.setIfInBounds_toArray, List.set_cons_zero, List.set_cons_succ]
      refine wpAnyH_take (i := 13) (oi := ?_) (v := ?_) ?_ ?_ ?_ ?_ ?_ ?_ (by assumption) ?_
      rotate_left 2
      · simp only [List.getElem?_toArray, List.getElem?_cons_succ, List.getElem?_cons_zero]
        rfl
      · kernel_rfl
      · kernel_rfl
      · kernel_rfl
      · exact fun _ _ _ h => h
      · refine Or.inl ⟨by kernel_rfl, ?_⟩
        intro wS hSw
        try dsimp only at hSw
        go_simp
        try with_reducible rfl
      simp only [Act.put, List.setIfInBounds_toArray, List.set_cons_zero, List.set_cons_succ]
      refine wpAnyH_ready (rs := [11]) (by kernel_rfl) (by simp) ?_
      refine AllReadyH.cons rfl (fun K hK => ?_) ?_
      rotate_left
      · exact AllReadyH.nil
      go_simp
      refine (cL _ (by exact hQ4)).mono ?_
      rintro e w6 ⟨rfl, hb6⟩
      go_wp2_with fail
      refine hK.out _ _ ?_ (fun hHeld => ?_)
      · exact keepH hHeld hb6
      clear hK K
      try simp only [Act.put, List.setIfInBounds_toArray, List.set_cons_zero, List.set_cons_succ]
      refine wpAnyH_ready (rs := [14]) (by kernel_rfl) (by simp) ?_
      refine AllReadyH.cons rfl (fun K hK => ?_) ?_
      rotate_left
      · exact AllReadyH.nil
      go_simp
      refine (cM _ (RdP.below (w := w5.drew) (by exact hQ4) hb6)).mono ?_
      rintro e w7 ⟨rfl, hb7⟩
      go_wp2_with fail
      refine hK.out _ _ ?_ (fun hHeld => ?_)
      · exact keepH hHeld hb7
      clear hK K
      try simp only [Act.put, List.setIfInBounds_toArray, List.set_cons_zero, List.set_cons_succ]
      refine wpAnyH_take (i := 15) (oi := ?_) (v := ?_) ?_ ?_ ?_ ?_ ?_ ?_ (by assumption) ?_
      rotate_left 2
      · simp only [List.getElem?_toArray, List.getElem?_cons_succ, List.getElem?_cons_zero]
        rfl
      · kernel_rfl
      · kernel_rfl
      · kernel_rfl
      · exact fun _ _ _ h => h
      · refine Or.inl ⟨by kernel_rfl, ?_⟩
        intro wS hSw
        try dsimp only at hSw
        go_simp
        try with_reducible rfl
      simp only [Act.put, List.setIfInBounds_toArray, List.set_cons_zero, List.set_cons_succ]
      refine wpAnyH_take (i := 16) (oi := ?_) (v := ?_) ?_ ?_ ?_ ?_ ?_ ?_ (by assumption) ?_
      rotate_left 2
      · simp only [List.getElem?_toArray, List.getElem?_cons_succ, List.getElem?_cons_zero]
        rfl
      · kernel_rfl
      · kernel_rfl
      · kernel_rfl
      · exact fun _ _ _ h => h
      · refine Or.inl ⟨by kernel_rfl, ?_⟩
        intro wS hSw
        try dsimp only at hSw
        go_simp
        try with_reducible rfl
      simp only [Act.put, List.setIfInBounds_toArray, List.set_cons_zero, List.set_cons_succ]
      refine wpAnyH_take (i := 17) (oi := ?_) (v := ?_) ?_ ?_ ?_ ?_ ?_ ?_ (by assumption) ?_
      rotate_left 2
      · simp only [List.getElem?_toArray, List.getElem?_cons_succ, List.getElem?_cons_zero]
        rfl
      · kernel_rfl
      · kernel_rfl
      · kernel_rfl
      · exact fun _ _ _ h => h
      · refine Or.inl ⟨by kernel_rfl, ?_⟩
        intro wS hSw
        try dsimp only at hSw
        go_simp
        try with_reducible rfl
      simp only [Act.put, List.setIfInBounds_toArray, List.set_cons_zero, List.set_cons_succ]
      refine wpAnyH_take (i := 18) (oi := ?_) (v := ?_) ?_ ?_ ?_ ?_ ?_ ?_ (by assumption) ?_
      rotate_left 2
      · simp only [List.getElem?_toArray, List.getElem?_cons_succ, List.getElem?_cons_zero]
        rfl
      · kernel_rfl
      · kernel_rfl
      · kernel_rfl
      · exact fun _ _ _ h => h
      · refine Or.inl ⟨by kernel_rfl, ?_⟩
        intro wS hSw
        try dsimp only at hSw
        go_simp
        try with_reducible rfl
      simp only [Act.put, List.setIfInBounds_toArray, List.set_cons_zero, List.set_cons_succ]
      refine wpAnyH_done (by kernel_rfl) ?_ _
      -- @end
      have hw : IntKind.i64.wrap ((Li : Int) - (Ld : Int)) = (Li : Int) - (Ld : Int) := wrapH _ (by omega) (by omega)
      by_cases hge : 2 ≤ (Li : Int) - (Ld : Int)
      · have eK := HG.out hge
        subst eK
        clear HG HM
        go_wp2
        go_ret
        exact ⟨show Ending.returned (.bool (decide (2 ≤ IntKind.i64.wrap ((Li : Int) - (Ld : Int))))) = _ from ret_bool (by rw [hw]; exact decide_eq_true hge), behind (behind hB4.drew hb6) hb7⟩
      · have eK := HM.out (by omega)
        subst eK
        clear HG HM
        go_wp2
        go_ret
        exact ⟨show Ending.returned (.bool (decide (2 ≤ (Li : Int) - (Ld : Int)))) = _ from ret_bool (decide_eq_false (by omega)), behind (behind hB4.drew hb6) hb7⟩
    · have eK : K = false := by rw [← HK.out]; exact heavy_zone hd hz
      subst eK
      have hzb : (z == z0) = false := by simpa using hz
      clear hd HK HL
      go_enter Try.func100, Try.ntmps100
      go_wp2_with fail
      refine cX.mono ?_
      rintro e w4 ⟨rfl, hb4⟩
      have bX := bel1 w4 (.cells #[.int .i64 i, .int .i64 z, .int .i64 n] 42)
      have hB4 := behind hb4 bX
      have t1 := cellOn k1 hB4
      go_wp2_with fail
      go_quiet (fail)
      go_wp2
      go_ret
      exact ⟨rfl, belowQ5 hB4 nq⟩

set_option maxHeartbeats 4000000 in
set_option maxRecDepth 100000 in
theorem implHeavy (reps : Int) (a b c : Option Addr) (ca cb cc : Nat) (Q : List (List Int)) (p : List Int) (l : List Sm.St) (idn : Int) (w : World) (hQ : Q.length ≤ 1048576) (ht : tot Q ≤ 1048576) (hp : p.length ≤ 1048576) (hl : l.length ≤ 1048576) (hrQ : RdP w a Q) (hr : RdZ w b p) (hs : RdS w c l) :
    Calls Try.prog 86 #[.agg #[.int .i64 reps, .slice a Q.length ca], .agg #[.slice b p.length cb], .slice c l.length cc, .int .i64 idn] w fun e w' => e = .returned (.int .i64 (Rg.idxI (Rg.heavyK Q l p idn))) ∧ Below w.heap.size w w' := by
  have sQ := slot2New w (.int .i64 reps) (.slice a Q.length ca) 29
  have sP := slot1New (w.alloc (.cells #[.int .i64 reps, .slice a Q.length ca] 29)) (.slice b p.length cb) 36
  have b1 := bel1 w (.cells #[.int .i64 reps, .slice a Q.length ca] 29)
  have b2 := bel1 (w.alloc (.cells #[.int .i64 reps, .slice a Q.length ca] 29)) (.cells #[.slice b p.length cb] 36)
  have hS1 : (w.alloc (.cells #[.int .i64 reps, .slice a Q.length ca] 29)).heap.size = w.heap.size + 1 := by simp
  obtain ⟨w1, hw1⟩ : ∃ w1, w.alloc (.cells #[.int .i64 reps, .slice a Q.length ca] 29) = w1 := ⟨_, rfl⟩
  rw [hw1] at sQ sP b1 b2 hS1
  obtain ⟨w2, hw2⟩ : ∃ w2, w1.alloc (.cells #[.slice b p.length cb] 36) = w2 := ⟨_, rfl⟩
  have hS2 : w2.heap.size = w.heap.size + 1 + 1 := by rw [← hw2]; simp [hS1]
  rw [hw2] at sP b2
  have sL := slot1New w2 (.slice c l.length cc) 24
  have b3 := bel1 w2 (.cells #[.slice c l.length cc] 24)
  obtain ⟨w3, hw3⟩ : ∃ w3, w2.alloc (.cells #[.slice c l.length cc] 24) = w3 := ⟨_, rfl⟩
  have hS3 : w3.heap.size = w.heap.size + 1 + 1 + 1 := by rw [← hw3]; simp [hS2]
  rw [hw3] at sL b3
  have sI := slot1New w3 (.int .i64 idn) 3
  have b4 := bel1 w3 (.cells #[.int .i64 idn] 3)
  obtain ⟨w0, hw0⟩ : ∃ w0, w3.alloc (.cells #[.int .i64 idn] 3) = w0 := ⟨_, rfl⟩
  rw [hw0] at sI b4
  rw [hS1] at sP
  rw [hS2] at sL
  rw [hS3] at sI
  have hB0 := behind (behind (behind b1 b2) b3) b4
  have sQ := ((sQ.below b2).below b3).below b4
  have sP := (sP.below b3).below b4
  have sL := sL.below b4
  have hQ0 := hrQ.below hB0
  have hr0 := hr.below hB0
  have hs0 := hs.below hB0
  have hW : (((w.alloc (.cells #[.int .i64 reps, .slice a Q.length ca] 29)).alloc (.cells #[.slice b p.length cb] 36)).alloc (.cells #[.slice c l.length cc] 24)).alloc (.cells #[.int .i64 idn] 3) = w0 := by rw [hw1, hw2, hw3, hw0]
  clear hw1 hw2 hw3 hw0 b1 b2 b3 b4 hS1 hS2 hS3 hrQ hr hs
  have cA := fun w' h => implAt c cc l idn w' hl h
  obtain ⟨k0, -⟩ := id sL
  obtain ⟨k1, -⟩ := id sI
  cases hd : Dv.at_ l idn with
  | none =>
    have eK : Rg.heavyK Q l p idn = none := by unfold Rg.heavyK; rw [hd]
    rw [eK]
    clear eK
    rw [hd] at cA
    dsimp only [dvAtV] at cA
    clear hd
    go_enter Try.func86, Try.ntmps86
    go_wp2_with fail
    refine (cA _ hs0).mono ?_
    rintro e w4 ⟨rfl, hb4⟩
    go_wp2
    go_ret
    exact ⟨rfl, behind (behind hB0 hb4) (bel1 _ _)⟩
  | some d =>
    obtain ⟨i0, z0, n0⟩ := d
    have eK : Rg.heavyK Q l p idn = p.findIdx? (Rg.heavyB Q l idn z0) := by unfold Rg.heavyK; rw [hd]
    rw [eK]
    clear eK
    rw [hd] at cA
    dsimp only [dvAtV] at cA
    clear hd
    go_enter Try.func86, Try.ntmps86
    go_wp2_with fail
    refine (cA _ hs0).mono ?_
    rintro e w4 ⟨rfl, hb4⟩
    have bN := bel1 w4 (.cells #[.int .i64 i0, .int .i64 z0, .int .i64 n0] 42)
    have xD := boxNew w4 i0 z0 n0 42
    have hB4 := behind hb4 bN
    have sQ := sQ.below hB4
    have sP := sP.below hB4
    have sL := sL.below hB4
    have sI := sI.below hB4
    have hQ0 := hQ0.below hB4
    have hr0 := hr0.below hB4
    have hs0 := hs0.below hB4
    obtain ⟨p0, -⟩ := id sP
    clear cA k0 k1
    go_wp2_with fail
    generalize w4.alloc (.cells #[.int .i64 i0, .int .i64 z0, .int .i64 n0] 42) = w5 at bN xD hB4 sQ sP sL sI hQ0 hr0 hs0 p0 ⊢
    refine (idxFuncZ 100 #[.pointer (some ⟨w.heap.size + 1 + 1, 0, none⟩), .pointer (some ⟨w4.heap.size, 0, none⟩), .pointer (some ⟨w.heap.size, 0, none⟩), .pointer (some ⟨w.heap.size + 1 + 1 + 1, 0, none⟩)] (enters_of Try.func100 (by kernel_rfl) rfl) (Rg.heavyB Q l idn z0) b cb p _ hp hr0
      (fun W x hb => heavyFn _ _ _ _ reps a c ca cc Q l idn z0 x W hQ ht hl (hQ0.below hb) (hs0.below hb) (sL.below hb).1 (xD.below hb).2.1 (sQ.below hb).1.1 (sQ.below hb).1.2 (sI.below hb).1)).mono ?_
    rintro e w6 ⟨rfl, hb6⟩
    go_wp2
    go_ret
    exact ⟨rfl, behind (behind hB0 hB4) hb6⟩
end Go.Proofs.Ytcejeiakgmamdac.Wk

namespace Go.Proofs.Ytcejeiakgmamdac.Wk
set_option linter.unusedVariables false
open Go.ChangeShapes Go.WideShapes Go.ChangeAt Go.RowKit

/-- copy as one step of a region that draws its order, with the world behind it named -/
theorem step_copyR {P : Program} {ops : Array Oper} {o : Oper} {a : Act} {w : World} {K : Act → World → Prop} {Q : Exit → Act → World → Prop} {E : Prop} (hgd : o.guard = none) (d s : Operand) (dT sT : TypeId)
    (ho : o.op = .call { callee := .builtin .copy, args := #[d, s], argTypes := #[dT, sT] }) (elem : TypeId) (hu : P.underlying dT = some (.slice elem)) (hsz : (P.info? elem).map (·.size) = some 1)
    (g off dLen dCap : Nat) (ad : Addr) (sLen sCap : Nat) (hd : a.eval d = .slice (some ⟨g, off, none⟩) dLen dCap) (hs : a.eval s = .slice (some ad) sLen sCap)
    (cur : Array Value) (t : TypeId) (hg : w.heap[g]? = some (.cells cur t (0, 0))) (cs : List Value) (hn : cs.length = Nat.min sLen dLen)
    (hsrc : ∀ j v, cs[j]? = some v → w.cell? (ad.add j) = some v) (hfit : off + cs.length ≤ cur.size) (h1 : ∀ v ∈ cs, v.oneCell' = true)
    (h : K (a.put o.dst (goInt cs.length)) (w.setRow g (cur.toList.take off ++ cs ++ cur.toList.drop (off + cs.length)).toArray)) :
    if Region.wanted o (yielded ops a.tmps) = true then Oper.wp P o a w K Q else E := by
  have hw : Region.wanted o (yielded ops a.tmps) = true := by simp [Region.wanted, hgd]
  rw [if_pos hw]
  have hrun := run_copy_row (P := P) w dT sT o.type elem g off dLen dCap ad sLen sCap cur t cs hu hsz hg hn hsrc hfit h1
  unfold Oper.wp
  simp only [execOp, ho, resolve, invoke, builtin, Sem.run_bind, Sem.run_pure, Result.andThen_ok, List.map_toArray, List.map_cons, List.map_nil, hd, hs, hrun]
  exact h
theorem Zv_cell (l : List Int) : ∀ u ∈ Zv l, u.oneCell' = true := by
  intro u hu
  obtain ⟨z, -, rfl⟩ := List.mem_map.1 hu
  exact oneZ_one _ (List.mem_singleton.2 rfl)
/-- the number at this place; 0 behind the end -/
def gd (p : List Int) (j : Nat) : Int := p.getD j 0
/-- five numbers as cells; behind the list's end stand noughts -/
def five (p : List Int) : List Value := [.int .i64 (gd p 0), .int .i64 (gd p 1), .int .i64 (gd p 2), .int .i64 (gd p 3), .int .i64 (gd p 4)]
theorem five_fill (p : List Int) (h : p.length ≤ 5) : (five []).take 0 ++ Zv p ++ (five []).drop (0 + (Zv p).length) = five p := by
  rcases p with _ | ⟨x0, _ | ⟨x1, _ | ⟨x2, _ | ⟨x3, _ | ⟨x4, _ | ⟨x5, r⟩⟩⟩⟩⟩⟩
  all_goals first | rfl | (simp at h)
theorem five_take (p : List Int) (h : p.length ≤ 5) : (five p).take p.length = Zv p := by
  rcases p with _ | ⟨x0, _ | ⟨x1, _ | ⟨x2, _ | ⟨x3, _ | ⟨x4, _ | ⟨x5, r⟩⟩⟩⟩⟩⟩
  all_goals first | rfl | (simp at h)
theorem five_get (p : List Int) (j : Nat) (hj : j < 5) : (five p)[j]? = some (.int .i64 (gd p j)) := by
  match j, hj with
  | 0, _ => rfl
  | 1, _ => rfl
  | 2, _ => rfl
  | 3, _ => rfl
  | 4, _ => rfl
/-- five cells that may be written and read as this -/
def Slot5 (w : World) (b : Nat) (p : List Int) : Prop := ∀ j, j < 5 → w.cell? ⟨b, j, none⟩ = some (.int .i64 (gd p j)) ∧ w.frozen? ⟨b, j, none⟩ = false
theorem Slot5.lt {w : World} {b : Nat} {p : List Int} (h : Slot5 w b p) : b < w.heap.size := World.block_lt_of_cell? w _ (h 0 (by omega)).1
theorem Slot5.below {w w' : World} {b : Nat} {p : List Int} (h : Slot5 w b p) (hb : Below w.heap.size w w') : Slot5 w' b p := fun j hj =>
  ⟨cellOn (h j hj).1 hb, by rw [hb.frozen (p := ⟨b, j, none⟩) h.lt]; exact (h j hj).2⟩
theorem Slot5.out {w : World} {b : Nat} {p : List Int} (h : Slot5 w b p) :
    (w.cell? ⟨b, 0, none⟩ = some (.int .i64 (gd p 0)) ∧ w.cell? ⟨b, 1, none⟩ = some (.int .i64 (gd p 1)) ∧ w.cell? ⟨b, 2, none⟩ = some (.int .i64 (gd p 2)) ∧ w.cell? ⟨b, 3, none⟩ = some (.int .i64 (gd p 3)) ∧ w.cell? ⟨b, 4, none⟩ = some (.int .i64 (gd p 4))) ∧
    (w.frozen? ⟨b, 0, none⟩ = false ∧ w.frozen? ⟨b, 1, none⟩ = false ∧ w.frozen? ⟨b, 2, none⟩ = false ∧ w.frozen? ⟨b, 3, none⟩ = false ∧ w.frozen? ⟨b, 4, none⟩ = false) :=
  ⟨⟨(h 0 (by omega)).1, (h 1 (by omega)).1, (h 2 (by omega)).1, (h 3 (by omega)).1, (h 4 (by omega)).1⟩, (h 0 (by omega)).2, (h 1 (by omega)).2, (h 2 (by omega)).2, (h 3 (by omega)).2, (h 4 (by omega)).2⟩
theorem slot5Of {w : World} {b : Nat} {p : List Int} {T : TypeId} (h : w.heap[b]? = some (.cells (five p).toArray T (0, 0))) : Slot5 w b p := fun j hj =>
  ⟨by simp [World.cell?, h, five_get p j hj], by simp [World.frozen?, h]⟩
theorem heapNew (w : World) (p : List Int) (T : TypeId) : (w.alloc (.cells (five p).toArray T)).heap[w.heap.size]? = some (.cells (five p).toArray T (0, 0)) := by
  show (w.heap.push _)[w.heap.size]? = _
  rw [Array.getElem?_push_size]
theorem slot5New (w : World) (p : List Int) (T : TypeId) : Slot5 (w.alloc (.cells (five p).toArray T)) w.heap.size p := slot5Of (heapNew w p T)
theorem getD_set (p : List Int) (k j : Nat) (x : Int) (hk : k < p.length) : gd (p.set k x) j = if j = k then x else gd p j := by
  unfold gd
  rw [List.getD_eq_getElem?_getD, List.getD_eq_getElem?_getD]
  by_cases e : j = k
  · subst e
    rw [List.getElem?_set_self hk, if_pos rfl]
    rfl
  · rw [List.getElem?_set_ne (fun h => e h.symm), if_neg e]
theorem Slot5.put {w : World} {b k : Nat} {p : List Int} (h : Slot5 w b p) (hk : k < p.length) (hk5 : k < 5) (x : Int) : Slot5 (w.setCell ⟨b, k, none⟩ (.int .i64 x)) b (p.set k x) := fun j hj => by
  refine ⟨?_, by rw [World.frozen?_setCell]; exact (h j hj).2⟩
  rw [getD_set p k j x hk]
  by_cases e : j = k
  · subst e
    rw [if_pos rfl]
    exact World.cell?_setCell_same' _ _ _ (by rw [(h j hj).1]; rfl)
  · rw [if_neg e, World.cell?_setCell_other _ _ _ _ (fun h => e (congrArg Addr.off h).symm)]
    exact (h j hj).1
theorem Slot5.far {w : World} {b b' o : Nat} {p : List Int} {x : Value} (h : Slot5 w b p) (hne : b' ≠ b) : Slot5 (w.setCell ⟨b', o, none⟩ x) b p := fun j hj =>
  ⟨by rw [World.cell?_setCell_other _ _ _ _ (fun e => hne (congrArg Addr.block e))]; exact (h j hj).1, by rw [World.frozen?_setCell]; exact (h j hj).2⟩
theorem Slot5.row {w : World} {b g : Nat} {p : List Int} (h : Slot5 w b p) (hne : b ≠ g) (cs : Array Value) : Slot5 (w.setRow g cs) b p := fun j hj =>
  ⟨by rw [World.cell?_of_block (w := w) (setRow_other w g b cs hne)]; exact (h j hj).1, by rw [World.frozen?_of_block (w := w) (setRow_other w g b cs hne)]; exact (h j hj).2⟩
/-- what five stores leave -/
theorem store5 {w : World} {b : Nat} {p : List Int} (h : Slot5 w b p) (v0 v1 v2 v3 v4 : Value) :
    (((((w.setCell ⟨b, 0, none⟩ v0).setCell ⟨b, 1, none⟩ v1).setCell ⟨b, 2, none⟩ v2).setCell ⟨b, 3, none⟩ v3).setCell ⟨b, 4, none⟩ v4).cell? ⟨b, 0, none⟩ = some v0 ∧
    (((((w.setCell ⟨b, 0, none⟩ v0).setCell ⟨b, 1, none⟩ v1).setCell ⟨b, 2, none⟩ v2).setCell ⟨b, 3, none⟩ v3).setCell ⟨b, 4, none⟩ v4).cell? ⟨b, 1, none⟩ = some v1 ∧
    (((((w.setCell ⟨b, 0, none⟩ v0).setCell ⟨b, 1, none⟩ v1).setCell ⟨b, 2, none⟩ v2).setCell ⟨b, 3, none⟩ v3).setCell ⟨b, 4, none⟩ v4).cell? ⟨b, 2, none⟩ = some v2 ∧
    (((((w.setCell ⟨b, 0, none⟩ v0).setCell ⟨b, 1, none⟩ v1).setCell ⟨b, 2, none⟩ v2).setCell ⟨b, 3, none⟩ v3).setCell ⟨b, 4, none⟩ v4).cell? ⟨b, 3, none⟩ = some v3 ∧
    (((((w.setCell ⟨b, 0, none⟩ v0).setCell ⟨b, 1, none⟩ v1).setCell ⟨b, 2, none⟩ v2).setCell ⟨b, 3, none⟩ v3).setCell ⟨b, 4, none⟩ v4).cell? ⟨b, 4, none⟩ = some v4 := by
  have c0 := (h 0 (by omega)).1
  have c1 := (h 1 (by omega)).1
  have c2 := (h 2 (by omega)).1
  have c3 := (h 3 (by omega)).1
  have c4 := (h 4 (by omega)).1
  refine ⟨?_, ?_, ?_, ?_, ?_⟩
  · rw [World.cell?_setCell_other _ _ _ _ (by simp), World.cell?_setCell_other _ _ _ _ (by simp), World.cell?_setCell_other _ _ _ _ (by simp), World.cell?_setCell_other _ _ _ _ (by simp)]
    exact World.cell?_setCell_same' _ _ _ (by rw [c0]; rfl)
  · rw [World.cell?_setCell_other _ _ _ _ (by simp), World.cell?_setCell_other _ _ _ _ (by simp), World.cell?_setCell_other _ _ _ _ (by simp)]
    exact World.cell?_setCell_same' _ _ _ (by rw [World.cell?_setCell_other _ _ _ _ (by simp), c1]; rfl)
  · rw [World.cell?_setCell_other _ _ _ _ (by simp), World.cell?_setCell_other _ _ _ _ (by simp)]
    exact World.cell?_setCell_same' _ _ _ (by rw [World.cell?_setCell_other _ _ _ _ (by simp), World.cell?_setCell_other _ _ _ _ (by simp), c2]; rfl)
  · rw [World.cell?_setCell_other _ _ _ _ (by simp)]
    exact World.cell?_setCell_same' _ _ _ (by rw [World.cell?_setCell_other _ _ _ _ (by simp), World.cell?_setCell_other _ _ _ _ (by simp), World.cell?_setCell_other _ _ _ _ (by simp), c3]; rfl)
  · exact World.cell?_setCell_same' _ _ _ (by rw [World.cell?_setCell_other _ _ _ _ (by simp), World.cell?_setCell_other _ _ _ _ (by simp), World.cell?_setCell_other _ _ _ _ (by simp), World.cell?_setCell_other _ _ _ _ (by simp), c4]; rfl)
theorem below5 {B b : Nat} {w0 w : World} (h : Below B w0 w) (hb : B ≤ b) (v0 v1 v2 v3 v4 : Value) : Below B w0 (((((w.setCell ⟨b, 0, none⟩ v0).setCell ⟨b, 1, none⟩ v1).setCell ⟨b, 2, none⟩ v2).setCell ⟨b, 3, none⟩ v3).setCell ⟨b, 4, none⟩ v4) :=
  ((((h.setCell (by exact hb) _).setCell (by exact hb) _).setCell (by exact hb) _).setCell (by exact hb) _).setCell (by exact hb) _
theorem heap5 {w : World} {b : Nat} {T : TypeId} (h : w.heap[b]? = some (.cells (five []).toArray T (0, 0))) (q : List Int) :
    (((((w.setCell ⟨b, 0, none⟩ (.int .i64 (gd q 0))).setCell ⟨b, 1, none⟩ (.int .i64 (gd q 1))).setCell ⟨b, 2, none⟩ (.int .i64 (gd q 2))).setCell ⟨b, 3, none⟩ (.int .i64 (gd q 3))).setCell ⟨b, 4, none⟩ (.int .i64 (gd q 4))).heap[b]? = some (.cells (five q).toArray T (0, 0)) :=
  heap_setCell_same _ b 4 _ T _ (heap_setCell_same _ b 3 _ T _ (heap_setCell_same _ b 2 _ T _ (heap_setCell_same _ b 1 _ T _ (heap_setCell_same w b 0 _ T _ h))))
/-- numbers copied over the whole of a row of one's own -/
theorem ownCopy {w : World} {base g n c : Nat} {p q : List Int} (ho : w.ownsRow base 3 1 (.slice (some ⟨g, 0, none⟩) n c) n (Zv p)) (hq : q.length = n) :
    ∃ cur : Array Value, w.heap[g]? = some (.cells cur 3 (0, 0)) ∧ 0 + (Zv q).length ≤ cur.size ∧ (w.setRow g (cur.toList.take 0 ++ Zv q ++ cur.toList.drop (0 + (Zv q).length)).toArray).ownsRow base 3 1 (.slice (some ⟨g, 0, none⟩) n c) n (Zv q) ∧
      w.grownBy (w.setRow g (cur.toList.take 0 ++ Zv q ++ cur.toList.drop (0 + (Zv q).length)).toArray) (some g) := by
  have hlq : (Zv q).length = n := by simp [Zv, hq]
  rcases ho.2 with ⟨e, _⟩ | ⟨g', cap', cur, e, hb, hg, hnc, hcm, hcs, htake⟩
  · simp at e
  · simp only [Value.slice.injEq, Option.some.injEq, Addr.mk.injEq, and_true, true_and] at e
    obtain ⟨rfl, rfl⟩ := e
    refine ⟨cur, hg, by omega, ⟨by omega, .inr ⟨g, c, _, rfl, hb, setRow_heap w g cur _ 3 _ hg, hnc, hcm, by simp; omega, ?_⟩⟩, ⟨rfl, rfl, rfl, by simp, fun k hk hne => setRow_other w g k _ (fun e => hne (by rw [e]))⟩⟩
    simp [hlq]
end Go.Proofs.Ytcejeiakgmamdac.Wk

namespace Go.Proofs.Ytcejeiakgmamdac.Wk
set_option linter.unusedVariables false
open Go.ChangeShapes Go.WideShapes Go.ChangeAt Go.RowKit

set_option maxHeartbeats 2000000 in
set_option maxRecDepth 100000 in
theorem implIds (a : Option Addr) (ca : Nat) (p : List Int) (w : World) (hp1 : 1 ≤ p.length) (hp5 : p.length ≤ 5) (hr : RdZ w a p) :
    Calls Try.prog 60 #[.agg #[.slice a p.length ca]] w fun e w' => e = .returned (.agg #[.int .i64 (gd p 0), .int .i64 (gd p 1), .int .i64 (gd p 2), .int .i64 (gd p 3), .int .i64 (gd p 4)]) ∧ Below w.heap.size w w' := by
  obtain ⟨b, off, rfl⟩ : ∃ b off, a = some ⟨b, off, none⟩ := by
    obtain ⟨b, off, e, _⟩ := hr 0 (by omega)
    exact ⟨b, off, e⟩
  have s0 := slot1New w (.slice (some ⟨b, off, none⟩) p.length ca) 36
  have b0 := bel1 w (.cells #[.slice (some ⟨b, off, none⟩) p.length ca] 36)
  have hS1 : (w.alloc (.cells #[.slice (some ⟨b, off, none⟩) p.length ca] 36)).heap.size = w.heap.size + 1 := by simp
  obtain ⟨w1, hw1⟩ : ∃ w1, w.alloc (.cells #[.slice (some ⟨b, off, none⟩) p.length ca] 36) = w1 := ⟨_, rfl⟩
  rw [hw1] at s0 b0 hS1
  have r0 : Slot5 (w1.alloc (.cells #[.int .i64 0, .int .i64 0, .int .i64 0, .int .i64 0, .int .i64 0] 87)) w1.heap.size [] := slot5New w1 [] 87
  have b1 := bel1 w1 (.cells #[.int .i64 0, .int .i64 0, .int .i64 0, .int .i64 0, .int .i64 0] 87)
  have hS2 : (w1.alloc (.cells #[.int .i64 0, .int .i64 0, .int .i64 0, .int .i64 0, .int .i64 0] 87)).heap.size = w.heap.size + 1 + 1 := by simp [hS1]
  obtain ⟨w2, hw2⟩ : ∃ w2, w1.alloc (.cells #[.int .i64 0, .int .i64 0, .int .i64 0, .int .i64 0, .int .i64 0] 87) = w2 := ⟨_, rfl⟩
  rw [hw2] at r0 b1 hS2
  have h3 : (w2.alloc (.cells #[.int .i64 0, .int .i64 0, .int .i64 0, .int .i64 0, .int .i64 0] 87)).heap[w2.heap.size]? = some (.cells (five []).toArray 87 (0, 0)) := heapNew w2 [] 87
  have b2 := bel1 w2 (.cells #[.int .i64 0, .int .i64 0, .int .i64 0, .int .i64 0, .int .i64 0] 87)
  obtain ⟨w3, hw3⟩ : ∃ w3, w2.alloc (.cells #[.int .i64 0, .int .i64 0, .int .i64 0, .int .i64 0, .int .i64 0] 87) = w3 := ⟨_, rfl⟩
  rw [hw3] at h3 b2
  rw [hS1] at r0
  rw [hS2] at h3
  have hW : ((w.alloc (.cells #[.slice (some ⟨b, off, none⟩) p.length ca] 36)).alloc (.cells #[.int .i64 0, .int .i64 0, .int .i64 0, .int .i64 0, .int .i64 0] 87)).alloc (.cells #[.int .i64 0, .int .i64 0, .int .i64 0, .int .i64 0, .int .i64 0] 87) = w3 := by rw [hw1, hw2, hw3]
  have hB3 := behind (behind b0 b1) b2
  have s3 := (s0.below b1).below b2
  have r3 := r0.below b2
  have hr3 := hr.below hB3
  have hsz : (Try.prog.info? 3).map (·.size) = some 1 := by kernel_rfl
  have hfill : ((five []).toArray.toList.take 0 ++ Zv p ++ (five []).toArray.toList.drop (0 + (Zv p).length)) = five p := by simpa using five_fill p hp5
  have hlZ : (Zv p).length = Nat.min p.length 5 := by simp [Zv]; exact (Nat.min_eq_left hp5).symm
  have hsrc : ∀ j v, (Zv p)[j]? = some v → w3.cell? ((⟨b, off, none⟩ : Addr).add j) = some v := by
    intro j v hj
    have hjl : j < p.length := by
      have := (List.getElem?_eq_some_iff.1 hj).1
      simpa [Zv] using this
    obtain ⟨b', off', e, hc⟩ := hr3 j hjl
    simp only [Option.some.injEq, Addr.mk.injEq, and_true] at e
    obtain ⟨rfl, rfl⟩ := e
    have hu : v = .int .i64 p[j] := by
      simp [Zv, hjl] at hj
      exact hj.symm
    rw [hu, show (⟨b, off, none⟩ : Addr).add j = ⟨b, off + j, none⟩ from by simp [Addr.add]]
    exact hc
  have HS : Hid (∀ j v, (Zv p)[j]? = some v → w3.cell? ((⟨b, off, none⟩ : Addr).add j) = some v) := hsrc
  have h7 : (w3.drew.setRow (w.heap.size + 1 + 1) (five p).toArray).heap[w.heap.size + 1 + 1]? = some (.cells (five p).toArray 87 (0, 0)) := setRow_heap w3.drew _ _ _ _ _ h3
  have s7 := slot5Of h7
  have r7 := Slot5.row (w := w3.drew) (g := w.heap.size + 1 + 1) r3 (by omega) (five p).toArray
  have hB7 : Below w.heap.size w (w3.drew.setRow (w.heap.size + 1 + 1) (five p).toArray) := below_setRow hB3.drew (by omega) _
  obtain ⟨t0, -⟩ := id s3
  have HF : Hid (((five []).toArray.toList.take 0 ++ Zv p ++ (five []).toArray.toList.drop (0 + (Zv p).length)) = five p) := hfill
  have HL : Hid ((Zv p).length = Nat.min p.length 5) := hlZ
  have HN : Hid (0 + (Zv p).length ≤ (five []).toArray.size) := by show 0 + (Zv p).length ≤ 5; have e : (Zv p).length = p.length := (by simp [Zv]); omega
  clear hw1 hw2 hw3 s0 b0 b1 b2 r0 hsrc hfill hlZ hr3 hr h7
  go_enter Try.func60, Try.ntmps60
  go_wp2
  go_region_law (first | (refine step_copyR (by rfl) (.tmp 4) (.tmp 6) 32 32 (by rfl) 3 Try.underlying32 hsz (w.heap.size + 1 + 1) 0 5 5 ⟨b, off, none⟩ p.length ca (by rfl) (by rfl) (five []).toArray 87 (by exact h3) (Zv p) HL.out (by exact HS.out) HN.out (Zv_cell p) ?_; rw [HF.out]) | fail)
  all_goals
    obtain ⟨⟨c0, c1, c2, c3, c4⟩, -⟩ := s7.out
    obtain ⟨⟨d0, d1, d2, d3, d4⟩, f0, f1, f2, f3, f4⟩ := r7.out
    generalize w3.drew.setRow (w.heap.size + 1 + 1) (five p).toArray = w7 at s7 r7 hB7 c0 c1 c2 c3 c4 d0 d1 d2 d3 d4 f0 f1 f2 f3 f4 ⊢
    go_wp2
    obtain ⟨e0, e1, e2, e3, e4⟩ := store5 r7 (.int .i64 (gd p 0)) (.int .i64 (gd p 1)) (.int .i64 (gd p 2)) (.int .i64 (gd p 3)) (.int .i64 (gd p 4))
    refine bodyPost_ret (v := .agg #[.int .i64 (gd p 0), .int .i64 (gd p 1), .int .i64 (gd p 2), .int .i64 (gd p 3), .int .i64 (gd p 4)]) (by simp [results, Try.results60, go_sem, e0, e1, e2, e3, e4]) rfl ⟨rfl, below5 hB7 (by omega) _ _ _ _ _⟩
end Go.Proofs.Ytcejeiakgmamdac.Wk

namespace Go.Proofs.Ytcejeiakgmamdac.Wk
set_option linter.unusedVariables false
open Go.ChangeShapes Go.WideShapes Go.ChangeAt Go.RowKit

/-- five numbers as an array's value -/
def arr (p : List Int) : Value := .agg #[.int .i64 (gd p 0), .int .i64 (gd p 1), .int .i64 (gd p 2), .int .i64 (gd p 3), .int .i64 (gd p 4)]
theorem mv_lost {Q : List (List Int)} {l : List Sm.St} {p : List Int} {k : Nat} (h : p.findIdx? (Rg.lostB l) = some k) : Rg.mvOne Q l p = some (k, Rg.best Q (p.eraseIdx k) l) := by unfold Rg.mvOne; rw [h]
theorem mv_heavy {Q : List (List Int)} {l : List Sm.St} {p : List Int} (h : p.findIdx? (Rg.lostB l) = none) : Rg.mvOne Q l p = (Rg.heavyK Q l p (Rg.best Q p l)).map fun k => (k, Rg.best Q p l) := by unfold Rg.mvOne; rw [h]
theorem keepSet3 {w : World} {a1 a2 a3 : Addr} {v1 v2 v3 v : Value} {b o : Nat} (h : w.cell? a1 = some v1 ∧ w.cell? a2 = some v2 ∧ w.cell? a3 = some v3) (n1 : a1.block ≠ b) (n2 : a2.block ≠ b) (n3 : a3.block ≠ b) :
    (w.setCell ⟨b, o, none⟩ v).cell? a1 = some v1 ∧ (w.setCell ⟨b, o, none⟩ v).cell? a2 = some v2 ∧ (w.setCell ⟨b, o, none⟩ v).cell? a3 = some v3 :=
  ⟨by rw [World.cell?_setCell_other _ _ _ _ (fun e => n1 (congrArg Addr.block e).symm)]; exact h.1, by rw [World.cell?_setCell_other _ _ _ _ (fun e => n2 (congrArg Addr.block e).symm)]; exact h.2.1, by rw [World.cell?_setCell_other _ _ _ _ (fun e => n3 (congrArg Addr.block e).symm)]; exact h.2.2⟩
theorem heavy_lt {Q : List (List Int)} {l : List Sm.St} {p : List Int} {b : Int} {k : Nat} (h : Rg.heavyK Q l p b = some k) : k < p.length := by
  unfold Rg.heavyK at h
  split at h
  · cases h
  · exact (Rg.find_lt h).1

set_option maxHeartbeats 4000000 in
set_option maxRecDepth 100000 in
theorem implOne (reps : Int) (a b c : Option Addr) (ca cb cc : Nat) (Q : List (List Int)) (p : List Int) (l : List Sm.St) (w : World) (hQ : Q.length ≤ 1048576) (ht : tot Q ≤ 1048576) (hp1 : 1 ≤ p.length) (hp5 : p.length ≤ 5) (hl : l.length ≤ 1048576) (hrQ : RdP w a Q) (hr : RdZ w b p) (hs : RdS w c l) :
    Calls Try.prog 61 #[arr p, .agg #[.int .i64 reps, .slice a Q.length ca], .agg #[.slice b p.length cb], .slice c l.length cc] w fun e w' => e = .returned (arr (Rg.mvTo p (Rg.mvOne Q l p))) ∧ Below w.heap.size w w' := by
  have s0 : Slot5 (w.alloc (.cells #[.int .i64 (gd p 0), .int .i64 (gd p 1), .int .i64 (gd p 2), .int .i64 (gd p 3), .int .i64 (gd p 4)] 87)) w.heap.size p := slot5New w p 87
  have b0 := bel1 w (.cells #[.int .i64 (gd p 0), .int .i64 (gd p 1), .int .i64 (gd p 2), .int .i64 (gd p 3), .int .i64 (gd p 4)] 87)
  have hS1 : (w.alloc (.cells #[.int .i64 (gd p 0), .int .i64 (gd p 1), .int .i64 (gd p 2), .int .i64 (gd p 3), .int .i64 (gd p 4)] 87)).heap.size = w.heap.size + 1 := by simp
  obtain ⟨w1, hw1⟩ : ∃ w1, w.alloc (.cells #[.int .i64 (gd p 0), .int .i64 (gd p 1), .int .i64 (gd p 2), .int .i64 (gd p 3), .int .i64 (gd p 4)] 87) = w1 := ⟨_, rfl⟩
  rw [hw1] at s0 b0 hS1
  have s1 := slot2New w1 (.int .i64 reps) (.slice a Q.length ca) 29
  have b1 := bel1 w1 (.cells #[.int .i64 reps, .slice a Q.length ca] 29)
  have hS2 : (w1.alloc (.cells #[.int .i64 reps, .slice a Q.length ca] 29)).heap.size = w.heap.size + 1 + 1 := by simp [hS1]
  obtain ⟨w2, hw2⟩ : ∃ w2, w1.alloc (.cells #[.int .i64 reps, .slice a Q.length ca] 29) = w2 := ⟨_, rfl⟩
  rw [hw2] at s1 b1 hS2
  have s2 := slot1New w2 (.slice b p.length cb) 36
  have b2 := bel1 w2 (.cells #[.slice b p.length cb] 36)
  have hS3 : (w2.alloc (.cells #[.slice b p.length cb] 36)).heap.size = w.heap.size + 1 + 1 + 1 := by simp [hS2]
  obtain ⟨w3, hw3⟩ : ∃ w3, w2.alloc (.cells #[.slice b p.length cb] 36) = w3 := ⟨_, rfl⟩
  rw [hw3] at s2 b2 hS3
  have s3 : Slot5 (w3.alloc (.cells #[.int .i64 0, .int .i64 0, .int .i64 0, .int .i64 0, .int .i64 0] 87)) w3.heap.size [] := slot5New w3 [] 87
  have b3 := bel1 w3 (.cells #[.int .i64 0, .int .i64 0, .int .i64 0, .int .i64 0, .int .i64 0] 87)
  obtain ⟨w0, hw0⟩ : ∃ w0, w3.alloc (.cells #[.int .i64 0, .int .i64 0, .int .i64 0, .int .i64 0, .int .i64 0] 87) = w0 := ⟨_, rfl⟩
  rw [hw0] at s3 b3
  rw [hS1] at s1
  rw [hS2] at s2
  rw [hS3] at s3
  have hW : (((w.alloc (.cells #[.int .i64 (gd p 0), .int .i64 (gd p 1), .int .i64 (gd p 2), .int .i64 (gd p 3), .int .i64 (gd p 4)] 87)).alloc (.cells #[.int .i64 reps, .slice a Q.length ca] 29)).alloc (.cells #[.slice b p.length cb] 36)).alloc (.cells #[.int .i64 0, .int .i64 0, .int .i64 0, .int .i64 0, .int .i64 0] 87) = w0 := by rw [hw1, hw2, hw3, hw0]
  have hB0 := behind (behind (behind b0 b1) b2) b3
  have s0 := ((s0.below b1).below b2).below b3
  have s1 := (s1.below b2).below b3
  have s2 := s2.below b3
  have hQ0 := hrQ.below hB0
  have hr0 := hr.below hB0
  have hs0 := hs.below hB0
  clear hw1 hw2 hw3 hw0 b0 b1 b2 b3 hS1 hS2 hS3 hrQ hr hs
  have cG := fun w' h1 h2 => implGone b c cb cc p l w' (by omega) hl h1 h2
  obtain ⟨t0, -⟩ := id s2
  unfold arr
  cases hg : p.findIdx? (Rg.lostB l) with
  | some k =>
    rw [mv_lost hg]
    rw [hg] at cG
    obtain ⟨hk, -⟩ := Rg.find_lt hg
    dsimp only [Rg.mvTo, Rg.idxI] at cG ⊢
    have hel : (p.eraseIdx k).length ≤ 1048576 := by have := List.length_eraseIdx_le p k; omega
    have cB := fun (b5 : Option Addr) (c5 : Nat) (w' : World) (h1 : RdP w' a Q) (h2 : RdZ w' b5 (p.eraseIdx k)) (h3 : RdS w' c l) => implBest reps a b5 c ca c5 cc Q (p.eraseIdx k) l w' hQ ht hel hl h1 h2 h3
    generalize Rg.best Q (p.eraseIdx k) l = x at cB ⊢
    have hk5 : k < 5 := by omega
    obtain ⟨q, hq⟩ : ∃ q, p.set k x = q := ⟨_, rfl⟩
    have HQ : Hid (p.set k x = q) := hq
    rw [hq]
    clear hq
    have ne1 : w.heap.size + 1 ≠ w.heap.size := by omega
    have ne2 : w.heap.size + 1 + 1 ≠ w.heap.size := by omega
    have hk0 : (0 : Int) ≤ (k : Int) := by omega
    have hk5i : (k : Int) < 5 := by omega
    clear hg
    go_enter Try.func61, Try.ntmps61
    go_wp2_with fail
    refine (cG _ hr0 hs0).mono ?_
    rintro e w4 ⟨rfl, hb4⟩
    have hB4 := behind hB0 hb4
    have s0 := s0.below hb4
    have s1 := s1.below hb4
    have s2 := s2.below hb4
    have s3 := s3.below hb4
    have hQ4 := hQ0.below hb4
    have hr4 := hr0.below hb4
    have hs4 := hs0.below hb4
    clear cG hb4 t0 hQ0 hr0 hs0
    obtain ⟨t0, -⟩ := id s2
    obtain ⟨⟨g0, g1⟩, -⟩ := id s1
    go_upto_region 3 with fail
    go_region_held3 (fun wy => wy.cell? ⟨w.heap.size + 1, 0, none⟩ = some (.int .i64 reps) ∧ wy.cell? ⟨w.heap.size + 1, 1, none⟩ = some (.slice a Q.length ca) ∧ wy.cell? ⟨w.heap.size + 1 + 1, 0, none⟩ = some (.slice b p.length cb))
      (first | exact ⟨g0, g1, t0⟩ | exact keepR3 ‹_› ‹_› | exact keepSet3 ‹_› ne1 ne1 ne2 | go_keep)
      (first | (go_at_call 85; refine (implWithout b cb k p _ (by omega) hk (by exact hr4)).mono ?_; rintro e w5 ⟨b5, c5, rfl, hr5, hb5⟩) | (go_at_call 20; refine (cB b5 c5 _ (by exact RdP.below (w := w4.drew) hQ4 hb5) (by exact hr5) (by exact RdS.below (w := w4.drew) hs4 hb5)).mono ?_; rintro e w6 ⟨rfl, hb6⟩; have q6 := Slot5.below (w := w4.drew) s0 (behind hb5 hb6); obtain ⟨u0, u1⟩ := q6 k hk5) | fail)
    have hB6 := behind (behind hB4.drew hb5) hb6
    have r6 := (Slot5.below (w := w4.drew) s3 (behind hb5 hb6)).far (b' := w.heap.size) (o := k) (x := .int .i64 x) (by omega)
    have q9 := q6.put hk hk5 x
    rw [HQ.out] at q9
    have hB9 : Below w.heap.size w (w6.setCell ⟨w.heap.size, k, none⟩ (.int .i64 x)) := hB6.setCell (Nat.le_refl _) _
    clear u0 u1 q6 hB6 hb5 hb6 hr5 s0 s1 s2 s3 hQ4 hr4 hs4 cB t0 g0 g1
    generalize w6.setCell ⟨w.heap.size, k, none⟩ (.int .i64 x) = w9 at r6 q9 hB9 ⊢
    obtain ⟨⟨c0, c1, c2, c3, c4⟩, -⟩ := q9.out
    obtain ⟨⟨d0, d1, d2, d3, d4⟩, f0, f1, f2, f3, f4⟩ := r6.out
    go_wp2
    obtain ⟨e0, e1, e2, e3, e4⟩ := store5 r6 (.int .i64 (gd q 0)) (.int .i64 (gd q 1)) (.int .i64 (gd q 2)) (.int .i64 (gd q 3)) (.int .i64 (gd q 4))
    refine bodyPost_ret (v := .agg #[.int .i64 (gd q 0), .int .i64 (gd q 1), .int .i64 (gd q 2), .int .i64 (gd q 3), .int .i64 (gd q 4)]) (by simp [results, Try.results61, go_sem, e0, e1, e2, e3, e4]) rfl ⟨rfl, below5 hB9 (by omega) _ _ _ _ _⟩
  | none =>
    rw [mv_heavy hg]
    rw [hg] at cG
    dsimp only [Rg.idxI] at cG
    have cB := fun (w' : World) (h1 : RdP w' a Q) (h2 : RdZ w' b p) (h3 : RdS w' c l) => implBest reps a b c ca cb cc Q p l w' hQ ht (by omega) hl h1 h2 h3
    generalize Rg.best Q p l = x at cB ⊢
    have cH := fun (w' : World) (h1 : RdP w' a Q) (h2 : RdZ w' b p) (h3 : RdS w' c l) => implHeavy reps a b c ca cb cc Q p l x w' hQ ht (by omega) hl h1 h2 h3
    clear hg
    cases hh : Rg.heavyK Q l p x with
    | none =>
      rw [hh] at cH
      dsimp only [Rg.idxI, Option.map, Rg.mvTo] at cH ⊢
      clear hh
      go_enter Try.func61, Try.ntmps61
      go_wp2_with fail
      refine (cG _ hr0 hs0).mono ?_
      rintro e w4 ⟨rfl, hb4⟩
      have hB4 := behind hB0 hb4
      have s0 := s0.below hb4
      have s1 := s1.below hb4
      have s2 := s2.below hb4
      have s3 := s3.below hb4
      have hQ4 := hQ0.below hb4
      have hr4 := hr0.below hb4
      have hs4 := hs0.below hb4
      clear cG hb4 t0 hQ0 hr0 hs0 hB0
      obtain ⟨t0, -⟩ := id s2
      obtain ⟨⟨g0, g1⟩, -⟩ := id s1
      go_wp2_with fail
      refine (cB _ hQ4 hr4 hs4).mono ?_
      rintro e w5 ⟨rfl, hb5⟩
      have hB5 := behind hB4 hb5
      have s0 := s0.below hb5
      have s1 := s1.below hb5
      have s2 := s2.below hb5
      have s3 := s3.below hb5
      have hQ5 := hQ4.below hb5
      have hr5 := hr4.below hb5
      have hs5 := hs4.below hb5
      clear cB hb5 t0 g0 g1 hQ4 hr4 hs4 hB4
      obtain ⟨t0, -⟩ := id s2
      obtain ⟨⟨g0, g1⟩, -⟩ := id s1
      go_wp2_with fail
      refine (cH _ hQ5 hr5 hs5).mono ?_
      rintro e w6 ⟨rfl, hb6⟩
      have hB9 := behind hB5 hb6
      have q9 := s0.below hb6
      have r6 := s3.below hb6
      clear cH hb6 t0 g0 g1 hQ5 hr5 hs5 s0 s1 s2 s3 hB5
      obtain ⟨⟨c0, c1, c2, c3, c4⟩, -⟩ := q9.out
      obtain ⟨⟨d0, d1, d2, d3, d4⟩, f0, f1, f2, f3, f4⟩ := r6.out
      go_wp2
      obtain ⟨e0, e1, e2, e3, e4⟩ := store5 r6 (.int .i64 (gd p 0)) (.int .i64 (gd p 1)) (.int .i64 (gd p 2)) (.int .i64 (gd p 3)) (.int .i64 (gd p 4))
      refine bodyPost_ret (v := .agg #[.int .i64 (gd p 0), .int .i64 (gd p 1), .int .i64 (gd p 2), .int .i64 (gd p 3), .int .i64 (gd p 4)]) (by simp [results, Try.results61, go_sem, e0, e1, e2, e3, e4]) rfl ⟨rfl, below5 hB9 (by omega) _ _ _ _ _⟩
    | some k =>
      rw [hh] at cH
      have hk := heavy_lt hh
      dsimp only [Rg.idxI, Option.map, Rg.mvTo] at cH ⊢
      have hk5 : k < 5 := by omega
      obtain ⟨q, hq⟩ : ∃ q, p.set k x = q := ⟨_, rfl⟩
      have HQ : Hid (p.set k x = q) := hq
      rw [hq]
      clear hq
      have ne1 : w.heap.size + 1 ≠ w.heap.size := by omega
      have ne2 : w.heap.size + 1 + 1 ≠ w.heap.size := by omega
      have hk0 : (0 : Int) ≤ (k : Int) := by omega
      have hk5i : (k : Int) < 5 := by omega
      clear hh
      go_enter Try.func61, Try.ntmps61
      go_wp2_with fail
      refine (cG _ hr0 hs0).mono ?_
      rintro e w4 ⟨rfl, hb4⟩
      have hB4 := behind hB0 hb4
      have s0 := s0.below hb4
      have s1 := s1.below hb4
      have s2 := s2.below hb4
      have s3 := s3.below hb4
      have hQ4 := hQ0.below hb4
      have hr4 := hr0.below hb4
      have hs4 := hs0.below hb4
      clear cG hb4 t0 hQ0 hr0 hs0 hB0
      obtain ⟨t0, -⟩ := id s2
      obtain ⟨⟨g0, g1⟩, -⟩ := id s1
      go_wp2_with fail
      refine (cB _ hQ4 hr4 hs4).mono ?_
      rintro e w5 ⟨rfl, hb5⟩
      have hB5 := behind hB4 hb5
      have s0 := s0.below hb5
      have s1 := s1.below hb5
      have s2 := s2.below hb5
      have s3 := s3.below hb5
      have hQ5 := hQ4.below hb5
      have hr5 := hr4.below hb5
      have hs5 := hs4.below hb5
      clear cB hb5 t0 g0 g1 hQ4 hr4 hs4 hB4
      obtain ⟨t0, -⟩ := id s2
      obtain ⟨⟨g0, g1⟩, -⟩ := id s1
      go_wp2_with fail
      refine (cH _ hQ5 hr5 hs5).mono ?_
      rintro e w6 ⟨rfl, hb6⟩
      have hB6 := behind hB5 hb6
      have q6 := s0.below hb6
      have r5 := s3.below hb6
      clear cH hb6 t0 g0 g1 hQ5 hr5 hs5 s0 s1 s2 s3 hB5
      obtain ⟨u0, u1⟩ := q6 k hk5
      have r6 := r5.far (b' := w.heap.size) (o := k) (x := .int .i64 x) (by omega)
      have q9 := q6.put hk hk5 x
      rw [HQ.out] at q9
      have hB9 : Below w.heap.size w (w6.setCell ⟨w.heap.size, k, none⟩ (.int .i64 x)) := hB6.setCell (Nat.le_refl _) _
      go_upto_region 9 with fail
      generalize w6.setCell ⟨w.heap.size, k, none⟩ (.int .i64 x) = w9 at r6 q9 hB9 ⊢
      obtain ⟨⟨c0, c1, c2, c3, c4⟩, -⟩ := q9.out
      obtain ⟨⟨d0, d1, d2, d3, d4⟩, f0, f1, f2, f3, f4⟩ := r6.out
      clear u0 u1 q6 r5
      go_wp2
      obtain ⟨e0, e1, e2, e3, e4⟩ := store5 r6 (.int .i64 (gd q 0)) (.int .i64 (gd q 1)) (.int .i64 (gd q 2)) (.int .i64 (gd q 3)) (.int .i64 (gd q 4))
      refine bodyPost_ret (v := .agg #[.int .i64 (gd q 0), .int .i64 (gd q 1), .int .i64 (gd q 2), .int .i64 (gd q 3), .int .i64 (gd q 4)]) (by simp [results, Try.results61, go_sem, e0, e1, e2, e3, e4]) rfl ⟨rfl, below5 hB9 (by omega) _ _ _ _ _⟩
end Go.Proofs.Ytcejeiakgmamdac.Wk

namespace Go.Proofs.Ytcejeiakgmamdac.Wk
set_option linter.unusedVariables false
open Go.ChangeShapes Go.WideShapes Go.ChangeAt Go.RowKit

set_option maxHeartbeats 2000000 in
theorem eqArr (a0 a1 a2 a3 a4 b0 b1 b2 b3 b4 : Int) (w : World) :
    (Op.equalIn 10000 87 (.agg #[.int .i64 a0, .int .i64 a1, .int .i64 a2, .int .i64 a3, .int .i64 a4]) (.agg #[.int .i64 b0, .int .i64 b1, .int .i64 b2, .int .i64 b3, .int .i64 b4])).run Try.prog w = .ok (a0 == b0 && (a1 == b1 && (a2 == b2 && (a3 == b3 && a4 == b4)))) w := by
  have u3 := Try.underlying3
  have i3 := Try.isAgg3
  have z3 := Try.sizeOf3
  rw [show (10000 : Nat) = 9999 + 1 from rfl, Op.equalIn]
  simp only [Sem.run_bind, run_underlying Try.underlying87, Result.andThen_ok]
  simp only [Std.Legacy.Range.forIn_eq_forIn_range', Std.Legacy.Range.size, Nat.sub_zero, Nat.add_sub_cancel, Nat.div_one, List.range'_succ, List.range'_zero, List.forIn_cons, List.forIn_nil]
  go_simp
  by_cases h0 : a0 = b0
  · by_cases h1 : a1 = b1
    · by_cases h2 : a2 = b2
      · by_cases h3 : a3 = b3
        · by_cases h4 : a4 = b4
          · simp [h0, h1, h2, h3, h4]
          · simp [h0, h1, h2, h3, h4]
        · simp [h0, h1, h2, h3]
      · simp [h0, h1, h2]
    · simp [h0, h1]
  · simp [h0]
theorem eqArrSame (p : List Int) (w : World) : (Op.equalIn 10000 87 (.agg #[.int .i64 (gd p 0), .int .i64 (gd p 1), .int .i64 (gd p 2), .int .i64 (gd p 3), .int .i64 (gd p 4)]) (.agg #[.int .i64 (gd p 0), .int .i64 (gd p 1), .int .i64 (gd p 2), .int .i64 (gd p 3), .int .i64 (gd p 4)])).run Try.prog w = .ok true w := by
  rw [eqArr]
  simp
theorem eqArrOther (p q : List Int) (j : Nat) (hj : j < 5) (h : gd q j ≠ gd p j) (w : World) : (Op.equalIn 10000 87 (.agg #[.int .i64 (gd q 0), .int .i64 (gd q 1), .int .i64 (gd q 2), .int .i64 (gd q 3), .int .i64 (gd q 4)]) (.agg #[.int .i64 (gd p 0), .int .i64 (gd p 1), .int .i64 (gd p 2), .int .i64 (gd p 3), .int .i64 (gd p 4)])).run Try.prog w = .ok false w := by
  rw [eqArr]
  have : (gd q 0 == gd p 0 && (gd q 1 == gd p 1 && (gd q 2 == gd p 2 && (gd q 3 == gd p 3 && gd q 4 == gd p 4)))) = false := by
    match j, hj with
    | 0, _ => simp [h]
    | 1, _ => simp [h]
    | 2, _ => simp [h]
    | 3, _ => simp [h]
    | 4, _ => simp [h]
  rw [this]
theorem gd_in {p : List Int} {j : Nat} (h : j < p.length) : gd p j ∈ p := by
  unfold gd
  rw [List.getD_eq_getElem?_getD, List.getElem?_eq_getElem h]
  exact List.getElem_mem h
end Go.Proofs.Ytcejeiakgmamdac.Wk

namespace Go.Proofs.Ytcejeiakgmamdac.Wk
set_option linter.unusedVariables false
open Go.ChangeShapes Go.WideShapes Go.ChangeAt Go.RowKit

theorem keep8 {w w' : World} {a1 a2 a3 a4 a5 a6 a7 a8 : Addr} {v1 v2 v3 v4 v5 v6 v7 v8 : Value} (h : w.cell? a1 = some v1 ∧ w.cell? a2 = some v2 ∧ w.cell? a3 = some v3 ∧ w.cell? a4 = some v4 ∧ w.cell? a5 = some v5 ∧ w.cell? a6 = some v6 ∧ w.cell? a7 = some v7 ∧ w.cell? a8 = some v8) (hb : Below w.heap.size w w') :
    w'.cell? a1 = some v1 ∧ w'.cell? a2 = some v2 ∧ w'.cell? a3 = some v3 ∧ w'.cell? a4 = some v4 ∧ w'.cell? a5 = some v5 ∧ w'.cell? a6 = some v6 ∧ w'.cell? a7 = some v7 ∧ w'.cell? a8 = some v8 :=
  ⟨by rw [hb.cell (World.block_lt_of_cell? w _ h.1)]; exact h.1, by rw [hb.cell (World.block_lt_of_cell? w _ h.2.1)]; exact h.2.1, by rw [hb.cell (World.block_lt_of_cell? w _ h.2.2.1)]; exact h.2.2.1, by rw [hb.cell (World.block_lt_of_cell? w _ h.2.2.2.1)]; exact h.2.2.2.1, keepR4 h.2.2.2.2 hb⟩

set_option maxHeartbeats 4000000 in
set_option maxRecDepth 100000 in
theorem implRebNo (reps : Int) (a c : Option Addr) (ca cc : Nat) (Q : List (List Int)) (l : List Sm.St) (w : World) (hQ : Q.length ≤ 1048576) (ht : tot Q ≤ 1048576) (hl : l.length ≤ 1048576) (hr : RdN w a Q) (hnil : a = none → ca = 0) (hs : RdS w c l) (hno : Rg.movB reps Q l = false) :
    Calls Try.prog 26 #[.agg #[.int .i64 reps, .slice a Q.length ca], .slice c l.length cc] w fun e w' => ∃ (a' : Option Addr) (ca' : Nat), e = .returned (.tuple #[.agg #[.int .i64 reps, .slice a' Q.length ca'], .int .i64 (-1)]) ∧
      OwnP w' w.heap.size (.slice a' Q.length ca') Q ∧ Below w.heap.size w w' := by
  have hpp : ∀ p ∈ Q, p.length ≤ 1048576 := fun p h => Nat.le_trans (tot_mem h) ht
  have cM := fun a' ca' w' h1 h2 => implMov reps a' c ca' cc Q l w' hQ hpp hl h1 h2
  rw [hno] at cM
  have s0 := (slot2New w (.int .i64 reps) (.slice a Q.length ca) 29).below (bel1 _ (.cells #[.int .i64 0, .slice none 0 0] 29))
  have r0 := slot2New (w.alloc (.cells #[.int .i64 reps, .slice a Q.length ca] 29)) (.int .i64 0) (.slice none 0 0) 29
  have hB0 := bel2 w (.cells #[.int .i64 reps, .slice a Q.length ca] 29) (.cells #[.int .i64 0, .slice none 0 0] 29)
  have hr0 := hr.below hB0
  have hs0 := hs.below hB0
  have hz0 : ((w.alloc (.cells #[.int .i64 reps, .slice a Q.length ca] 29)).alloc (.cells #[.int .i64 0, .slice none 0 0] 29)).heap.size = w.heap.size + 2 := by simp
  rw [World.size_alloc] at r0
  go_enter Try.func26, Try.ntmps26
  go_wp2_with fail
  generalize (w.alloc (.cells #[.int .i64 reps, .slice a Q.length ca] 29)).alloc (.cells #[.int .i64 0, .slice none 0 0] 29) = w2 at s0 r0 hB0 hr0 hs0 hz0 ⊢
  refine (implCopy reps a ca Q _ hQ hpp hr0 hnil).mono ?_
  rintro e w3 ⟨a3, c3, rfl, hO3, hb3⟩
  have bN := bel1 w3 (.cells #[.int .i64 reps, .slice a3 Q.length c3] 29)
  have n0 := slot2New w3 (.int .i64 reps) (.slice a3 Q.length c3) 29
  have hb4 := behind hb3 bN
  have s4 := s0.below hb4
  have r4 := r0.below hb4
  have hB4 := behind hB0 hb4
  have hO4 := hO3.below bN
  have hr4 := hr0.below hb4
  have hs4 := hs0.below hb4
  obtain ⟨⟨x0, x1⟩, -⟩ := id s4
  go_wp2_with fail
  generalize w3.alloc (.cells #[.int .i64 reps, .slice a3 Q.length c3] 29) = w4 at bN n0 hb4 s4 r4 hB4 hO4 hr4 hs4 x0 x1 ⊢
  refine (cM _ _ _ hr4.rd hs4).mono ?_
  rintro e w5 ⟨rfl, hb5⟩
  have r5 := r4.below hb5
  have n5 := n0.below hb5
  have hO5 := hO4.below hb5
  have hB5 := behind hB4 hb5
  obtain ⟨⟨t0, t1⟩, t2, t3⟩ := id r5
  obtain ⟨⟨y0, y1⟩, -⟩ := id n5
  clear x0 x1 cM s0 s4 r0 r4
  go_wp2
  have e0 : ((w5.setCell ⟨w.heap.size + 1, 0, none⟩ (.int .i64 reps)).setCell ⟨w.heap.size + 1, 1, none⟩ (.slice a3 Q.length c3)).cell? ⟨w.heap.size + 1, 0, none⟩ = some (.int .i64 reps) := by
    rw [World.cell?_setCell_other _ _ _ _ (by simp)]
    exact World.cell?_setCell_same' _ _ _ (by rw [t0]; rfl)
  have e1 : ((w5.setCell ⟨w.heap.size + 1, 0, none⟩ (.int .i64 reps)).setCell ⟨w.heap.size + 1, 1, none⟩ (.slice a3 Q.length c3)).cell? ⟨w.heap.size + 1, 1, none⟩ = some (.slice a3 Q.length c3) :=
    World.cell?_setCell_same' _ _ _ (by rw [World.cell?_setCell_other _ _ _ _ (by simp), t1]; rfl)
  refine bodyPost_ret (v := .tuple #[.agg #[.int .i64 reps, .slice a3 Q.length c3], .int .i64 (-1)]) (by simp [results, Try.results26, go_sem, e0, e1]) rfl ⟨a3, c3, rfl, ?_, ?_⟩
  · exact ((hO5.far (by omega)).far (by omega)).mono (by omega)
  · exact (hB5.setCell (by show w.heap.size ≤ w.heap.size + 1; omega) _).setCell (by show w.heap.size ≤ w.heap.size + 1; omega) _

set_option maxHeartbeats 8000000 in
set_option maxRecDepth 100000 in
theorem implRebYes (reps : Int) (a c : Option Addr) (ca cc : Nat) (Q : List (List Int)) (l : List Sm.St) (w : World) (hr : RdN w a Q) (hnil : a = none → ca = 0) (hs : RdS w c l) (hyes : Rg.movB reps Q l = true) :
    Calls Try.prog 26 #[.agg #[.int .i64 reps, .slice a Q.length ca], .slice c l.length cc] w fun e w' => ∃ (a' : Option Addr) (ca' : Nat), e = .returned (.tuple #[.agg #[.int .i64 reps, .slice a' Q.length ca'], .int .i64 ((Rg.rebK l Q Q.length).2 : Int)]) ∧
      OwnP w' w.heap.size (.slice a' Q.length ca') (Rg.rebK l Q Q.length).1 ∧ Below w.heap.size w w' := by
  obtain ⟨hd, ⟨hr1, hr5⟩, ⟨hq1, hq64⟩, hrl⟩ := Rg.mov_head hyes
  have hev := Rg.mov_each hyes
  have hQ : Q.length ≤ 1048576 := by omega
  obtain ⟨⟨hl1, hl12⟩, -⟩ := Dv.devs_dev hd
  have hl : l.length ≤ 1048576 := by omega
  have hpl : ∀ q ∈ Q, 1 ≤ q.length ∧ q.length ≤ 5 := fun q hq => by have := (hev q hq).2; omega
  have hpp : ∀ p ∈ Q, p.length ≤ 1048576 := fun p h => by have := hpl p h; omega
  have HR : Hid (∀ k, k ≤ Q.length → tot (Rg.rebK l Q k).1 ≤ 1048576) := fun k hk => by
    have h5 : ∀ q ∈ (Rg.rebK l Q k).1, q.length ≤ 5 := Rg.rebK_each (φ := fun q => q.length ≤ 5) (fun q hq => (hpl q hq).2) (fun R q hq => by rw [Rg.mvTo_len]; exact (hpl q hq).2) k hk
    have h6 : ∀ (ps : List (List Int)), (∀ q ∈ ps, q.length ≤ 5) → tot ps ≤ ps.length * 5 := by
      intro ps
      induction ps with
      | nil => intro _; simp [tot]
      | cons a r ih =>
        intro h
        have h1 := ih (fun q hq => h q (List.mem_cons_of_mem _ hq))
        have h2 := h a List.mem_cons_self
        simp only [tot, List.map_cons, List.sum_cons, List.length_cons] at h1 ⊢
        omega
    have := h6 _ h5
    rw [Rg.rebK_len] at this
    omega
  have HQ : Hid (∀ q ∈ Q, q.Nodup ∧ (q.length : Int) = reps) := hev
  have HP : Hid (∀ q ∈ Q, 1 ≤ q.length ∧ q.length ≤ 5) := hpl
  have HD : Hid (Dv.devs l = true) := hd
  have cM := fun a' ca' w' h1 h2 => implMov reps a' c ca' cc Q l w' hQ hpp hl h1 h2
  rw [hyes] at cM
  obtain ⟨G, hG⟩ : ∃ G, Rg.rebK l Q Q.length = G := ⟨_, rfl⟩
  have HG : Hid (Rg.rebK l Q Q.length = G) := hG
  rw [hG]
  clear hd hev hpl hyes hG
  have s0 := (slot2New w (.int .i64 reps) (.slice a Q.length ca) 29).below (bel1 _ (.cells #[.int .i64 0, .slice none 0 0] 29))
  have r0 := slot2New (w.alloc (.cells #[.int .i64 reps, .slice a Q.length ca] 29)) (.int .i64 0) (.slice none 0 0) 29
  have hB0 := bel2 w (.cells #[.int .i64 reps, .slice a Q.length ca] 29) (.cells #[.int .i64 0, .slice none 0 0] 29)
  have hr0 := hr.below hB0
  have hs0 := hs.below hB0
  have hz0 : ((w.alloc (.cells #[.int .i64 reps, .slice a Q.length ca] 29)).alloc (.cells #[.int .i64 0, .slice none 0 0] 29)).heap.size = w.heap.size + 2 := by simp
  rw [World.size_alloc] at r0
  go_enter Try.func26, Try.ntmps26
  go_wp2_with fail
  generalize (w.alloc (.cells #[.int .i64 reps, .slice a Q.length ca] 29)).alloc (.cells #[.int .i64 0, .slice none 0 0] 29) = w2 at s0 r0 hB0 hr0 hs0 hz0 ⊢
  refine (implCopy reps a ca Q _ hQ hpp hr0 hnil).mono ?_
  rintro e w3 ⟨a3, c3, rfl, hO3, hb3⟩
  have bN := bel1 w3 (.cells #[.int .i64 reps, .slice a3 Q.length c3] 29)
  have n0 := slot2New w3 (.int .i64 reps) (.slice a3 Q.length c3) 29
  have hb4 := behind hb3 bN
  have s4 := s0.below hb4
  have hr4 := hr0.below hb4
  have hs4 := hs0.below hb4
  obtain ⟨vs, hrow3, hE3⟩ := hO3
  have hrow4 := ownOn hrow3 bN
  have hE4 := hE3.below bN
  have HF : Hid (∀ i u, i < Q.length → vs[i]? = some u → ∀ j, u.ownBlock = some j → j < w3.heap.size) := fun i u hi h j e => by
    obtain ⟨x, e1, e2, -⟩ := hE3.1 i hi hi
    rw [h] at e1
    have := Option.some.inj e1
    subst this
    exact (World.ownsRow.lt e2 j e).2
  obtain ⟨g, rfl⟩ : ∃ g, a3 = some ⟨g, 0, none⟩ := by
    rcases hrow3.2 with ⟨_, h0⟩ | ⟨g, cap', cur, e, _⟩
    · omega
    · simp only [Value.slice.injEq] at e
      exact ⟨g, e.1⟩
  have hg3 := (World.ownsRow.lt hrow3 g rfl)
  obtain ⟨⟨x0, x1⟩, -⟩ := id s4
  obtain ⟨B, hB⟩ : ∃ B, w3.heap.size = B := ⟨_, rfl⟩
  rw [hB] at n0 HF hg3
  clear hrow3 hE3
  go_wp2_with fail
  generalize w3.alloc (.cells #[.int .i64 reps, .slice (some ⟨g, 0, none⟩) Q.length c3] 29) = w4 at bN n0 hb4 s4 hr4 hs4 hrow4 hE4 x0 x1 ⊢
  refine (cM _ _ _ hr4.rd hs4).mono ?_
  rintro e w5 ⟨rfl, hb5⟩
  have n5 := n0.below hb5
  have hrow5 := ownOn hrow4 hb5
  have hE5 := hE4.below hb5
  have hb25 := behind hb4 hb5
  obtain ⟨⟨y0, y1⟩, -⟩ := id n5
  have hs5' := hs0
  clear x0 x1 cM s0 s4 n0 hr0 hr4 hrow4 hE4 hs4 hb4 hb5 bN
  go_wp2
  clear y0 y1
  clear hB
  go_loopw [7, 22] (fun n i wr => ∃ k : Nat, k ≤ Q.length ∧ i = .int .i64 k ∧ n = .int .i64 ((Rg.rebK l Q k).2 : Int) ∧ Slot2 wr B (.int .i64 reps) (.slice (some ⟨g, 0, none⟩) Q.length c3) ∧ wr.ownsRow w2.heap.size 36 1 (.slice (some ⟨g, 0, none⟩) Q.length c3) Q.length vs ∧ OwnE wr w2.heap.size (some g) vs (Rg.rebK l Q k).1 Q.length ∧ Below w2.heap.size w2 wr) (fun _ i _ => Q.length - (intOf i).toNat)
  case atStart => exact ⟨0, Nat.zero_le _, rfl, rfl, n5, hrow5, hE5, hb25⟩
  case round =>
    obtain ⟨k, hk, rfl, rfl, sk, hrowk, hEk, hb⟩ := hrel
    clear n5 hrow5 hE5 hb25
    obtain ⟨⟨y0, y1⟩, -⟩ := id sk
    by_cases hlt : k < Q.length
    · have hRl : (Rg.rebK l Q k).1.length = Q.length := Rg.rebK_len l Q k
      have hnk : (Rg.rebK l Q k).2 ≤ k := Rg.rebK_le l Q k
      have htk := HR.out k hk
      obtain ⟨hnd, hln⟩ := HQ.out Q[k] (List.getElem_mem hlt)
      obtain ⟨hp1, hp5⟩ := HP.out Q[k] (List.getElem_mem hlt)
      have HST : Hid (Rg.rebK l Q (k + 1) = ((Rg.rebK l Q k).1.set k (Rg.mvTo Q[k] (Rg.mvOne (Rg.rebK l Q k).1 l Q[k])), (Rg.rebK l Q k).2 + Rg.mvN (Rg.mvOne (Rg.rebK l Q k).1 l Q[k]))) := Rg.rebK_step hlt
      have hRk : (Rg.rebK l Q k).1[k]'(by omega) = Q[k] := Rg.rebK_at hlt (by omega)
      have HMV : Hid (∀ j x, Rg.mvOne (Rg.rebK l Q k).1 l Q[k] = some (j, x) → j < Q[k].length ∧ x ∉ Q[k]) := fun j x h => by
        have := Rg.mvOne_is HD.out hnd (by omega) h
        exact ⟨this.1, this.2.1⟩
      obtain ⟨u, hu1, hu2, hu3⟩ := hEk.1 k (by omega) (by omega)
      have hub := HF.out k u hlt hu1
      rw [hRk] at hu2
      obtain ⟨au, cu, rfl⟩ := Zv_shape hu2
      have hRP : RdP wr (some ⟨g, 0, none⟩) (Rg.rebK l Q k).1 := (show OwnP wr w2.heap.size (.slice (some ⟨g, 0, none⟩) Q.length c3) (Rg.rebK l Q k).1 from ⟨vs, by rw [hRl]; exact hrowk, by rw [hRl]; exact hEk⟩).rdS
      have hzu := Zv_rd hu2
      have hcell := hrowk.cellAt k (by have := hrowk.1; omega)
      rw [hu1] at hcell
      have hsr := hs5'.below hb
      clear hRk hln
      generalize (Rg.rebK l Q k).2 = n at HST hnk
      generalize (Rg.rebK l Q k).1 = R at HST hRl htk HMV hEk hRP
      generalize Q[k] = p at HST hnd hp1 hp5 HMV hu1 hu2 hu3 hub hcell hzu
      have cI := fun (w' : World) (h : RdZ w' au p) => implIds au cu p w' hp1 hp5 h
      obtain ⟨M, hM⟩ : ∃ M, Rg.mvOne R l p = M := ⟨_, rfl⟩
      obtain ⟨q, hq⟩ : ∃ q, Rg.mvTo p M = q := ⟨_, rfl⟩
      have cO := fun (w' : World) (h1 : RdP w' (some ⟨g, 0, none⟩) R) (h2 : RdZ w' au p) (h3 : RdS w' c l) => implOne reps (some ⟨g, 0, none⟩) au c c3 cu cc R p l w' (by omega) htk hp1 hp5 hl h1 h2 h3
      rw [hM] at HST HMV cO
      rw [hq] at HST cO
      rw [hRl] at cO
      unfold arr at cO
      have HQM : Hid (Rg.mvTo p M = q) := hq
      clear hM hq
      go_wp2_with fail
      refine (cI _ hzu).mono ?_
      rintro e wI ⟨rfl, hbI⟩
      have bA := bel1 wI (.cells #[.int .i64 (gd p 0), .int .i64 (gd p 1), .int .i64 (gd p 2), .int .i64 (gd p 3), .int .i64 (gd p 4)] 87)
      have sA : Slot5 (wI.alloc (.cells #[.int .i64 (gd p 0), .int .i64 (gd p 1), .int .i64 (gd p 2), .int .i64 (gd p 3), .int .i64 (gd p 4)] 87)) wI.heap.size p := slot5New wI p 87
      have hbA := behind hbI bA
      go_upto_region 10 with fail
      generalize wI.alloc (.cells #[.int .i64 (gd p 0), .int .i64 (gd p 1), .int .i64 (gd p 2), .int .i64 (gd p 3), .int .i64 (gd p 4)] 87) = wA at bA sA hbA ⊢
      obtain ⟨A, hA⟩ : ∃ A, wI.heap.size = A := ⟨_, rfl⟩
      rw [hA] at sA ⊢
      clear bA hbI hA cI hcell y0 y1 hzu
      have kA := sk.below hbA
      have rowA := ownOn hrowk hbA
      have hRA := hRP.below hbA
      have hlA := hsr.below hbA
      have uA := ownOn hu2 hbA
      have hcellA := rowA.cellAt k (by have := rowA.1; omega)
      rw [hu1] at hcellA
      go_cut [11] (fun v wx => ∃ (Ba : Nat), v = .pointer (some ⟨Ba, 0, none⟩) ∧ wx.heap[Ba]? = some (.cells (five q).toArray 87 (0, 0)) ∧ Below wA.heap.size wA wx)
      case first =>
        obtain ⟨⟨c0, c1, c2, c3', c4⟩, -⟩ := sA.out
        obtain ⟨⟨y0, y1⟩, -⟩ := id kA
        have hK8 : wA.cell? ⟨A, 0, none⟩ = some (.int .i64 (gd p 0)) ∧ wA.cell? ⟨A, 1, none⟩ = some (.int .i64 (gd p 1)) ∧ wA.cell? ⟨A, 2, none⟩ = some (.int .i64 (gd p 2)) ∧ wA.cell? ⟨A, 3, none⟩ = some (.int .i64 (gd p 3)) ∧ wA.cell? ⟨A, 4, none⟩ = some (.int .i64 (gd p 4)) ∧ wA.cell? ⟨B, 0, none⟩ = some (.int .i64 reps) ∧ wA.cell? ⟨B, 1, none⟩ = some (.slice (some ⟨g, 0, none⟩) Q.length c3) ∧ wA.cell? ⟨g, k, none⟩ = some (.slice au p.length cu) := ⟨c0, c1, c2, c3', c4, y0, y1, hcellA⟩
        have HK8 : Hid _ := hK8
        have bZ := bel1 wA (.cells #[.int .i64 0, .int .i64 0, .int .i64 0, .int .i64 0, .int .i64 0] 87)
        have hZ : (wA.alloc (.cells #[.int .i64 0, .int .i64 0, .int .i64 0, .int .i64 0, .int .i64 0] 87)).heap[wA.heap.size]? = some (.cells (five []).toArray 87 (0, 0)) := heapNew wA [] 87
        have hsZ : wA.heap.size < (wA.alloc (.cells #[.int .i64 0, .int .i64 0, .int .i64 0, .int .i64 0, .int .i64 0] 87)).heap.size := by simp
        have hRZ := hRA.below bZ
        have hlZ := hlA.below bZ
        have hzA := Zv_rd uA
        have hzZ := hzA.below bZ
        have HZ : Hid ((wA.alloc (.cells #[.int .i64 0, .int .i64 0, .int .i64 0, .int .i64 0, .int .i64 0] 87)).heap[wA.heap.size]? = some (.cells (five []).toArray 87 (0, 0))) := hZ
        have HKA : Hid (wA.drew.cell? ⟨A, 0, none⟩ = some (.int .i64 (gd p 0)) ∧ wA.drew.cell? ⟨A, 1, none⟩ = some (.int .i64 (gd p 1)) ∧ wA.drew.cell? ⟨A, 2, none⟩ = some (.int .i64 (gd p 2)) ∧ wA.drew.cell? ⟨A, 3, none⟩ = some (.int .i64 (gd p 3)) ∧ wA.drew.cell? ⟨A, 4, none⟩ = some (.int .i64 (gd p 4)) ∧ wA.drew.cell? ⟨B, 0, none⟩ = some (.int .i64 reps) ∧ wA.drew.cell? ⟨B, 1, none⟩ = some (.slice (some ⟨g, 0, none⟩) Q.length c3) ∧ wA.drew.cell? ⟨g, k, none⟩ = some (.slice au p.length cu)) := hK8
        have HKZ : Hid ((wA.alloc (.cells #[.int .i64 0, .int .i64 0, .int .i64 0, .int .i64 0, .int .i64 0] 87)).drew.cell? ⟨A, 0, none⟩ = some (.int .i64 (gd p 0)) ∧ (wA.alloc (.cells #[.int .i64 0, .int .i64 0, .int .i64 0, .int .i64 0, .int .i64 0] 87)).drew.cell? ⟨A, 1, none⟩ = some (.int .i64 (gd p 1)) ∧ (wA.alloc (.cells #[.int .i64 0, .int .i64 0, .int .i64 0, .int .i64 0, .int .i64 0] 87)).drew.cell? ⟨A, 2, none⟩ = some (.int .i64 (gd p 2)) ∧ (wA.alloc (.cells #[.int .i64 0, .int .i64 0, .int .i64 0, .int .i64 0, .int .i64 0] 87)).drew.cell? ⟨A, 3, none⟩ = some (.int .i64 (gd p 3)) ∧ (wA.alloc (.cells #[.int .i64 0, .int .i64 0, .int .i64 0, .int .i64 0, .int .i64 0] 87)).drew.cell? ⟨A, 4, none⟩ = some (.int .i64 (gd p 4)) ∧ (wA.alloc (.cells #[.int .i64 0, .int .i64 0, .int .i64 0, .int .i64 0, .int .i64 0] 87)).drew.cell? ⟨B, 0, none⟩ = some (.int .i64 reps) ∧ (wA.alloc (.cells #[.int .i64 0, .int .i64 0, .int .i64 0, .int .i64 0, .int .i64 0] 87)).drew.cell? ⟨B, 1, none⟩ = some (.slice (some ⟨g, 0, none⟩) Q.length c3) ∧ (wA.alloc (.cells #[.int .i64 0, .int .i64 0, .int .i64 0, .int .i64 0, .int .i64 0] 87)).drew.cell? ⟨g, k, none⟩ = some (.slice au p.length cu)) := keep8 hK8 bZ.drew
        clear hZ hK8
        go_region_held3 (fun wy => wy.cell? ⟨A, 0, none⟩ = some (.int .i64 (gd p 0)) ∧ wy.cell? ⟨A, 1, none⟩ = some (.int .i64 (gd p 1)) ∧ wy.cell? ⟨A, 2, none⟩ = some (.int .i64 (gd p 2)) ∧ wy.cell? ⟨A, 3, none⟩ = some (.int .i64 (gd p 3)) ∧ wy.cell? ⟨A, 4, none⟩ = some (.int .i64 (gd p 4)) ∧ wy.cell? ⟨B, 0, none⟩ = some (.int .i64 reps) ∧ wy.cell? ⟨B, 1, none⟩ = some (.slice (some ⟨g, 0, none⟩) Q.length c3) ∧ wy.cell? ⟨g, k, none⟩ = some (.slice au p.length cu))
          (first | with_reducible exact HK8.out | with_reducible exact HKA.out | with_reducible exact keep8 HKA.out hbO | with_reducible exact HKZ.out | with_reducible exact keep8 HKZ.out hbO | with_reducible exact keep8 HKA.out (behind hbO (bel1 _ _)) | with_reducible exact keep8 HK8.out (below5 (behind bZ.drew hbO) (Nat.le_refl _) _ _ _ _ _) | fail)
          (first | (go_at_call 61; refine (cO _ (by first | exact hRA | exact hRZ) (by first | exact hzA | exact hzZ) (by first | exact hlA | exact hlZ)).mono ?_; rintro e wO ⟨rfl, hbO⟩; (first | (have h5 : wO.heap[wA.heap.size]? = some (.cells (five []).toArray 87 (0, 0)) := ((hbO.block wA.heap.size (by exact hsZ)).trans HZ.out); obtain ⟨⟨k0, k1, k2, k3, k4⟩, l0, l1, l2, l3, l4⟩ := (slot5Of h5).out) | skip)) | fail)
        · go_wp2_with fail
          go_meet
          exact ⟨wO.heap.size, rfl, heapNew wO q 87, behind (behind (Below.refl _ _).drew hbO) (bel1 _ _)⟩
        · go_wp2_with fail
          go_meet
          exact ⟨wA.heap.size, rfl, heap5 h5 q, below5 (behind bZ.drew hbO) (Nat.le_refl _) _ _ _ _ _⟩
      case rest =>
        obtain ⟨Ba, rfl, hBa, hbx⟩ := hcut
        have kx := kA.below hbx
        have rowx := ownOn rowA hbx
        have sx := sA.below hbx
        have ux := ownOn uA hbx
        have Ex := (hEk.below hbA).below hbx
        have hbwx := behind (behind hb hbA) hbx
        have s11 := slot5Of hBa
        obtain ⟨⟨c0, c1, c2, c3', c4⟩, -⟩ := sx.out
        obtain ⟨⟨d0, d1, d2, d3, d4⟩, -⟩ := s11.out
        clear cO hRP hRA hlA kA rowA sA uA hcellA hrowk hu2 sk hEk hbA hbx
        have hgR : wc.grownBy wc (Value.slice au p.length cu).ownBlock := ⟨rfl, rfl, rfl, Nat.le_refl _, fun _ _ _ => rfl⟩
        cases M with
        | none =>
          have hqp : p = q := HQM.out
          subst hqp
          have hE := eqArrSame p
          have FIN : OwnE wc w2.heap.size (some g) vs (R.set k p) Q.length := OwnE.turn Ex (by omega) hlt hu1 hgR ux
          clear Ex hgR HMV
          go_wp2
          go_roundw
          case rel => exact ⟨k + 1, by omega, by go_num, by rw [HST.out]; rfl, kx, rowx, by rw [HST.out]; exact FIN, hbwx⟩
          case measure => simp [intOf]; omega
        | some jx =>
          obtain ⟨j, x⟩ := jx
          obtain ⟨hj, hx⟩ := HMV.out j x rfl
          have hq : p.set j x = q := HQM.out
          have hql : q.length = p.length := by rw [← hq]; simp
          have hne : gd q j ≠ gd p j := by
            rw [← hq, getD_set p j j x hj, if_pos rfl]
            intro e
            exact hx (e ▸ gd_in hj)
          have hE := eqArrOther p q j (by omega) hne
          obtain ⟨gu, rfl⟩ : ∃ gu, au = some ⟨gu, 0, none⟩ := by
            rcases ux.2 with ⟨_, h0⟩ | ⟨g', cap', cur, e, _⟩
            · omega
            · simp only [Value.slice.injEq] at e
              exact ⟨g', e.1⟩
          have hguB : gu < B := hub gu rfl
          have hgug : gu ≠ g := fun e => by
            rcases hu3 with h9 | h9
            · cases h9
            · exact h9 (by rw [e]; rfl)
          have hgu2 := (World.ownsRow.lt ux gu rfl).1
          obtain ⟨cur, hcur, hfit, hrowq, hgq⟩ := ownCopy (w := wc.drew) (q := q) ux hql
          have hsz : (Try.prog.info? 3).map (·.size) = some 1 := by kernel_rfl
          have HN : Hid ((Zv q).length = Nat.min 5 p.length) := by show (Zv q).length = Nat.min 5 p.length; have e : (Zv q).length = p.length := (by simp [Zv, hql]); rw [e]; exact (Nat.min_eq_right hp5).symm
          have HSR : Hid (∀ j v, (Zv q)[j]? = some v → wc.cell? ((⟨Ba, 0, none⟩ : Addr).add j) = some v) := by
            intro j v hj
            have hjl : j < q.length := by
              have := (List.getElem?_eq_some_iff.1 hj).1
              simpa [Zv] using this
            have hu : v = .int .i64 (gd q j) := by
              unfold gd
              rw [List.getD_eq_getElem?_getD, List.getElem?_eq_getElem hjl]
              simp [Zv, hjl] at hj
              exact hj.symm
            rw [hu, Addr.add_lit, Nat.zero_add]
            exact (s11 j (by omega)).1
          have hcellx := rowx.cellAt k (by have := rowx.1; omega)
          rw [hu1] at hcellx
          have HC : Hid (wc.heap[gu]? = some (.cells cur 3 (0, 0))) := hcur
          have HFt : Hid (0 + (Zv q).length ≤ cur.size) := hfit
          obtain ⟨wy, hwy⟩ : ∃ wy, wc.drew.setRow gu (cur.toList.take 0 ++ Zv q ++ cur.toList.drop (0 + (Zv q).length)).toArray = wy := ⟨_, rfl⟩
          have HWY : Hid (wc.drew.setRow gu (cur.toList.take 0 ++ Zv q ++ cur.toList.drop (0 + (Zv q).length)).toArray = wy) := hwy
          rw [hwy] at hrowq hgq
          have hgq' : wc.grownBy wy (some gu) := ⟨hgq.os, hgq.tape, hgq.output, hgq.size, hgq.block⟩
          have ky := Slot2.grown kx hgq' (by simp only [ne_eq, Option.some.injEq]; omega)
          have rowy := World.ownsRow.kept rowx hgq' (.inr (by simp only [Value.ownBlock, ne_eq, Option.some.injEq]; exact fun e => hgug e.symm))
          have Ey : OwnE wy w2.heap.size (some g) vs (R.set k q) Q.length := OwnE.turn Ex (by omega) hlt hu1 hgq' (by rw [hql]; exact hrowq)
          have hby : Below w2.heap.size w2 wy := hbwx.grown hgq' hbwx.size (fun j e => by cases e; exact hgu2)
          clear hwy hcur hfit hgq hgq' hgR Ex ux HMV hq hx hne hrowq
          go_upto_region 12 with fail
          go_region_law (first | (refine step_copyR (by rfl) (.tmp 46) (.tmp 47) 32 32 (by rfl) 3 Try.underlying32 hsz gu 0 p.length cu ⟨Ba, 0, none⟩ 5 5 (by rfl) (by rfl) cur 3 (by exact HC.out) (Zv q) HN.out (by exact HSR.out) HFt.out (Zv_cell q) ?_; rw [HWY.out]) | fail)
          all_goals
            clear c0 c1 c2 c3' c4 d0 d1 d2 d3 d4 hcellx kx rowx
            go_wp2
            go_roundw
            case rel => exact ⟨k + 1, by omega, by go_num, by rw [HST.out]; go_num, ky, rowy, by rw [HST.out]; exact Ey, hby⟩
            case measure => simp [intOf]; omega
    · have hke : k = Q.length := by omega
      subst hke
      have r5 := r0.below hb
      obtain ⟨⟨t0, t1⟩, t2, t3⟩ := id r5
      have hO : OwnP wr w2.heap.size (.slice (some ⟨g, 0, none⟩) Q.length c3) (Rg.rebK l Q Q.length).1 := ⟨vs, by rw [Rg.rebK_len]; exact hrowk, by rw [Rg.rebK_len]; exact hEk⟩
      rw [HG.out] at hO ⊢
      clear hrowk hEk
      go_wp2
      have e0 : ((wr.setCell ⟨w.heap.size + 1, 0, none⟩ (.int .i64 reps)).setCell ⟨w.heap.size + 1, 1, none⟩ (.slice (some ⟨g, 0, none⟩) Q.length c3)).cell? ⟨w.heap.size + 1, 0, none⟩ = some (.int .i64 reps) := by
        rw [World.cell?_setCell_other _ _ _ _ (by simp)]
        exact World.cell?_setCell_same' _ _ _ (by rw [t0]; rfl)
      have e1 : ((wr.setCell ⟨w.heap.size + 1, 0, none⟩ (.int .i64 reps)).setCell ⟨w.heap.size + 1, 1, none⟩ (.slice (some ⟨g, 0, none⟩) Q.length c3)).cell? ⟨w.heap.size + 1, 1, none⟩ = some (.slice (some ⟨g, 0, none⟩) Q.length c3) :=
        World.cell?_setCell_same' _ _ _ (by rw [World.cell?_setCell_other _ _ _ _ (by simp), t1]; rfl)
      refine bodyPost_ret (v := .tuple #[.agg #[.int .i64 reps, .slice (some ⟨g, 0, none⟩) Q.length c3], .int .i64 (G.2 : Int)]) (by simp [results, Try.results26, go_sem, e0, e1]) rfl ⟨some ⟨g, 0, none⟩, c3, rfl, ?_, ?_⟩
      · exact ((hO.far (by omega)).far (by omega)).mono (by omega)
      · exact ((behind hB0 hb).setCell (by show w.heap.size ≤ w.heap.size + 1; omega) _).setCell (by show w.heap.size ≤ w.heap.size + 1; omega) _
end Go.Proofs.Ytcejeiakgmamdac.Wk

namespace Go.Proofs.Ytcejeiakgmamdac.Wk
set_option linter.unusedVariables false
open Go.ChangeShapes Go.WideShapes Go.ChangeAt Go.RowKit

theorem bothReb (reps : Int) (Q : List (List Int)) (l : List Sm.St) (hQ : Q.length ≤ 1048576) (ht : tot Q ≤ 1048576) (hl : l.length ≤ 1048576) : ∃ (R : List (List Int)) (n : Int), Rg.reb reps Q l = (R, n) ∧ R.length = Q.length ∧ tot R ≤ 1048576 ∧ (∀ p ∈ R, p.length ≤ 1048576) ∧
    (∀ (a c : Option Addr) (ca cc : Nat) (w : World), RdN w a Q → RdS w c l → Calls Try.prog 27 #[.agg #[.int .i64 reps, .slice a Q.length ca], .slice c l.length cc] w fun e w' => ∃ (a' : Option Addr) (ca' : Nat), e = .returned (.tuple #[.agg #[.int .i64 reps, .slice a' Q.length ca'], .int .i64 n]) ∧
      OwnP w' w.heap.size (.slice a' Q.length ca') R ∧ Below w.heap.size w w') ∧
    (∀ (a c : Option Addr) (ca cc : Nat) (w : World), RdN w a Q → (a = none → ca = 0) → RdS w c l → Calls Try.prog 26 #[.agg #[.int .i64 reps, .slice a Q.length ca], .slice c l.length cc] w fun e w' => ∃ (a' : Option Addr) (ca' : Nat), e = .returned (.tuple #[.agg #[.int .i64 reps, .slice a' Q.length ca'], .int .i64 n]) ∧
      OwnP w' w.heap.size (.slice a' Q.length ca') R ∧ Below w.heap.size w w') := by
  cases h : Rg.movB reps Q l with
  | false =>
    refine ⟨Q, -1, by unfold Rg.reb; rw [h]; rfl, rfl, ht, fun p hp => Nat.le_trans (tot_mem hp) ht, ?_, ?_⟩
    · exact fun a c ca cc w h1 h2 => specRebNo reps a c ca cc Q l w hQ ht hl h1 h2 h
    · exact fun a c ca cc w h1 h0 h2 => implRebNo reps a c ca cc Q l w hQ ht hl h1 h0 h2 h
  | true =>
    have hlen := Rg.rebK_len l Q Q.length
    have h5 : ∀ q ∈ (Rg.rebK l Q Q.length).1, q.length ≤ 5 := by
      obtain ⟨-, ⟨hr1, hr5⟩, -, -⟩ := Rg.mov_head h
      have hev := Rg.mov_each h
      have hpl : ∀ q ∈ Q, q.length ≤ 5 := fun q hq => by have := (hev q hq).2; omega
      exact Rg.rebK_each (φ := fun q => q.length ≤ 5) hpl (fun R q hq => by rw [Rg.mvTo_len]; exact hpl q hq) Q.length (Nat.le_refl _)
    have h6 : ∀ (ps : List (List Int)), (∀ q ∈ ps, q.length ≤ 5) → tot ps ≤ ps.length * 5 := by
      intro ps
      induction ps with
      | nil => intro _; simp [tot]
      | cons a r ih =>
        intro h
        have h1 := ih (fun q hq => h q (List.mem_cons_of_mem _ hq))
        have h2 := h a List.mem_cons_self
        simp only [tot, List.map_cons, List.sum_cons, List.length_cons] at h1 ⊢
        omega
    have h7 := h6 _ h5
    rw [hlen] at h7
    have h64 := (Rg.mov_head h).2.2.1.2
    refine ⟨(Rg.rebK l Q Q.length).1, ((Rg.rebK l Q Q.length).2 : Int), by unfold Rg.reb; rw [h]; rfl, hlen, by omega, fun p hp => by have := h5 p hp; omega, ?_, ?_⟩
    · exact fun a c ca cc w h1 h2 => specRebYes reps a c ca cc Q l w h1 h2 h
    · exact fun a c ca cc w h1 h0 h2 => implRebYes reps a c ca cc Q l w h1 h0 h2 h
end Go.Proofs.Ytcejeiakgmamdac.Wk
