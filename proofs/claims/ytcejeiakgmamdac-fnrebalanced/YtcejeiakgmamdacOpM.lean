/- The best device: the lightest of those in new zones, or of the others. Plain facts. -/
import Derived.Test.YtcejeiakgmamdacRgM
namespace Go.Proofs.Ytcejeiakgmamdac.Rg
set_option linter.unusedVariables false
open Dv

/-- the lighter one, the first of those that are alike -/
def lstep (ps : List (List Int)) (s : Option Sm.St) (d : Sm.St) : Option Sm.St := match s with
  | none => some d
  | some b => if ((load ps d.1 : Int) + 1) * b.2.2 < ((load ps b.1 : Int) + 1) * d.2.2 then some d else some b
def lfold (ps : List (List Int)) (L : List Sm.St) : Option Sm.St := L.foldl (lstep ps) none
/-- those that p has not, in zones that Z has not -/
def freshL (p Z : List Int) (l : List Sm.St) : List Sm.St := l.filter fun d => !decide (d.1 ∈ p) && !decide (d.2.1 ∈ Z)
/-- those that p has not, in zones that Z has -/
def otherL (p Z : List Int) (l : List Sm.St) : List Sm.St := l.filter fun d => !decide (d.1 ∈ p) && decide (d.2.1 ∈ Z)
def openL (p Z : List Int) (l : List Sm.St) : List Sm.St := if (freshL p Z l).length = 0 then otherL p Z l else freshL p Z l
def bsel (a o : Option Sm.St) : Option (Sm.St × Bool) := match a with
  | some d => some (d, true)
  | none => o.map fun d => (d, false)
theorem bstep_sel (ps : List (List Int)) (p Z : List Int) (a o : Option Sm.St) (d : Sm.St) :
    bstep ps p Z (bsel a o) d = if d.1 ∈ p then bsel a o else if d.2.1 ∈ Z then bsel a (lstep ps o d) else bsel (lstep ps a d) o := by
  unfold bstep
  by_cases h : d.1 ∈ p
  · rw [if_pos h, if_pos h]
  rw [if_neg h, if_neg h]
  by_cases hz : d.2.1 ∈ Z
  · rw [if_pos hz]
    cases a with
    | some b => simp [bsel, hz]
    | none =>
      cases o with
      | none => simp [bsel, lstep, hz]
      | some b =>
        simp only [bsel, Option.map_some, lstep, hz, decide_true, Bool.not_true, Bool.false_eq_true, false_and, if_false, true_and]
        split <;> rfl
  · rw [if_neg hz]
    cases a with
    | some b =>
      simp only [bsel, lstep, hz, decide_false, Bool.not_false, true_and, Bool.true_eq_false, if_false]
      split <;> rfl
    | none =>
      cases o with
      | none => simp [bsel, lstep, hz]
      | some b => simp [bsel, lstep, hz]
theorem fold_sel (ps : List (List Int)) (p Z : List Int) : ∀ (l : List Sm.St) (a o : Option Sm.St),
    l.foldl (bstep ps p Z) (bsel a o) = bsel ((freshL p Z l).foldl (lstep ps) a) ((otherL p Z l).foldl (lstep ps) o)
  | [], a, o => rfl
  | d :: l, a, o => by
    rw [List.foldl_cons, bstep_sel]
    by_cases h : d.1 ∈ p
    · rw [if_pos h, fold_sel]
      simp [freshL, otherL, h]
    rw [if_neg h]
    by_cases hz : d.2.1 ∈ Z
    · rw [if_pos hz, fold_sel]
      simp [freshL, otherL, h, hz]
    · rw [if_neg hz, fold_sel]
      simp [freshL, otherL, h, hz]
theorem bfold_sel (ps : List (List Int)) (p Z : List Int) (l : List Sm.St) : bfold ps p Z l = bsel (lfold ps (freshL p Z l)) (lfold ps (otherL p Z l)) := fold_sel ps p Z l none none
theorem lfold_some (ps : List (List Int)) : ∀ (L : List Sm.St) (b : Sm.St), ∃ x, L.foldl (lstep ps) (some b) = some x
  | [], b => ⟨b, rfl⟩
  | d :: L, b => by
    rw [List.foldl_cons]
    unfold lstep
    dsimp only
    split
    · exact lfold_some ps L d
    · exact lfold_some ps L b
theorem lfold_ne {ps : List (List Int)} {L : List Sm.St} (h : ¬ L.length = 0) : ∃ x, lfold ps L = some x := by
  cases L with
  | nil => simp at h
  | cons d L => exact lfold_some ps L d
theorem lfold_nil {ps : List (List Int)} {L : List Sm.St} (h : L.length = 0) : lfold ps L = none := by
  cases L with
  | nil => rfl
  | cons d L => simp at h
/-- the best device is the lightest of the open ones -/
theorem best_open (ps : List (List Int)) (p : List Int) {l : List Sm.St} (hd : devs l = true) : best ps p l = match lfold ps (openL p (zns l p) l) with
    | none => -1
    | some d => d.1 := by
  unfold best openL
  rw [if_pos hd, bfold_sel]
  by_cases h : (freshL p (zns l p) l).length = 0
  · rw [if_pos h, lfold_nil h]
    cases lfold ps (otherL p (zns l p) l) <;> rfl
  · rw [if_neg h]
    obtain ⟨x, hx⟩ := lfold_ne (ps := ps) h
    rw [hx]
    rfl
theorem fold_mem (ps : List (List Int)) : ∀ (L : List Sm.St) (a : Option Sm.St) (x : Sm.St), L.foldl (lstep ps) a = some x → x ∈ L ∨ a = some x
  | [], a, x, h => .inr h
  | d :: L, a, x, h => by
    rw [List.foldl_cons] at h
    rcases fold_mem ps L _ x h with h | h
    · exact .inl (List.mem_cons_of_mem _ h)
    · unfold lstep at h
      cases a with
      | none =>
        simp only [Option.some.injEq] at h
        subst h
        exact .inl (List.mem_cons_self ..)
      | some b =>
        dsimp only at h
        split at h
        · simp only [Option.some.injEq] at h
          subst h
          exact .inl (List.mem_cons_self ..)
        · exact .inr h
theorem lfold_mem {ps : List (List Int)} {L : List Sm.St} {x : Sm.St} (h : lfold ps L = some x) : x ∈ L := by
  rcases fold_mem ps L none x h with h | h
  · exact h
  · cases h
theorem lfold_step {ps : List (List Int)} {L : List Sm.St} {k : Nat} (hk : k < L.length) : lfold ps (L.take (k + 1)) = lstep ps (lfold ps (L.take k)) L[k] := by
  rw [List.take_succ_eq_append_getElem hk]
  unfold lfold
  rw [List.foldl_append]
  rfl
theorem fresh_step {p Z : List Int} {l : List Sm.St} {k : Nat} (hk : k < l.length) : freshL p Z (l.take (k + 1)) = freshL p Z (l.take k) ++ (if l[k].1 ∈ p then [] else if l[k].2.1 ∈ Z then [] else [l[k]]) := by
  rw [List.take_succ_eq_append_getElem hk]
  unfold freshL
  rw [List.filter_append]
  congr 1
  by_cases h : l[k].1 ∈ p <;> by_cases hz : l[k].2.1 ∈ Z <;> simp [h, hz]
theorem other_step {p Z : List Int} {l : List Sm.St} {k : Nat} (hk : k < l.length) : otherL p Z (l.take (k + 1)) = otherL p Z (l.take k) ++ (if l[k].1 ∈ p then [] else if l[k].2.1 ∈ Z then [l[k]] else []) := by
  rw [List.take_succ_eq_append_getElem hk]
  unfold otherL
  rw [List.filter_append]
  congr 1
  by_cases h : l[k].1 ∈ p <;> by_cases hz : l[k].2.1 ∈ Z <;> simp [h, hz]
end Go.Proofs.Ytcejeiakgmamdac.Rg
