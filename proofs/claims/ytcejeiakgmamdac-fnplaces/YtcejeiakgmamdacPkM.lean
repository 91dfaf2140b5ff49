/- The part that a name falls into; who is a primary, who is a handoff. Plain facts. -/
import Derived.Test.YtcejeiakgmamdacPtW
import Derived.Test.YtcejeiakgmamdacOpM
namespace Go.Proofs.Ytcejeiakgmamdac.Wk
set_option linter.unusedVariables false

/-- the Ids of the part that the text falls into; none where there are no parts -/
def pick (ps : List (List Int)) (s : ByteArray) : List Int := (ps[(partN s ps.length).toNat]?).getD []
theorem pick_nil (s : ByteArray) : pick [] s = [] := rfl
theorem pick_at {ps : List (List Int)} (s : ByteArray) (h : 0 < ps.length) : ∃ (k : Nat) (hk : k < ps.length), partN s ps.length = k ∧ pick ps s = ps[k] := by
  obtain ⟨h0, h1⟩ := part_range s (ps.length : Int)
  have h2 := h1 (by omega)
  have hk : (partN s ps.length).toNat < ps.length := by omega
  refine ⟨(partN s ps.length).toNat, hk, by omega, ?_⟩
  unfold pick
  rw [List.getElem?_eq_getElem hk]
  rfl
theorem pick_len {ps : List (List Int)} {N : Nat} (s : ByteArray) (h : ∀ q ∈ ps, q.length ≤ N) : (pick ps s).length ≤ N := by
  unfold pick
  cases hx : ps[(partN s ps.length).toNat]? with
  | none => simp
  | some q => exact h q (List.mem_of_getElem? hx)
/-- the Ids of all others: those in zones without a primary, then the rest -/
def hand (p : List Int) (l : List Sm.St) : List Int := (Rg.freshL p (Rg.zns l p) l ++ Rg.otherL p (Rg.zns l p) l).map (·.1)
/-- of these devices those that are taken in the round in which zones with a primary are asked for (R), or not -/
def selH (R : Bool) (p Z : List Int) (l : List Sm.St) : List Int := (l.filter fun d => !decide (d.1 ∈ p) && (decide (d.2.1 ∈ Z) == R)).map (·.1)
theorem selH_fresh (p Z : List Int) (l : List Sm.St) : selH false p Z l = (Rg.freshL p Z l).map (·.1) := by
  unfold selH Rg.freshL
  congr 2
  funext d
  cases decide (d.2.1 ∈ Z) <;> rfl
theorem selH_other (p Z : List Int) (l : List Sm.St) : selH true p Z l = (Rg.otherL p Z l).map (·.1) := by
  unfold selH Rg.otherL
  congr 2
  funext d
  cases decide (d.2.1 ∈ Z) <;> rfl
theorem selH_len (R : Bool) (p Z : List Int) (l : List Sm.St) : (selH R p Z l).length ≤ l.length := by
  unfold selH
  rw [List.length_map]
  exact List.length_filter_le _ _
theorem selH_step {l : List Sm.St} {k : Nat} (hk : k < l.length) (R : Bool) (p Z : List Int) : selH R p Z (l.take (k + 1)) = selH R p Z (l.take k) ++ (if l[k].1 ∈ p then [] else if (decide (l[k].2.1 ∈ Z) == R) = true then [l[k].1] else []) := by
  unfold selH
  rw [List.take_succ_eq_append_getElem hk, List.filter_append, List.map_append]
  congr 1
  by_cases h : l[k].1 ∈ p
  · simp [h]
  · by_cases h2 : (decide (l[k].2.1 ∈ Z) == R) = true
    · simp [h, h2]
    · simp [h, h2]
/-- what is there when r rounds are over -/
def accH (p Z : List Int) (l : List Sm.St) (r : Nat) : List Int := if r = 0 then [] else if r = 1 then selH false p Z l else selH false p Z l ++ selH true p Z l
theorem accH_0 (p Z : List Int) (l : List Sm.St) : accH p Z l 0 = [] := rfl
theorem accH_succ (p Z : List Int) (l : List Sm.St) {r : Nat} (hr : r < 2) : accH p Z l (r + 1) = accH p Z l r ++ selH (decide (r = 1)) p Z l := by
  obtain rfl | rfl : r = 0 ∨ r = 1 := by omega
  · rfl
  · rfl
theorem accH_len (p Z : List Int) (l : List Sm.St) (r : Nat) : (accH p Z l r).length ≤ 2 * l.length := by
  have h1 := selH_len false p Z l
  have h2 := selH_len true p Z l
  unfold accH
  split
  · simp
  · split
    · omega
    · rw [List.length_append]; omega
theorem accH_end (p : List Int) (l : List Sm.St) : accH p (Rg.zns l p) l 2 = hand p l := by
  show selH false p (Rg.zns l p) l ++ selH true p (Rg.zns l p) l = _
  rw [selH_fresh, selH_other, ← List.map_append]
  rfl
theorem hand_len (p : List Int) (l : List Sm.St) : (hand p l).length ≤ l.length := by
  unfold hand
  rw [List.length_map, List.length_append]
  generalize Rg.zns l p = Z
  unfold Rg.freshL Rg.otherL
  induction l with
  | nil => simp
  | cons d r ih =>
    simp only [List.filter_cons, List.length_cons]
    by_cases h : d.1 ∈ p
    · simp [h] at ih ⊢; omega
    · by_cases h2 : d.2.1 ∈ Z
      · simp [h, h2] at ih ⊢; omega
      · simp [h, h2] at ih ⊢; omega
end Go.Proofs.Ytcejeiakgmamdac.Wk
