/- What is kept of cells behind a call; whether a stamp has been seen among the first of a list. -/
import Derived.Test.YtekjnfkmjmmcmabStL
import Derived.Deep.DeepCutAuto
import Derived.Deep.CutRange
import Derived.Deep.RegionHeld3
namespace Go.Proofs.Ytekjnfkmjmmcmab.Wk
set_option linter.unusedVariables false
open Go.ChangeShapes Go.WideShapes Go.ChangeAt Go.RowKit

theorem keep6 {w w' : World} {a1 a2 a3 a4 a5 a6 : Addr} {v1 v2 v3 v4 v5 v6 : Value} (h : w.cell? a1 = some v1 ∧ w.cell? a2 = some v2 ∧ w.cell? a3 = some v3 ∧ w.cell? a4 = some v4 ∧ w.cell? a5 = some v5 ∧ w.cell? a6 = some v6) (hb : Below w.heap.size w w') :
    w'.cell? a1 = some v1 ∧ w'.cell? a2 = some v2 ∧ w'.cell? a3 = some v3 ∧ w'.cell? a4 = some v4 ∧ w'.cell? a5 = some v5 ∧ w'.cell? a6 = some v6 := by
  have one : ∀ {a : Addr} {v : Value}, w.cell? a = some v → w'.cell? a = some v := fun {a v} h => by rw [hb.cell (World.block_lt_of_cell? w _ h)]; exact h
  obtain ⟨h0, h1, h2, h3, h4, h5⟩ := h
  exact ⟨one h0, one h1, one h2, one h3, one h4, one h5⟩
theorem RdS.drew {w : World} {a : Option Addr} {l : List Sm.St} (h : RdS w a l) : RdS w.drew a l := h

/-- B tells whether s is among the first k of ss, or there are none at all -/
def SeenB (B : Bool) (ss : List Sm.St) (s : Sm.St) (k : Nat) : Prop := B = true ↔ (ss.length = 0 ∨ s ∈ ss.take k)
theorem seen_start (ss : List Sm.St) (s : Sm.St) : SeenB (((ss.length : Nat) : Int) == 0) ss s 0 := by unfold SeenB; simp
theorem mem_take (ss : List Sm.St) (s : Sm.St) (k : Nat) (hlt : k < ss.length) : s ∈ ss.take (k + 1) ↔ (s ∈ ss.take k ∨ ss[k] = s) := by
  rw [List.take_succ_eq_append_getElem hlt, List.mem_append, List.mem_singleton]
  constructor
  · rintro (h | h)
    · exact .inl h
    · exact .inr h.symm
  · rintro (h | h)
    · exact .inl h
    · exact .inr h.symm
theorem SeenB.yes {ss : List Sm.St} {s : Sm.St} {k : Nat} (h : SeenB true ss s k) (hlt : k < ss.length) : SeenB true ss s (k + 1) := by
  refine ⟨fun _ => ?_, fun _ => rfl⟩
  rcases h.1 rfl with h | h
  · exact .inl h
  · exact .inr ((mem_take ss s k hlt).2 (.inl h))
theorem SeenB.hit {ss : List Sm.St} {s : Sm.St} {k : Nat} (hlt : k < ss.length) (he : ss[k] = s) : SeenB true ss s (k + 1) :=
  ⟨fun _ => .inr ((mem_take ss s k hlt).2 (.inr he)), fun _ => rfl⟩
theorem SeenB.miss {ss : List Sm.St} {s : Sm.St} {k : Nat} (h : SeenB false ss s k) (hlt : k < ss.length) (he : ¬ ss[k] = s) : SeenB false ss s (k + 1) := by
  have hno : ¬ (ss.length = 0 ∨ s ∈ ss.take k) := fun x => by have := h.2 x; cases this
  refine ⟨fun x => absurd x (by decide), fun x => ?_⟩
  rcases x with x | x
  · exact absurd (.inl x) hno
  · rcases (mem_take ss s k hlt).1 x with x | x
    · exact absurd (.inr x) hno
    · exact absurd x he
theorem SeenB.full {B : Bool} {ss : List Sm.St} {s : Sm.St} (h : SeenB B ss s ss.length) (hs : s = Sm.latest ss) : B = true := by
  refine h.2 ?_
  by_cases h0 : ss.length = 0
  · exact .inl h0
  · refine .inr ?_
    rw [List.take_length, hs]
    exact Sm.latest_mem ss (by omega)
end Go.Proofs.Ytekjnfkmjmmcmab.Wk
