/- A disk in memory of its own: two lists of named bytes, no block of which is another's. -/
import Derived.Test.YtmappmboedpgmaqNdO
namespace Go.Proofs.Ytmappmboedpgmaq.Wk
set_option linter.unusedVariables false
open Go.ChangeShapes Go.WideShapes Go.ChangeAt Go.RowKit

/-- two rows lie in blocks of their own -/
def Apart (u v : Value) : Prop := u.ownBlock = none ∨ u.ownBlock ≠ v.ownBlock
theorem Apart.symm {u v : Value} (h : Apart u v) : Apart v u := by
  unfold Apart at *
  rcases h with h | h
  · cases hv : v.ownBlock with
    | none => exact .inl rfl
    | some j => exact .inr (by rw [h]; simp)
  · exact .inr (fun e => h e.symm)
theorem Apart.of {u v : Value} {H : Nat} (hu : ∀ j, u.ownBlock = some j → j < H) (hv : ∀ j, v.ownBlock = some j → H ≤ j) : Apart u v := by
  unfold Apart
  cases hb : u.ownBlock with
  | none => exact .inl rfl
  | some j => exact .inr (fun e => by have := hu j hb; have := hv j e.symm; omega)
/-- the two lists of a disk -/
def OwnDk (w : World) (base : Nat) (v1 v2 : Value) (l1 l2 : List Nd) : Prop := ∃ us1 us2, w.ownsRow base 57 2 v1 l1.length (NdV l1 us1) ∧ w.ownsRow base 57 2 v2 l2.length (NdV l2 us2) ∧
  OwnU w base v1.ownBlock us1 l1 ∧ OwnU w base v2.ownBlock us2 l2 ∧ Apart v1 v2 ∧ (∀ u ∈ us1, Apart u v2) ∧ (∀ u ∈ us2, Apart u v1) ∧ (∀ u ∈ us1, ∀ u' ∈ us2, Apart u u')
theorem OwnDk.swap {w : World} {base : Nat} {v1 v2 : Value} {l1 l2 : List Nd} (h : OwnDk w base v1 v2 l1 l2) : OwnDk w base v2 v1 l2 l1 :=
  let ⟨us1, us2, a, b, c, d, e, f, g, i⟩ := h
  ⟨us2, us1, b, a, d, c, e.symm, g, f, fun u hu u' hu' => (i u' hu' u hu).symm⟩
theorem OwnDk.one {w : World} {base : Nat} {v1 v2 : Value} {l1 l2 : List Nd} (h : OwnDk w base v1 v2 l1 l2) : OwnN w base v1 l1 :=
  let ⟨us1, us2, a, b, c, d, _⟩ := h
  ⟨us1, a, c⟩
theorem OwnDk.two {w : World} {base : Nat} {v1 v2 : Value} {l1 l2 : List Nd} (h : OwnDk w base v1 v2 l1 l2) : OwnN w base v2 l2 := h.swap.one
theorem OwnDk.below {w w' : World} {base : Nat} {v1 v2 : Value} {l1 l2 : List Nd} (h : OwnDk w base v1 v2 l1 l2) (hb : Below w.heap.size w w') : OwnDk w' base v1 v2 l1 l2 :=
  let ⟨us1, us2, a, b, c, d, r⟩ := h
  ⟨us1, us2, ownBelow a hb, ownBelow b hb, c.below hb, d.below hb, r⟩
theorem OwnDk.base {w : World} {base base' : Nat} {v1 v2 : Value} {l1 l2 : List Nd} (h : OwnDk w base v1 v2 l1 l2) (hb : base' ≤ base) : OwnDk w base' v1 v2 l1 l2 :=
  let ⟨us1, us2, a, b, c, d, r⟩ := h
  ⟨us1, us2, ownBase a hb, ownBase b hb, ⟨c.1, fun i hi => let ⟨u, e1, e2, e3⟩ := c.2.1 i hi; ⟨u, e1, ownBase e2 hb, e3⟩, c.2.2⟩, ⟨d.1, fun i hi => let ⟨u, e1, e2, e3⟩ := d.2.1 i hi; ⟨u, e1, ownBase e2 hb, e3⟩, d.2.2⟩, r⟩
theorem OwnU.mem {w : World} {base : Nat} {ob : Option Nat} {us : List Value} {l : List Nd} (h : OwnU w base ob us l) {u : Value} (hu : u ∈ us) : ∀ j, u.ownBlock = some j → base ≤ j ∧ j < w.heap.size := by
  obtain ⟨i, hi, rfl⟩ := List.mem_iff_getElem.1 hu
  obtain ⟨x, e1, e2, -⟩ := h.2.1 i (by rw [← h.1]; exact hi)
  rw [List.getElem?_eq_getElem hi] at e1
  cases Option.some.inj e1
  exact fun j e => World.ownsRow.lt e2 j e
/-- one list, and then another in newer memory -/
theorem OwnDk.join {w1 w2 : World} {base : Nat} {v1 v2 : Value} {l1 l2 : List Nd} (h1 : OwnN w1 base v1 l1) (hb : Below w1.heap.size w1 w2) (h2 : OwnN w2 w1.heap.size v2 l2) (hle : base ≤ w1.heap.size) : OwnDk w2 base v1 v2 l1 l2 := by
  obtain ⟨us1, a1, b1⟩ := h1
  obtain ⟨us2, a2, b2⟩ := h2
  have o1 : ∀ j, v1.ownBlock = some j → j < w1.heap.size := fun j e => (World.ownsRow.lt a1 j e).2
  have o2 : ∀ j, v2.ownBlock = some j → w1.heap.size ≤ j := fun j e => (World.ownsRow.lt a2 j e).1
  exact ⟨us1, us2, ownBelow a1 hb, ownBase a2 hle, b1.below hb, ⟨b2.1, fun i hi => let ⟨u, e1, e2, e3⟩ := b2.2.1 i hi; ⟨u, e1, ownBase e2 hle, e3⟩, b2.2.2⟩, Apart.of o1 o2,
    fun u hu => Apart.of (fun j e => (b1.mem hu j e).2) o2, fun u hu => (Apart.of o1 (fun j e => (b2.mem hu j e).1)).symm, fun u hu u' hu' => Apart.of (fun j e => (b1.mem hu j e).2) (fun j e => (b2.mem hu' j e).1)⟩
end Go.Proofs.Ytmappmboedpgmaq.Wk
