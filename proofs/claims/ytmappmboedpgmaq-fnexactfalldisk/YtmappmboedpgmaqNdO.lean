/- Lists of named bytes in memory of their own: a row of two cells each, and behind each second cell a row of bytes that is none of the others'. -/
import Derived.Test.YtmappmboedpgmaqNdB
namespace Go.Proofs.Ytmappmboedpgmaq.Wk
set_option linter.unusedVariables false
open Go.ChangeShapes Go.WideShapes Go.ChangeAt Go.RowKit

/-- the cells of a list of names, whose bytes lie at us -/
def NdV : List Nd → List Value → List Value
  | x :: l, u :: us => .string x.1 :: u :: NdV l us
  | _, _ => []
theorem NdV_len : ∀ (l : List Nd) (us : List Value), us.length = l.length → (NdV l us).length = l.length * 2
  | [], [], _ => rfl
  | x :: l, u :: us, h => by simp [NdV, NdV_len l us (by simpa using h)]; omega
theorem NdV_snoc : ∀ (l : List Nd) (us : List Value) (x : Nd) (u : Value), us.length = l.length → NdV (l ++ [x]) (us ++ [u]) = NdV l us ++ [.string x.1, u]
  | [], [], _, _, _ => rfl
  | y :: l, v :: us, x, u, h => by simp [NdV, NdV_snoc l us x u (by simpa using h)]
theorem NdV_get : ∀ (l : List Nd) (us : List Value) (i : Nat) (h : us.length = l.length) (hi : i < l.length), (NdV l us)[i * 2]? = some (.string l[i].1) ∧ (NdV l us)[i * 2 + 1]? = us[i]?
  | x :: l, u :: us, 0, h, hi => ⟨rfl, rfl⟩
  | x :: l, u :: us, i + 1, h, hi => by
    have := NdV_get l us i (by simpa using h) (by simpa using hi)
    rw [show (i + 1) * 2 = i * 2 + 1 + 1 from by omega]
    simpa [NdV] using this
/-- these hold the bytes bs, each in a row of its own, none of them block ob -/
def OwnU (w : World) (base : Nat) (ob : Option Nat) (us : List Value) (bs : List Nd) : Prop :=
  us.length = bs.length ∧ (∀ i (h : i < bs.length), ∃ u, us[i]? = some u ∧ OwnB w base u bs[i].2 ∧ (u.ownBlock = none ∨ u.ownBlock ≠ ob)) ∧
  (∀ (i j : Nat) (ui uj : Value), i ≠ j → us[i]? = some ui → us[j]? = some uj → ui.ownBlock = none ∨ ui.ownBlock ≠ uj.ownBlock)
/-- a list of named bytes in memory of its own -/
def OwnN (w : World) (base : Nat) (v : Value) (l : List Nd) : Prop := ∃ us, w.ownsRow base 57 2 v l.length (NdV l us) ∧ OwnU w base v.ownBlock us l
theorem OwnU.below {w w' : World} {base : Nat} {ob : Option Nat} {us : List Value} {l : List Nd} (h : OwnU w base ob us l) (hb : Below w.heap.size w w') : OwnU w' base ob us l :=
  ⟨h.1, fun i hi => let ⟨u, h1, h2, h3⟩ := h.2.1 i hi; ⟨u, h1, ownBelow h2 hb, h3⟩, h.2.2⟩
theorem OwnN.below {w w' : World} {base : Nat} {v : Value} {l : List Nd} (h : OwnN w base v l) (hb : Below w.heap.size w w') : OwnN w' base v l :=
  let ⟨us, h1, h2⟩ := h; ⟨us, ownBelow h1 hb, h2.below hb⟩
theorem OwnN.base {w : World} {base base' : Nat} {v : Value} {l : List Nd} (h : OwnN w base v l) (hb : base' ≤ base) : OwnN w base' v l :=
  let ⟨us, h1, h2⟩ := h; ⟨us, ownBase h1 hb, h2.1, fun i hi => let ⟨u, e1, e2, e3⟩ := h2.2.1 i hi; ⟨u, e1, ownBase e2 hb, e3⟩, h2.2.2⟩
theorem OwnN.nil (w : World) (base : Nat) : OwnN w base (.slice none 0 0) [] :=
  ⟨[], ⟨rfl, .inl ⟨rfl, rfl⟩⟩, rfl, fun i hi => by simp at hi, fun i j ui uj _ h => by simp at h⟩
/-- one row more: its bytes are newer than the list was -/
theorem OwnU.snoc {w0 w w' : World} {base : Nat} {v v' u : Value} {us : List Value} {l : List Nd} {x : Nd} {T : TypeId} {S : Nat} (hv : w0.ownsRow base T S v l.length (NdV l us)) (h : OwnU w0 base v.ownBlock us l) (hb : Below w0.heap.size w0 w)
    (hu : OwnB w base u x.2) (hn : ∀ j, u.ownBlock = some j → w0.heap.size ≤ j) (hg : w.grownBy w' v.ownBlock) (hat : v'.ownBlock = v.ownBlock ∨ v'.ownBlock = some w.heap.size) :
    OwnU w' base v'.ownBlock (us ++ [u]) (l ++ [x]) := by
  have hlen := h.1
  have huv : u.ownBlock = none ∨ u.ownBlock ≠ v.ownBlock := by
    cases hub : u.ownBlock with
    | none => exact .inl rfl
    | some j => exact .inr (fun e => by
        have h1 := hn j hub
        have h2 := (World.ownsRow.lt hv j e.symm).2
        omega)
  have hlt : ∀ j, u.ownBlock = some j → j < w.heap.size := fun j e => (World.ownsRow.lt hu j e).2
  refine ⟨by simp [hlen], ?_, ?_⟩
  · intro i hi
    by_cases e : i < l.length
    · obtain ⟨y, e1, e2, e3⟩ := h.2.1 i e
      refine ⟨y, by rw [List.getElem?_append_left (by omega)]; exact e1, ?_, ?_⟩
      · rw [List.getElem_append_left e]
        exact World.ownsRow.kept (ownBelow e2 hb) hg e3
      · rcases hat with h9 | h9
        · rw [h9]; exact e3
        · rw [h9]
          refine .inr (fun e9 => ?_)
          have := (World.ownsRow.lt e2 _ e9).2
          have := hb.size
          omega
    · have e' : i = l.length := by simp at hi; omega
      subst e'
      refine ⟨u, by rw [List.getElem?_append_right (by omega)]; simp [hlen], ?_, ?_⟩
      · simp only [List.getElem_append_right (Nat.le_refl _), Nat.sub_self, List.getElem_cons_zero]
        exact World.ownsRow.kept hu hg huv
      · rcases hat with h9 | h9
        · rw [h9]; exact huv
        · rw [h9]
          refine .inr (fun e9 => ?_)
          have := hlt _ e9
          omega
  · intro i j ui uj hij h1 h2
    have hold : ∀ i ui, i < l.length → us[i]? = some ui → ∀ j, ui.ownBlock = some j → j < w0.heap.size := by
      intro i ui hi h1 j e
      obtain ⟨y, e1, e2, -⟩ := h.2.1 i hi
      rw [h1] at e1
      have := Option.some.inj e1
      subst this
      exact (World.ownsRow.lt e2 j e).2
    have hin : ∀ i ui, (us ++ [u])[i]? = some ui → (i < l.length ∧ us[i]? = some ui) ∨ (i = l.length ∧ ui = u) := by
      intro i ui hi
      by_cases e : i < l.length
      · rw [List.getElem?_append_left (by omega)] at hi; exact .inl ⟨e, hi⟩
      · have hil := (List.getElem?_eq_some_iff.1 hi).1
        have e' : i = us.length := by simp at hil; omega
        subst e'
        rw [List.getElem?_append_right (Nat.le_refl _)] at hi
        simp at hi
        exact .inr ⟨hlen, hi.symm⟩
    rcases hin i ui h1 with ⟨a1, a2⟩ | ⟨a1, rfl⟩ <;> rcases hin j uj h2 with ⟨b1, b2⟩ | ⟨b1, rfl⟩
    · exact h.2.2 i j ui uj hij a2 b2
    · cases hub : ui.ownBlock with
      | none => exact .inl rfl
      | some g => exact .inr (fun e => by have := hold i ui a1 a2 g hub; have := hn g e.symm; omega)
    · cases hub : ui.ownBlock with
      | none => exact .inl rfl
      | some g => exact .inr (fun e => by have := hold j uj b1 b2 g e.symm; have := hn g hub; omega)
    · omega
end Go.Proofs.Ytmappmboedpgmaq.Wk
