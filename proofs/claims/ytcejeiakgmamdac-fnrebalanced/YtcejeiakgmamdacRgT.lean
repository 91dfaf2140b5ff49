/- What the laws' toPart, toPartS and toRing come to: the same ring in new memory, which is the call's own. -/
import Derived.Test.YtcejeiakgmamdacToZ
import Derived.Deep.Onto
namespace Go.Proofs.Ytcejeiakgmamdac.Wk
set_option linter.unusedVariables false
open Go.ChangeShapes Go.WideShapes Go.ChangeAt Go.RowKit

theorem ownFar {w : World} {base e size n b o : Nat} {v u : Value} {xs : List Value} (h : w.ownsRow base e size v n xs) (hne : v.ownBlock ≠ some b) : (w.setCell ⟨b, o, none⟩ u).ownsRow base e size v n xs :=
  h.kept (row := some b) ⟨rfl, rfl, rfl, by simp, fun k _ hk => heap_setCell_other w ⟨b, o, none⟩ k u (fun e => hk (by simp [e]))⟩ (.inr hne)
/-- the first k of these cells hold lists of their own, each in a block that is none of the others' -/
def OwnE (w : World) (base : Nat) (ob : Option Nat) (vs : List Value) (ps : List (List Int)) (k : Nat) : Prop :=
  (∀ i (h : i < ps.length), i < k → ∃ u, vs[i]? = some u ∧ w.ownsRow base 3 1 u ps[i].length (Zv ps[i]) ∧ (u.ownBlock = none ∨ u.ownBlock ≠ ob)) ∧
  (∀ i j ui uj, i < k → j < k → i ≠ j → vs[i]? = some ui → vs[j]? = some uj → ui.ownBlock = none ∨ ui.ownBlock ≠ uj.ownBlock)
/-- a list of lists of numbers in memory of its own -/
def OwnP (w : World) (base : Nat) (v : Value) (ps : List (List Int)) : Prop := ∃ vs : List Value, w.ownsRow base 36 1 v ps.length vs ∧ OwnE w base v.ownBlock vs ps ps.length
theorem OwnE.below {w w' : World} {base : Nat} {ob : Option Nat} {vs : List Value} {ps : List (List Int)} {k : Nat} (h : OwnE w base ob vs ps k) (hb : Below w.heap.size w w') : OwnE w' base ob vs ps k :=
  ⟨fun i hi hk => let ⟨u, h1, h2, h3⟩ := h.1 i hi hk; ⟨u, h1, ownOn h2 hb, h3⟩, h.2⟩
theorem OwnP.below {w w' : World} {base : Nat} {v : Value} {ps : List (List Int)} (h : OwnP w base v ps) (hb : Below w.heap.size w w') : OwnP w' base v ps :=
  let ⟨vs, h1, h2⟩ := h; ⟨vs, ownOn h1 hb, h2.below hb⟩
theorem OwnE.put {w : World} {base B g k : Nat} {u : Value} {vs : List Value} {ps : List (List Int)} (h : OwnE w base (some B) vs ps k) (hk : k < ps.length) (hlen : vs.length = ps.length * 1)
    (ho : w.ownsRow base 3 1 u ps[k].length (Zv ps[k])) (hu : u.ownBlock = some g) (hg : g ≠ B) (hold : ∀ i ui, i < k → vs[i]? = some ui → ui.ownBlock ≠ some g) :
    OwnE (w.setCell ⟨B, k, none⟩ u) base (some B) (vs.set k u) ps (k + 1) := by
  have hub : u.ownBlock ≠ some B := by rw [hu]; simpa using hg
  refine ⟨?_, ?_⟩
  · intro i hi hik
    by_cases e : i = k
    · subst e
      exact ⟨u, List.getElem?_set_self (by omega), ownFar ho hub, .inr hub⟩
    · obtain ⟨x, h1, h2, h3⟩ := h.1 i hi (by omega)
      refine ⟨x, by rw [List.getElem?_set_ne (by omega)]; exact h1, ?_, h3⟩
      rcases h3 with h3 | h3
      · exact h2.kept (row := some B) ⟨rfl, rfl, rfl, by simp, fun k _ hk => heap_setCell_other w _ k u (fun e => hk (by simp [e]))⟩ (.inl h3)
      · exact ownFar h2 h3
  · intro i j ui uj hi hj hij h1 h2
    by_cases e : i = k
    · subst e
      rw [List.getElem?_set_self (by omega)] at h1
      rw [List.getElem?_set_ne (by omega)] at h2
      have := Option.some.inj h1
      subst this
      exact .inr (fun e => hold j uj (by omega) h2 (by rw [← e, hu]))
    · rw [List.getElem?_set_ne (by omega)] at h1
      by_cases e2 : j = k
      · subst e2
        rw [List.getElem?_set_self (by omega)] at h2
        have := Option.some.inj h2
        subst this
        exact .inr (fun e => hold i ui (by omega) h1 (by rw [e, hu]))
      · rw [List.getElem?_set_ne (by omega)] at h2
        exact h.2 i j ui uj (by omega) (by omega) hij h1 h2
theorem own_cap {w : World} {base e n cap : Nat} {a : Option Addr} {xs : List Value} (h : w.ownsRow base e 1 (.slice a n cap) n xs) : n ≤ cap := by
  rcases h.2 with ⟨e1, h0⟩ | ⟨g, cap', cur, e1, _, _, h1, _⟩
  · omega
  · simp only [Value.slice.injEq] at e1
    omega
theorem OwnP.rd {w : World} {base : Nat} {v : Value} {ps : List (List Int)} (h : OwnP w base v ps) : ∃ a cap, v = .slice a ps.length cap ∧ RdP w a ps := by
  obtain ⟨vs, h1, h2⟩ := h
  rcases h1.2 with ⟨rfl, h0⟩ | ⟨g, cap, cur, rfl, _⟩
  · exact ⟨none, 0, by rw [h0], fun i hi => by omega⟩
  · refine ⟨_, cap, rfl, fun i hi => ?_⟩
    obtain ⟨u, e1, e2, -⟩ := h2.1 i hi hi
    obtain ⟨ai, ci, rfl⟩ := Zv_shape e2
    exact ⟨g, 0, ai, ci, rfl, by rw [Nat.zero_add, h1.cellAt i (by omega)]; exact e1, Zv_rd e2, own_cap e2⟩
theorem OwnP.rdS {w : World} {base n cap : Nat} {a : Option Addr} {ps : List (List Int)} (h : OwnP w base (.slice a n cap) ps) : RdP w a ps := by
  obtain ⟨a', cap', e, hr⟩ := h.rd
  simp only [Value.slice.injEq] at e
  rw [e.1]
  exact hr

theorem OwnP.far {w : World} {base b o : Nat} {v u : Value} {ps : List (List Int)} (h : OwnP w base v ps) (hb : b < base) : OwnP (w.setCell ⟨b, o, none⟩ u) base v ps := by
  obtain ⟨vs, h1, h2, h3⟩ := h
  have key : ∀ {e n : Nat} {x : Value} {xs : List Value}, w.ownsRow base e 1 x n xs → (w.setCell ⟨b, o, none⟩ u).ownsRow base e 1 x n xs := fun hx => ownFar hx (fun e => by
    have := (World.ownsRow.lt hx b e).1
    omega)
  exact ⟨vs, key h1, fun i hi hk => let ⟨x, e1, e2, e3⟩ := h2 i hi hk; ⟨x, e1, key e2, e3⟩, h3⟩
theorem OwnP.mono {w : World} {base base' : Nat} {v : Value} {ps : List (List Int)} (h : OwnP w base v ps) (hb : base' ≤ base) : OwnP w base' v ps := by
  obtain ⟨vs, h1, h2, h3⟩ := h
  exact ⟨vs, h1.mono hb, fun i hi hk => let ⟨x, e1, e2, e3⟩ := h2 i hi hk; ⟨x, e1, e2.mono hb, e3⟩, h3⟩
end Go.Proofs.Ytcejeiakgmamdac.Wk
