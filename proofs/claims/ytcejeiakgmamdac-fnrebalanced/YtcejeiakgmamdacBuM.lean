/- Rings that grow: one part more, one device more of a part. -/
import Derived.Test.YtcejeiakgmamdacRgT
namespace Go.Proofs.Ytcejeiakgmamdac.Wk
set_option linter.unusedVariables false
open Go.ChangeShapes Go.WideShapes Go.ChangeAt Go.RowKit

theorem Slot2.grown {w w' : World} {b : Nat} {u v : Value} {r : Option Nat} (h : Slot2 w b u v) (hg : w.grownBy w' r) (hne : some b ≠ r) : Slot2 w' b u v := by
  have hl := h.lt
  have e := hg.block b hl hne
  exact ⟨⟨hg.cell h.1.1 hne, hg.cell h.1.2 hne⟩, by rw [World.frozen?_of_block (w := w) e]; exact h.2.1, by rw [World.frozen?_of_block (w := w) e]; exact h.2.2⟩
theorem Slot2.put1 {w : World} {b : Nat} {u v : Value} (h : Slot2 w b u v) (v' : Value) : Slot2 (w.setCell ⟨b, 1, none⟩ v') b u v' :=
  ⟨⟨by rw [World.cell?_setCell_other _ _ _ _ (by simp)]; exact h.1.1, World.cell?_setCell_same' _ _ _ (by rw [h.1.2]; rfl)⟩, by rw [World.frozen?_setCell]; exact h.2.1, by rw [World.frozen?_setCell]; exact h.2.2⟩
theorem Slot2.far {w : World} {b b' o : Nat} {u v x : Value} (h : Slot2 w b u v) (hne : b' ≠ b) : Slot2 (w.setCell ⟨b', o, none⟩ x) b u v :=
  ⟨⟨by rw [World.cell?_setCell_other _ _ _ _ (fun e => hne (congrArg Addr.block e))]; exact h.1.1, by rw [World.cell?_setCell_other _ _ _ _ (fun e => hne (congrArg Addr.block e))]; exact h.1.2⟩, by rw [World.frozen?_setCell]; exact h.2.1, by rw [World.frozen?_setCell]; exact h.2.2⟩
/-- a cell that may be written, behind what grew elsewhere -/
theorem cellGrown {w w' : World} {b o : Nat} {v : Value} {r : Option Nat} (h : w.cell? ⟨b, o, none⟩ = some v) (hf : w.frozen? ⟨b, o, none⟩ = false) (hg : w.grownBy w' r) (hne : some b ≠ r) : w'.cell? ⟨b, o, none⟩ = some v ∧ w'.frozen? ⟨b, o, none⟩ = false :=
  ⟨hg.cell h hne, by rw [World.frozen?_of_block (w := w) (hg.block b (World.block_lt_of_cell? w _ h) hne)]; exact hf⟩
/-- one part more, with nothing in it -/
theorem OwnE.snoc {w w' : World} {base : Nat} {v v' : Value} {vs : List Value} {ps : List (List Int)} (hlen : vs.length = ps.length * 1) (h : OwnE w base v.ownBlock vs ps ps.length) (hg : w.grownBy w' v.ownBlock)
    (hat : v'.ownBlock = v.ownBlock ∨ v'.ownBlock = some w.heap.size) : OwnE w' base v'.ownBlock (vs ++ [.slice none 0 0]) (ps ++ [[]]) (ps ++ [[]]).length := by
  refine ⟨?_, ?_⟩
  · intro i hi _
    by_cases e : i < ps.length
    · obtain ⟨u, e1, e2, e3⟩ := h.1 i e e
      refine ⟨u, by rw [List.getElem?_append_left (by omega)]; exact e1, ?_, ?_⟩
      · rw [List.getElem_append_left e]
        exact e2.kept hg e3
      · rcases hat with h9 | h9
        · rw [h9]; exact e3
        · rw [h9]
          refine .inr (fun e9 => ?_)
          have := (World.ownsRow.lt e2 _ e9).2
          omega
    · have e' : i = ps.length := by simp at hi; omega
      subst e'
      refine ⟨.slice none 0 0, by rw [List.getElem?_append_right (by omega)]; simp [hlen], ?_, .inl rfl⟩
      simp only [List.getElem_append_right (Nat.le_refl _), Nat.sub_self, List.getElem_cons_zero]
      exact World.ownsRow_nil _ _ _ _
  · intro i j ui uj hi hj hij h1 h2
    have hl : (vs ++ [Value.slice none 0 0])[ps.length]? = some (.slice none 0 0) := by rw [List.getElem?_append_right (by omega)]; simp [hlen]
    simp only [List.length_append, List.length_cons, List.length_nil] at hi hj
    by_cases e : i = ps.length
    · subst e
      rw [hl] at h1
      have := Option.some.inj h1
      subst this
      exact .inl rfl
    · rw [List.getElem?_append_left (by omega)] at h1
      by_cases e2 : j = ps.length
      · subst e2
        rw [hl] at h2
        have := Option.some.inj h2
        subst this
        cases hb : ui.ownBlock with
        | none => exact .inl rfl
        | some x => exact .inr (by simp [Value.ownBlock])
      · rw [List.getElem?_append_left (by omega)] at h2
        exact h.2 i j ui uj (by omega) (by omega) hij h1 h2
/-- one device more of part k -/
theorem OwnE.more {w w' : World} {base g k : Nat} {u u' : Value} {vs : List Value} {ps : List (List Int)} {p' : List Int} (hlen : vs.length = ps.length * 1) (h : OwnE w base (some g) vs ps ps.length) (hk : k < ps.length) (hu : vs[k]? = some u)
    (hg : w.grownBy w' u.ownBlock) (hn : w'.ownsRow base 3 1 u' p'.length (Zv p')) (hat : u'.ownBlock = u.ownBlock ∨ u'.ownBlock = some w.heap.size) (hgs : g < w.heap.size) :
    OwnE (w'.setCell ⟨g, k, none⟩ u') base (some g) (vs.set k u') (ps.set k p') (ps.set k p').length := by
  obtain ⟨u0, f1, f2, f3⟩ := h.1 k hk hk
  rw [hu] at f1
  have := Option.some.inj f1
  subst this
  have hne : u'.ownBlock = none ∨ u'.ownBlock ≠ some g := by
    rcases hat with h9 | h9
    · rw [h9]; exact f3
    · rw [h9]; exact .inr (by simp; omega)
  have far : ∀ {n : Nat} {x : Value} {xs : List Value}, w'.ownsRow base 3 1 x n xs → (x.ownBlock = none ∨ x.ownBlock ≠ some g) → (w'.setCell ⟨g, k, none⟩ u').ownsRow base 3 1 x n xs := fun hx hy =>
    hx.kept (row := some g) ⟨rfl, rfl, rfl, by simp, fun i _ hi => heap_setCell_other w' ⟨g, k, none⟩ i u' (fun e => hi (by simp [e]))⟩ hy
  have old : ∀ i (hi : i < ps.length), i ≠ k → ∃ x, vs[i]? = some x ∧ w'.ownsRow base 3 1 x ps[i].length (Zv ps[i]) ∧ (x.ownBlock = none ∨ x.ownBlock ≠ some g) ∧ (x.ownBlock = none ∨ x.ownBlock ≠ u'.ownBlock) := by
    intro i hi hik
    obtain ⟨x, e1, e2, e3⟩ := h.1 i hi hi
    have e4 := h.2 i k x u hi hk hik e1 hu
    refine ⟨x, e1, e2.kept hg e4, e3, ?_⟩
    rcases hat with h9 | h9
    · rw [h9]; exact e4
    · rw [h9]
      exact .inr (fun e9 => by have := (World.ownsRow.lt e2 _ e9).2; omega)
  refine ⟨?_, ?_⟩
  · intro i hi _
    rw [List.length_set] at hi
    by_cases e : i = k
    · subst e
      refine ⟨u', List.getElem?_set_self (by omega), ?_, hne⟩
      rw [List.getElem_set_self]
      exact far hn hne
    · obtain ⟨x, e1, e2, e3, -⟩ := old i hi e
      refine ⟨x, by rw [List.getElem?_set_ne (by omega)]; exact e1, ?_, e3⟩
      rw [List.getElem_set_ne (by omega)]
      exact far e2 e3
  · intro i j ui uj hi hj hij h1 h2
    rw [List.length_set] at hi hj
    by_cases e : i = k
    · subst e
      rw [List.getElem?_set_self (by omega)] at h1
      rw [List.getElem?_set_ne (by omega)] at h2
      have := Option.some.inj h1
      subst this
      obtain ⟨x, e1, -, -, e4⟩ := old j hj (by omega)
      rw [h2] at e1
      have := Option.some.inj e1
      subst this
      rcases e4 with e4 | e4
      · cases hb : u'.ownBlock with
        | none => exact .inl rfl
        | some y => rw [e4]; exact .inr (by simp)
      · exact .inr (fun e9 => e4 e9.symm)
    · rw [List.getElem?_set_ne (by omega)] at h1
      obtain ⟨x, e1, -, -, e4⟩ := old i hi e
      rw [h1] at e1
      have := Option.some.inj e1
      subst this
      by_cases e2 : j = k
      · subst e2
        rw [List.getElem?_set_self (by omega)] at h2
        have := Option.some.inj h2
        subst this
        exact e4
      · rw [List.getElem?_set_ne (by omega)] at h2
        exact h.2 i j ui uj hi hj hij h1 h2
end Go.Proofs.Ytcejeiakgmamdac.Wk
