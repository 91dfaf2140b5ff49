/- Lists of lists that are copied: what is read of them, one list more, one list put in the place of another. -/
import Derived.Test.YtcejeiakgmamdacBuM
import Derived.Test.YtcejeiakgmamdacOwM
namespace Go.Proofs.Ytcejeiakgmamdac.Wk
set_option linter.unusedVariables false
open Go.ChangeShapes Go.WideShapes Go.ChangeAt Go.RowKit

/-- the address a leads to these lists of numbers; a list that is nil has no capacity -/
def RdN (w : World) (a : Option Addr) (ps : List (List Int)) : Prop := ∀ i (h : i < ps.length), ∃ b off ai ci, a = some ⟨b, off, none⟩ ∧ w.cell? ⟨b, off + i, none⟩ = some (.slice ai ps[i].length ci) ∧ RdZ w ai ps[i] ∧ ps[i].length ≤ ci ∧ (ai = none → ci = 0)
theorem RdN.rd {w : World} {a : Option Addr} {ps : List (List Int)} (h : RdN w a ps) : RdP w a ps := fun i hi =>
  let ⟨b, off, ai, ci, h1, h2, h3, h4, _⟩ := h i hi; ⟨b, off, ai, ci, h1, h2, h3, h4⟩
theorem RdN.below {w w' : World} {a : Option Addr} {ps : List (List Int)} (h : RdN w a ps) (hb : Below w.heap.size w w') : RdN w' a ps := fun i hi =>
  let ⟨b, off, ai, ci, h1, h2, h3, h4⟩ := h i hi; ⟨b, off, ai, ci, h1, cellOn h2 hb, h3.below hb, h4⟩
theorem own_nil {w : World} {base e n cap : Nat} {a : Option Addr} {xs : List Value} (h : w.ownsRow base e 1 (.slice a n cap) n xs) : a = none → cap = 0 := by
  rintro rfl
  rcases h.2 with ⟨e, _⟩ | ⟨g, cap', cur, e, _⟩
  · simp only [Value.slice.injEq] at e
    exact e.2.2
  · simp at e
theorem OwnP.rdN {w : World} {base n cap : Nat} {a : Option Addr} {ps : List (List Int)} (h : OwnP w base (.slice a n cap) ps) : RdN w a ps := by
  obtain ⟨vs, h1, h2⟩ := h
  rcases h1.2 with ⟨e, h0⟩ | ⟨g, cap', cur, e, _⟩
  · exact fun i hi => by omega
  · simp only [Value.slice.injEq] at e
    obtain ⟨rfl, rfl, rfl⟩ := e
    intro i hi
    obtain ⟨u, e1, e2, -⟩ := h2.1 i hi hi
    obtain ⟨ai, ci, rfl⟩ := Zv_shape e2
    exact ⟨g, 0, ai, ci, rfl, by rw [Nat.zero_add, h1.cellAt i (show i < ps.length * 1 by omega)]; exact e1, Zv_rd e2, own_cap e2, own_nil e2⟩

/-- one list more, which lies in memory that is newer than the others' -/
theorem OwnE.snocL {w0 w w' : World} {base : Nat} {v v' u : Value} {vs : List Value} {ps : List (List Int)} {p : List Int} {T : TypeId} (hv : w0.ownsRow base T 1 v ps.length vs) (h : OwnE w0 base v.ownBlock vs ps ps.length) (hb : Below w0.heap.size w0 w)
    (hu : w.ownsRow base 3 1 u p.length (Zv p)) (hn : ∀ j, u.ownBlock = some j → w0.heap.size ≤ j) (hg : w.grownBy w' v.ownBlock) (hat : v'.ownBlock = v.ownBlock ∨ v'.ownBlock = some w.heap.size) :
    OwnE w' base v'.ownBlock (vs ++ [u]) (ps ++ [p]) (ps ++ [p]).length := by
  have hlen := hv.1
  have huv : u.ownBlock = none ∨ u.ownBlock ≠ v.ownBlock := by
    cases hub : u.ownBlock with
    | none => exact .inl rfl
    | some j => exact .inr (fun e => by
        have h1 := hn j hub
        have h2 := (World.ownsRow.lt hv j e.symm).2
        omega)
  have hlt : ∀ j, u.ownBlock = some j → j < w.heap.size := fun j e => (World.ownsRow.lt hu j e).2
  refine ⟨?_, ?_⟩
  · intro i hi _
    by_cases e : i < ps.length
    · obtain ⟨x, e1, e2, e3⟩ := h.1 i e e
      refine ⟨x, by rw [List.getElem?_append_left (by omega)]; exact e1, ?_, ?_⟩
      · rw [List.getElem_append_left e]
        exact (ownOn e2 hb).kept hg e3
      · rcases hat with h9 | h9
        · rw [h9]; exact e3
        · rw [h9]
          refine .inr (fun e9 => ?_)
          have := (World.ownsRow.lt e2 _ e9).2
          have := hb.size
          omega
    · have e' : i = ps.length := by simp at hi; omega
      subst e'
      refine ⟨u, by rw [List.getElem?_append_right (by omega)]; simp [hlen], ?_, ?_⟩
      · simp only [List.getElem_append_right (Nat.le_refl _), Nat.sub_self, List.getElem_cons_zero]
        exact hu.kept hg huv
      · rcases hat with h9 | h9
        · rw [h9]; exact huv
        · rw [h9]
          refine .inr (fun e9 => ?_)
          have := hlt _ e9
          omega
  · intro i j ui uj hi hj hij h1 h2
    have hl : (vs ++ [u])[ps.length]? = some u := by rw [List.getElem?_append_right (by omega)]; simp [hlen]
    have hold : ∀ i ui, i < ps.length → vs[i]? = some ui → ∀ j, ui.ownBlock = some j → j < w0.heap.size := by
      intro i ui hi h1 j e
      obtain ⟨x, e1, e2, -⟩ := h.1 i hi hi
      rw [h1] at e1
      have := Option.some.inj e1
      subst this
      exact (World.ownsRow.lt e2 j e).2
    simp only [List.length_append, List.length_cons, List.length_nil] at hi hj
    by_cases e : i = ps.length
    · subst e
      rw [hl] at h1
      have := Option.some.inj h1
      subst this
      rw [List.getElem?_append_left (by omega)] at h2
      cases hub : u.ownBlock with
      | none => exact .inl rfl
      | some x => exact .inr (fun e9 => by
          have h3 := hn x hub
          have h4 := hold j uj (by omega) h2 x e9.symm
          omega)
    · rw [List.getElem?_append_left (by omega)] at h1
      by_cases e2 : j = ps.length
      · subst e2
        rw [hl] at h2
        have := Option.some.inj h2
        subst this
        cases hub : ui.ownBlock with
        | none => exact .inl rfl
        | some x => exact .inr (fun e9 => by
            have h3 := hn x e9.symm
            have h4 := hold i ui (by omega) h1 x hub
            omega)
      · rw [List.getElem?_append_left (by omega)] at h2
        exact h.2 i j ui uj (by omega) (by omega) hij h1 h2
/-- the k-th cell is given a list of its own, which lies in memory that is newer than the others' -/
theorem OwnE.putN {w0 w : World} {base B k : Nat} {u : Value} {vs : List Value} {ps : List (List Int)} (h : OwnE w0 base (some B) vs ps k) (hb : Below w0.heap.size w0 w) (hB : B < w0.heap.size) (hk : k < ps.length) (hlen : vs.length = ps.length * 1)
    (ho : w.ownsRow base 3 1 u ps[k].length (Zv ps[k])) (hn : ∀ j, u.ownBlock = some j → w0.heap.size ≤ j) :
    OwnE (w.setCell ⟨B, k, none⟩ u) base (some B) (vs.set k u) ps (k + 1) := by
  have hub : u.ownBlock = none ∨ u.ownBlock ≠ some B := by
    cases hu : u.ownBlock with
    | none => exact .inl rfl
    | some j => exact .inr (fun e => by
        have h1 := hn j hu
        cases e
        omega)
  have far : ∀ {n : Nat} {x : Value} {xs : List Value}, w.ownsRow base 3 1 x n xs → (x.ownBlock = none ∨ x.ownBlock ≠ some B) → (w.setCell ⟨B, k, none⟩ u).ownsRow base 3 1 x n xs := fun hx hy =>
    hx.kept (row := some B) ⟨rfl, rfl, rfl, by simp, fun i _ hi => heap_setCell_other w ⟨B, k, none⟩ i u (fun e => hi (by simp [e]))⟩ hy
  refine ⟨?_, ?_⟩
  · intro i hi hik
    by_cases e : i = k
    · subst e
      exact ⟨u, List.getElem?_set_self (by omega), far ho hub, hub⟩
    · obtain ⟨x, h1, h2, h3⟩ := h.1 i hi (by omega)
      exact ⟨x, by rw [List.getElem?_set_ne (by omega)]; exact h1, far (ownOn h2 hb) h3, h3⟩
  · intro i j ui uj hi hj hij h1 h2
    have hold : ∀ i ui, i < k → vs[i]? = some ui → ∀ j, ui.ownBlock = some j → j < w0.heap.size := by
      intro i ui hi h1 j e
      obtain ⟨x, e1, e2, -⟩ := h.1 i (by omega) hi
      rw [h1] at e1
      have := Option.some.inj e1
      subst this
      exact (World.ownsRow.lt e2 j e).2
    by_cases e : i = k
    · subst e
      rw [List.getElem?_set_self (by omega)] at h1
      rw [List.getElem?_set_ne (by omega)] at h2
      have := Option.some.inj h1
      subst this
      cases hu : u.ownBlock with
      | none => exact .inl rfl
      | some x => exact .inr (fun e9 => by
          have h3 := hn x hu
          have h4 := hold j uj (by omega) h2 x e9.symm
          omega)
    · rw [List.getElem?_set_ne (by omega)] at h1
      by_cases e2 : j = k
      · subst e2
        rw [List.getElem?_set_self (by omega)] at h2
        have := Option.some.inj h2
        subst this
        cases hu : ui.ownBlock with
        | none => exact .inl rfl
        | some x => exact .inr (fun e9 => by
            have h3 := hn x e9.symm
            have h4 := hold i ui (by omega) h1 x hu
            omega)
      · rw [List.getElem?_set_ne (by omega)] at h2
        exact h.2 i j ui uj (by omega) (by omega) hij h1 h2
/-- a row of cells that read as these lists -/
def RowP (w : World) (vs : List Value) (ps : List (List Int)) : Prop := vs.length = ps.length ∧ ∀ i (h : i < ps.length), ∃ ai ci, vs[i]? = some (.slice ai ps[i].length ci) ∧ RdZ w ai ps[i] ∧ ps[i].length ≤ ci ∧ (ai = none → ci = 0)
theorem RdN.row {w : World} : ∀ {ps : List (List Int)} {b off : Nat}, RdN w (some ⟨b, off, none⟩) ps → ∃ vs, RowP w vs ps ∧ ∀ j u, vs[j]? = some u → w.cell? ((⟨b, off, none⟩ : Addr).add j) = some u := by
  intro ps b off h
  have step : ∀ k, k ≤ ps.length → ∃ vs : List Value, vs.length = k ∧ ∀ i (h : i < ps.length), i < k → ∃ ai ci, vs[i]? = some (.slice ai ps[i].length ci) ∧ RdZ w ai ps[i] ∧ ps[i].length ≤ ci ∧ (ai = none → ci = 0) ∧ w.cell? ⟨b, off + i, none⟩ = some (.slice ai ps[i].length ci) := by
    intro k
    induction k with
    | zero => exact fun _ => ⟨[], rfl, fun i _ hi => absurd hi (Nat.not_lt_zero i)⟩
    | succ k ih =>
      intro hk
      obtain ⟨vs, hl, hv⟩ := ih (by omega)
      obtain ⟨b', off', ai, ci, e, hc, hz, hcap, hnil⟩ := h k (by omega)
      simp only [Option.some.injEq, Addr.mk.injEq, and_true] at e
      obtain ⟨rfl, rfl⟩ := e
      refine ⟨vs ++ [.slice ai ps[k].length ci], by simp [hl], ?_⟩
      intro i hi hik
      by_cases e : i = k
      · subst e
        exact ⟨ai, ci, by rw [List.getElem?_append_right (by omega)]; simp [hl], hz, hcap, hnil, hc⟩
      · obtain ⟨ai', ci', e1, e2⟩ := hv i hi (by omega)
        exact ⟨ai', ci', by rw [List.getElem?_append_left (by omega)]; exact e1, e2⟩
  obtain ⟨vs, hl, hv⟩ := step ps.length (Nat.le_refl _)
  refine ⟨vs, ⟨hl, fun i hi => ?_⟩, fun j u hj => ?_⟩
  · obtain ⟨ai, ci, e1, e2, e3, e4, -⟩ := hv i hi hi
    exact ⟨ai, ci, e1, e2, e3, e4⟩
  · have hjl : j < ps.length := by
      have := (List.getElem?_eq_some_iff.1 hj).1
      omega
    obtain ⟨ai, ci, e1, -, -, -, e5⟩ := hv j hjl hjl
    rw [hj] at e1
    have := Option.some.inj e1
    subst this
    rw [show (⟨b, off, none⟩ : Addr).add j = ⟨b, off + j, none⟩ from by simp [Addr.add]]
    exact e5
theorem RdN.rowOf {w0 w : World} {ps : List (List Int)} {vs : List Value} {b off : Nat} {fld : _} (h : RdN w0 (some ⟨b, off, fld⟩) ps) (hb : Below w0.heap.size w0 w) (hl : vs.length = ps.length) (hc : ∀ j u, vs[j]? = some u → w.cell? ((⟨b, off, fld⟩ : Addr).add j) = some u) : RowP w0 vs ps := by
  refine ⟨hl, fun i hi => ?_⟩
  obtain ⟨b', off', ai, ci, e, hcell, hz, hcap, hnil⟩ := h i hi
  simp only [Option.some.injEq, Addr.mk.injEq] at e
  obtain ⟨rfl, rfl, rfl⟩ := e
  have hi' : i < vs.length := by omega
  have h1 := hc i vs[i] (List.getElem?_eq_getElem hi')
  rw [show (⟨b, off, none⟩ : Addr).add i = ⟨b, off + i, none⟩ from by simp [Addr.add], cellOn hcell hb] at h1
  exact ⟨ai, ci, by rw [List.getElem?_eq_getElem hi', Option.some.inj h1], hz, hcap, hnil⟩
theorem Slot2.set2 {w : World} {b : Nat} {u v : Value} (h : Slot2 w b u v) (u' v' : Value) : Slot2 ((w.setCell ⟨b, 0, none⟩ u').setCell ⟨b, 1, none⟩ v') b u' v' :=
  ⟨⟨by rw [World.cell?_setCell_other _ _ _ _ (by simp)]; exact World.cell?_setCell_same' _ _ _ (by rw [h.1.1]; rfl), World.cell?_setCell_same' _ _ _ (by rw [World.cell?_setCell_other _ _ _ _ (by simp), h.1.2]; rfl)⟩,
    by rw [World.frozen?_setCell, World.frozen?_setCell]; exact h.2.1, by rw [World.frozen?_setCell, World.frozen?_setCell]; exact h.2.2⟩
theorem Slot1.grw {w w' : World} {b : Nat} {v : Value} {r : Option Nat} (h : Slot1 w b v) (hg : w.grownBy w' r) (hne : some b ≠ r) : Slot1 w' b v :=
  ⟨hg.cell h.1 hne, by rw [World.frozen?_of_block (w := w) (hg.block b h.lt hne)]; exact h.2⟩
theorem RowP.below {w w' : World} {vs : List Value} {ps : List (List Int)} (h : RowP w vs ps) (hb : Below w.heap.size w w') : RowP w' vs ps :=
  ⟨h.1, fun i hi => let ⟨ai, ci, h1, h2, h3⟩ := h.2 i hi; ⟨ai, ci, h1, h2.below hb, h3⟩⟩
theorem RowP.one {w : World} {vs : List Value} {ps : List (List Int)} (h : RowP w vs ps) : ∀ u ∈ vs, u.oneCell' = true := by
  intro u hu
  obtain ⟨j, hj, rfl⟩ := List.mem_iff_getElem.1 hu
  obtain ⟨ai, ci, e, -⟩ := h.2 j (by rw [← h.1]; exact hj)
  rw [List.getElem?_eq_getElem hj] at e
  rw [Option.some.inj e]
  rfl
end Go.Proofs.Ytcejeiakgmamdac.Wk
