/- What the laws' markIntS and heldIntS come to: marks in a row of numbers of its own, and whether they are there. -/
import Derived.Test.YtcejeiakgmamdacBuM
import Derived.Test.YtcejeiakgmamdacRgZ
namespace Go.Proofs.Ytcejeiakgmamdac.Wk
set_option linter.unusedVariables false
open Go.ChangeShapes Go.WideShapes Go.ChangeAt Go.RowKit

/-- the marks k0, k0 + 1, .. -/
def mks (k0 n : Nat) : List Int := (List.range n).map fun i : Nat => (k0 : Int) + (i : Int)
theorem mks_len (k0 n : Nat) : (mks k0 n).length = n := by simp [mks]
theorem mks_get (k0 n j : Nat) (h : j < (mks k0 n).length) : (mks k0 n)[j] = (k0 : Int) + (j : Int) := by simp [mks]
/-- marks in all the lists -/
def mkP : Nat → List (List Int) → List (List Int)
  | _, [] => []
  | k, p :: r => mks k p.length :: mkP (k + p.length) r
theorem mkP_len (k : Nat) (ps : List (List Int)) : (mkP k ps).length = ps.length := by
  induction ps generalizing k with
  | nil => rfl
  | cons p r ih => simp [mkP, ih]
theorem mkP_get (ps : List (List Int)) : ∀ (k j : Nat) (h : j < ps.length), (mkP k ps)[j]? = some (mks (k + tot (ps.take j)) ps[j].length) := by
  induction ps with
  | nil => intro k j h; simp at h
  | cons p r ih =>
    intro k j h
    cases j with
    | zero => simp [mkP, tot]
    | succ j =>
      have h' : j < r.length := by simpa using h
      have := ih (k + p.length) j h'
      simp only [mkP, List.getElem?_cons_succ, List.getElem_cons_succ, List.take_succ_cons]
      rw [this]
      have e : tot (p :: r.take j) = p.length + tot (r.take j) := by simp [tot]
      rw [e, Nat.add_assoc]

/-- a list's content turned, in its place -/
theorem OwnE.turn {w w' : World} {base k n : Nat} {ob : Option Nat} {u : Value} {vs : List Value} {ps : List (List Int)} {p' : List Int} (h : OwnE w base ob vs ps n) (hk : k < ps.length) (hkn : k < n) (hu : vs[k]? = some u)
    (hg : w.grownBy w' u.ownBlock) (hn : w'.ownsRow base 3 1 u p'.length (Zv p')) : OwnE w' base ob vs (ps.set k p') n := by
  obtain ⟨u0, f1, f2, f3⟩ := h.1 k hk hkn
  rw [hu] at f1
  have := Option.some.inj f1
  subst this
  refine ⟨?_, h.2⟩
  intro i hi hin
  rw [List.length_set] at hi
  by_cases e : i = k
  · subst e
    refine ⟨u, hu, ?_, f3⟩
    rw [List.getElem_set_self]
    exact hn
  · obtain ⟨x, e1, e2, e3⟩ := h.1 i hi hin
    refine ⟨x, e1, ?_, e3⟩
    rw [List.getElem_set_ne (by omega)]
    exact e2.kept hg (h.2 i k x u hin hkn e e1 hu)

/-- a list of lists in memory of its own, the lists' blocks below a mark -/
def OwnPM (M : Nat) (w : World) (base : Nat) (v : Value) (ps : List (List Int)) : Prop :=
  ∃ vs : List Value, w.ownsRow base 36 1 v ps.length vs ∧ OwnE w base v.ownBlock vs ps ps.length ∧ ∀ i u, i < ps.length → vs[i]? = some u → ∀ j, u.ownBlock = some j → j < M
theorem OwnP.top {w : World} {base : Nat} {v : Value} {ps : List (List Int)} (h : OwnP w base v ps) : OwnPM w.heap.size w base v ps := by
  obtain ⟨vs, h1, h2⟩ := h
  refine ⟨vs, h1, h2, fun i u hi hu j hj => ?_⟩
  obtain ⟨x, e1, e2, -⟩ := h2.1 i hi hi
  rw [hu] at e1
  cases e1
  exact (World.ownsRow.lt e2 j hj).2
theorem OwnPM.own {M : Nat} {w : World} {base : Nat} {v : Value} {ps : List (List Int)} (h : OwnPM M w base v ps) : OwnP w base v ps := let ⟨vs, h1, h2, _⟩ := h; ⟨vs, h1, h2⟩
theorem OwnPM.below {M : Nat} {w w' : World} {base : Nat} {v : Value} {ps : List (List Int)} (h : OwnPM M w base v ps) (hb : Below w.heap.size w w') : OwnPM M w' base v ps :=
  let ⟨vs, h1, h2, h3⟩ := h; ⟨vs, ownOn h1 hb, h2.below hb, h3⟩
theorem OwnPM.farG {M g : Nat} {w w' : World} {base : Nat} {v : Value} {ps : List (List Int)} (h : OwnPM M w base v ps) (hg : w.grownBy w' (some g)) (hlt : g < base) : OwnPM M w' base v ps := by
  obtain ⟨vs, h1, ⟨h2, h4⟩, h3⟩ := h
  have key : ∀ {e n : Nat} {x : Value} {xs : List Value}, w.ownsRow base e 1 x n xs → w'.ownsRow base e 1 x n xs := fun hx => hx.kept hg (.inr (fun e => by
    have := (World.ownsRow.lt hx g e).1
    omega))
  exact ⟨vs, key h1, ⟨fun i hi hk => let ⟨x, e1, e2, e3⟩ := h2 i hi hk; ⟨x, e1, key e2, e3⟩, h4⟩, h3⟩

/-- the first j lists marked -/
def mkU (k0 : Nat) (ps : List (List Int)) (j : Nat) : List (List Int) := (mkP k0 ps).take j ++ ps.drop j
theorem mkU_len (k0 : Nat) (ps : List (List Int)) (j : Nat) (h : j ≤ ps.length) : (mkU k0 ps j).length = ps.length := by
  simp only [mkU, List.length_append, List.length_take, List.length_drop, mkP_len]
  omega
theorem mkU_get (k0 : Nat) (ps : List (List Int)) (j : Nat) (h : j < ps.length) : (mkU k0 ps j)[j]? = some ps[j] := by
  have h9 : ((mkP k0 ps).take j).length = j := by rw [List.length_take, mkP_len]; omega
  unfold mkU
  rw [List.getElem?_append_right (by omega), h9, Nat.sub_self, List.getElem?_drop, Nat.add_zero, List.getElem?_eq_getElem h]
theorem mkU_step (k0 : Nat) (ps : List (List Int)) (j : Nat) (h : j < ps.length) : (mkU k0 ps j).set j (mks (k0 + tot (ps.take j)) ps[j].length) = mkU k0 ps (j + 1) := by
  have h9 : ((mkP k0 ps).take j).length = j := by rw [List.length_take, mkP_len]; omega
  have hj : j < (mkP k0 ps).length := by rw [mkP_len]; exact h
  have e := mkP_get ps k0 j h
  rw [List.getElem?_eq_getElem hj] at e
  have e2 := Option.some.inj e
  unfold mkU
  rw [List.set_append_right _ _ (by omega), h9, Nat.sub_self, List.drop_eq_getElem_cons h, List.set_cons_zero, ← e2, List.take_succ_eq_append_getElem hj, List.append_assoc]
  rfl
theorem mkU_all (k0 : Nat) (ps : List (List Int)) : mkU k0 ps ps.length = mkP k0 ps := by
  unfold mkU
  rw [List.take_of_length_le (by rw [mkP_len]; omega), List.drop_length, List.append_nil]

end Go.Proofs.Ytcejeiakgmamdac.Wk
