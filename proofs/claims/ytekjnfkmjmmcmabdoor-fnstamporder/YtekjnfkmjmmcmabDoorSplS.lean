/- What l2Split of the specification comes to, at a dot: the pieces, in new memory. -/
import Derived.Test.YtekjnfkmjmmcmabDoorStB
import Derived.Test.YtekjnfkmjmmcmabDoorPaM
import Derived.Lib.Strings
import Derived.Laws.OwnMore
namespace Go.Proofs.YtekjnfkmjmmcmabDoor.Wk
set_option linter.unusedVariables false
open Go.ChangeShapes Go.WideShapes Go.ChangeAt Go.RowKit

theorem infoStr : (Tryd.prog.info? 9).map (fun i => (i.zero, i.size, i.bytes)) = some (some (.string ByteArray.empty), 1, 16) := by kernel_rfl
/-- texts as cells -/
def Strs (D : List (List UInt8)) : List Value := D.map fun p => .string ⟨p.toArray⟩
theorem Strs_snoc (D : List (List UInt8)) (p : List UInt8) : Strs (D ++ [p]) = Strs D ++ [.string ⟨p.toArray⟩] := by simp [Strs]
/-- the address a leads to the texts D -/
def RdT (w : World) (a : Option Addr) (D : List (List UInt8)) : Prop := ∀ i (h : i < D.length), ∃ b off, a = some ⟨b, off, none⟩ ∧ w.cell? ⟨b, off + i, none⟩ = some (.string ⟨D[i].toArray⟩)
theorem RdT.below {w w' : World} {a : Option Addr} {D : List (List UInt8)} (h : RdT w a D) (hb : Below w.heap.size w w') : RdT w' a D := by
  intro i hi
  obtain ⟨b, off, ha, hc⟩ := h i hi
  exact ⟨b, off, ha, by rw [hb.cell (p := ⟨b, off + i, none⟩) (World.block_lt_of_cell? w _ hc)]; exact hc⟩
theorem Strs_rd {w : World} {base : Nat} {e : TypeId} {v : Value} {D : List (List UInt8)} (hown : w.ownsRow base e 1 v D.length (Strs D)) : ∃ a cap, v = .slice a D.length cap ∧ RdT w a D := by
  have h2 := hown.2
  rcases h2 with ⟨rfl, h0⟩ | ⟨g, cap, cur, rfl, _⟩
  · exact ⟨none, 0, by rw [h0], fun i h => by omega⟩
  · refine ⟨some ⟨g, 0, none⟩, cap, rfl, fun i hi => ⟨g, 0, rfl, ?_⟩⟩
    rw [Nat.zero_add, hown.cellAt i (by omega)]
    simp [Strs, hi]
theorem oneT_at {wr : World} {c : Value} {T : TypeId} : ∀ j u, [c][j]? = some u → (wr.alloc (.cells #[c] T)).cell? ((⟨wr.heap.size, 0, none⟩ : Addr).add j) = some u := by
  intro j u hj
  match j, hj with
  | 0, hj => simp at hj; subst hj; simp [Addr.add]
theorem oneT_one {s : ByteArray} : ∀ u ∈ [Value.string s], u.oneCell' = true := by
  intro u hu
  simp at hu
  subst hu
  rfl

/-- how far the splitting has come: at k, the piece begun at f, the pieces D laid -/
def SplAt (l : List UInt8) (k f : Nat) (D : List (List UInt8)) : Prop :=
  (k ≤ l.length ∧ f ≤ k ∧ D.length ≤ k ∧ Sm.pieces l = D ++ Sm.pieces (l.drop f) ∧ ∀ c ∈ (l.drop f).take (k - f), c ≠ 46) ∨ (k = l.length + 1 ∧ D = Sm.pieces l)
theorem spl_start (l : List UInt8) : SplAt l 0 0 [] := .inl ⟨Nat.zero_le _, Nat.le_refl _, Nat.le_refl _, by simp, fun c hc => by simp at hc⟩
theorem spl_k {l : List UInt8} {k f : Nat} {D : List (List UInt8)} (h : SplAt l k f D) (hk : k ≤ l.length) : f ≤ k ∧ D.length ≤ k ∧ Sm.pieces l = D ++ Sm.pieces (l.drop f) ∧ ∀ c ∈ (l.drop f).take (k - f), c ≠ 46 := by
  rcases h with ⟨_, a, b, c, d⟩ | ⟨e, _⟩
  · exact ⟨a, b, c, d⟩
  · omega
theorem take_more (l : List UInt8) (k f : Nat) (hf : f ≤ k) (hk : k < l.length) : (l.drop f).take (k + 1 - f) = (l.drop f).take (k - f) ++ [l[k]] := by
  rw [show k + 1 - f = (k - f) + 1 from by omega, List.take_succ_eq_append_getElem (by rw [List.length_drop]; omega), List.getElem_drop]
  simp only [show f + (k - f) = k from by omega]
theorem spl_on {l : List UInt8} {k f : Nat} {D : List (List UInt8)} (h : SplAt l k f D) (hk : k < l.length) (hc : l[k] ≠ 46) : SplAt l (k + 1) f D := by
  obtain ⟨a, b, c, d⟩ := spl_k h (by omega)
  refine .inl ⟨by omega, by omega, by omega, c, ?_⟩
  intro x hx
  rw [take_more l k f a hk] at hx
  rcases List.mem_append.1 hx with hx | hx
  · exact d x hx
  · rw [List.mem_singleton] at hx; rw [hx]; exact hc
theorem spl_cut {l : List UInt8} {k f : Nat} {D : List (List UInt8)} (h : SplAt l k f D) (hk : k < l.length) (hc : l[k] = 46) : SplAt l (k + 1) (k + 1) (D ++ [(l.drop f).take (k - f)]) := by
  obtain ⟨a, b, c, d⟩ := spl_k h (by omega)
  refine .inl ⟨by omega, Nat.le_refl _, by simp; omega, ?_, fun x hx => by simp at hx⟩
  have e : l.drop f = (l.drop f).take (k - f) ++ 46 :: l.drop (k + 1) := by
    conv => lhs; rw [← List.take_append_drop (k - f) (l.drop f)]
    rw [List.drop_drop, show f + (k - f) = k from by omega, List.drop_eq_getElem_cons hk, hc]
  rw [c]
  conv => lhs; rw [e]
  rw [Sm.pieces_run _ _ d]
  simp
theorem spl_last {l : List UInt8} {f : Nat} {D : List (List UInt8)} (h : SplAt l l.length f D) : SplAt l (l.length + 1) (l.length + 1) (D ++ [(l.drop f).take (l.length - f)]) := by
  obtain ⟨a, b, c, d⟩ := spl_k h (Nat.le_refl _)
  refine .inr ⟨rfl, ?_⟩
  rw [c]
  have e : (l.drop f).take (l.length - f) = l.drop f := List.take_of_length_le (by rw [List.length_drop]; omega)
  rw [e] at d ⊢
  rw [Sm.pieces_end _ d]
theorem extract_mk (s : ByteArray) (f k : Nat) : s.extract f k = ⟨((s.data.toList.drop f).take (k - f)).toArray⟩ := by
  apply ByteArray.ext
  apply Array.toList_inj.1
  rw [Lib.extract_data]
end Go.Proofs.YtekjnfkmjmmcmabDoor.Wk
