/- What l2Split of the specification comes to, at any byte: the pieces, in new memory. -/
import Derived.Test.YtekjnfkmjmmcmabDoorStB
import Derived.Test.YtekjnfkmjmmcmabDoorPcM
import Derived.Lib.Strings
import Derived.Laws.OwnMore
namespace Go.Proofs.YtekjnfkmjmmcmabDoor.Wk
set_option linter.unusedVariables false
open Go.ChangeShapes Go.WideShapes Go.ChangeAt Go.RowKit

theorem infoStrC : (Tryd.prog.info? 9).map (fun i => (i.zero, i.size, i.bytes)) = some (some (.string ByteArray.empty), 1, 16) := by kernel_rfl
/-- texts as cells -/
def StrsC (D : List (List UInt8)) : List Value := D.map fun p => .string ⟨p.toArray⟩
theorem Strs_snocC (D : List (List UInt8)) (p : List UInt8) : StrsC (D ++ [p]) = StrsC D ++ [.string ⟨p.toArray⟩] := by simp [StrsC]
/-- the address a leads to the texts D -/
def RdTC (w : World) (a : Option Addr) (D : List (List UInt8)) : Prop := ∀ i (h : i < D.length), ∃ b off, a = some ⟨b, off, none⟩ ∧ w.cell? ⟨b, off + i, none⟩ = some (.string ⟨D[i].toArray⟩)
theorem RdTC.below {w w' : World} {a : Option Addr} {D : List (List UInt8)} (h : RdTC w a D) (hb : Below w.heap.size w w') : RdTC w' a D := by
  intro i hi
  obtain ⟨b, off, ha, hc⟩ := h i hi
  exact ⟨b, off, ha, by rw [hb.cell (p := ⟨b, off + i, none⟩) (World.block_lt_of_cell? w _ hc)]; exact hc⟩
theorem Strs_rdC {w : World} {base : Nat} {e : TypeId} {v : Value} {D : List (List UInt8)} (hown : w.ownsRow base e 1 v D.length (StrsC D)) : ∃ a cap, v = .slice a D.length cap ∧ RdTC w a D ∧ ∀ x, a = some x → base ≤ x.block := by
  have h2 := hown.2
  rcases h2 with ⟨rfl, h0⟩ | ⟨g, cap, cur, rfl, hb, _⟩
  · exact ⟨none, 0, by rw [h0], fun i h => by omega, fun x hx => by cases hx⟩
  · refine ⟨some ⟨g, 0, none⟩, cap, rfl, fun i hi => ⟨g, 0, rfl, ?_⟩, fun x hx => by cases hx; exact hb⟩
    rw [Nat.zero_add, hown.cellAt i (by omega)]
    simp [StrsC, hi]
theorem oneT_atC {wr : World} {c : Value} {T : TypeId} : ∀ j u, [c][j]? = some u → (wr.alloc (.cells #[c] T)).cell? ((⟨wr.heap.size, 0, none⟩ : Addr).add j) = some u := by
  intro j u hj
  match j, hj with
  | 0, hj => simp at hj; subst hj; simp [Addr.add]
theorem oneT_oneC {s : ByteArray} : ∀ u ∈ [Value.string s], u.oneCell' = true := by
  intro u hu
  simp at hu
  subst hu
  rfl

/-- how far the splitting has come: at k, the piece begun at f, the pieces D laid -/
def CutAt (sp : UInt8) (l : List UInt8) (k f : Nat) (D : List (List UInt8)) : Prop :=
  (k ≤ l.length ∧ f ≤ k ∧ D.length ≤ k ∧ Pc.pieces sp l = D ++ Pc.pieces sp (l.drop f) ∧ ∀ c ∈ (l.drop f).take (k - f), c ≠ sp) ∨ (k = l.length + 1 ∧ D = Pc.pieces sp l)
theorem cut_start (sp : UInt8) (l : List UInt8) : CutAt sp l 0 0 [] := .inl ⟨Nat.zero_le _, Nat.le_refl _, Nat.le_refl _, by simp, fun c hc => by simp at hc⟩
theorem cut_k {sp : UInt8} {l : List UInt8} {k f : Nat} {D : List (List UInt8)} (h : CutAt sp l k f D) (hk : k ≤ l.length) : f ≤ k ∧ D.length ≤ k ∧ Pc.pieces sp l = D ++ Pc.pieces sp (l.drop f) ∧ ∀ c ∈ (l.drop f).take (k - f), c ≠ sp := by
  rcases h with ⟨_, a, b, c, d⟩ | ⟨e, _⟩
  · exact ⟨a, b, c, d⟩
  · omega
theorem take_moreC (l : List UInt8) (k f : Nat) (hf : f ≤ k) (hk : k < l.length) : (l.drop f).take (k + 1 - f) = (l.drop f).take (k - f) ++ [l[k]] := by
  rw [show k + 1 - f = (k - f) + 1 from by omega, List.take_succ_eq_append_getElem (by rw [List.length_drop]; omega), List.getElem_drop]
  simp only [show f + (k - f) = k from by omega]
theorem cut_on {sp : UInt8} {l : List UInt8} {k f : Nat} {D : List (List UInt8)} (h : CutAt sp l k f D) (hk : k < l.length) (hc : l[k] ≠ sp) : CutAt sp l (k + 1) f D := by
  obtain ⟨a, b, c, d⟩ := cut_k h (by omega)
  refine .inl ⟨by omega, by omega, by omega, c, ?_⟩
  intro x hx
  rw [take_moreC l k f a hk] at hx
  rcases List.mem_append.1 hx with hx | hx
  · exact d x hx
  · rw [List.mem_singleton] at hx; rw [hx]; exact hc
theorem cut_cut {sp : UInt8} {l : List UInt8} {k f : Nat} {D : List (List UInt8)} (h : CutAt sp l k f D) (hk : k < l.length) (hc : l[k] = sp) : CutAt sp l (k + 1) (k + 1) (D ++ [(l.drop f).take (k - f)]) := by
  obtain ⟨a, b, c, d⟩ := cut_k h (by omega)
  refine .inl ⟨by omega, Nat.le_refl _, by simp; omega, ?_, fun x hx => by simp at hx⟩
  have e : l.drop f = (l.drop f).take (k - f) ++ sp :: l.drop (k + 1) := by
    conv => lhs; rw [← List.take_append_drop (k - f) (l.drop f)]
    rw [List.drop_drop, show f + (k - f) = k from by omega, List.drop_eq_getElem_cons hk, hc]
  rw [c]
  conv => lhs; rw [e]
  rw [Pc.pieces_run _ _ d]
  simp
theorem cut_last {sp : UInt8} {l : List UInt8} {f : Nat} {D : List (List UInt8)} (h : CutAt sp l l.length f D) : CutAt sp l (l.length + 1) (l.length + 1) (D ++ [(l.drop f).take (l.length - f)]) := by
  obtain ⟨a, b, c, d⟩ := cut_k h (Nat.le_refl _)
  refine .inr ⟨rfl, ?_⟩
  rw [c]
  have e : (l.drop f).take (l.length - f) = l.drop f := List.take_of_length_le (by rw [List.length_drop]; omega)
  rw [e] at d ⊢
  rw [Pc.pieces_end _ d]
theorem extract_mkC (s : ByteArray) (f k : Nat) : s.extract f k = ⟨((s.data.toList.drop f).take (k - f)).toArray⟩ := by
  apply ByteArray.ext
  apply Array.toList_inj.1
  rw [Lib.extract_data]
end Go.Proofs.YtekjnfkmjmmcmabDoor.Wk
