/- Five cells of a block behind a store in one of them, or elsewhere; the block set whole. -/
import Derived.Test.YtpejeoekpejbladFlS
namespace Go.Proofs.Ytpejeoekpejblad.Wk
set_option linter.unusedVariables false
open Go.ChangeShapes Go.WideShapes Go.ChangeAt Go.RowKit

/-- the same five cells behind a store in one of them -/
theorem Slot5f.put0 {w : World} {b : Nat} {v0 v1 v2 v3 v4 : Value} (h : Slot5f w b v0 v1 v2 v3 v4) (x : Value) : Slot5f (w.setCell ⟨b, 0, none⟩ x) b x v1 v2 v3 v4 := by
  obtain ⟨⟨h0, h1, h2, h3, h4⟩, f0, f1, f2, f3, f4⟩ := h
  refine ⟨⟨World.cell?_setCell_same' _ _ _ (by rw [h0]; rfl), ?_, ?_, ?_, ?_⟩, ?_, ?_, ?_, ?_, ?_⟩
  all_goals first | (rw [World.cell?_setCell_other _ _ _ _ (by simp)]; assumption) | (simp only [World.frozen?_setCell]; assumption)
theorem Slot5f.put1 {w : World} {b : Nat} {v0 v1 v2 v3 v4 : Value} (h : Slot5f w b v0 v1 v2 v3 v4) (x : Value) : Slot5f (w.setCell ⟨b, 1, none⟩ x) b v0 x v2 v3 v4 := by
  obtain ⟨⟨h0, h1, h2, h3, h4⟩, f0, f1, f2, f3, f4⟩ := h
  refine ⟨⟨?_, World.cell?_setCell_same' _ _ _ (by rw [h1]; rfl), ?_, ?_, ?_⟩, ?_, ?_, ?_, ?_, ?_⟩
  all_goals first | (rw [World.cell?_setCell_other _ _ _ _ (by simp)]; assumption) | (simp only [World.frozen?_setCell]; assumption)
theorem Slot5f.put2 {w : World} {b : Nat} {v0 v1 v2 v3 v4 : Value} (h : Slot5f w b v0 v1 v2 v3 v4) (x : Value) : Slot5f (w.setCell ⟨b, 2, none⟩ x) b v0 v1 x v3 v4 := by
  obtain ⟨⟨h0, h1, h2, h3, h4⟩, f0, f1, f2, f3, f4⟩ := h
  refine ⟨⟨?_, ?_, World.cell?_setCell_same' _ _ _ (by rw [h2]; rfl), ?_, ?_⟩, ?_, ?_, ?_, ?_, ?_⟩
  all_goals first | (rw [World.cell?_setCell_other _ _ _ _ (by simp)]; assumption) | (simp only [World.frozen?_setCell]; assumption)
theorem Slot5f.put3 {w : World} {b : Nat} {v0 v1 v2 v3 v4 : Value} (h : Slot5f w b v0 v1 v2 v3 v4) (x : Value) : Slot5f (w.setCell ⟨b, 3, none⟩ x) b v0 v1 v2 x v4 := by
  obtain ⟨⟨h0, h1, h2, h3, h4⟩, f0, f1, f2, f3, f4⟩ := h
  refine ⟨⟨?_, ?_, ?_, World.cell?_setCell_same' _ _ _ (by rw [h3]; rfl), ?_⟩, ?_, ?_, ?_, ?_, ?_⟩
  all_goals first | (rw [World.cell?_setCell_other _ _ _ _ (by simp)]; assumption) | (simp only [World.frozen?_setCell]; assumption)
theorem Slot5f.put4 {w : World} {b : Nat} {v0 v1 v2 v3 v4 : Value} (h : Slot5f w b v0 v1 v2 v3 v4) (x : Value) : Slot5f (w.setCell ⟨b, 4, none⟩ x) b v0 v1 v2 v3 x := by
  obtain ⟨⟨h0, h1, h2, h3, h4⟩, f0, f1, f2, f3, f4⟩ := h
  refine ⟨⟨?_, ?_, ?_, ?_, World.cell?_setCell_same' _ _ _ (by rw [h4]; rfl)⟩, ?_, ?_, ?_, ?_, ?_⟩
  all_goals first | (rw [World.cell?_setCell_other _ _ _ _ (by simp)]; assumption) | (simp only [World.frozen?_setCell]; assumption)
theorem Slot5f.other {w : World} {b c o : Nat} {v0 v1 v2 v3 v4 x : Value} (h : Slot5f w b v0 v1 v2 v3 v4) (hne : b ≠ c) : Slot5f (w.setCell ⟨c, o, none⟩ x) b v0 v1 v2 v3 v4 := by
  obtain ⟨⟨h0, h1, h2, h3, h4⟩, f0, f1, f2, f3, f4⟩ := h
  refine ⟨⟨?_, ?_, ?_, ?_, ?_⟩, ?_, ?_, ?_, ?_, ?_⟩
  all_goals first | (rw [World.cell?_setCell_other _ _ _ _ (by intro e; cases e; exact hne rfl)]; assumption) | (simp only [World.frozen?_setCell]; assumption)

theorem Slot5f.set {w : World} {b : Nat} {u0 u1 u2 u3 u4 : Value} (h : Slot5f w b u0 u1 u2 u3 u4) (v0 v1 v2 v3 v4 : Value) :
    Slot5f (((((w.setCell ⟨b, 0, none⟩ v0).setCell ⟨b, 1, none⟩ v1).setCell ⟨b, 2, none⟩ v2).setCell ⟨b, 3, none⟩ v3).setCell ⟨b, 4, none⟩ v4) b v0 v1 v2 v3 v4 := by
  obtain ⟨⟨h0, h1, h2, h3, h4⟩, f0, f1, f2, f3, f4⟩ := h
  refine ⟨⟨?_, ?_, ?_, ?_, ?_⟩, ?_, ?_, ?_, ?_, ?_⟩
  · rw [World.cell?_setCell_other _ _ _ _ (by simp), World.cell?_setCell_other _ _ _ _ (by simp), World.cell?_setCell_other _ _ _ _ (by simp), World.cell?_setCell_other _ _ _ _ (by simp)]; exact World.cell?_setCell_same' _ _ _ (by rw [h0]; rfl)
  · rw [World.cell?_setCell_other _ _ _ _ (by simp), World.cell?_setCell_other _ _ _ _ (by simp), World.cell?_setCell_other _ _ _ _ (by simp)]; exact World.cell?_setCell_same' _ _ _ (by rw [World.cell?_setCell_other _ _ _ _ (by simp), h1]; rfl)
  · rw [World.cell?_setCell_other _ _ _ _ (by simp), World.cell?_setCell_other _ _ _ _ (by simp)]; exact World.cell?_setCell_same' _ _ _ (by rw [World.cell?_setCell_other _ _ _ _ (by simp), World.cell?_setCell_other _ _ _ _ (by simp), h2]; rfl)
  · rw [World.cell?_setCell_other _ _ _ _ (by simp)]; exact World.cell?_setCell_same' _ _ _ (by rw [World.cell?_setCell_other _ _ _ _ (by simp), World.cell?_setCell_other _ _ _ _ (by simp), World.cell?_setCell_other _ _ _ _ (by simp), h3]; rfl)
  · exact World.cell?_setCell_same' _ _ _ (by rw [World.cell?_setCell_other _ _ _ _ (by simp), World.cell?_setCell_other _ _ _ _ (by simp), World.cell?_setCell_other _ _ _ _ (by simp), World.cell?_setCell_other _ _ _ _ (by simp), h4]; rfl)
  all_goals simp only [World.frozen?_setCell]; assumption
theorem set5 {w w1 : World} {b : Nat} (h : Below w.heap.size w w1) (hb : w.heap.size ≤ b) (v0 v1 v2 v3 v4 : Value) :
    Below w.heap.size w (((((w1.setCell ⟨b, 0, none⟩ v0).setCell ⟨b, 1, none⟩ v1).setCell ⟨b, 2, none⟩ v2).setCell ⟨b, 3, none⟩ v3).setCell ⟨b, 4, none⟩ v4) :=
  ((((h.setCell hb _).setCell hb _).setCell hb _).setCell hb _).setCell hb _

theorem cellGrownT {w w' : World} {b o : Nat} {v : Value} {C : Nat} (h : w.cell? ⟨b, o, none⟩ = some v ∧ w.frozen? ⟨b, o, none⟩ = false) (hg : w.grownBy w' (some C)) (hne : b ≠ C) : w'.cell? ⟨b, o, none⟩ = some v ∧ w'.frozen? ⟨b, o, none⟩ = false := by
  have hn : some b ≠ some C := by simpa using hne
  exact ⟨hg.cell h.1 hn, by rw [World.frozen?_of_block (w := w) (hg.block b (World.block_lt_of_cell? w _ h.1) hn)]; exact h.2⟩
theorem Slot5f.grown {w w' : World} {b C : Nat} {v0 v1 v2 v3 v4 : Value} (h : Slot5f w b v0 v1 v2 v3 v4) (hg : w.grownBy w' (some C)) (hne : b ≠ C) : Slot5f w' b v0 v1 v2 v3 v4 := by
  obtain ⟨⟨h0, h1, h2, h3, h4⟩, f0, f1, f2, f3, f4⟩ := h
  have a0 := cellGrownT ⟨h0, f0⟩ hg hne
  have a1 := cellGrownT ⟨h1, f1⟩ hg hne
  have a2 := cellGrownT ⟨h2, f2⟩ hg hne
  have a3 := cellGrownT ⟨h3, f3⟩ hg hne
  have a4 := cellGrownT ⟨h4, f4⟩ hg hne
  exact ⟨⟨a0.1, a1.1, a2.1, a3.1, a4.1⟩, a0.2, a1.2, a2.2, a3.2, a4.2⟩
theorem fileBytes_len (t q n : Int) (d : Bool) (data : List UInt8) : (fileBytes t q n d data).length ≤ 1000 := by
  unfold fileBytes
  split
  · rename_i hB
    have hk2 : data.length ≤ 200 := by
      unfold fileB at hB
      simp only [Bool.and_eq_true, decide_eq_true_eq] at hB
      exact hB.2.1
    have h1 := Mt.enc_len (Mt.clamp t)
    have h2 := Mt.enc_len (Mt.clamp q)
    have h3 := Mt.enc_len (Mt.clamp n)
    have h4 := Mt.enc_len (Mt.clamp (d01 d))
    have h5 := Mt.enc_len (Mt.clamp ((⟨data.toArray⟩ : ByteArray).size : Int))
    have e5 : (⟨data.toArray⟩ : ByteArray).data.toList.length = data.length := rfl
    unfold fileBody putT stampBytes crc4
    simp only [List.length_append, List.length_cons, List.length_nil]
    omega
  · simp
/-- the cells of two blocks -/
theorem keepFF {w w' : World} {a1 a2 a3 a4 a5 c1 c2 c3 c4 c5 : Addr} {v1 v2 v3 v4 v5 u1 u2 u3 u4 u5 : Value} (h : (w.cell? a1 = some v1 ∧ w.cell? a2 = some v2 ∧ w.cell? a3 = some v3 ∧ w.cell? a4 = some v4 ∧ w.cell? a5 = some v5) ∧ (w.cell? c1 = some u1 ∧ w.cell? c2 = some u2 ∧ w.cell? c3 = some u3 ∧ w.cell? c4 = some u4 ∧ w.cell? c5 = some u5)) (hb : Below w.heap.size w w') :
    (w'.cell? a1 = some v1 ∧ w'.cell? a2 = some v2 ∧ w'.cell? a3 = some v3 ∧ w'.cell? a4 = some v4 ∧ w'.cell? a5 = some v5) ∧ (w'.cell? c1 = some u1 ∧ w'.cell? c2 = some u2 ∧ w'.cell? c3 = some u3 ∧ w'.cell? c4 = some u4 ∧ w'.cell? c5 = some u5) := ⟨keepF5 h.1 hb, keepF5 h.2 hb⟩
end Go.Proofs.Ytpejeoekpejblad.Wk
