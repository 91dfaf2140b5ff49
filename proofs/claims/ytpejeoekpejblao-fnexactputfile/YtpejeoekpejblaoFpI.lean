/- What sumBytes and copyBytes of the program come to. -/
import Derived.Test.YtpejeoekpejblaoFlT
import Derived.Test.YtpejeoekpejblaoFpS
import Derived.Test.YtpejeoekpejblaoCrcW
import Derived.Laws.CopyOwn
namespace Go.Proofs.Ytpejeoekpejblao.Wk
set_option linter.unusedVariables false
open Go.ChangeShapes Go.WideShapes Go.ChangeAt Go.RowKit

/-- four cells of a block -/
def Slot4f (w : World) (b : Nat) (v0 v1 v2 v3 : Value) : Prop := (w.cell? ⟨b, 0, none⟩ = some v0 ∧ w.cell? ⟨b, 1, none⟩ = some v1 ∧ w.cell? ⟨b, 2, none⟩ = some v2 ∧ w.cell? ⟨b, 3, none⟩ = some v3) ∧
  w.frozen? ⟨b, 0, none⟩ = false ∧ w.frozen? ⟨b, 1, none⟩ = false ∧ w.frozen? ⟨b, 2, none⟩ = false ∧ w.frozen? ⟨b, 3, none⟩ = false
theorem Slot4f.lt {w : World} {b : Nat} {v0 v1 v2 v3 : Value} (h : Slot4f w b v0 v1 v2 v3) : b < w.heap.size := World.block_lt_of_cell? w _ h.1.1
theorem Slot4f.below {w w' : World} {b : Nat} {v0 v1 v2 v3 : Value} (h : Slot4f w b v0 v1 v2 v3) (hb : Below w.heap.size w w') : Slot4f w' b v0 v1 v2 v3 := by
  have hl := h.lt
  have f : ∀ o, w'.cell? ⟨b, o, none⟩ = w.cell? ⟨b, o, none⟩ := fun o => hb.cell (p := ⟨b, o, none⟩) hl
  have g : ∀ o, w'.frozen? ⟨b, o, none⟩ = w.frozen? ⟨b, o, none⟩ := fun o => hb.frozen (p := ⟨b, o, none⟩) hl
  unfold Slot4f
  simp only [f, g]
  exact h
theorem slot4fNew (w : World) (v0 v1 v2 v3 : Value) (T : TypeId) : Slot4f (w.alloc (.cells #[v0, v1, v2, v3] T)) w.heap.size v0 v1 v2 v3 := by
  refine ⟨⟨?_, ?_, ?_, ?_⟩, ?_, ?_, ?_, ?_⟩
  all_goals first | (rw [World.cell?_alloc_at _ _ _ _ rfl]; rfl) | exact World.frozen?_alloc_at _ _ _ _ rfl
theorem Slot4f.set {w : World} {b : Nat} {u0 u1 u2 u3 : Value} (h : Slot4f w b u0 u1 u2 u3) (v0 v1 v2 v3 : Value) :
    Slot4f ((((w.setCell ⟨b, 0, none⟩ v0).setCell ⟨b, 1, none⟩ v1).setCell ⟨b, 2, none⟩ v2).setCell ⟨b, 3, none⟩ v3) b v0 v1 v2 v3 := by
  obtain ⟨⟨h0, h1, h2, h3⟩, f0, f1, f2, f3⟩ := h
  refine ⟨⟨?_, ?_, ?_, ?_⟩, ?_, ?_, ?_, ?_⟩
  · rw [World.cell?_setCell_other _ _ _ _ (by simp), World.cell?_setCell_other _ _ _ _ (by simp), World.cell?_setCell_other _ _ _ _ (by simp)]; exact World.cell?_setCell_same' _ _ _ (by rw [h0]; rfl)
  · rw [World.cell?_setCell_other _ _ _ _ (by simp), World.cell?_setCell_other _ _ _ _ (by simp)]; exact World.cell?_setCell_same' _ _ _ (by rw [World.cell?_setCell_other _ _ _ _ (by simp), h1]; rfl)
  · rw [World.cell?_setCell_other _ _ _ _ (by simp)]; exact World.cell?_setCell_same' _ _ _ (by rw [World.cell?_setCell_other _ _ _ _ (by simp), World.cell?_setCell_other _ _ _ _ (by simp), h2]; rfl)
  · exact World.cell?_setCell_same' _ _ _ (by rw [World.cell?_setCell_other _ _ _ _ (by simp), World.cell?_setCell_other _ _ _ _ (by simp), World.cell?_setCell_other _ _ _ _ (by simp), h3]; rfl)
  all_goals simp only [World.frozen?_setCell]; assumption
theorem set4 {w w1 : World} {b B : Nat} (h : Below B w w1) (hb : B ≤ b) (v0 v1 v2 v3 : Value) :
    Below B w ((((w1.setCell ⟨b, 0, none⟩ v0).setCell ⟨b, 1, none⟩ v1).setCell ⟨b, 2, none⟩ v2).setCell ⟨b, 3, none⟩ v3) :=
  (((h.setCell hb _).setCell hb _).setCell hb _).setCell hb _

theorem Slot4f.news {w : World} {b : Nat} {v0 v1 v2 v3 : Value} (h : Slot4f w b v0 v1 v2 v3) : ∀ j u, [v0, v1, v2, v3][j]? = some u → w.cell? ((⟨b, 0, none⟩ : Addr).add j) = some u := by
  obtain ⟨⟨h0, h1, h2, h3⟩, -⟩ := h
  intro j u hj
  rw [Go.WideShapes.add_plain, Nat.zero_add]
  match j, hj with
  | 0, hj => simp at hj; subst hj; exact h0
  | 1, hj => simp at hj; subst hj; exact h1
  | 2, hj => simp at hj; subst hj; exact h2
  | 3, hj => simp at hj; subst hj; exact h3
/-- a sum's four bytes as an array's value -/
def sum4 (X : Nat) : Array Value := #[.int .u8 ((X : Int) / 16777216 % 256), .int .u8 ((X : Int) / 65536 % 256), .int .u8 ((X : Int) / 256 % 256), .int .u8 ((X : Int) % 256)]
theorem sum4_eq (X : Nat) : (sum4 X).toList = By (crc4 X) := (By_crc4 X).symm

set_option maxHeartbeats 2000000 in
set_option maxRecDepth 100000 in
theorem sumBytes (a : Option Addr) (cap : Nat) (l : List UInt8) (w : World) (hl : l.length ≤ 1048576) (hr : RdA w a l) :
    Calls Try.prog 66 #[.slice a l.length cap] w fun e w' => e = .returned (.agg (sum4 (Mt.crcN l))) ∧ Below w.heap.size w w' := by
  have b0 := bel1 w (.cells #[.int .u8 0, .int .u8 0, .int .u8 0, .int .u8 0] 96)
  have cC := implCrc a cap l (w.alloc (.cells #[.int .u8 0, .int .u8 0, .int .u8 0, .int .u8 0] 96)) hl (hr.below b0)
  have s0 := slot4fNew w (.int .u8 0) (.int .u8 0) (.int .u8 0) (.int .u8 0) 96
  generalize Mt.crcN l = X at cC ⊢
  go_enter Try.func66, Try.ntmps66
  go_wp2_with fail
  refine cC.mono ?_
  rintro e w2 ⟨rfl, hb2⟩
  have s2 := s0.below hb2
  obtain ⟨⟨c0, c1, c2, c3⟩, f0, f1, f2, f3⟩ := id s2
  go_wp2
  obtain ⟨z0, z1, z2, z3⟩ := (s2.set (.int .u8 ((X : Int) / 16777216 % 256)) (.int .u8 ((X : Int) / 65536 % 256)) (.int .u8 ((X : Int) / 256 % 256)) (.int .u8 ((X : Int) % 256))).1
  exact bodyPost_ret (v := .agg (sum4 X)) (by simp [results, Try.results66, go_sem, z0, z1, z2, z3, sum4]) rfl ⟨rfl, set4 (behind b0 hb2) (Nat.le_refl _) _ _ _ _⟩

end Go.Proofs.Ytpejeoekpejblao.Wk
