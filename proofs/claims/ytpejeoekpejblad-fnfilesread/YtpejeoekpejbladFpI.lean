/- What sumBytes and copyBytes of the program come to. -/
import Derived.Test.YtpejeoekpejbladFlT
import Derived.Test.YtpejeoekpejbladFpS
import Derived.Test.YtpejeoekpejbladCrcW
import Derived.Laws.CopyOwn
namespace Go.Proofs.Ytpejeoekpejblad.Wk
set_option linter.unusedVariables false
open Go.ChangeShapes Go.WideShapes Go.ChangeAt Go.RowKit

/-- four cells of a block -/
def Slot4f (w : World) (b : Nat) (v0 v1 v2 v3 : Value) : Prop := (w.cell? ⟨b, 0, none⟩ = some v0 ∧ w.cell? ⟨b, 1, none⟩ = some v1 ∧ w.cell? ⟨b, 2, none⟩ = some v2 ∧ w.cell? ⟨b, 3, none⟩ = some v3) ∧
  w.frozen? ⟨b, 0, none⟩ = false ∧ w.frozen? ⟨b, 1, none⟩ = false ∧ w.frozen? ⟨b, 2, none⟩ = false ∧ w.frozen? ⟨b, 3, none⟩ = false
theorem Slot4f.lt {w : World} {b : Nat} {v0 v1 v2 v3 : Value} (h : Slot4f w b v0 v1 v2 v3) : b < w.heap.size := World.block_lt_of_cell? w _ h.1.1
theorem Slot4f.below {w w' : World} {b : Nat} {v0 v1 v2 v3 : Value} (h : Slot4f w b v0 v1 v2 v3) (hb : Below w.heap.size w w') : Slot4f w' b v0 v1 v2 v3 := by
  have hl := h.lt
  have f : ∀ o, w'.cell? ⟨b, o, none⟩ = w.cell? ⟨b, o, none⟩ := fun o => hb.cell (p := ⟨b, o, none⟩) hl
  have g : ∀ o, w'.frozen? ⟨b, o, none⟩ = w.frozen? ⟨b, o, none⟩ := fun o => hb.frozen (p := ⟨b, o, none⟩) hl
  unfold Slot4f
  simp only [f, g]
  exact h
theorem slot4fNew (w : World) (v0 v1 v2 v3 : Value) (T : TypeId) : Slot4f (w.alloc (.cells #[v0, v1, v2, v3] T)) w.heap.size v0 v1 v2 v3 := by
  refine ⟨⟨?_, ?_, ?_, ?_⟩, ?_, ?_, ?_, ?_⟩
  all_goals first | (rw [World.cell?_alloc_at _ _ _ _ rfl]; rfl) | exact World.frozen?_alloc_at _ _ _ _ rfl
theorem Slot4f.set {w : World} {b : Nat} {u0 u1 u2 u3 : Value} (h : Slot4f w b u0 u1 u2 u3) (v0 v1 v2 v3 : Value) :
    Slot4f ((((w.setCell ⟨b, 0, none⟩ v0).setCell ⟨b, 1, none⟩ v1).setCell ⟨b, 2, none⟩ v2).setCell ⟨b, 3, none⟩ v3) b v0 v1 v2 v3 := by
  obtain ⟨⟨h0, h1, h2, h3⟩, f0, f1, f2, f3⟩ := h
  refine ⟨⟨?_, ?_, ?_, ?_⟩, ?_, ?_, ?_, ?_⟩
  · rw [World.cell?_setCell_other _ _ _ _ (by simp), World.cell?_setCell_other _ _ _ _ (by simp), World.cell?_setCell_other _ _ _ _ (by simp)]; exact World.cell?_setCell_same' _ _ _ (by rw [h0]; rfl)
  · rw [World.cell?_setCell_other _ _ _ _ (by simp), World.cell?_setCell_other _ _ _ _ (by simp)]; exact World.cell?_setCell_same' _ _ _ (by rw [World.cell?_setCell_other _ _ _ _ (by simp), h1]; rfl)
  · rw [World.cell?_setCell_other _ _ _ _ (by simp)]; exact World.cell?_setCell_same' _ _ _ (by rw [World.cell?_setCell_other _ _ _ _ (by simp), World.cell?_setCell_other _ _ _ _ (by simp), h2]; rfl)
  · exact World.cell?_setCell_same' _ _ _ (by rw [World.cell?_setCell_other _ _ _ _ (by simp), World.cell?_setCell_other _ _ _ _ (by simp), World.cell?_setCell_other _ _ _ _ (by simp), h3]; rfl)
  all_goals simp only [World.frozen?_setCell]; assumption
theorem set4 {w w1 : World} {b B : Nat} (h : Below B w w1) (hb : B ≤ b) (v0 v1 v2 v3 : Value) :
    Below B w ((((w1.setCell ⟨b, 0, none⟩ v0).setCell ⟨b, 1, none⟩ v1).setCell ⟨b, 2, none⟩ v2).setCell ⟨b, 3, none⟩ v3) :=
  (((h.setCell hb _).setCell hb _).setCell hb _).setCell hb _

theorem Slot4f.news {w : World} {b : Nat} {v0 v1 v2 v3 : Value} (h : Slot4f w b v0 v1 v2 v3) : ∀ j u, [v0, v1, v2, v3][j]? = some u → w.cell? ((⟨b, 0, none⟩ : Addr).add j) = some u := by
  obtain ⟨⟨h0, h1, h2, h3⟩, -⟩ := h
  intro j u hj
  rw [Go.WideShapes.add_plain, Nat.zero_add]
  match j, hj with
  | 0, hj => simp at hj; subst hj; exact h0
  | 1, hj => simp at hj; subst hj; exact h1
  | 2, hj => simp at hj; subst hj; exact h2
  | 3, hj => simp at hj; subst hj; exact h3
/-- a sum's four bytes as an array's value -/
def sum4 (X : Nat) : Array Value := #[.int .u8 ((X : Int) / 16777216 % 256), .int .u8 ((X : Int) / 65536 % 256), .int .u8 ((X : Int) / 256 % 256), .int .u8 ((X : Int) % 256)]
theorem sum4_eq (X : Nat) : (sum4 X).toList = By (crc4 X) := (By_crc4 X).symm

set_option maxHeartbeats 2000000 in
set_option maxRecDepth 100000 in
theorem sumBytes (a : Option Addr) (cap : Nat) (l : List UInt8) (w : World) (hl : l.length ≤ 1048576) (hr : RdA w a l) :
    Calls Try.prog 25 #[.slice a l.length cap] w fun e w' => e = .returned (.agg (sum4 (Mt.crcN l))) ∧ Below w.heap.size w w' := by
  have b0 := bel1 w (.cells #[.int .u8 0, .int .u8 0, .int .u8 0, .int .u8 0] 48)
  have cC := implCrc a cap l (w.alloc (.cells #[.int .u8 0, .int .u8 0, .int .u8 0, .int .u8 0] 48)) hl (hr.below b0)
  have s0 := slot4fNew w (.int .u8 0) (.int .u8 0) (.int .u8 0) (.int .u8 0) 48
  generalize Mt.crcN l = X at cC ⊢
  go_enter Try.func25, Try.ntmps25
  go_wp2_with fail
  refine cC.mono ?_
  rintro e w2 ⟨rfl, hb2⟩
  have s2 := s0.below hb2
  obtain ⟨⟨c0, c1, c2, c3⟩, f0, f1, f2, f3⟩ := id s2
  go_wp2
  obtain ⟨z0, z1, z2, z3⟩ := (s2.set (.int .u8 ((X : Int) / 16777216 % 256)) (.int .u8 ((X : Int) / 65536 % 256)) (.int .u8 ((X : Int) / 256 % 256)) (.int .u8 ((X : Int) % 256))).1
  exact bodyPost_ret (v := .agg (sum4 X)) (by simp [results, Try.results25, go_sem, z0, z1, z2, z3, sum4]) rfl ⟨rfl, set4 (behind b0 hb2) (Nat.le_refl _) _ _ _ _⟩

set_option maxHeartbeats 2000000 in
set_option maxRecDepth 100000 in
theorem copyBytes (a : Option Addr) (cap : Nat) (l : List UInt8) (w : World) (hl : l.length ≤ 1048576) (hr : RdA w a l) :
    Calls Try.prog 29 #[.slice a l.length cap] w fun e w' => e = .returned (.slice (some ⟨w.heap.size, 0, none⟩) l.length l.length) ∧
      OwnB w' w.heap.size (.slice (some ⟨w.heap.size, 0, none⟩) l.length l.length) l ∧ Below w.heap.size w w' := by
  obtain ⟨i0, hi, hz0, hz1, hz2⟩ := info_parts Try.info5
  obtain ⟨w1, hrun, hown, hgrow⟩ := run_make_full (P := Try.prog) w w.heap.size 22 5 i0 (.int .u8 0) 1 Try.underlying22 hi hz0 hz1 .i64 .i64 l.length (by rw [hz2]; omega) (by unfold maxLen; omega) (Nat.le_refl _)
  have hbel : Below w.heap.size w w1 := (Below.refl _ _).grown hgrow (Nat.le_refl _) (fun k h => by cases h)
  rw [Nat.mul_one, show (Value.int .u8 0).cells = #[.int .u8 0] from rfl, toList_madeCells_one] at hown
  have hr1 := hr.below hbel
  obtain ⟨g, cap', cur, e1, hg, hh, hnc, hcm, hcs, ht⟩ : ∃ g cap cur, Value.slice (some ⟨w.heap.size, 0, none⟩) l.length l.length = .slice (some ⟨g, 0, none⟩) l.length cap ∧ w.heap.size ≤ g ∧ w1.heap[g]? = some (.cells cur 5 (0, 0)) ∧ l.length ≤ cap ∧ cap ≤ maxLen ∧ cur.size = cap * 1 ∧ cur.toList.take (l.length * 1) = List.replicate l.length (.int .u8 0) := by
    rcases hown.2 with ⟨e1, -⟩ | h
    · cases e1
    · exact h
  simp only [Value.slice.injEq, Option.some.injEq, Addr.mk.injEq, and_true, true_and] at e1
  obtain ⟨e1, e2⟩ := e1
  subst e1 e2
  have hcl : cur.toList.length = l.length := by rw [Array.length_toList, hcs, Nat.mul_one]
  have hpos : 0 < (By l).length → (some (⟨w.heap.size, 0, none⟩ : Addr)) = some ⟨w.heap.size, 0, none⟩ ∧ ∃ ad, a = some ad ∧ ∀ j v, (By l)[j]? = some v → w1.cell? (ad.add j) = some v := by
    intro h0
    rw [By_length] at h0
    obtain ⟨b, off, rfl, -⟩ := hr1 0 h0
    exact ⟨rfl, _, rfl, hr1.news⟩
  have hfit : 0 + (By l).length ≤ cur.toList.length := by rw [hcl, By_length]; omega
  have hn0 : (By l).length = Nat.min l.length l.length := by rw [By_length]; exact (Nat.min_self _).symm
  have hh' : w1.heap[w.heap.size]? = some (.cells cur.toList.toArray 5 (0, 0)) := by simpa using hh
  have hspl : splice cur.toList 0 (By l) = By l := by unfold splice; rw [List.take_zero, List.nil_append, Nat.zero_add, List.drop_of_length_le (by rw [hcl, By_length]; exact Nat.le_refl _), List.append_nil]
  have hsz : (Try.prog.info? 5).map (·.size) = some 1 := by rw [hi]; exact congrArg some hz1
  clear hgrow hz0 hz1 hz2 hown ht hcs hh hi
  go_enter Try.func29, Try.ntmps29
  go_wp2_with (refine wpList_copy_splice rfl (.tmp 7) (.tmp 8) 22 22 rfl 5 Try.underlying22 hsz (some ⟨w.heap.size, 0, none⟩) a l.length l.length l.length cap rfl rfl w.heap.size 0 cur.toList 5 hh' (By l) hn0 hpos hfit (By_one l) w.heap.size w hbel (Nat.le_refl _) ?_; intro w2 HG2 hB2)
  go_ret
  refine ⟨rfl, ⟨by rw [By_length, Nat.mul_one], .inr ⟨w.heap.size, l.length, (By l).toArray, rfl, Nat.le_refl _, ?_, Nat.le_refl _, hcm, by simp [By_length], by rw [List.toList_toArray, Nat.mul_one]; exact List.take_of_length_le (by rw [By_length]; exact Nat.le_refl _)⟩⟩, hB2⟩
  have := HG2.out
  rw [hspl] at this
  exact this
end Go.Proofs.Ytpejeoekpejblad.Wk
