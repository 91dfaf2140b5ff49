/- What fileIn of the program comes to. -/
import Derived.Test.YtpejeoekpejbladFiM
import Derived.Test.YtpejeoekpejbladFlI
import Derived.Test.YtpejeoekpejbladFlT
import Derived.Test.YtpejeoekpejbladGnI
namespace Go.Proofs.Ytpejeoekpejblad.Wk
set_option linter.unusedVariables false
open Go.ChangeShapes Go.WideShapes Go.ChangeAt Go.RowKit

theorem runNums_slot (l : List UInt8) (L : List Addr) : ∀ (p : Int) (w : World) {R : Nat} {v0 v1 v2 v3 v4 : Value}, (∀ y ∈ L, y.block ≠ R) → Slot5f w R v0 v1 v2 v3 v4 → Slot5f (runNums l L p w).1 R v0 v1 v2 v3 v4 := by
  induction L with
  | nil => intro p w R v0 v1 v2 v3 v4 _ h; exact h
  | cons x xs ih =>
    intro p w R v0 v1 v2 v3 v4 hL h
    have h1 : Slot5f (w.setCell x (.int .i64 (nv (Mt.getNum l p)))) R v0 v1 v2 v3 v4 := by
      obtain ⟨b, o, s⟩ := x
      have hne : R ≠ b := fun e => hL _ (List.mem_cons_self ..) e.symm
      obtain ⟨⟨h0, h1, h2, h3, h4⟩, f0, f1, f2, f3, f4⟩ := h
      refine ⟨⟨?_, ?_, ?_, ?_, ?_⟩, ?_, ?_, ?_, ?_, ?_⟩
      all_goals first | (rw [World.cell?_setCell_other _ _ _ _ (by intro e; cases e; exact hne rfl)]; assumption) | (simp only [World.frozen?_setCell]; assumption)
    unfold runNums
    split
    · exact ih _ _ (fun y hy => hL y (List.mem_cons_of_mem _ hy)) h1
    · exact h1
theorem runNums_below (l : List UInt8) (L : List Addr) : ∀ (p : Int) (w : World) {B : Nat} {w0 : World}, (∀ y ∈ L, B ≤ y.block) → Below B w0 w → Below B w0 (runNums l L p w).1 := by
  induction L with
  | nil => intro p w B w0 _ h; exact h
  | cons x xs ih =>
    intro p w B w0 hL h
    have h1 := h.setCell (hL x (List.mem_cons_self ..)) (.int .i64 (nv (Mt.getNum l p)))
    unfold runNums
    split
    · exact ih _ _ (fun y hy => hL y (List.mem_cons_of_mem _ hy)) h1
    · exact h1
theorem runNums_no (l : List UInt8) (x1 x2 x3 x4 x5 : Addr) (w : World) (h : iOk l = false) : (runNums l [x1, x2, x3, x4, x5] 0 w).2 = none := by
  have e : runNums l [x1, x2, x3, x4, x5] 0 w = if (gS1 l).isSome then if (gS2 l).isSome then if (gS3 l).isSome then if (gD l).isSome then if (gZ l).isSome then
      (((((w.setCell x1 (.int .i64 (nv (gS1 l)))).setCell x2 (.int .i64 (nv (gS2 l)))).setCell x3 (.int .i64 (nv (gS3 l)))).setCell x4 (.int .i64 (nv (gD l)))).setCell x5 (.int .i64 (nv (gZ l))), some (np (gZ l)))
      else (((((w.setCell x1 (.int .i64 (nv (gS1 l)))).setCell x2 (.int .i64 (nv (gS2 l)))).setCell x3 (.int .i64 (nv (gS3 l)))).setCell x4 (.int .i64 (nv (gD l)))).setCell x5 (.int .i64 (nv (gZ l))), none)
      else ((((w.setCell x1 (.int .i64 (nv (gS1 l)))).setCell x2 (.int .i64 (nv (gS2 l)))).setCell x3 (.int .i64 (nv (gS3 l)))).setCell x4 (.int .i64 (nv (gD l))), none)
      else (((w.setCell x1 (.int .i64 (nv (gS1 l)))).setCell x2 (.int .i64 (nv (gS2 l)))).setCell x3 (.int .i64 (nv (gS3 l))), none)
      else ((w.setCell x1 (.int .i64 (nv (gS1 l)))).setCell x2 (.int .i64 (nv (gS2 l))), none) else (w.setCell x1 (.int .i64 (nv (gS1 l))), none) := rfl
  rw [e]
  unfold iOk gOk at h
  cases h1 : (gS1 l).isSome with
  | false => rfl
  | true =>
    cases h2 : (gS2 l).isSome with
    | false => rfl
    | true =>
      cases h3 : (gS3 l).isSome with
      | false => rfl
      | true =>
        cases h4 : (gD l).isSome with
        | false => rfl
        | true =>
          cases h5 : (gZ l).isSome with
          | false => rfl
          | true => rw [h1, h2, h3, h4, h5] at h; cases h
theorem runNums_yes (l : List UInt8) (x1 x2 x3 x4 x5 : Addr) (w : World) (h : iOk l = true) : runNums l [x1, x2, x3, x4, x5] 0 w =
    (((((w.setCell x1 (.int .i64 (nv (gS1 l)))).setCell x2 (.int .i64 (nv (gS2 l)))).setCell x3 (.int .i64 (nv (gS3 l)))).setCell x4 (.int .i64 (nv (gD l)))).setCell x5 (.int .i64 (nv (gZ l))), some (np (gZ l))) := by
  simp only [iOk, gOk, Bool.and_eq_true] at h
  obtain ⟨⟨h1, h2, h3⟩, h4, h5⟩ := h
  show (if (gS1 l).isSome then if (gS2 l).isSome then if (gS3 l).isSome then if (gD l).isSome then if (gZ l).isSome then _ else _ else _ else _ else _ else _) = _
  rw [if_pos h1, if_pos h2, if_pos h3, if_pos h4, if_pos h5]
  rfl

/-- what is told of the file of the bytes ahead of the sum -/
def FinRet (o : Option Fl) (e : Ending) (w' : World) : Prop := ∃ (t q n : Int) (d : Bool) (a : Option Addr) (k c : Nat) (ok : Bool), e = .returned (.tuple #[.agg #[.int .i64 t, .int .i64 q, .int .i64 n, .bool d, .slice a k c], .bool ok]) ∧
  match o with
  | none => ok = false
  | some x => ok = true ∧ x.1 = t ∧ x.2.1 = q ∧ x.2.2.1 = n ∧ x.2.2.2.1 = d ∧ x.2.2.2.2.length = k ∧ RdA w' a x.2.2.2.2

/-- a cell that may be written -/
def Cell1 (w : World) (b : Nat) (v : Value) : Prop := w.cell? ⟨b, 0, none⟩ = some v ∧ w.frozen? ⟨b, 0, none⟩ = false
theorem Cell1.below {w w' : World} {b : Nat} {v : Value} (h : Cell1 w b v) (hb : Below w.heap.size w w') : Cell1 w' b v := by
  have hl := World.block_lt_of_cell? w _ h.1
  exact ⟨by rw [hb.cell (p := ⟨b, 0, none⟩) hl]; exact h.1, by rw [hb.frozen (p := ⟨b, 0, none⟩) hl]; exact h.2⟩
theorem cell1New (w : World) (v : Value) (T : TypeId) : Cell1 (w.alloc (.cells #[v] T)) w.heap.size v := ⟨by rw [World.cell?_alloc_at _ _ _ _ rfl]; rfl, World.frozen?_alloc_at _ _ _ _ rfl⟩
theorem Cell1.other {w : World} {b c o : Nat} {v x : Value} (h : Cell1 w b v) (hne : b ≠ c) : Cell1 (w.setCell ⟨c, o, none⟩ x) b v :=
  ⟨by rw [World.cell?_setCell_other _ _ _ _ (by intro e; cases e; exact hne rfl)]; exact h.1, by rw [World.frozen?_setCell]; exact h.2⟩
theorem Cell1.put {w : World} {b : Nat} {v : Value} (h : Cell1 w b v) (x : Value) : Cell1 (w.setCell ⟨b, 0, none⟩ x) b x :=
  ⟨World.cell?_setCell_same' _ _ _ (by rw [h.1]; rfl), by rw [World.frozen?_setCell]; exact h.2⟩
end Go.Proofs.Ytpejeoekpejblad.Wk
