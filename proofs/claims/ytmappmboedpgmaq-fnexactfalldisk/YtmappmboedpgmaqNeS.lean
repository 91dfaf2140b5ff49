/- What l9Ends of the specification comes to: what was laid, if all is right, else the disk as it came, copied. -/
import Derived.Test.YtmappmboedpgmaqRwK
import Derived.Test.YtmappmboedpgmaqDnS
namespace Go.Proofs.Ytmappmboedpgmaq.Wk
set_option linter.unusedVariables false
open Go.ChangeShapes Go.WideShapes Go.ChangeAt Go.RowKit

/-- two cells of a box are written: what may be read then -/
theorem boxSet {w : World} {b : Nat} {v1 v2 x1 x2 : Value} (t0 : w.cell? ⟨b, 0, none⟩ = some x1) (t1 : w.cell? ⟨b, 1, none⟩ = some x2) :
    ((w.setCell ⟨b, 0, none⟩ v1).setCell ⟨b, 1, none⟩ v2).cell? ⟨b, 0, none⟩ = some v1 ∧ ((w.setCell ⟨b, 0, none⟩ v1).setCell ⟨b, 1, none⟩ v2).cell? ⟨b, 1, none⟩ = some v2 := by
  constructor
  · rw [World.cell?_setCell_other _ _ _ _ (by simp)]
    exact World.cell?_setCell_same' _ _ _ (by rw [t0]; rfl)
  · exact World.cell?_setCell_same' _ _ _ (by rw [World.cell?_setCell_other _ _ _ _ (by simp), t1]; rfl)
theorem setBelow {w w' : World} {b : Nat} (h : Below w.heap.size w w') (hb : w.heap.size ≤ b) (u v : Value) : Below w.heap.size w ((w'.setCell ⟨b, 0, none⟩ u).setCell ⟨b, 1, none⟩ v) :=
  (h.setCell hb _).setCell hb _
theorem Slot2d.other {w : World} {b b' o : Nat} {u v x : Value} (h : Slot2d w b u v) (hne : b ≠ b') : Slot2d (w.setCell ⟨b', o, none⟩ x) b u v :=
  ⟨⟨by rw [World.cell?_setCell_other _ _ _ _ (by simp)]; exact h.1.1, by rw [World.cell?_setCell_other _ _ _ _ (by simp)]; exact h.1.2⟩, by rw [World.frozen?_setCell]; exact h.2.1, by rw [World.frozen?_setCell]; exact h.2.2⟩
theorem Slot2d.put0 {w : World} {b : Nat} {u v x : Value} (h : Slot2d w b u v) : Slot2d (w.setCell ⟨b, 0, none⟩ x) b x v :=
  ⟨⟨World.cell?_setCell_same' _ _ _ (by rw [h.1.1]; rfl), by rw [World.cell?_setCell_other _ _ _ _ (by simp)]; exact h.1.2⟩, by rw [World.frozen?_setCell]; exact h.2.1, by rw [World.frozen?_setCell]; exact h.2.2⟩
theorem Slot2d.put1 {w : World} {b : Nat} {u v x : Value} (h : Slot2d w b u v) : Slot2d (w.setCell ⟨b, 1, none⟩ x) b u x :=
  ⟨⟨by rw [World.cell?_setCell_other _ _ _ _ (by simp)]; exact h.1.1, World.cell?_setCell_same' _ _ _ (by rw [h.1.2]; rfl)⟩, by rw [World.frozen?_setCell]; exact h.2.1, by rw [World.frozen?_setCell]; exact h.2.2⟩
theorem DkAns.mk' {w w' : World} {ok : Bool} {base n1 n2 : Nat} {a1 a2 : Option Addr} {c1 c2 : Nat} {l1 l2 : List Nd} (h : OwnDk w' base (.slice a1 n1 c1) (.slice a2 n2 c2) l1 l2) (h1 : n1 = l1.length) (h2 : n2 = l2.length) (hb : Below w.heap.size w w') (hle : w.heap.size ≤ base) :
    DkAns w ok l1 l2 (.returned (.tuple #[.agg #[.slice a1 n1 c1, .slice a2 n2 c2], .bool ok])) w' := by
  subst h1 h2
  obtain ⟨r1, r2, e1, e2, o⟩ := h.rows
  exact ⟨a1, a2, c1, c2, r1, r2, rfl, o.base hle, e1, e2, hb⟩

set_option maxHeartbeats 4000000 in
set_option maxRecDepth 100000 in
theorem specEnds (a1 a2 b1 b2 : Option Addr) (c1 c2 d1 d2 : Nat) (l1 l2 o1 o2 : List Nd) (s : ByteArray) (w : World) (h1 : l1.length ≤ 1048576) (h2 : l2.length ≤ 1048576) (z1 : ∀ x ∈ l1, x.1.size ≤ 1048576 ∧ x.2.length ≤ 1048576) (z2 : ∀ x ∈ l2, x.1.size ≤ 1048576 ∧ x.2.length ≤ 1048576)
    (hs : s.size ≤ 1048576) (ho : (listOk l1 && listOk l2) = true → (o1.length ≤ 1048576 ∧ o2.length ≤ 1048576) ∧ (∀ x ∈ o1, x.1.size ≤ 1048576 ∧ x.2.length ≤ 1048576) ∧ (∀ x ∈ o2, x.1.size ≤ 1048576 ∧ x.2.length ≤ 1048576))
    (r1 : RdNd w a1 l1) (r2 : RdNd w a2 l2) (q1 : RdNd w b1 o1) (q2 : RdNd w b2 o2) :
    Calls Try.prog 27 #[.agg #[.slice a1 l1.length c1, .slice a2 l2.length c2], .agg #[.slice b1 o1.length d1, .slice b2 o2.length d2], .string s] w fun e w' =>
      if (listOk l1 && listOk l2) && Nm.name s.data.toList && (listOk o1 && listOk o2) then e = .returned (.tuple #[.agg #[.slice b1 o1.length d1, .slice b2 o2.length d2], .bool true]) ∧ Below w.heap.size w w' else DkAns w false l1 l2 e w' := by
  have b0 := bel3 w (.cells #[.slice a1 l1.length c1, .slice a2 l2.length c2] 28) (.cells #[.slice b1 o1.length d1, .slice b2 o2.length d2] 28) (.cells #[.slice none 0 0, .slice none 0 0] 28)
  have s0 := ((slot2dNew w (.slice a1 l1.length c1) (.slice a2 l2.length c2) 28).below (bel1 _ (.cells #[.slice b1 o1.length d1, .slice b2 o2.length d2] 28))).below (bel1 _ (.cells #[.slice none 0 0, .slice none 0 0] 28))
  have s1 := (slot2dNew (w.alloc (.cells #[.slice a1 l1.length c1, .slice a2 l2.length c2] 28)) (.slice b1 o1.length d1) (.slice b2 o2.length d2) 28).below (bel1 _ (.cells #[.slice none 0 0, .slice none 0 0] 28))
  have s2 := slot2dNew ((w.alloc (.cells #[.slice a1 l1.length c1, .slice a2 l2.length c2] 28)).alloc (.cells #[.slice b1 o1.length d1, .slice b2 o2.length d2] 28)) (.slice none 0 0) (.slice none 0 0) 28
  have hsz : (((w.alloc (.cells #[.slice a1 l1.length c1, .slice a2 l2.length c2] 28)).alloc (.cells #[.slice b1 o1.length d1, .slice b2 o2.length d2] 28)).alloc (.cells #[.slice none 0 0, .slice none 0 0] 28)).heap.size = w.heap.size + 3 := by simp
  rw [World.size_alloc] at s1
  rw [World.size_alloc, World.size_alloc] at s2
  have cD := fun (W : World) (h : Below w.heap.size w W) => specDiskOk a1 a2 c1 c2 l1 l2 W h1 h2 z1 z2 (r1.below h) (r2.below h)
  have cN := fun (W : World) => specName s W hs
  have cC := fun (W : World) (h : Below w.heap.size w W) => specCopyDk a1 a2 c1 c2 l1 l2 W h1 h2 (fun x hx => (z1 x hx).2) (fun x hx => (z2 x hx).2) (r1.below h) (r2.below h)
  have cO := fun (hA : (listOk l1 && listOk l2) = true) (W : World) (h : Below w.heap.size w W) => specDiskOk b1 b2 d1 d2 o1 o2 W (ho hA).1.1 (ho hA).1.2 (ho hA).2.1 (ho hA).2.2 (q1.below h) (q2.below h)
  clear r1 r2 q1 q2 z1 z2 ho h1 h2 hs
  generalize (listOk o1 && listOk o2) = O at *
  generalize Nm.name s.data.toList = N at *
  generalize (listOk l1 && listOk l2) = A at *
  go_enter Try.func27, Try.ntmps27
  go_wp2_with fail
  generalize ((w.alloc (.cells #[.slice a1 l1.length c1, .slice a2 l2.length c2] 28)).alloc (.cells #[.slice b1 o1.length d1, .slice b2 o2.length d2] 28)).alloc (.cells #[.slice none 0 0, .slice none 0 0] 28) = wA at *
  go_at_call 42
  refine (cD _ b0).mono ?_
  rintro e w3 ⟨rfl, hb3⟩
  have B3 := behind b0 hb3
  have t0 := s0.below hb3
  have t1 := s1.below hb3
  have t2 := s2.below hb3
  have hs3 := hb3.size
  clear cD s0 s1 s2 b0
  cases A with
  | false =>
    obtain ⟨⟨x0, x1⟩, -⟩ := id t0
    go_wp2_with fail
    go_at_call 24
    refine (cC _ B3).mono ?_
    rintro e w4 ⟨p1, p2, e1, e2, rfl, OD, hb4⟩
    have B4 := behind B3 hb4
    obtain ⟨⟨y0, y1⟩, y2, y3⟩ := t2.below hb4
    have DA := DkAns.mk' (w := w) (ok := false) ((OD.far (b := w.heap.size + 2) (o := 0) (u := .slice p1 l1.length e1) (by omega)).far (b := w.heap.size + 2) (o := 1) (u := .slice p2 l2.length e2) (by omega)) rfl rfl (setBelow B4 (by omega) _ _) (by omega)
    obtain ⟨z0, z1⟩ := boxSet (v1 := .slice p1 l1.length e1) (v2 := .slice p2 l2.length e2) y0 y1
    go_wp2
    refine bodyPost_ret (v := .tuple #[.agg #[.slice p1 l1.length e1, .slice p2 l2.length e2], .bool false]) (by simp [results, Try.results27, go_sem, z0, z1]) rfl ?_
    simpa using DA
  | true =>
    have cO' := cO rfl
    cases N with
    | false =>
      obtain ⟨⟨x0, x1⟩, -⟩ := id t0
      go_wp2_with fail
      go_at_call 52
      refine (cN _).mono ?_
      rintro e w3' ⟨rfl, rfl⟩
      go_wp2_with fail
      go_at_call 24
      refine (cC _ B3).mono ?_
      rintro e w4 ⟨p1, p2, e1, e2, rfl, OD, hb4⟩
      have B4 := behind B3 hb4
      obtain ⟨⟨y0, y1⟩, y2, y3⟩ := t2.below hb4
      have DA := DkAns.mk' (w := w) (ok := false) ((OD.far (b := w.heap.size + 2) (o := 0) (u := .slice p1 l1.length e1) (by omega)).far (b := w.heap.size + 2) (o := 1) (u := .slice p2 l2.length e2) (by omega)) rfl rfl (setBelow B4 (by omega) _ _) (by omega)
      obtain ⟨z0, z1⟩ := boxSet (v1 := .slice p1 l1.length e1) (v2 := .slice p2 l2.length e2) y0 y1
      go_wp2
      refine bodyPost_ret (v := .tuple #[.agg #[.slice p1 l1.length e1, .slice p2 l2.length e2], .bool false]) (by simp [results, Try.results27, go_sem, z0, z1]) rfl ?_
      simpa using DA
    | true =>
      obtain ⟨⟨x0, x1⟩, -⟩ := id t0
      obtain ⟨⟨g0, g1⟩, -⟩ := id t1
      go_wp2_with fail
      go_at_call 52
      refine (cN _).mono ?_
      rintro e w3' ⟨rfl, rfl⟩
      go_wp2_with fail
      go_at_call 42
      refine (cO' _ B3).mono ?_
      rintro e w5 ⟨rfl, hb5⟩
      have B5 := behind B3 hb5
      have u0 := t0.below hb5
      have u1 := t1.below hb5
      have u2 := t2.below hb5
      have hs5 := hb5.size
      clear t0 t1 t2 x0 x1 g0 g1 B3 hb3
      cases O with
      | false =>
        obtain ⟨⟨x0, x1⟩, -⟩ := id u0
        go_wp2_with fail
        go_at_call 24
        refine (cC _ B5).mono ?_
        rintro e w4 ⟨p1, p2, e1, e2, rfl, OD, hb4⟩
        have B4 := behind B5 hb4
        obtain ⟨⟨y0, y1⟩, y2, y3⟩ := u2.below hb4
        have DA := DkAns.mk' (w := w) (ok := false) ((OD.far (b := w.heap.size + 2) (o := 0) (u := .slice p1 l1.length e1) (by omega)).far (b := w.heap.size + 2) (o := 1) (u := .slice p2 l2.length e2) (by omega)) rfl rfl (setBelow B4 (by omega) _ _) (by omega)
        obtain ⟨z0, z1⟩ := boxSet (v1 := .slice p1 l1.length e1) (v2 := .slice p2 l2.length e2) y0 y1
        go_wp2
        refine bodyPost_ret (v := .tuple #[.agg #[.slice p1 l1.length e1, .slice p2 l2.length e2], .bool false]) (by simp [results, Try.results27, go_sem, z0, z1]) rfl ?_
        simpa using DA
      | true =>
        obtain ⟨⟨x0, x1⟩, -⟩ := id u1
        obtain ⟨⟨y0, y1⟩, y2, y3⟩ := id u2
        obtain ⟨z0, z1⟩ := boxSet (v1 := .slice b1 o1.length d1) (v2 := .slice b2 o2.length d2) y0 y1
        go_wp2
        refine bodyPost_ret (v := .tuple #[.agg #[.slice b1 o1.length d1, .slice b2 o2.length d2], .bool true]) (by simp [results, Try.results27, go_sem, z0, z1]) rfl ?_
        simpa using setBelow B5 (b := w.heap.size + 2) (by omega) _ _
end Go.Proofs.Ytmappmboedpgmaq.Wk
