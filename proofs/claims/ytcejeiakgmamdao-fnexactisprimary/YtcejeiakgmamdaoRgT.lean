/- What the laws' toPart, toPartS and toRing come to: the same ring in new memory, which is the call's own. -/
import Derived.Test.YtcejeiakgmamdaoToZ
import Derived.Deep.Onto
namespace Go.Proofs.Ytcejeiakgmamdao.Wk
set_option linter.unusedVariables false
open Go.ChangeShapes Go.WideShapes Go.ChangeAt Go.RowKit

theorem ownFar {w : World} {base e size n b o : Nat} {v u : Value} {xs : List Value} (h : w.ownsRow base e size v n xs) (hne : v.ownBlock ≠ some b) : (w.setCell ⟨b, o, none⟩ u).ownsRow base e size v n xs :=
  h.kept (row := some b) ⟨rfl, rfl, rfl, by simp, fun k _ hk => heap_setCell_other w ⟨b, o, none⟩ k u (fun e => hk (by simp [e]))⟩ (.inr hne)
set_option maxHeartbeats 1000000 in
set_option maxRecDepth 100000 in
theorem toPt (a : Option Addr) (cap : Nat) (l : List Int) (w : World) (hl : l.length ≤ 1048576) (hr : RdZ w a l) :
    Calls Try.prog 40 #[.agg #[.slice a l.length cap]] w fun e w' => ∃ g, e = .returned (.agg #[.slice (some ⟨g, 0, none⟩) l.length l.length]) ∧ w.heap.size ≤ g ∧
      w'.ownsRow w.heap.size 3 1 (.slice (some ⟨g, 0, none⟩) l.length l.length) l.length (Zv l) ∧ Below w.heap.size w w' := by
  go_enter Try.func40, Try.ntmps40
  go_wp2_with fail
  have s1 := slot1New (w.alloc (.cells #[.slice a l.length cap] 69)) (.slice none 0 0) 51
  have s2 := slot1New ((w.alloc (.cells #[.slice a l.length cap] 69)).alloc (.cells #[.slice none 0 0] 51)) (.slice none 0 0) 51
  have s1' := s1.below (bel1 _ (.cells #[.slice none 0 0] 51))
  have hB3 := bel3 w (.cells #[.slice a l.length cap] 69) (.cells #[.slice none 0 0] 51) (.cells #[.slice none 0 0] 51)
  refine (toZ a cap l _ hl (hr.below hB3)).mono ?_
  rintro e w1 ⟨rfl, hown, hb1⟩
  have hB1 := behind hB3 hb1
  obtain ⟨c1, f1⟩ := s1'.below hb1
  obtain ⟨c2, f2⟩ := s2.below hb1
  simp only [World.size_alloc] at c1 f1 c2 f2 hown ⊢
  clear s1 s1' s2 hB3 hb1
  go_wp2
  have e1 : ((w1.setCell ⟨w.heap.size + 1 + 1, 0, none⟩ (.slice (some ⟨w.heap.size + 1 + 1 + 1, 0, none⟩) l.length l.length)).setCell ⟨w.heap.size + 1, 0, none⟩ (.slice (some ⟨w.heap.size + 1 + 1 + 1, 0, none⟩) l.length l.length)).cell? ⟨w.heap.size + 1, 0, none⟩ = some (.slice (some ⟨w.heap.size + 1 + 1 + 1, 0, none⟩) l.length l.length) :=
    World.cell?_setCell_same' _ _ _ (by rw [World.cell?_setCell_other _ _ _ _ (by simp), c1]; rfl)
  refine bodyPost_ret (v := .agg #[.slice (some ⟨w.heap.size + 1 + 1 + 1, 0, none⟩) l.length l.length]) (by simp [results, Try.results40, go_sem, e1]) rfl ⟨_, rfl, by omega, ?_, (hB1.setCell (by show w.heap.size ≤ w.heap.size + 1 + 1; omega) _).setCell (by show w.heap.size ≤ w.heap.size + 1; omega) _⟩
  exact ownFar (ownFar (hown.mono (by omega)) (by simp only [Value.ownBlock, ne_eq, Option.some.injEq]; omega)) (by simp only [Value.ownBlock, ne_eq, Option.some.injEq]; omega)

/-- the first k of these cells hold lists of their own, each in a block that is none of the others' -/
def OwnE (w : World) (base : Nat) (ob : Option Nat) (vs : List Value) (ps : List (List Int)) (k : Nat) : Prop :=
  (∀ i (h : i < ps.length), i < k → ∃ u, vs[i]? = some u ∧ w.ownsRow base 3 1 u ps[i].length (Zv ps[i]) ∧ (u.ownBlock = none ∨ u.ownBlock ≠ ob)) ∧
  (∀ i j ui uj, i < k → j < k → i ≠ j → vs[i]? = some ui → vs[j]? = some uj → ui.ownBlock = none ∨ ui.ownBlock ≠ uj.ownBlock)
/-- a list of lists of numbers in memory of its own -/
def OwnP (w : World) (base : Nat) (v : Value) (ps : List (List Int)) : Prop := ∃ vs : List Value, w.ownsRow base 51 1 v ps.length vs ∧ OwnE w base v.ownBlock vs ps ps.length
theorem OwnE.below {w w' : World} {base : Nat} {ob : Option Nat} {vs : List Value} {ps : List (List Int)} {k : Nat} (h : OwnE w base ob vs ps k) (hb : Below w.heap.size w w') : OwnE w' base ob vs ps k :=
  ⟨fun i hi hk => let ⟨u, h1, h2, h3⟩ := h.1 i hi hk; ⟨u, h1, ownOn h2 hb, h3⟩, h.2⟩
theorem OwnP.below {w w' : World} {base : Nat} {v : Value} {ps : List (List Int)} (h : OwnP w base v ps) (hb : Below w.heap.size w w') : OwnP w' base v ps :=
  let ⟨vs, h1, h2⟩ := h; ⟨vs, ownOn h1 hb, h2.below hb⟩
theorem OwnE.put {w : World} {base B g k : Nat} {u : Value} {vs : List Value} {ps : List (List Int)} (h : OwnE w base (some B) vs ps k) (hk : k < ps.length) (hlen : vs.length = ps.length * 1)
    (ho : w.ownsRow base 3 1 u ps[k].length (Zv ps[k])) (hu : u.ownBlock = some g) (hg : g ≠ B) (hold : ∀ i ui, i < k → vs[i]? = some ui → ui.ownBlock ≠ some g) :
    OwnE (w.setCell ⟨B, k, none⟩ u) base (some B) (vs.set k u) ps (k + 1) := by
  have hub : u.ownBlock ≠ some B := by rw [hu]; simpa using hg
  refine ⟨?_, ?_⟩
  · intro i hi hik
    by_cases e : i = k
    · subst e
      exact ⟨u, List.getElem?_set_self (by omega), ownFar ho hub, .inr hub⟩
    · obtain ⟨x, h1, h2, h3⟩ := h.1 i hi (by omega)
      refine ⟨x, by rw [List.getElem?_set_ne (by omega)]; exact h1, ?_, h3⟩
      rcases h3 with h3 | h3
      · exact h2.kept (row := some B) ⟨rfl, rfl, rfl, by simp, fun k _ hk => heap_setCell_other w _ k u (fun e => hk (by simp [e]))⟩ (.inl h3)
      · exact ownFar h2 h3
  · intro i j ui uj hi hj hij h1 h2
    by_cases e : i = k
    · subst e
      rw [List.getElem?_set_self (by omega)] at h1
      rw [List.getElem?_set_ne (by omega)] at h2
      have := Option.some.inj h1
      subst this
      exact .inr (fun e => hold j uj (by omega) h2 (by rw [← e, hu]))
    · rw [List.getElem?_set_ne (by omega)] at h1
      by_cases e2 : j = k
      · subst e2
        rw [List.getElem?_set_self (by omega)] at h2
        have := Option.some.inj h2
        subst this
        exact .inr (fun e => hold i ui (by omega) h1 (by rw [e, hu]))
      · rw [List.getElem?_set_ne (by omega)] at h2
        exact h.2 i j ui uj (by omega) (by omega) hij h1 h2
theorem own_cap {w : World} {base e n cap : Nat} {a : Option Addr} {xs : List Value} (h : w.ownsRow base e 1 (.slice a n cap) n xs) : n ≤ cap := by
  rcases h.2 with ⟨e1, h0⟩ | ⟨g, cap', cur, e1, _, _, h1, _⟩
  · omega
  · simp only [Value.slice.injEq] at e1
    omega
theorem OwnP.rd {w : World} {base : Nat} {v : Value} {ps : List (List Int)} (h : OwnP w base v ps) : ∃ a cap, v = .slice a ps.length cap ∧ RdP w a ps := by
  obtain ⟨vs, h1, h2⟩ := h
  rcases h1.2 with ⟨rfl, h0⟩ | ⟨g, cap, cur, rfl, _⟩
  · exact ⟨none, 0, by rw [h0], fun i hi => by omega⟩
  · refine ⟨_, cap, rfl, fun i hi => ?_⟩
    obtain ⟨u, e1, e2, -⟩ := h2.1 i hi hi
    obtain ⟨ai, ci, rfl⟩ := Zv_shape e2
    exact ⟨g, 0, ai, ci, rfl, by rw [Nat.zero_add, h1.cellAt i (by omega)]; exact e1, Zv_rd e2, own_cap e2⟩
theorem OwnP.rdS {w : World} {base n cap : Nat} {a : Option Addr} {ps : List (List Int)} (h : OwnP w base (.slice a n cap) ps) : RdP w a ps := by
  obtain ⟨a', cap', e, hr⟩ := h.rd
  simp only [Value.slice.injEq] at e
  rw [e.1]
  exact hr

set_option maxHeartbeats 2000000 in
set_option maxRecDepth 100000 in
theorem toPtS (a : Option Addr) (cap : Nat) (ps : List (List Int)) (w : World) (hl : ps.length ≤ 1048576) (hp : ∀ p ∈ ps, p.length ≤ 1048576) (hr : RdP w a ps) :
    Calls Try.prog 28 #[.slice a ps.length cap] w fun e w' => e = .returned (.slice (some ⟨w.heap.size, 0, none⟩) ps.length ps.length) ∧
      OwnP w' w.heap.size (.slice (some ⟨w.heap.size, 0, none⟩) ps.length ps.length) ps ∧ Below w.heap.size w w' := by
  obtain ⟨i0, hi, hz0, hz1, hz2⟩ := info_parts infoPt
  obtain ⟨w1, hrun, hown, hgrow⟩ := run_make_full (P := Try.prog) w w.heap.size 27 51 i0 _ 1 Try.underlying27 hi hz0 hz1 .i64 .i64 ps.length (by rw [hz2]; omega) (by unfold maxLen; omega) (Nat.le_refl _)
  have hbel : Below w.heap.size w w1 := (Below.refl _ _).grown hgrow (Nat.le_refl _) (fun k h => by cases h)
  clear hgrow hi hz0 hz1 hz2
  go_enter Try.func28, Try.ntmps28
  go_wp2
  clear hrun
  go_loopw [4] (fun i wr => ∃ (k : Nat) (vs : List Value), k ≤ ps.length ∧ i = .int .i64 k ∧ wr.ownsRow w.heap.size 51 1 (.slice (some ⟨w.heap.size, 0, none⟩) ps.length ps.length) ps.length vs ∧ OwnE wr w.heap.size (some w.heap.size) vs ps k ∧ Below w.heap.size w wr) (fun i _ => ps.length - (intOf i).toNat)
  case atStart => exact ⟨0, _, Nat.zero_le _, rfl, hown, ⟨fun i h hk => by omega, fun i j ui uj hi => by omega⟩, hbel⟩
  case round =>
    obtain ⟨k, vs, hk, rfl, hown, hE, hb⟩ := hrel
    by_cases hlt : k < ps.length
    · obtain ⟨b, off, ai, ci, rfl, hc, hz, -⟩ := (hr.below hb) k hlt
      have hpl := hp ps[k] (List.getElem_mem hlt)
      have hq := toPt ai ci ps[k] wr hpl hz
      go_wp2_with fail
      refine hq.mono ?_
      rintro e w2 ⟨g, rfl, hgl, ho2, hb2⟩
      have hwr := hb.size
      have hown2 := ownOn hown hb2
      have hB2 := behind hb hb2
      have h9 : w.heap.size < wr.heap.size := (World.ownsRow.lt hown w.heap.size rfl).2
      have hE2 := (hE.below hb2).put (g := g) hlt hown2.1 (ho2.mono (base' := w.heap.size) hwr) rfl (by omega) (fun i ui hik hui => by
        obtain ⟨u, e1, e2, -⟩ := hE.1 i (by omega) hik
        rw [hui] at e1
        have := Option.some.inj e1
        subst this
        intro e
        have h8 : g < wr.heap.size := (World.ownsRow.lt e2 g e).2
        omega)
      have hlen := hown2.1
      have z0 := hown2.frozenAt k
      have c0 := hown2.cellAt k (by omega)
      rw [List.getElem?_eq_getElem (by omega)] at c0
      have st := (hown2.stored k (.slice (some ⟨g, 0, none⟩) ps[k].length ps[k].length)).1
      clear hq ho2 hown hE hb
      go_wp2
      go_roundw
      case rel => exact ⟨k + 1, _, by omega, by go_num, st, hE2, hB2.setCell (Nat.le_refl _) _⟩
      case measure => simp [intOf]; omega
    · go_wp2
      go_ret
      have hkl : k = ps.length := by omega
      subst hkl
      exact ⟨rfl, ⟨vs, hown, hE⟩, hb⟩

theorem OwnP.far {w : World} {base b o : Nat} {v u : Value} {ps : List (List Int)} (h : OwnP w base v ps) (hb : b < base) : OwnP (w.setCell ⟨b, o, none⟩ u) base v ps := by
  obtain ⟨vs, h1, h2, h3⟩ := h
  have key : ∀ {e n : Nat} {x : Value} {xs : List Value}, w.ownsRow base e 1 x n xs → (w.setCell ⟨b, o, none⟩ u).ownsRow base e 1 x n xs := fun hx => ownFar hx (fun e => by
    have := (World.ownsRow.lt hx b e).1
    omega)
  exact ⟨vs, key h1, fun i hi hk => let ⟨x, e1, e2, e3⟩ := h2 i hi hk; ⟨x, e1, key e2, e3⟩, h3⟩
theorem OwnP.mono {w : World} {base base' : Nat} {v : Value} {ps : List (List Int)} (h : OwnP w base v ps) (hb : base' ≤ base) : OwnP w base' v ps := by
  obtain ⟨vs, h1, h2, h3⟩ := h
  exact ⟨vs, h1.mono hb, fun i hi hk => let ⟨x, e1, e2, e3⟩ := h2 i hi hk; ⟨x, e1, e2.mono hb, e3⟩, h3⟩
set_option maxHeartbeats 1000000 in
set_option maxRecDepth 100000 in
theorem toRg (reps : Int) (a : Option Addr) (cap : Nat) (ps : List (List Int)) (w : World) (hl : ps.length ≤ 1048576) (hp : ∀ p ∈ ps, p.length ≤ 1048576) (hr : RdP w a ps) :
    Calls Try.prog 9 #[.agg #[.int .i64 reps, .slice a ps.length cap]] w fun e w' => ∃ g, e = .returned (.agg #[.int .i64 reps, .slice (some ⟨g, 0, none⟩) ps.length ps.length]) ∧
      OwnP w' w.heap.size (.slice (some ⟨g, 0, none⟩) ps.length ps.length) ps ∧ Below w.heap.size w w' := by
  go_enter Try.func9, Try.ntmps9
  go_wp2_with fail
  have s1 := slot2New (w.alloc (.cells #[.int .i64 reps, .slice a ps.length cap] 24)) (.int .i64 0) (.slice none 0 0) 29
  have s2 := slot2New ((w.alloc (.cells #[.int .i64 reps, .slice a ps.length cap] 24)).alloc (.cells #[.int .i64 0, .slice none 0 0] 29)) (.int .i64 reps) (.slice none 0 0) 29
  have s1' := s1.below (bel1 _ (.cells #[.int .i64 reps, .slice none 0 0] 29))
  have hB3 := bel3 w (.cells #[.int .i64 reps, .slice a ps.length cap] 24) (.cells #[.int .i64 0, .slice none 0 0] 29) (.cells #[.int .i64 reps, .slice none 0 0] 29)
  refine (toPtS a cap ps _ hl hp (hr.below hB3)).mono ?_
  rintro e w1 ⟨rfl, hown, hb1⟩
  have hB1 := behind hB3 hb1
  obtain ⟨⟨c10, c11⟩, f10, f11⟩ := s1'.below hb1
  obtain ⟨⟨c20, c21⟩, f20, f21⟩ := s2.below hb1
  simp only [World.size_alloc] at c10 c11 f10 f11 c20 c21 f20 f21 hown ⊢
  clear s1 s1' s2 hB3 hb1
  go_wp2
  have e0 : (((w1.setCell ⟨w.heap.size + 1 + 1, 1, none⟩ (.slice (some ⟨w.heap.size + 1 + 1 + 1, 0, none⟩) ps.length ps.length)).setCell ⟨w.heap.size + 1, 0, none⟩ (.int .i64 reps)).setCell ⟨w.heap.size + 1, 1, none⟩ (.slice (some ⟨w.heap.size + 1 + 1 + 1, 0, none⟩) ps.length ps.length)).cell? ⟨w.heap.size + 1, 0, none⟩ = some (.int .i64 reps) := by
    rw [World.cell?_setCell_other _ _ _ _ (by simp)]
    exact World.cell?_setCell_same' _ _ _ (by rw [World.cell?_setCell_other _ _ _ _ (by simp), c10]; rfl)
  have e1 : (((w1.setCell ⟨w.heap.size + 1 + 1, 1, none⟩ (.slice (some ⟨w.heap.size + 1 + 1 + 1, 0, none⟩) ps.length ps.length)).setCell ⟨w.heap.size + 1, 0, none⟩ (.int .i64 reps)).setCell ⟨w.heap.size + 1, 1, none⟩ (.slice (some ⟨w.heap.size + 1 + 1 + 1, 0, none⟩) ps.length ps.length)).cell? ⟨w.heap.size + 1, 1, none⟩ = some (.slice (some ⟨w.heap.size + 1 + 1 + 1, 0, none⟩) ps.length ps.length) :=
    World.cell?_setCell_same' _ _ _ (by rw [World.cell?_setCell_other _ _ _ _ (by simp), World.cell?_setCell_other _ _ _ _ (by simp), c11]; rfl)
  refine bodyPost_ret (v := .agg #[.int .i64 reps, .slice (some ⟨w.heap.size + 1 + 1 + 1, 0, none⟩) ps.length ps.length]) (by simp [results, Try.results9, go_sem, e0, e1]) rfl ⟨_, rfl, ?_, ?_⟩
  · exact (((hown.far (by omega)).far (by omega)).far (by omega)).mono (by omega)
  · exact ((hB1.setCell (by show w.heap.size ≤ w.heap.size + 1 + 1; omega) _).setCell (by show w.heap.size ≤ w.heap.size + 1; omega) _).setCell (by show w.heap.size ≤ w.heap.size + 1; omega) _
end Go.Proofs.Ytcejeiakgmamdao.Wk
