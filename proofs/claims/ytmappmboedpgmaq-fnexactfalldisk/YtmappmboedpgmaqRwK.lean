/- Which lists are right, as one fact; what a list that is put in or cut out of owns. Plain facts. -/
import Derived.Test.YtmappmboedpgmaqDkS
import Derived.Test.YtmappmboedpgmaqRwO
import Derived.Test.YtmappmboedpgmaqDnS
namespace Go.Proofs.Ytmappmboedpgmaq.Wk
set_option linter.unusedVariables false
open Go.ChangeShapes Go.WideShapes Go.ChangeAt Go.RowKit

theorem rise_of_adj : ∀ (l : List Nd), (∀ k, k + 1 < l.length → ∃ (h : k < l.length) (h' : k + 1 < l.length), bl l[k].1 l[k + 1].1 = true) → rise l
  | [], _ => List.Pairwise.nil
  | [x], _ => by simp [rise]
  | x :: y :: r, h => by
    have ih := rise_of_adj (y :: r) (fun k hk => by
      obtain ⟨h1, h2, h3⟩ := h (k + 1) (by simpa using hk)
      exact ⟨by simp at hk ⊢; omega, by simpa using hk, by simpa using h3⟩)
    obtain ⟨_, _, h0⟩ := h 0 (by simp)
    have h0' : bl x.1 y.1 = true := by simpa using h0
    refine List.pairwise_cons.2 ⟨fun z hz => ?_, ih⟩
    rcases List.mem_cons.1 hz with rfl | hz
    · exact h0'
    · exact bl_trans h0' ((List.pairwise_cons.1 ih).1 z hz)
theorem listOk_iff (l : List Nd) : listOk l = true ↔ rise l ∧ (∀ x ∈ l, Nm.name x.1.data.toList = true ∧ x.2.length ≤ 400) ∧ l.length ≤ 60 := by
  unfold listOk
  simp only [decide_eq_true_eq]
  constructor
  · rintro ⟨h, h60⟩
    refine ⟨rise_of_adj l (fun k hk => ?_), fun x hx => ?_, h60⟩
    · obtain ⟨_, _, _, e | ⟨h', e⟩⟩ := h (k + 1) hk
      · omega
      · exact ⟨by omega, hk, e⟩
    · obtain ⟨i, hi, rfl⟩ := List.mem_iff_getElem.1 hx
      obtain ⟨_, a, b, _⟩ := h i hi
      exact ⟨a, b⟩
  · rintro ⟨h1, h2, h3⟩
    refine ⟨fun k hk => ⟨hk, (h2 _ (List.getElem_mem hk)).1, (h2 _ (List.getElem_mem hk)).2, ?_⟩, h3⟩
    by_cases e : k = 0
    · exact .inl e
    · exact .inr ⟨by omega, (List.pairwise_iff_getElem.1 h1) (k - 1) k (by omega) hk (by omega)⟩
theorem listOk_put {l : List Nd} (h : listOk l = true) {x : Nd} (hn : Nm.name x.1.data.toList = true) : listOk (putR l x) = (decide (x.2.length ≤ 400) && decide ((putR l x).length ≤ 60)) := by
  obtain ⟨h1, h2, h3⟩ := (listOk_iff l).1 h
  rw [Bool.eq_iff_iff, listOk_iff, Bool.and_eq_true, decide_eq_true_eq, decide_eq_true_eq]
  constructor
  · rintro ⟨a, b, c⟩
    exact ⟨(b x ((mem_put h1 x x).2 (.inl rfl))).2, c⟩
  · rintro ⟨a, b⟩
    refine ⟨rise_put h1 x, fun y hy => ?_, b⟩
    rcases (mem_put h1 x y).1 hy with rfl | ⟨-, hy⟩
    · exact ⟨hn, a⟩
    · exact h2 y hy
theorem listOk_cut {l : List Nd} (h : listOk l = true) (s : ByteArray) : listOk (cutR l s) = true := by
  obtain ⟨h1, h2, h3⟩ := (listOk_iff l).1 h
  refine (listOk_iff _).2 ⟨rise_cut h1 s, fun x hx => h2 x (mem_cut.1 hx).2, ?_⟩
  exact Nat.le_trans (List.length_filter_le _ _) h3

theorem nds_put (rs : List Rw) (s : ByteArray) (u : Value) (p : List UInt8) : nds (putR rs (s, u, p)) = putR (nds rs) (s, p) := (putR_map (fun _ (x : Value × List UInt8) => x.2) rs (s, u, p)).symm
theorem nds_cut (rs : List Rw) (s : ByteArray) : nds (cutR rs s) = cutR (nds rs) s := (cutR_map (fun _ (x : Value × List UInt8) => x.2) rs s).symm
theorem rise_nds {rs : List Rw} : rise (nds rs) ↔ rise rs := rise_map _
theorem OwnD.swap {w : World} {base : Nat} {v1 v2 : Value} {r1 r2 : List Rw} (h : OwnD w base v1 v2 r1 r2) : OwnD w base v2 v1 r2 r1 := by
  obtain ⟨a, b, c, d, p⟩ := h
  refine ⟨b, a, d, c, ?_⟩
  have hp : (v2 :: v1 :: (vals r2 ++ vals r1)).Perm (v1 :: v2 :: (vals r1 ++ vals r2)) := (List.Perm.swap _ _ _).trans (((List.perm_append_comm).cons v2).cons v1)
  exact (hp.pairwise_iff (fun {_ _} h => Apart.symm h)).2 p
theorem vals_cut (rs : List Rw) (s : ByteArray) : (vals (cutR rs s)).Sublist (vals rs) := List.Sublist.map _ (List.filter_sublist)
theorem filter_cut {α : Type} (x : ByteArray × α) : ∀ {l : List (ByteArray × α)}, rise l → cutR l x.1 = l.filter (fun y => bl y.1 x.1) ++ l.filter (fun y => bl x.1 y.1)
  | [], _ => rfl
  | y :: r, h => by
    obtain ⟨h1, h2⟩ := List.pairwise_cons.1 h
    have ih := filter_cut x h2
    unfold cutR at ih ⊢
    by_cases hb : bl y.1 x.1 = true
    · simp [hb, bl_ne hb, bl_asymm hb] at ih ⊢
      exact ih
    · have hb' : bl y.1 x.1 = false := by simpa using hb
      have hr : ∀ z ∈ r, bl x.1 z.1 = true := fun z hz => by
        by_cases he : y.1 = x.1
        · rw [← he]; exact h1 z hz
        · exact bl_trans (bl_of_not hb' he) (h1 z hz)
      have hf1 : r.filter (fun y => bl y.1 x.1) = [] := by
        rw [List.filter_eq_nil_iff]
        intro z hz
        simp [bl_asymm (hr z hz)]
      by_cases he : y.1 = x.1
      · simp [he, bl_irrefl, hf1] at ih ⊢
        exact ih
      · simp [he, hb', bl_of_not hb' he, hf1] at ih ⊢
        exact ih
theorem put_perm {α : Type} {l : List (ByteArray × α)} (h : rise l) (x : ByteArray × α) : (putR l x).Perm (x :: cutR l x.1) := by
  rw [putR_eq h, filter_cut x h]
  exact List.perm_middle
theorem OwnD.lt1 {w : World} {base : Nat} {v1 v2 : Value} {r1 r2 : List Rw} (h : OwnD w base v1 v2 r1 r2) : ∀ u, u = v1 ∨ u = v2 ∨ u ∈ vals r1 ∨ u ∈ vals r2 → ∀ j, u.ownBlock = some j → j < w.heap.size := by
  obtain ⟨a, b, c, d, -⟩ := h
  rintro u (rfl | rfl | hu | hu) j e
  · exact (World.ownsRow.lt a j e).2
  · exact (World.ownsRow.lt b j e).2
  · obtain ⟨r, hr, rfl⟩ := List.mem_map.1 hu
    exact (World.ownsRow.lt (c r hr) j e).2
  · obtain ⟨r, hr, rfl⟩ := List.mem_map.1 hu
    exact (World.ownsRow.lt (d r hr) j e).2
/-- a list that was put into, its rows laid anew -/
theorem OwnD.putSub {w w' : World} {base : Nat} {v1 v2 v' : Value} {r0 r1 r2 : List Rw} {x : Rw} (h : OwnD w base v1 v2 r0 r2) (hs : r1.Sublist r0) (hr : rise r1) (hb : Below w.heap.size w w') (hv : w'.ownsRow w.heap.size 57 2 v' (putR r1 x).length (csR (putR r1 x)))
    (hu : OwnB w' w.heap.size x.2.1 x.2.2) (hap : Apart v' x.2.1) (hbase : base ≤ w.heap.size) : OwnD w' base v' v2 (putR r1 x) r2 := by
  have hlt := h.lt1
  obtain ⟨a, b, c, d, p⟩ := h
  have nv : ∀ j, v'.ownBlock = some j → w.heap.size ≤ j := fun j e => (World.ownsRow.lt hv j e).1
  have nu : ∀ j, x.2.1.ownBlock = some j → w.heap.size ≤ j := fun j e => (World.ownsRow.lt hu j e).1
  refine ⟨ownBase hv hbase, ownBelow b hb, fun r hr' => ?_, d.below hb, ?_⟩
  · rcases (mem_put hr x r).1 hr' with rfl | ⟨-, hr'⟩
    · exact ownBase hu hbase
    · exact ownBelow (c r (hs.subset hr')) hb
  · have hp : (v' :: v2 :: (vals (putR r1 x) ++ vals r2)).Perm (v' :: x.2.1 :: v2 :: (vals (cutR r1 x.1) ++ vals r2)) := by
      refine List.Perm.cons _ ?_
      have e1 : (vals (putR r1 x)).Perm (x.2.1 :: vals (cutR r1 x.1)) := (put_perm hr x).map _
      exact ((e1.append_right (vals r2)).cons v2).trans (List.Perm.swap _ _ _)
    refine (hp.pairwise_iff (fun {_ _} h => Apart.symm h)).2 ?_
    have hsub : (v2 :: (vals (cutR r1 x.1) ++ vals r2)).Sublist (v1 :: v2 :: (vals r0 ++ vals r2)) := ((((vals_cut r1 x.1).trans (hs.map _)).append_right _).cons_cons v2).cons v1
    have hold : ∀ u ∈ v2 :: (vals (cutR r1 x.1) ++ vals r2), ∀ j, u.ownBlock = some j → j < w.heap.size := fun u hu' => hlt u (by
      rcases List.mem_cons.1 hu' with e | e
      · exact .inr (.inl e)
      · rcases List.mem_append.1 e with e | e
        · exact .inr (.inr (.inl (((vals_cut r1 x.1).trans (hs.map _)).subset e)))
        · exact .inr (.inr (.inr e)))
    refine List.pairwise_cons.2 ⟨fun u hu' => ?_, List.pairwise_cons.2 ⟨fun u hu' => (Apart.of (hold u hu') nu).symm, p.sublist hsub⟩⟩
    rcases List.mem_cons.1 hu' with rfl | hu'
    · exact hap
    · exact (Apart.of (hold u hu') nv).symm
theorem OwnD.put {w w' : World} {base : Nat} {v1 v2 v' : Value} {r1 r2 : List Rw} {x : Rw} (h : OwnD w base v1 v2 r1 r2) (hr : rise r1) (hb : Below w.heap.size w w') (hv : w'.ownsRow w.heap.size 57 2 v' (putR r1 x).length (csR (putR r1 x)))
    (hu : OwnB w' w.heap.size x.2.1 x.2.2) (hap : Apart v' x.2.1) (hbase : base ≤ w.heap.size) : OwnD w' base v' v2 (putR r1 x) r2 := h.putSub (List.Sublist.refl _) hr hb hv hu hap hbase
/-- a list that was cut, its rows laid anew -/
theorem OwnD.cut {w w' : World} {base : Nat} {v1 v2 v' : Value} {r1 r2 : List Rw} {s : ByteArray} (h : OwnD w base v1 v2 r1 r2) (hb : Below w.heap.size w w') (hv : w'.ownsRow w.heap.size 57 2 v' (cutR r1 s).length (csR (cutR r1 s)))
    (hbase : base ≤ w.heap.size) : OwnD w' base v' v2 (cutR r1 s) r2 := by
  have hlt := h.lt1
  obtain ⟨a, b, c, d, p⟩ := h
  have nv : ∀ j, v'.ownBlock = some j → w.heap.size ≤ j := fun j e => (World.ownsRow.lt hv j e).1
  refine ⟨ownBase hv hbase, ownBelow b hb, fun r hr' => ownBelow (c r (mem_cut.1 hr').2) hb, d.below hb, ?_⟩
  have hsub : (v2 :: (vals (cutR r1 s) ++ vals r2)).Sublist (v1 :: v2 :: (vals r1 ++ vals r2)) := (((vals_cut r1 s).append_right _).cons_cons v2).cons v1
  refine List.pairwise_cons.2 ⟨fun u hu' => (Apart.of (hlt u ?_) nv).symm, p.sublist hsub⟩
  rcases List.mem_cons.1 hu' with e | e
  · exact .inr (.inl e)
  · rcases List.mem_append.1 e with e | e
    · exact .inr (.inr (.inl ((vals_cut r1 s).subset e)))
    · exact .inr (.inr (.inr e))
theorem OwnD.far {w : World} {base b o : Nat} {v1 v2 u : Value} {r1 r2 : List Rw} (h : OwnD w base v1 v2 r1 r2) (hlt : b < base) : OwnD (w.setCell ⟨b, o, none⟩ u) base v1 v2 r1 r2 :=
  ⟨ownFarB h.1 hlt, ownFarB h.2.1 hlt, fun r hr => ownFarB (h.2.2.1 r hr) hlt, fun r hr => ownFarB (h.2.2.2.1 r hr) hlt, h.2.2.2.2⟩
/-- what is answered: a disk in memory of its own, and whether -/
def DkAns (w : World) (ok : Bool) (l1 l2 : List Nd) (e : Ending) (w' : World) : Prop := ∃ (a1 a2 : Option Addr) (c1 c2 : Nat) (r1 r2 : List Rw), e = .returned (.tuple #[.agg #[.slice a1 l1.length c1, .slice a2 l2.length c2], .bool ok]) ∧
  OwnD w' w.heap.size (.slice a1 l1.length c1) (.slice a2 l2.length c2) r1 r2 ∧ nds r1 = l1 ∧ nds r2 = l2 ∧ Below w.heap.size w w'
end Go.Proofs.Ytmappmboedpgmaq.Wk
