/- What l9CopyList of the specification comes to. -/
import Derived.Test.YtmappmboedpgmaqDlS
namespace Go.Proofs.Ytmappmboedpgmaq.Wk
set_option linter.unusedVariables false
open Go.ChangeShapes Go.WideShapes Go.ChangeAt Go.RowKit

theorem infoNd : (Try.prog.info? 57).map (fun i => (i.zero, i.size, i.bytes)) = some (some (.agg #[.string ⟨#[]⟩, .slice none 0 0]), 2, 40) := by kernel_rfl
theorem two_one (s : ByteArray) (a : Option Addr) (n c : Nat) : ∀ u ∈ [Value.string s, Value.slice a n c], u.oneCell' = true := by
  intro u hu
  simp at hu
  rcases hu with rfl | rfl <;> rfl
theorem two_at {w : World} {s u : Value} {T : TypeId} : ∀ j x, [s, u][j]? = some x → (w.alloc (.cells #[s, u] T)).cell? ((⟨w.heap.size, 0, none⟩ : Addr).add j) = some x := by
  intro j x hj
  match j, hj with
  | 0, hj => simp at hj; subst hj; simp [Addr.add]
  | 1, hj => simp at hj; subst hj; simp [Addr.add]
theorem Nd_shape {w : World} {base n S : Nat} {T : TypeId} {v : Value} {l : List Value} (h : w.ownsRow base T S v n l) : ∃ a c, v = .slice a n c := by
  rcases h.2 with ⟨rfl, h0⟩ | ⟨g, cap, cur, e, _⟩
  · exact ⟨none, 0, by rw [h0]⟩
  · exact ⟨_, cap, e⟩

set_option maxHeartbeats 4000000 in
set_option maxRecDepth 100000 in
theorem specCopyList (a : Option Addr) (ca : Nat) (l : List Nd) (w : World) (hl : l.length ≤ 1048576) (hz : ∀ x ∈ l, x.2.length ≤ 1048576) (hr : RdNd w a l) :
    Calls Try.prog 44 #[.slice a l.length ca] w fun e w' => ∃ (a' : Option Addr) (ca' : Nat), e = .returned (.slice a' l.length ca') ∧
      OwnN w' w.heap.size (.slice a' l.length ca') l ∧ Below w.heap.size w w' := by
  obtain ⟨i0, hi0, hz0, hz1, hz2⟩ := info_parts infoNd
  go_enter Try.func44, Try.ntmps44
  go_wp2
  go_loopw [3, 4] (fun q i wr => ∃ (k : Nat), k ≤ l.length ∧ i = .int .i64 k ∧ OwnN wr w.heap.size q (l.take k) ∧ Below w.heap.size w wr) (fun _ i _ => l.length - (intOf i).toNat)
  case atStart => exact ⟨0, Nat.zero_le _, rfl, ⟨[], World.ownsRow_made w #[] 0 (Nat.le_refl _) (Nat.zero_le _) rfl, rfl, fun i hi => by simp at hi, fun i j ui uj _ h => by simp at h⟩, bel1 w _⟩
  case round =>
    obtain ⟨k, hk, rfl, hO, hb⟩ := hrel
    by_cases hlt : k < l.length
    · obtain ⟨us, hrow, hU⟩ := hO
      have htl : (l.take k).length = k := by rw [List.length_take]; omega
      have HT : Hid (l.take (k + 1) = l.take k ++ [l[k]]) := List.take_succ_eq_append_getElem hlt
      have hpl := hz l[k] (List.getElem_mem hlt)
      obtain ⟨b, off, ai, ci, rfl, c1, c2, hzr, hcap, hnil⟩ := (hr.below hb) k hlt
      generalize l[k] = x at HT hpl c1 c2 hzr hcap
      obtain ⟨s, p⟩ := x
      simp only at hpl c1 c2 hzr hcap
      rw [htl] at hrow
      obtain ⟨av, cv, rfl⟩ := Nd_shape hrow
      have hneW : (Value.slice av k cv).ownBlock ≠ some wr.heap.size := fun e => by
        have := (World.ownsRow.lt hrow _ e).2
        omega
      have bA := bel1 wr (.cells #[] 5)
      have rowA := ownBelow hrow bA
      have zA := hzr.below bA
      have cA1 := cellNd c1 bA
      have cA2 := cellNd c2 bA
      have hb1 : b < wr.heap.size := World.block_lt_of_cell? wr _ c1
      have hbz := hb.size
      have HU : Hid (OwnU wr w.heap.size (Value.slice av k cv).ownBlock us (l.take k)) := hU
      have FIN : Hid (∀ (a7 : Option Addr) (c7 : Nat) (w7 : World), OwnB w7 wr.heap.size (.slice a7 p.length c7) p → (wr.alloc (.cells #[] 5)).grownBy w7 (some wr.heap.size) →
          ∀ (g9 cap9 : Nat) (w9 : World), w9.ownsRow w.heap.size 57 2 (.slice (some ⟨g9, 0, none⟩) (k + 1) cap9) (k + 1) (NdV (l.take k) us ++ [.string s, .slice a7 p.length c7]) →
          (w7.alloc (.cells #[.string s, .slice a7 p.length c7] 57)).grownBy w9 (Value.slice av k cv).ownBlock → ((Value.slice av k cv).ownBlock = some g9 ∨ g9 = (w7.alloc (.cells #[.string s, .slice a7 p.length c7] 57)).heap.size) →
          OwnN w9 w.heap.size (.slice (some ⟨g9, 0, none⟩) (k + 1) cap9) (l.take (k + 1)) ∧ Below w.heap.size w w9) := by
        intro a7 c7 w7 hown7 hg7 g9 cap9 w9 hown9 hg9 hat9
        have hb7 : Below wr.heap.size wr w7 := bA.grown hg7 (by simp) (fun j e => by cases e; exact Nat.le_refl _)
        have b9 := bel1 w7 (.cells #[.string s, .slice a7 p.length c7] 57)
        have hb8 := behind hb7 b9
        refine ⟨?_, ?_⟩
        · have hE' := OwnU.snoc (v' := .slice (some ⟨g9, 0, none⟩) (k + 1) cap9) (x := (s, p)) (by rw [htl]; exact hrow) HU.out hb8 (ownBase (ownBelow hown7 b9) (by omega)) (fun j e => (World.ownsRow.lt hown7 j e).1) hg9 (by rcases hat9 with h | h; exact .inl h.symm; exact .inr (congrArg some h))
          refine ⟨us ++ [.slice a7 p.length c7], ?_, ?_⟩
          · rw [HT.out, NdV_snoc _ _ _ _ HU.out.1, List.length_append, htl]
            exact hown9
          · rw [HT.out]; exact hE'
        · have h8 : Below w.heap.size w (w7.alloc (.cells #[.string s, .slice a7 p.length c7] 57)) := behind hb hb8
          exact h8.grown hg9 h8.size (fun j e => (World.ownsRow.lt hrow j e).1)
      clear hU
      go_wp2_with fail
      go_region_law (first | (refine step_appB _ (by rfl) (.tmp 18) (.tmp 23) (by rfl) wr.heap.size _ [] (by rfl) (by exact emptyBy wr _ (Nat.le_refl _)) ai ci p (by rfl) (by exact zA) hnil (by simp; omega) (by simp) ?_; intro v7 w7 hown7 hgrow7; simp only [List.nil_append] at hown7; obtain ⟨a7, c7, rfl⟩ := By_shape hown7; have hg7 : (wr.alloc (.cells #[] 5)).grownBy w7 (some wr.heap.size) := ⟨hgrow7.os, hgrow7.tape, hgrow7.output, hgrow7.size, hgrow7.block⟩; clear hgrow7; have c71 := hg7.cell cA1 (by simp only [ne_eq, Option.some.injEq]; omega); have row7 := ownBelow (World.ownsRow.kept rowA hg7 (.inr hneW)) (bel1 w7 (.cells #[.string s, .slice a7 p.length c7] 57)); have hz7 := hg7.size) | (refine step_append_lies _ (by rfl) (.tmp 12) (.tmp 26) 26 (by rfl) w.heap.size 57 i0 _ 2 40 Try.underlying26 hi0 hz0 hz1 hz2 rfl (by decide) _ _ _ (by rfl) (by exact row7) ⟨_, 0, none⟩ 1 1 [.string s, .slice a7 p.length c7] (by rfl) rfl two_at (two_one _ _ _ _) (by omega) (by unfold maxLen; omega) (by omega) (by simp at hz7 ⊢; omega) _ rfl ?_; intro g9 cap9 w9 hown9 hgrow9 hat9 hlt9; have hg9 : (w7.alloc (.cells #[.string s, .slice a7 p.length c7] 57)).grownBy w9 (Value.slice av k cv).ownBlock := ⟨hgrow9.os, hgrow9.tape, hgrow9.output, hgrow9.size, hgrow9.block⟩; clear hgrow9) | fail)
      all_goals
        obtain ⟨x1, x2⟩ := FIN.out a7 c7 w7 hown7 hg7 g9 cap9 w9 hown9 hg9 hat9
        clear FIN hown7 hg7 hown9 hg9 hat9 row7 hz7 hlt9 c71 cA1 cA2 rowA zA
        go_wp2
        go_roundw
        case rel => exact ⟨k + 1, by omega, by go_num, x1, x2⟩
        case measure => simp [intOf]; omega
    · have hke : k = l.length := by omega
      subst hke
      rw [List.take_length] at hO
      obtain ⟨av, cv, rfl⟩ : ∃ av cv, u3 = .slice av l.length cv := by
        obtain ⟨us, hrow, -⟩ := hO
        exact Nd_shape hrow
      go_wp2
      go_ret
      exact ⟨av, cv, rfl, hO, hb⟩
end Go.Proofs.Ytmappmboedpgmaq.Wk
