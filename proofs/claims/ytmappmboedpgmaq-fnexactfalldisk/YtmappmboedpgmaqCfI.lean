/- What copyFiles of the program comes to: the same names and bytes in memory of its own. -/
import Derived.Test.YtmappmboedpgmaqCbI
import Derived.Test.YtmappmboedpgmaqRwO
import Derived.Test.YtmappmboedpgmaqDnS
import Derived.Test.YtmappmboedpgmaqNumM
import Derived.Deep.CutBlock
import Derived.Deep.DeepCutAuto
import Derived.Deep.RegionHeld3
namespace Go.Proofs.Ytmappmboedpgmaq.Wk
set_option linter.unusedVariables false
open Go.ChangeShapes Go.WideShapes Go.ChangeAt Go.RowKit

/-- the first k rows of the cells xs are these -/
def RowsK (xs : List Value) (rs : List Rw) : Prop := xs.take (rs.length * 2) = csR rs
theorem RowsK.step {xs : List Value} {rs : List Rw} {r : Rw} (h : RowsK xs rs) (hl : rs.length * 2 + 1 < xs.length) : RowsK ((xs.set (rs.length * 2) (.string r.1)).set (rs.length * 2 + 1) r.2.1) (rs ++ [r]) := by
  unfold RowsK at *
  obtain ⟨A, u0, u1, t, e, hA⟩ : ∃ A u0 u1 t, xs = A ++ u0 :: u1 :: t ∧ A.length = rs.length * 2 := by
    refine ⟨xs.take (rs.length * 2), xs[rs.length * 2], xs[rs.length * 2 + 1], xs.drop (rs.length * 2 + 2), ?_, by simp; omega⟩
    conv => lhs; rw [← List.take_append_drop (rs.length * 2) xs]
    congr 1
    rw [List.drop_eq_getElem_cons (by omega), List.drop_eq_getElem_cons (by omega)]
  subst e
  rw [← hA, List.take_left'  rfl] at h
  rw [csR_snoc, ← h, ← hA]
  have e1 : (A ++ u0 :: u1 :: t).set A.length (.string r.1) = A ++ .string r.1 :: u1 :: t := by simp
  have e2 : (A ++ .string r.1 :: u1 :: t).set (A.length + 1) r.2.1 = A ++ .string r.1 :: r.2.1 :: t := by
    rw [List.set_append, if_neg (by omega)]
    simp
  rw [e1, e2, show (rs ++ [r]).length * 2 = A.length + 2 from by simp; omega, show A ++ .string r.1 :: r.2.1 :: t = (A ++ [.string r.1, r.2.1]) ++ t from by simp]
  exact List.take_left' (by simp)
theorem Apart.snoc {us : List Value} {u : Value} (h : us.Pairwise Apart) (hu : ∀ x ∈ us, Apart x u) : (us ++ [u]).Pairwise Apart :=
  List.pairwise_append.2 ⟨h, List.pairwise_singleton _ _, fun x hx y hy => by rw [List.mem_singleton.1 hy]; exact hu x hx⟩
theorem keepT {w : World} {b o b' o' : Nat} {v : Value} (h : w.cell? ⟨b, o, none⟩ = some v) (u1 u2 : Value) (hb : b ≠ b') : ((w.setCell ⟨b', o', none⟩ u1).setCell ⟨b', o' + 1, none⟩ u2).cell? ⟨b, o, none⟩ = some v := by
  rw [World.cell?_setCell_other _ _ _ _ (by simp), World.cell?_setCell_other _ _ _ _ (by simp)]
  exact h
theorem set2 {w w1 : World} {b o : Nat} {u v : Value} (h : Below w.heap.size w w1) (hb : w.heap.size ≤ b) : Below w.heap.size w ((w1.setCell ⟨b, o, none⟩ u).setCell ⟨b, o + 1, none⟩ v) := (h.setCell hb _).setCell hb _

set_option maxHeartbeats 4000000 in
set_option maxRecDepth 100000 in
theorem implCopyFiles (a : Option Addr) (ca : Nat) (l : List Nd) (w : World) (hl : l.length ≤ 1048576) (hz : ∀ x ∈ l, x.2.length ≤ 1048576) (hr : RdNd w a l) :
    Calls Try.prog 57 #[.slice a l.length ca] w fun e w' => ∃ (a' : Option Addr) (ca' : Nat), e = .returned (.slice a' l.length ca') ∧
      OwnN w' w.heap.size (.slice a' l.length ca') l ∧ Below w.heap.size w w' := by
  obtain ⟨i0, hi, hz0, hz1, hz2⟩ := info_parts infoNd
  obtain ⟨w1, hrun, hown, hgrow⟩ := run_make_full (P := Try.prog) w w.heap.size 26 57 i0 _ 2 Try.underlying26 hi hz0 hz1 .i64 .i64 l.length (by rw [hz2]; omega) (by unfold maxLen; omega) (Nat.le_refl _)
  have hbel : Below w.heap.size w w1 := (Below.refl _ _).grown hgrow (Nat.le_refl _) (fun k h => by cases h)
  have hg1 := hgrow.size
  have hlw : w.heap.size < w1.heap.size := (World.ownsRow.lt hown w.heap.size rfl).2
  clear hgrow hi hz0 hz1 hz2
  go_enter Try.func57, Try.ntmps57
  go_wp2
  clear hrun
  go_loopw [11] (fun i wr => ∃ (k : Nat) (xs : List Value) (rs : List Rw), k ≤ l.length ∧ i = .int .i64 k ∧ rs.length = k ∧ Hid (nds rs = l.take k) ∧ Hid (RowsK xs rs) ∧ wr.ownsRow w.heap.size 57 2 (.slice (some ⟨w.heap.size, 0, none⟩) l.length l.length) l.length xs ∧
      Hid (BysO wr (w.heap.size + 1) rs) ∧ Hid ((vals rs).Pairwise Apart) ∧ Below w.heap.size w wr ∧ w.heap.size + 1 ≤ wr.heap.size) (fun i _ => l.length - (intOf i).toNat)
  case atStart => exact ⟨0, _, [], Nat.zero_le _, rfl, rfl, rfl, by show RowsK _ _; simp [RowsK, csR], hown, (show BysO w1 (w.heap.size + 1) [] from fun r hr => by cases hr), List.Pairwise.nil, hbel, hlw⟩
  case round =>
    obtain ⟨k, xs, rs, hk, rfl, hrl, HN, HX, hown, HBy, HA, hb, hgt⟩ := hrel
    by_cases hlt : k < l.length
    · have HT : Hid (l.take (k + 1) = l.take k ++ [l[k]]) := List.take_succ_eq_append_getElem hlt
      have hpl := hz l[k] (List.getElem_mem hlt)
      obtain ⟨b, off, ai, ci, rfl, c1, c2, hzr, hcap, hnil⟩ := (hr.below hb) k hlt
      generalize l[k] = x at HT hpl c1 c2 hzr hcap
      obtain ⟨s, p⟩ := x
      simp only at hpl c1 c2 hzr hcap
      have bA := bel1 wr (.cells #[.string s, .slice ai p.length ci] 57)
      have hzA := hzr.below bA
      have hw1 : IntKind.i64.wrap (k : Int) = (k : Int) := by simp only [IntKind.wrap, IntKind.bits, IntKind.signed]; simp; omega
      have hk0 : (0 : Int) ≤ (k : Int) := by omega
      have hk1 : (k : Int) < (l.length : Int) := by omega
      have q0 : (wr.alloc (.cells #[.string s, .slice ai p.length ci] 57)).cell? ⟨wr.heap.size, 0, none⟩ = some (.string s) := by rw [World.cell?_alloc_at _ _ _ _ rfl]; rfl
      have q1 : (wr.alloc (.cells #[.string s, .slice ai p.length ci] 57)).cell? ⟨wr.heap.size, 1, none⟩ = some (.slice ai p.length ci) := by rw [World.cell?_alloc_at _ _ _ _ rfl]; rfl
      have howA := ownBelow hown bA
      have hsA : wr.heap.size + 1 ≤ (wr.alloc (.cells #[.string s, .slice ai p.length ci] 57)).heap.size := by rw [World.size_alloc]; exact Nat.le_refl _
      go_upto_region 5 with fail
      generalize wr.alloc (.cells #[.string s, .slice ai p.length ci] 57) = wA at *
      have cC := copyBytesN ai ci p wA.drew hpl (show RdA wA.drew ai p from hzA)
      refine wp_region_held_drew (S := fun wy => wy.cell? ⟨wr.heap.size, 0, none⟩ = some (.string s) ∧ wy.cell? ⟨wr.heap.size, 1, none⟩ = some (.slice ai p.length ci)) (by kernel_rfl) ⟨q0, q1⟩ (fun hHeld => ?_)
      refine wpAnyH_take (i := 0) (oi := ?_) (v := ?_) ?_ ?_ ?_ ?_ ?_ ?_ (by assumption) ?_
      rotate_left 2
      · simp only [List.getElem?_toArray, List.getElem?_cons_zero]
        rfl
      · kernel_rfl
      · kernel_rfl
      · kernel_rfl
      · exact fun _ _ _ h => h
      · refine Or.inl ⟨by kernel_rfl, ?_⟩
        intro wS hSw
        try dsimp only at hSw
        go_simp
        try with_reducible rfl
      simp only [Act.put, List.setIfInBounds_toArray, List.set_cons_zero, List.set_cons_succ]
      refine wpAnyH_take (i := 1) (oi := ?_) (v := ?_) ?_ ?_ ?_ ?_ ?_ ?_ (by assumption) ?_
      rotate_left 2
      · simp only [List.getElem?_toArray, List.getElem?_cons_succ, List.getElem?_cons_zero]
        rfl
      · kernel_rfl
      · kernel_rfl
      · kernel_rfl
      · exact fun _ _ _ h => h
      · refine Or.inl ⟨by kernel_rfl, ?_⟩
        intro wS hSw
        try dsimp only at hSw
        go_simp
        try with_reducible rfl
      simp only [Act.put, List.setIfInBounds_toArray, List.set_cons_zero, List.set_cons_succ]
      refine wpAnyH_take (i := 2) (oi := ?_) (v := ?_) ?_ ?_ ?_ ?_ ?_ ?_ (by assumption) ?_
      rotate_left 2
      · simp only [List.getElem?_toArray, List.getElem?_cons_succ, List.getElem?_cons_zero]
        rfl
      · kernel_rfl
      · kernel_rfl
      · kernel_rfl
      · exact fun _ _ _ h => h
      · refine Or.inl ⟨by kernel_rfl, ?_⟩
        intro wS hSw
        try dsimp only at hSw
        go_simp
        try with_reducible rfl
      simp only [Act.put, List.setIfInBounds_toArray, List.set_cons_zero, List.set_cons_succ]
      refine wpAnyH_take (i := 3) (oi := ?_) (v := ?_) ?_ ?_ ?_ ?_ ?_ ?_ (by assumption) ?_
      rotate_left 2
      · simp only [List.getElem?_toArray, List.getElem?_cons_succ, List.getElem?_cons_zero]
        rfl
      · kernel_rfl
      · kernel_rfl
      · kernel_rfl
      · exact fun _ _ _ h => h
      · refine Or.inl ⟨by kernel_rfl, ?_⟩
        intro wS hSw
        try dsimp only at hSw
        go_simp
        try with_reducible rfl
      simp only [Act.put, List.setIfInBounds_toArray, List.set_cons_zero, List.set_cons_succ]
      refine wpAnyH_take (i := 4) (oi := ?_) (v := ?_) ?_ ?_ ?_ ?_ ?_ ?_ (by assumption) ?_
      rotate_left 2
      · simp only [List.getElem?_toArray, List.getElem?_cons_succ, List.getElem?_cons_zero]
        rfl
      · kernel_rfl
      · kernel_rfl
      · kernel_rfl
      · exact fun _ _ _ h => h
      · refine Or.inl ⟨by kernel_rfl, ?_⟩
        intro wS hSw
        try dsimp only at hSw
        go_simp
        try with_reducible rfl
      simp only [Act.put, List.setIfInBounds_toArray, List.set_cons_zero, List.set_cons_succ]
      refine wpAnyH_take (i := 5) (oi := ?_) (v := ?_) ?_ ?_ ?_ ?_ ?_ ?_ (by assumption) ?_
      rotate_left 2
      · simp only [List.getElem?_toArray, List.getElem?_cons_succ, List.getElem?_cons_zero]
        rfl
      · kernel_rfl
      · kernel_rfl
      · kernel_rfl
      · exact fun _ _ _ h => h
      · refine Or.inl ⟨by kernel_rfl, ?_⟩
        intro wS hSw
        try dsimp only at hSw
        go_simp
        try with_reducible rfl
      simp only [Act.put, List.setIfInBounds_toArray, List.set_cons_zero, List.set_cons_succ]
      refine wpAnyH_ready (rs := [6]) (by kernel_rfl) (by simp) ?_
      refine AllReadyH.cons rfl (fun K hK => ?_) ?_
      rotate_left
      · exact AllReadyH.nil
      go_simp
      refine cC.mono ?_
      rintro e w4 ⟨rfl, ho4, hb4⟩
      go_wp2_with fail
      refine hK.out _ _ ?_ (fun hHeld => ?_)
      · exact ⟨keepC hHeld.1 hb4, keepC hHeld.2 hb4⟩
      clear hK K
      try simp only [Act.put, List.setIfInBounds_toArray, List.set_cons_zero, List.set_cons_succ]
      refine wpAnyH_take (i := 7) (oi := ?_) (v := ?_) ?_ ?_ ?_ ?_ ?_ ?_ (by assumption) ?_
      rotate_left 2
      · simp only [List.getElem?_toArray, List.getElem?_cons_succ, List.getElem?_cons_zero]
        rfl
      · kernel_rfl
      · kernel_rfl
      · kernel_rfl
      · exact fun _ _ _ h => h
      · refine Or.inl ⟨by kernel_rfl, ?_⟩
        intro wS hSw
        try dsimp only at hSw
        go_simp
        try with_reducible rfl
      simp only [Act.put, List.setIfInBounds_toArray, List.set_cons_zero, List.set_cons_succ]
      refine wpAnyH_take (i := 8) (oi := ?_) (v := ?_) ?_ ?_ ?_ ?_ ?_ ?_ (by assumption) ?_
      rotate_left 2
      · simp only [List.getElem?_toArray, List.getElem?_cons_succ, List.getElem?_cons_zero]
        rfl
      · kernel_rfl
      · kernel_rfl
      · kernel_rfl
      · exact fun _ _ _ h => h
      · refine Or.inl ⟨by kernel_rfl, ?_⟩
        intro wS hSw
        try dsimp only at hSw
        go_simp
        try with_reducible rfl
      simp only [Act.put, List.setIfInBounds_toArray, List.set_cons_zero, List.set_cons_succ]
      have hsD : wr.heap.size + 1 ≤ wA.drew.heap.size := hsA
      have ho := ownBelow (w := wA.drew) howA hb4
      have hlen := ho.1
      have z0 := ho.frozenAt (k * 2)
      have z1 := ho.frozenAt (k * 2 + 1)
      have c0' := ho.cellAt (k * 2) (by omega)
      have c1' := ho.cellAt (k * 2 + 1) (by omega)
      rw [List.getElem?_eq_getElem (by omega)] at c0' c1'
      clear cC c1 c2 hzr hzA
      refine wpAnyH_ready (rs := [9]) (by kernel_rfl) (by simp) ?_
      refine AllReadyH.cons rfl (fun K hK => ?_) ?_
      rotate_left
      · exact AllReadyH.nil
      go_simp
      refine hK.out _ _ ?_ (fun hHeld => ?_)
      · exact ⟨keepT hHeld.1 _ _ (by omega), keepT hHeld.2 _ _ (by omega)⟩
      clear hK K
      try simp only [Act.put, List.setIfInBounds_toArray, List.set_cons_zero, List.set_cons_succ]
      refine wpAnyH_done (by kernel_rfl) ?_ _
      have m4 : wA.heap.size ≤ w4.heap.size := hb4.size
      have hB4 : Below w.heap.size w w4 := behind (behind hb bA).drew hb4
      have hst := ((ho.stored (k * 2) (.string s)).1.stored (k * 2 + 1) (.slice (some ⟨wA.drew.heap.size, 0, none⟩) p.length p.length)).1
      go_wp2
      go_roundw
      case rel =>
        refine ⟨k + 1, _, rs ++ [(s, .slice (some ⟨wA.drew.heap.size, 0, none⟩) p.length p.length, p)], by omega, by go_num, by simp; omega, ?_, ?_, hst, ?_, ?_, set2 hB4 (Nat.le_refl _), by simp; omega⟩
        · show nds _ = _
          rw [HT.out, ← HN.out]; simp [nds, mapN]
        · show RowsK _ _
          have := RowsK.step (r := (s, .slice (some ⟨wA.drew.heap.size, 0, none⟩) p.length p.length, p)) HX.out (by omega)
          rw [hrl] at this
          exact this
        · intro r hr'
          rcases List.mem_append.1 hr' with hr' | hr'
          · exact ownFarB (ownFarB (ownBelow (w := wA.drew) (ownBelow (HBy.out r hr') bA.drew) hb4) (by omega)) (by omega)
          · rw [List.mem_singleton.1 hr']
            exact ownFarB (ownFarB (ownBase ho4 (by omega)) (by omega)) (by omega)
        · show (vals _).Pairwise Apart
          have : vals (rs ++ [(s, .slice (some ⟨wA.drew.heap.size, 0, none⟩) p.length p.length, p)]) = vals rs ++ [.slice (some ⟨wA.drew.heap.size, 0, none⟩) p.length p.length] := by simp [vals]
          rw [this]
          refine Apart.snoc HA.out (fun x hx => ?_)
          obtain ⟨r, hr', rfl⟩ := List.mem_map.1 hx
          refine Apart.of (fun j e => (World.ownsRow.lt (HBy.out r hr') j e).2) (fun j e => ?_)
          have := (World.ownsRow.lt ho4 j e).1
          omega
      case measure => simp [intOf]; omega
    · have hkl : k = l.length := by omega
      subst hkl
      have HN2 := HN.out
      rw [List.take_length] at HN2
      go_wp2
      go_ret
      refine ⟨_, _, rfl, ?_, hb⟩
      have hxs := hown.1
      have HX2 : xs = csR rs := by
        have := HX.out
        unfold RowsK at this
        rw [List.take_of_length_le (by omega)] at this
        exact this
      subst HX2
      rw [← HN2]
      refine OwnN.of_rows (by rw [← nds_len, HN2]; exact hown) (fun r hr' => ownBase (HBy.out r hr') (Nat.le_succ _)) HA.out (fun u hu => ?_)
      obtain ⟨r, hr', rfl⟩ := List.mem_map.1 hu
      refine .inr (fun e => ?_)
      have := (World.ownsRow.lt (HBy.out r hr') w.heap.size e).1
      omega
end Go.Proofs.Ytmappmboedpgmaq.Wk
