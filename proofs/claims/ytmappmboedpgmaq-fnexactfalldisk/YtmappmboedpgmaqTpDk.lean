/- What the laws' toNamedS, toDisk and szDisk come to. -/
import Derived.Test.YtmappmboedpgmaqToDk
namespace Go.Proofs.Ytmappmboedpgmaq.Wk
set_option linter.unusedVariables false
open Go.ChangeShapes Go.WideShapes Go.ChangeAt Go.RowKit

set_option maxHeartbeats 4000000 in
set_option maxRecDepth 100000 in
theorem toNamedS (a : Option Addr) (ca : Nat) (l : List Nd) (w : World) (hl : l.length ≤ 1048576) (hz : ∀ x ∈ l, x.2.length ≤ 1048576) (hr : RdNd w a l) :
    Calls Try.prog 28 #[.slice a l.length ca] w fun e w' => ∃ (a' : Option Addr) (ca' : Nat), e = .returned (.slice a' l.length ca') ∧
      OwnN w' w.heap.size (.slice a' l.length ca') l ∧ Below w.heap.size w w' := by
  obtain ⟨i0, hi, hz0, hz1, hz2⟩ := info_parts infoNd
  obtain ⟨w1, hrun, hown, hgrow⟩ := run_make_full (P := Try.prog) w w.heap.size 26 57 i0 _ 2 Try.underlying26 hi hz0 hz1 .i64 .i64 l.length (by rw [hz2]; omega) (by unfold maxLen; omega) (Nat.le_refl _)
  have hbel : Below w.heap.size w w1 := (Below.refl _ _).grown hgrow (Nat.le_refl _) (fun k h => by cases h)
  have hlw : w.heap.size < w1.heap.size := (World.ownsRow.lt hown w.heap.size rfl).2
  clear hgrow hi hz0 hz1 hz2
  go_enter Try.func28, Try.ntmps28
  go_wp2
  clear hrun
  go_loopw [4] (fun i wr => ∃ (k : Nat) (xs : List Value) (rs : List Rw), k ≤ l.length ∧ i = .int .i64 k ∧ rs.length = k ∧ Hid (nds rs = l.take k) ∧ Hid (RowsK xs rs) ∧ wr.ownsRow w.heap.size 57 2 (.slice (some ⟨w.heap.size, 0, none⟩) l.length l.length) l.length xs ∧
      Hid (BysO wr (w.heap.size + 1) rs) ∧ Hid ((vals rs).Pairwise Apart) ∧ Below w.heap.size w wr ∧ w.heap.size + 1 ≤ wr.heap.size) (fun i _ => l.length - (intOf i).toNat)
  case atStart => exact ⟨0, _, [], Nat.zero_le _, rfl, rfl, rfl, by show RowsK _ _; simp [RowsK, csR], hown, (show BysO w1 (w.heap.size + 1) [] from fun r hr => by cases hr), List.Pairwise.nil, hbel, hlw⟩
  case round =>
    obtain ⟨k, xs, rs, hk, rfl, hrl, HN, HX, hown, HBy, HA, hb, hgt⟩ := hrel
    by_cases hlt : k < l.length
    · have HT : Hid (l.take (k + 1) = l.take k ++ [l[k]]) := List.take_succ_eq_append_getElem hlt
      have hpl := hz l[k] (List.getElem_mem hlt)
      obtain ⟨b, off, ai, ci, rfl, c1, c2, hzr, hcap, hnil⟩ := (hr.below hb) k hlt
      generalize l[k] = x at HT hpl c1 c2 hzr hcap
      obtain ⟨s, p⟩ := x
      simp only at hpl c1 c2 hzr hcap
      have HRL : Hid (rs.length = k) := hrl
      clear hrl
      go_wp2_with fail
      go_at_call 53
      refine (toNamed s ai ci p wr hpl hzr).mono ?_
      rintro e w4 ⟨g, rfl, ho4, hb4⟩
      have ho := ownBelow hown hb4
      have hlen := ho.1
      have z0 := ho.frozenAt (k * 2)
      have z1 := ho.frozenAt (k * 2 + 1)
      have c0' := ho.cellAt (k * 2) (by omega)
      have c1' := ho.cellAt (k * 2 + 1) (by omega)
      rw [List.getElem?_eq_getElem (by omega)] at c0' c1'
      have hB4 : Below w.heap.size w w4 := behind hb hb4
      have hst := ((ho.stored (k * 2) (.string s)).1.stored (k * 2 + 1) (.slice (some ⟨g, 0, none⟩) p.length p.length)).1
      have m4 := hb4.size
      clear c1 c2 hzr
      go_wp2
      go_roundw
      case rel =>
        have hrl := HRL.out
        refine ⟨k + 1, _, rs ++ [(s, .slice (some ⟨g, 0, none⟩) p.length p.length, p)], by omega, by go_num, by simp; omega, ?_, ?_, hst, ?_, ?_, set2 hB4 (Nat.le_refl _), by simp; omega⟩
        · show nds _ = _
          rw [HT.out, ← HN.out]; simp [nds, mapN]
        · show RowsK _ _
          have := RowsK.step (r := (s, .slice (some ⟨g, 0, none⟩) p.length p.length, p)) HX.out (by omega)
          rw [hrl] at this
          exact this
        · intro r hr'
          rcases List.mem_append.1 hr' with hr' | hr'
          · exact ownFarB (ownFarB (ownBelow (HBy.out r hr') hb4) (by omega)) (by omega)
          · rw [List.mem_singleton.1 hr']
            exact ownFarB (ownFarB (ownBase ho4 (by omega)) (by omega)) (by omega)
        · show (vals _).Pairwise Apart
          have : vals (rs ++ [(s, .slice (some ⟨g, 0, none⟩) p.length p.length, p)]) = vals rs ++ [.slice (some ⟨g, 0, none⟩) p.length p.length] := by simp [vals]
          rw [this]
          refine Apart.snoc HA.out (fun x hx => ?_)
          obtain ⟨r, hr', rfl⟩ := List.mem_map.1 hx
          refine Apart.of (H := wr.heap.size) (fun j e => (World.ownsRow.lt (HBy.out r hr') j e).2) (fun j e => ?_)
          have := (World.ownsRow.lt ho4 j e).1
          omega
      case measure => simp [intOf]; omega
    · have hkl : k = l.length := by omega
      subst hkl
      have HN2 := HN.out
      rw [List.take_length] at HN2
      go_wp2
      go_ret
      refine ⟨_, _, rfl, ?_, hb⟩
      have hxs := hown.1
      have HX2 : xs = csR rs := by
        have := HX.out
        unfold RowsK at this
        rw [List.take_of_length_le (by omega)] at this
        exact this
      subst HX2
      rw [← HN2]
      refine OwnN.of_rows (by rw [← nds_len, HN2]; exact hown) (fun r hr' => ownBase (HBy.out r hr') (Nat.le_succ _)) HA.out (fun u hu => ?_)
      obtain ⟨r, hr', rfl⟩ := List.mem_map.1 hu
      refine .inr (fun e => ?_)
      have := (World.ownsRow.lt (HBy.out r hr') w.heap.size e).1
      omega

set_option maxHeartbeats 4000000 in
set_option maxRecDepth 100000 in
theorem toDisk (a1 a2 : Option Addr) (c1 c2 : Nat) (l1 l2 : List Nd) (w : World) (h1 : l1.length ≤ 1048576) (h2 : l2.length ≤ 1048576) (z1 : ∀ x ∈ l1, x.2.length ≤ 1048576) (z2 : ∀ x ∈ l2, x.2.length ≤ 1048576) (r1 : RdNd w a1 l1) (r2 : RdNd w a2 l2) :
    Calls Try.prog 9 #[.agg #[.slice a1 l1.length c1, .slice a2 l2.length c2]] w fun e w' => ∃ (b1 b2 : Option Addr) (d1 d2 : Nat), e = .returned (.agg #[.slice b1 l1.length d1, .slice b2 l2.length d2]) ∧
      OwnDk w' w.heap.size (.slice b1 l1.length d1) (.slice b2 l2.length d2) l1 l2 ∧ Below w.heap.size w w' := by
  have b0 := bel3 w (.cells #[.slice a1 l1.length c1, .slice a2 l2.length c2] 24) (.cells #[.slice none 0 0, .slice none 0 0] 28) (.cells #[.slice none 0 0, .slice none 0 0] 28)
  have s0 := ((slot2dNew w (.slice a1 l1.length c1) (.slice a2 l2.length c2) 24).below (bel1 _ (.cells #[.slice none 0 0, .slice none 0 0] 28))).below (bel1 _ (.cells #[.slice none 0 0, .slice none 0 0] 28))
  have s1 := (slot2dNew (w.alloc (.cells #[.slice a1 l1.length c1, .slice a2 l2.length c2] 24)) (.slice none 0 0) (.slice none 0 0) 28).below (bel1 _ (.cells #[.slice none 0 0, .slice none 0 0] 28))
  have s2 := slot2dNew ((w.alloc (.cells #[.slice a1 l1.length c1, .slice a2 l2.length c2] 24)).alloc (.cells #[.slice none 0 0, .slice none 0 0] 28)) (.slice none 0 0) (.slice none 0 0) 28
  have hsz : (((w.alloc (.cells #[.slice a1 l1.length c1, .slice a2 l2.length c2] 24)).alloc (.cells #[.slice none 0 0, .slice none 0 0] 28)).alloc (.cells #[.slice none 0 0, .slice none 0 0] 28)).heap.size = w.heap.size + 3 := by simp
  rw [World.size_alloc] at s1
  rw [World.size_alloc, World.size_alloc] at s2
  go_enter Try.func9, Try.ntmps9
  go_upto_region 2 with fail
  generalize ((w.alloc (.cells #[.slice a1 l1.length c1, .slice a2 l2.length c2] 24)).alloc (.cells #[.slice none 0 0, .slice none 0 0] 28)).alloc (.cells #[.slice none 0 0, .slice none 0 0] 28) = wA at *
  obtain ⟨⟨x0, x1⟩, -⟩ := id s0
  go_wp2_with fail
  go_at_call 28
  refine (toNamedS a1 c1 l1 wA h1 z1 (r1.below b0)).mono ?_
  rintro e w2 ⟨p1, q1, rfl, o1, hb2⟩
  have B2 := behind b0 hb2
  have t0 := (s0.below hb2).other (b' := w.heap.size + 1 + 1) (o := 0) (x := .slice p1 l1.length q1) (by omega)
  have t1 := (s1.below hb2).other (b' := w.heap.size + 1 + 1) (o := 0) (x := .slice p1 l1.length q1) (by omega)
  have t2 := (s2.below hb2).put0 (x := .slice p1 l1.length q1)
  have m2 := hb2.size
  have o1' : OwnN (w2.setCell ⟨w.heap.size + 1 + 1, 0, none⟩ (.slice p1 l1.length q1)) wA.heap.size (.slice p1 l1.length q1) l1 := by
    obtain ⟨us, k1, k2⟩ := o1
    exact ⟨us, ownFarB k1 (by omega), k2.far (by omega)⟩
  have B3 : Below w.heap.size w (w2.setCell ⟨w.heap.size + 1 + 1, 0, none⟩ (.slice p1 l1.length q1)) := B2.setCell (by show w.heap.size ≤ w.heap.size + 1 + 1; omega) _
  have m3 : (w2.setCell ⟨w.heap.size + 1 + 1, 0, none⟩ (.slice p1 l1.length q1)).heap.size = w2.heap.size := by simp
  obtain ⟨⟨y0, y1⟩, y2, y3⟩ := s2.below hb2
  clear s0 s1 s2 x0 x1 o1 hb2
  go_upto_region 3 with fail
  generalize w2.setCell ⟨w.heap.size + 1 + 1, 0, none⟩ (.slice p1 l1.length q1) = wB at *
  clear y0 y1 y2 y3
  have m3' : wA.heap.size ≤ wB.heap.size := by omega
  clear m3
  obtain ⟨⟨x0, x1⟩, -⟩ := id t0
  go_wp2_with fail
  go_at_call 28
  refine (toNamedS a2 c2 l2 wB h2 z2 (r2.below B3)).mono ?_
  rintro e w4 ⟨p2, q2, rfl, o2, hb4⟩
  have DK := OwnDk.join o1' hb4 o2 m3'
  have B4 := behind B3 hb4
  have t1' := (t1.below hb4).other (b' := w.heap.size + 1 + 1) (o := 1) (x := .slice p2 l2.length q2) (by omega)
  have t2' := (t2.below hb4).put1 (x := .slice p2 l2.length q2)
  have DK' := DK.far (b := w.heap.size + 1 + 1) (o := 1) (u := .slice p2 l2.length q2) (by omega)
  have B5 : Below w.heap.size w (w4.setCell ⟨w.heap.size + 1 + 1, 1, none⟩ (.slice p2 l2.length q2)) := B4.setCell (by show w.heap.size ≤ w.heap.size + 1 + 1; omega) _
  obtain ⟨⟨y0, y1⟩, y2, y3⟩ := t2.below hb4
  clear t0 t1 t2 x0 x1 o1' o2 DK hb4
  go_upto_region 4 with fail
  generalize w4.setCell ⟨w.heap.size + 1 + 1, 1, none⟩ (.slice p2 l2.length q2) = wC at *
  clear y0 y1 y2 y3
  obtain ⟨⟨y0, y1⟩, y2, y3⟩ := id t2'
  obtain ⟨⟨z0, z1⟩, z2, z3⟩ := id t1'
  obtain ⟨n0, n1⟩ := boxSet (v1 := .slice p1 l1.length q1) (v2 := .slice p2 l2.length q2) z0 z1
  have FA := ((DK'.far (b := w.heap.size + 1) (o := 0) (u := .slice p1 l1.length q1) (by omega)).far (b := w.heap.size + 1) (o := 1) (u := .slice p2 l2.length q2) (by omega)).base (base' := w.heap.size) (by omega)
  have FB := setBelow B5 (b := w.heap.size + 1) (by omega) (.slice p1 l1.length q1) (.slice p2 l2.length q2)
  go_wp2
  exact bodyPost_ret (v := .agg #[.slice p1 l1.length q1, .slice p2 l2.length q2]) (by simp [results, Try.results9, go_sem, n0, n1]) rfl ⟨p1, p2, q1, q2, rfl, FA, FB⟩
end Go.Proofs.Ytmappmboedpgmaq.Wk
