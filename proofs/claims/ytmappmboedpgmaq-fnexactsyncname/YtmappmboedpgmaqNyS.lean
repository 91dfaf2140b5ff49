/- What SyncName of the specification comes to. -/
import Derived.Test.YtmappmboedpgmaqNwC
import Derived.Test.YtmappmboedpgmaqNpS
import Derived.Test.YtmappmboedpgmaqNcS
import Derived.Test.YtmappmboedpgmaqDlS
namespace Go.Proofs.Ytmappmboedpgmaq.Wk
set_option linter.unusedVariables false
open Go.ChangeShapes Go.WideShapes Go.ChangeAt Go.RowKit

/-- what stands at the name is made sure, or that nothing does -/
def syncL (l1 l2 : List Nd) (s : ByteArray) : List Nd := if (ndAt l1 s).isSome then putR (cutR l2 s) (s, ndRead l1 s) else cutR l2 s
theorem ndRead_len {l : List Nd} {s : ByteArray} (h : ∀ x ∈ l, x.2.length ≤ 1048576) : (ndRead l s).length ≤ 1048576 := by
  unfold ndRead
  cases ndAt l s with
  | none => simp
  | some k =>
    dsimp only
    by_cases hk : k < l.length
    · simp [hk]; exact h _ (List.getElem_mem hk)
    · simp [hk]
theorem sync_bounds {l1 l2 : List Nd} {s : ByteArray} (h : (listOk l1 && listOk l2) = true) (z1 : NdZ l1) (z2 : NdZ l2) (hs : s.size ≤ 1048576) : NdZ (syncL l1 l2 s) := by
  unfold syncL
  split
  · exact put_bounds (x := (s, ndRead l1 s)) (listOk_cut (by simp at h; exact h.2) s) (cut_bounds z2) hs (ndRead_len fun x hx => (z1.2 x hx).2)
  · exact cut_bounds z2

set_option maxHeartbeats 4000000 in
set_option maxRecDepth 100000 in
theorem specSync (a1 a2 : Option Addr) (c1 c2 : Nat) (l1 l2 : List Nd) (s : ByteArray) (w : World) (z1 : NdZ l1) (z2 : NdZ l2) (hs : s.size ≤ 1048576)
    (r1 : RdNd w a1 l1) (r2 : RdNd w a2 l2) :
    Calls Try.prog 14 #[.agg #[.slice a1 l1.length c1, .slice a2 l2.length c2], .string s] w (DkAns w (endsOk l1 l2 s l1 (syncL l1 l2 s)) l1 (if endsOk l1 l2 s l1 (syncL l1 l2 s) then syncL l1 l2 s else l2)) := by
  obtain ⟨L, HL⟩ : ∃ L, Hid ((if endsOk l1 l2 s l1 (syncL l1 l2 s) then syncL l1 l2 s else l2) = L) := ⟨_, rfl⟩
  rw [HL.out]
  obtain ⟨V, HV⟩ : ∃ V, Hid (endsOk l1 l2 s l1 (syncL l1 l2 s) = V) := ⟨_, rfl⟩
  rw [HV.out]
  have b0 := bel2 w (.cells #[.slice a1 l1.length c1, .slice a2 l2.length c2] 28) (.cells #[.slice none 0 0, .slice none 0 0] 28)
  have s0 := (slot2dNew w (.slice a1 l1.length c1) (.slice a2 l2.length c2) 28).below (bel1 _ (.cells #[.slice none 0 0, .slice none 0 0] 28))
  have s1 := slot2dNew (w.alloc (.cells #[.slice a1 l1.length c1, .slice a2 l2.length c2] 28)) (.slice none 0 0) (.slice none 0 0) 28
  have hsz : ((w.alloc (.cells #[.slice a1 l1.length c1, .slice a2 l2.length c2] 28)).alloc (.cells #[.slice none 0 0, .slice none 0 0] 28)).heap.size = w.heap.size + 2 := by simp
  rw [World.size_alloc] at s1
  go_enter Try.func14, Try.ntmps14
  go_wp2_with fail
  generalize (w.alloc (.cells #[.slice a1 l1.length c1, .slice a2 l2.length c2] 28)).alloc (.cells #[.slice none 0 0, .slice none 0 0] 28) = wA at *
  go_at_call 24
  refine (specCopyDk a1 a2 c1 c2 l1 l2 wA z1.1 z2.1 (fun x hx => (z1.2 x hx).2) (fun x hx => (z2.2 x hx).2) (r1.below b0) (r2.below b0)).mono ?_
  rintro e w3 ⟨p1, p2, e1, e2, rfl, OK3, hb3⟩
  obtain ⟨ra, rb, ea, eb, OD⟩ := OK3.rows
  have hla : l1.length = ra.length := by rw [← ea, nds_len]
  have hlb : l2.length = rb.length := by rw [← eb, nds_len]
  have B3 := behind b0 hb3
  have t0 := s0.below hb3
  have t1 := s1.below hb3
  have m3 := hb3.size
  -- the box of what is laid
  have bG := bel1 w3 (.cells #[.slice p1 l1.length e1, .slice p2 l2.length e2] 28)
  have g0 := slot2dNew w3 (.slice p1 l1.length e1) (.slice p2 l2.length e2) 28
  have B3' := behind B3 bG
  have HLA : Hid (l1.length = ra.length) := hla
  have HLB : Hid (l2.length = rb.length) := hlb
  have EA : Hid (nds ra = l1) := ea
  have EB : Hid (nds rb = l2) := eb
  have hRb : RdR (w3.alloc (.cells #[.slice p1 l1.length e1, .slice p2 l2.length e2] 28)) p2 rb := RdR.below (by have := OD.2.1; rw [hlb] at this; exact RdR.own this) bG
  have hYb : BysR (w3.alloc (.cells #[.slice p1 l1.length e1, .slice p2 l2.length e2] 28)) rb := OD.2.2.2.1.rd.below bG
  have cR := specReadName a1 a2 c1 c2 l1 l2 s (w3.alloc (.cells #[.slice p1 l1.length e1, .slice p2 l2.length e2] 28)) z1.1 (fun x hx => (z1.2 x hx).2) (r1.below B3')
  have T0G := t0.below bG
  have T1G := t1.below bG
  have hbl := ndRead_len (s := s) (fun x hx => (z1.2 x hx).2)
  have zO := fun h => sync_bounds (s := s) h z1 z2 hs
  have HSY : Hid (syncL l1 l2 s = if (ndAt l1 s).isSome then putR (cutR l2 s) (s, ndRead l1 s) else cutR l2 s) := rfl
  clear hla hlb ea eb
  generalize ndRead l1 s = bs at *
  obtain ⟨⟨x0, x1⟩, -, -⟩ := id g0
  obtain ⟨⟨y0, y1⟩, -, -⟩ := id T0G
  go_wp2_with fail
  have hsG : (w3.alloc (.cells #[.slice p1 l1.length e1, .slice p2 l2.length e2] 28)).heap.size = w3.heap.size + 1 := World.size_alloc _ _
  generalize w3.alloc (.cells #[.slice p1 l1.length e1, .slice p2 l2.length e2] 28) = wG at *
  go_at_call 38
  refine cR.mono ?_
  rintro e wR ⟨ar, cr, rfl, hOr, hbR⟩
  have bR := behind bG hbR
  have g1 := g0.below hbR
  have T0R := T0G.below hbR
  have T1R := T1G.below hbR
  have cC := specCut p2 e2 rb s wR (by have := z2.1; have := HLB.out; omega) (hRb.below hbR) (hYb.below hbR)
  rw [← HLB.out] at cC
  have mR := hbR.size
  clear cR x0 x1 y0 y1 bG g0 B3' hRb hYb T0G T1G
  obtain ⟨⟨x0, x1⟩, -, -⟩ := id g1
  go_wp2_with fail
  go_at_call 26
  refine cC.mono ?_
  rintro e w4 ⟨v', rfl, ⟨a0, c0, rfl⟩, hv, hb4⟩
  have hPl : (cutR rb s).length = (cutR l2 s).length := by rw [← EB.out, ← nds_cut, nds_len]
  rw [hPl] at hv ⊢
  have HC : Hid (nds (cutR rb s) = cutR l2 s) := by show nds _ = _; rw [nds_cut, EB.out]
  have HPL : Hid ((cutR rb s).length = (cutR l2 s).length) := hPl
  clear hPl
  have hv' := ownFarB (b := w3.heap.size) (o := 1) (u := .slice a0 (cutR l2 s).length c0) hv (by omega)
  have hOr' := ownFarB (b := w3.heap.size) (o := 1) (u := .slice a0 (cutR l2 s).length c0) (ownBelow hOr hb4) (by omega)
  have T0 := ((T0R.below hb4).other (b' := w3.heap.size) (o := 1) (x := .slice a0 (cutR l2 s).length c0) (by have := t0.lt; omega))
  have T1 := ((T1R.below hb4).other (b' := w3.heap.size) (o := 1) (x := .slice a0 (cutR l2 s).length c0) (by have := t1.lt; omega))
  have G1 := (g1.below hb4).put1 (x := .slice a0 (cutR l2 s).length c0)
  have hBw : Below w3.heap.size w3 (w4.setCell ⟨w3.heap.size, 1, none⟩ (.slice a0 (cutR l2 s).length c0)) := (behind bR hb4).setCell (Nat.le_refl _) _
  have m4 := hb4.size
  obtain ⟨⟨x0', x1'⟩, f0, f1⟩ := g1.below hb4
  clear x0 x1 cC hv hOr hb4 bR g1 OK3 s0 s1 hb3 b0 T0R T1R hbR
  generalize HO2 : syncL l1 l2 s = O2 at *
  cases hat : ndAt l1 s with
  | none =>
    have HS2 := HSY.out
    rw [hat] at HS2
    simp only [Option.isSome_none, Bool.false_eq_true, if_false] at HS2
    subst HS2
    have HP := HC
    have HODc : Hid (∀ W, Below w3.heap.size w3 W → W.ownsRow wR.heap.size 57 2 (.slice a0 (cutR l2 s).length c0) (cutR l2 s).length (csR (cutR rb s)) →
        OwnD W wA.heap.size (.slice p1 l1.length e1) (.slice a0 (cutR l2 s).length c0) ra (cutR rb s)) := fun W h1 h2 =>
      (OD.swap.cut (s := s) h1 (by rw [HPL.out]; exact ownBase h2 (by omega)) m3).swap
    have HOD := HODc
    have HBy : Hid (∀ W, BysR W rb → BysR W (cutR rb s)) := fun W h1 r hr => h1 r (mem_cut.1 hr).2
    clear HSY hat
    generalize cutR rb s = rp at *
    generalize cutR l2 s = O at *
    simp only [Option.isSome_none]
    go_upto_region 6 with fail
    generalize w4.setCell ⟨w3.heap.size, 1, none⟩ (.slice a0 O.length c0) = wH at *
    have ODH := OD.below hBw
    have BH := behind B3 hBw
    have q1 : RdNd wH p1 l1 := by
      have := ODH.rd.1
      rw [EA.out] at this
      exact this
    have q2 : RdNd wH a0 O := by
      rw [← HP.out]
      exact rdNd_of (RdR.own hv') (HBy.out wH ODH.2.2.2.1.rd)
    have cE := specEnds a1 a2 p1 a0 c1 c2 e1 c0 l1 l2 l1 O s wH z1.1 z2.1 z1.2 z2.2 hs (fun h => ⟨⟨z1.1, (zO h).1⟩, z1.2, (zO h).2⟩) (r1.below BH) (r2.below BH) q1 q2
    rw [show ((listOk l1 && listOk l2) && Nm.name s.data.toList && (listOk l1 && listOk O)) = V from HV.out] at cE
    have mH := BH.size
    have mW := hBw.size
    have HLc := HL.out
    rw [HV.out] at HLc
    obtain ⟨⟨y0, y1⟩, -, -⟩ := id T0
    obtain ⟨⟨y2, y3⟩, -, -⟩ := id G1
    clear q1 q2 zO HL r1 r2
    cases V with
    | false =>
      simp only [Bool.false_eq_true, if_false] at cE HLc
      subst HLc
      clear HV HOD
      go_wp2_with fail
      go_at_call 27
      refine cE.mono ?_
      rintro e w6 ⟨k1, k2, m1, m2, ra0, rb', rfl, OD', ea0, eb', hb6⟩
      obtain ⟨⟨t2, t3⟩, t4, t5⟩ := T1.below hb6
      have FA := DkAns.set (w := w) (wE := wH) (ok := false) (b := w.heap.size + 1) (behind BH hb6) OD' ea0 eb' (by omega) (by have := T1.lt; omega) mH
      obtain ⟨n0, n1⟩ := boxSet (v1 := .slice k1 l1.length m1) (v2 := .slice k2 l2.length m2) t2 t3
      clear OD' ea0 eb' cE
      go_wp2
      exact bodyPost_ret (v := .tuple #[.agg #[.slice k1 l1.length m1, .slice k2 l2.length m2], .bool false]) (by simp [results, Try.results14, go_sem, n0, n1]) rfl FA
    | true =>
      simp only [if_true] at cE HLc
      subst HLc
      have OD2 := HOD.out wH hBw hv'
      clear HOD
      go_wp2_with fail
      go_at_call 27
      refine cE.mono ?_
      rintro e w6 ⟨rfl, hb6⟩
      obtain ⟨⟨t2, t3⟩, t4, t5⟩ := T1.below hb6
      have FA := DkAns.set (w := w) (wE := wA) (ok := true) (b := w.heap.size + 1) (behind BH hb6) (OD2.below hb6) EA.out HP.out (by omega) (by omega) (by omega)
      obtain ⟨n0, n1⟩ := boxSet (v1 := .slice p1 l1.length e1) (v2 := .slice a0 O.length c0) t2 t3
      clear OD2 cE
      go_wp2
      exact bodyPost_ret (v := .tuple #[.agg #[.slice p1 l1.length e1, .slice a0 O.length c0], .bool true]) (by simp [results, Try.results14, go_sem, n0, n1]) rfl FA
  | some kA =>
    have HS2 := HSY.out
    rw [hat] at HS2
    simp only [Option.isSome_some, if_true] at HS2
    subst HS2
    clear HSY hat
    simp only [Option.isSome_some]
    have HBy : Hid (∀ W, BysR W rb → BysR W (cutR rb s)) := fun W h1 r hr => h1 r (mem_cut.1 hr).2
    have hRc : RdR (w4.setCell ⟨w3.heap.size, 1, none⟩ (.slice a0 (cutR l2 s).length c0)) a0 (cutR rb s) := RdR.own hv'
    have hYc := HBy.out _ (OD.below hBw).2.2.2.1.rd
    have cP := specPut a0 ar c0 cr (cutR rb s) s bs (w4.setCell ⟨w3.heap.size, 1, none⟩ (.slice a0 (cutR l2 s).length c0)) (by have := z2.1; have := HLB.out; have := cut_len rb s; omega) (by omega) hRc hYc (RdA.own hOr') (by
      rcases hOr'.2 with ⟨h9, -⟩ | ⟨g9, cp9, cu9, h9, -⟩
      · simp at h9; exact fun _ => h9.2.2
      · simp at h9; intro e; rw [e] at h9; simp at h9)
    rw [HPL.out] at cP
    obtain ⟨⟨x0, x1⟩, -, -⟩ := id G1
    go_upto_region 5 with fail
    have mS : (w4.setCell ⟨w3.heap.size, 1, none⟩ (.slice a0 (cutR l2 s).length c0)).heap.size = w4.heap.size := by simp
    generalize w4.setCell ⟨w3.heap.size, 1, none⟩ (.slice a0 (cutR l2 s).length c0) = wS at *
    go_wp2_with fail
    go_at_call 39
    refine cP.mono ?_
    rintro e w5 ⟨v'', u, rfl, ⟨a', c', rfl⟩, hv5, hu5, hap5, hb5⟩
    have hPl : (putR (cutR rb s) (s, u, bs)).length = (putR (cutR l2 s) (s, bs)).length := by rw [← HC.out, ← nds_put, nds_len]
    rw [hPl] at hv5 hap5 ⊢
    have HP : Hid (nds (putR (cutR rb s) (s, u, bs)) = putR (cutR l2 s) (s, bs)) := by show nds _ = _; rw [nds_put, HC.out]
    have HODc : Hid (rise rb → ∀ W, Below w3.heap.size w3 W → W.ownsRow wS.heap.size 57 2 (.slice a' (putR (cutR l2 s) (s, bs)).length c') (putR (cutR l2 s) (s, bs)).length (csR (putR (cutR rb s) (s, u, bs))) → OwnB W wS.heap.size u bs →
        OwnD W wA.heap.size (.slice p1 l1.length e1) (.slice a' (putR (cutR l2 s) (s, bs)).length c') ra (putR (cutR rb s) (s, u, bs))) := fun hr W h1 h2 h3 =>
      (OD.swap.putSub (r1 := cutR rb s) (x := (s, u, bs)) (show (cutR rb s).Sublist rb from List.filter_sublist) (rise_cut hr s) h1 (by rw [hPl]; exact ownBase h2 (by omega)) (ownBase h3 (by omega)) hap5 m3).swap
    have HOD := HODc
    have HBp : Hid (∀ W, BysR W rb → RdV W u bs → BysR W (putR (cutR rb s) (s, u, bs))) := fun W h1 h2 => bysPut (HBy.out W h1) h2
    have HR : Hid (rise rb ∨ V = false) := by
      cases V
      · exact .inr rfl
      · have := HV.out
        unfold endsOk at this
        simp only [Bool.and_eq_true] at this
        exact .inl (rise_rows EB.out this.1.1.2)
    clear hPl hRc hYc cP HC
    generalize putR (cutR rb s) (s, u, bs) = rp at *
    generalize putR (cutR l2 s) (s, bs) = O at *
    have hv6 := ownFarB (b := w3.heap.size) (o := 1) (u := .slice a' O.length c') hv5 (by omega)
    have hu6 := ownFarB (b := w3.heap.size) (o := 1) (u := .slice a' O.length c') hu5 (by omega)
    have T0' := ((T0.below hb5).other (b' := w3.heap.size) (o := 1) (x := .slice a' O.length c') (by have := t0.lt; omega))
    have T1' := ((T1.below hb5).other (b' := w3.heap.size) (o := 1) (x := .slice a' O.length c') (by have := t1.lt; omega))
    have G2 := (G1.below hb5).put1 (x := .slice a' O.length c')
    have hBw2 : Below w3.heap.size w3 (w5.setCell ⟨w3.heap.size, 1, none⟩ (.slice a' O.length c')) := (behind hBw hb5).setCell (Nat.le_refl _) _
    obtain ⟨⟨x2', x3'⟩, f2, f3⟩ := G1.below hb5
    clear T0 T1 G1 hBw x0 x1 x0' x1' f0 f1 hv' hOr' hv5 hu5 hb5
    have T0 := T0'
    have T1 := T1'
    have G1 := G2
    have hBw := hBw2
    clear T0' T1' G2 hBw2
    go_upto_region 6 with fail
    generalize w5.setCell ⟨w3.heap.size, 1, none⟩ (.slice a' O.length c') = wH at *
    have ODH := OD.below hBw
    have BH := behind B3 hBw
    have q1 : RdNd wH p1 l1 := by
      have := ODH.rd.1
      rw [EA.out] at this
      exact this
    have q2 : RdNd wH a' O := by
      rw [← HP.out]
      exact rdNd_of (RdR.own hv6) (HBp.out wH ODH.2.2.2.1.rd (rdV_own hu6))
    have cE := specEnds a1 a2 p1 a' c1 c2 e1 c' l1 l2 l1 O s wH z1.1 z2.1 z1.2 z2.2 hs (fun h => ⟨⟨z1.1, (zO h).1⟩, z1.2, (zO h).2⟩) (r1.below BH) (r2.below BH) q1 q2
    rw [show ((listOk l1 && listOk l2) && Nm.name s.data.toList && (listOk l1 && listOk O)) = V from HV.out] at cE
    have mH := BH.size
    have mW := hBw.size
    have HLc := HL.out
    rw [HV.out] at HLc
    obtain ⟨⟨y0, y1⟩, -, -⟩ := id T0
    obtain ⟨⟨y2, y3⟩, -, -⟩ := id G1
    clear q1 q2 zO HL r1 r2
    cases V with
    | false =>
      simp only [Bool.false_eq_true, if_false] at cE HLc
      subst HLc
      clear HV HOD
      go_wp2_with fail
      go_at_call 27
      refine cE.mono ?_
      rintro e w6 ⟨k1, k2, m1, m2, ra', rb', rfl, OD', ea', eb', hb6⟩
      obtain ⟨⟨t2, t3⟩, t4, t5⟩ := T1.below hb6
      have FA := DkAns.set (w := w) (wE := wH) (ok := false) (b := w.heap.size + 1) (behind BH hb6) OD' ea' eb' (by omega) (by have := T1.lt; omega) mH
      obtain ⟨n0, n1⟩ := boxSet (v1 := .slice k1 l1.length m1) (v2 := .slice k2 l2.length m2) t2 t3
      clear OD' ea' eb' cE
      go_wp2
      exact bodyPost_ret (v := .tuple #[.agg #[.slice k1 l1.length m1, .slice k2 l2.length m2], .bool false]) (by simp [results, Try.results14, go_sem, n0, n1]) rfl FA
    | true =>
      simp only [if_true] at cE HLc
      subst HLc
      have OD2 := HOD.out (HR.out.resolve_right (by simp)) wH hBw hv6 hu6
      clear HOD
      go_wp2_with fail
      go_at_call 27
      refine cE.mono ?_
      rintro e w6 ⟨rfl, hb6⟩
      obtain ⟨⟨t2, t3⟩, t4, t5⟩ := T1.below hb6
      have FA := DkAns.set (w := w) (wE := wA) (ok := true) (b := w.heap.size + 1) (behind BH hb6) (OD2.below hb6) EA.out HP.out (by omega) (by omega) (by omega)
      obtain ⟨n0, n1⟩ := boxSet (v1 := .slice p1 l1.length e1) (v2 := .slice a' O.length c') t2 t3
      clear OD2 cE
      go_wp2
      exact bodyPost_ret (v := .tuple #[.agg #[.slice p1 l1.length e1, .slice a' O.length c'], .bool true]) (by simp [results, Try.results14, go_sem, n0, n1]) rfl FA
end Go.Proofs.Ytmappmboedpgmaq.Wk
