/- What RemoveName of the specification comes to. -/
import Derived.Test.YtmappmboedpgmaqNwC
import Derived.Test.YtmappmboedpgmaqNcS
namespace Go.Proofs.Ytmappmboedpgmaq.Wk
set_option linter.unusedVariables false
open Go.ChangeShapes Go.WideShapes Go.ChangeAt Go.RowKit

set_option maxHeartbeats 4000000 in
set_option maxRecDepth 100000 in
theorem specRemove (a1 a2 : Option Addr) (c1 c2 : Nat) (l1 l2 : List Nd) (s : ByteArray) (w : World) (z1 : NdZ l1) (z2 : NdZ l2) (hs : s.size ≤ 1048576)
    (r1 : RdNd w a1 l1) (r2 : RdNd w a2 l2) :
    Calls Try.prog 8 #[.agg #[.slice a1 l1.length c1, .slice a2 l2.length c2], .string s] w (DkAns w ((ndAt l1 s).isSome && endsOk l1 l2 s (cutR l1 s) l2) (if (ndAt l1 s).isSome && endsOk l1 l2 s (cutR l1 s) l2 then cutR l1 s else l1) l2) := by
  obtain ⟨L, HL⟩ : ∃ L, Hid ((if (ndAt l1 s).isSome && endsOk l1 l2 s (cutR l1 s) l2 then cutR l1 s else l1) = L) := ⟨_, rfl⟩
  rw [HL.out]
  obtain ⟨V, HV⟩ : ∃ V, Hid (((ndAt l1 s).isSome && endsOk l1 l2 s (cutR l1 s) l2) = V) := ⟨_, rfl⟩
  rw [HV.out]
  have b0 := bel2 w (.cells #[.slice a1 l1.length c1, .slice a2 l2.length c2] 28) (.cells #[.slice none 0 0, .slice none 0 0] 28)
  have s0 := (slot2dNew w (.slice a1 l1.length c1) (.slice a2 l2.length c2) 28).below (bel1 _ (.cells #[.slice none 0 0, .slice none 0 0] 28))
  have s1 := slot2dNew (w.alloc (.cells #[.slice a1 l1.length c1, .slice a2 l2.length c2] 28)) (.slice none 0 0) (.slice none 0 0) 28
  have hsz : ((w.alloc (.cells #[.slice a1 l1.length c1, .slice a2 l2.length c2] 28)).alloc (.cells #[.slice none 0 0, .slice none 0 0] 28)).heap.size = w.heap.size + 2 := by simp
  rw [World.size_alloc] at s1
  go_enter Try.func8, Try.ntmps8
  go_wp2_with fail
  generalize (w.alloc (.cells #[.slice a1 l1.length c1, .slice a2 l2.length c2] 28)).alloc (.cells #[.slice none 0 0, .slice none 0 0] 28) = wA at *
  go_at_call 24
  refine (specCopyDk a1 a2 c1 c2 l1 l2 wA z1.1 z2.1 (fun x hx => (z1.2 x hx).2) (fun x hx => (z2.2 x hx).2) (r1.below b0) (r2.below b0)).mono ?_
  rintro e w3 ⟨p1, p2, e1, e2, rfl, OK3, hb3⟩
  obtain ⟨ra, rb, ea, eb, OD⟩ := OK3.rows
  have hla : l1.length = ra.length := by rw [← ea, nds_len]
  have hlb : l2.length = rb.length := by rw [← eb, nds_len]
  have B3 := behind b0 hb3
  have t0 := s0.below hb3
  have t1 := s1.below hb3
  have m3 := hb3.size
  -- the box of what is laid
  have bG := bel1 w3 (.cells #[.slice p1 l1.length e1, .slice p2 l2.length e2] 28)
  have g0 := slot2dNew w3 (.slice p1 l1.length e1) (.slice p2 l2.length e2) 28
  have B3' := behind B3 bG
  have hRa : RdR (w3.alloc (.cells #[.slice p1 l1.length e1, .slice p2 l2.length e2] 28)) p1 ra := RdR.below (by have := OD.1; rw [hla] at this; exact RdR.own this) bG
  have hYa : BysR (w3.alloc (.cells #[.slice p1 l1.length e1, .slice p2 l2.length e2] 28)) ra := OD.2.2.1.rd.below bG
  have HLA : Hid (l1.length = ra.length) := hla
  have HLB : Hid (l2.length = rb.length) := hlb
  have EA : Hid (nds ra = l1) := ea
  have EB : Hid (nds rb = l2) := eb
  have cP := specCut p1 e1 ra s _ (by have := z1.1; omega) hRa hYa
  rw [← hla] at cP
  have cT := specAt a1 c1 l1 s (w3.alloc (.cells #[.slice p1 l1.length e1, .slice p2 l2.length e2] 28)) z1.1 (r1.below B3')
  have T0G := t0.below bG
  have T1G := t1.below bG
  clear hla hlb ea eb
  obtain ⟨⟨x0, x1⟩, -, -⟩ := id g0
  obtain ⟨⟨y0, y1⟩, -, -⟩ := id T0G
  go_wp2_with fail
  have hsG : (w3.alloc (.cells #[.slice p1 l1.length e1, .slice p2 l2.length e2] 28)).heap.size = w3.heap.size + 1 := World.size_alloc _ _
  generalize w3.alloc (.cells #[.slice p1 l1.length e1, .slice p2 l2.length e2] 28) = wG at *
  go_at_call 25
  refine cT.mono ?_
  rintro e wT ⟨rfl, nT, rfl⟩
  cases hat : ndAt l1 s with
  | none =>
    have HVc := HV.out
    have HLc := HL.out
    rw [hat] at HVc HLc
    simp only [Option.isSome_none, Bool.false_and, Bool.false_eq_true, if_false] at HVc HLc
    subst HVc HLc
    obtain ⟨⟨t2, t3⟩, t4, t5⟩ := show Slot2d (wG.drewN nT) _ _ _ from T1G
    have BG : Below w.heap.size w (wG.drewN nT) := ⟨B3'.os, B3'.tape, B3'.output, B3'.size, B3'.block⟩
    have bGn : Below w3.heap.size w3 (wG.drewN nT) := ⟨bG.os, bG.tape, bG.output, bG.size, bG.block⟩
    have FA := DkAns.set (w := w) (wE := wA) (ok := false) (b := w.heap.size + 1) BG (OD.below bGn) EA.out EB.out (by omega) (by omega) (by omega)
    obtain ⟨n0, n1⟩ := boxSet (v1 := .slice p1 l1.length e1) (v2 := .slice p2 l2.length e2) t2 t3
    obtain ⟨⟨x2, x3⟩, -, -⟩ := show Slot2d (wG.drewN nT) _ _ _ from g0
    clear cP hRa hYa OD OK3
    simp only [atN]
    go_wp2
    exact bodyPost_ret (v := .tuple #[.agg #[.slice p1 l1.length e1, .slice p2 l2.length e2], .bool false]) (by simp [results, Try.results8, go_sem, n0, n1]) rfl FA
  | some kA =>
  have hkA : ¬ ((kA : Int) < 0) := by omega
  rw [hat] at HV HL
  simp only [Option.isSome_some, Bool.true_and] at HV HL
  simp only [atN]
  have eN : (wG.drewN nT).heap.size = wG.heap.size := rfl
  have bG' : Below w3.heap.size w3 (wG.drewN nT) := ⟨bG.os, bG.tape, bG.output, bG.size, bG.block⟩
  have g0' : Slot2d (wG.drewN nT) _ _ _ := g0
  have B3n : Below w.heap.size w (wG.drewN nT) := ⟨B3'.os, B3'.tape, B3'.output, B3'.size, B3'.block⟩
  have cP' := specCut p1 e1 ra s (wG.drewN nT) (by have := z1.1; have := HLA.out; omega) (show RdR (wG.drewN nT) p1 ra from hRa) hYa
  rw [← HLA.out] at cP'
  have hsG' : (wG.drewN nT).heap.size = w3.heap.size + 1 := hsG
  clear cP cT x0 x1 y0 y1 bG g0 B3' hsG hRa hYa T0G T1G eN
  generalize wG.drewN nT = wK at *
  obtain ⟨⟨x0, x1⟩, -, -⟩ := id g0'
  go_wp2_with fail
  go_at_call 26
  refine cP'.mono ?_
  rintro e w4 ⟨v', rfl, ⟨a', c', rfl⟩, hv, hb4⟩
  have HP : Hid (nds (cutR ra s) = cutR l1 s) := by show nds _ = _; rw [nds_cut, EA.out]
  have hPl : (cutR ra s).length = (cutR l1 s).length := by rw [← HP.out, nds_len]
  rw [hPl] at hv ⊢
  clear hPl
  have zO := cut_bounds (s := s) z1
  have HPe : Hid (∀ W, BysR W ra → BysR W (cutR ra s)) := fun W h1 r hr => h1 r (mem_cut.1 hr).2
  have HOD : Hid (∀ W, Below w3.heap.size w3 W → W.ownsRow wK.heap.size 57 2 (.slice a' (cutR l1 s).length c') (cutR l1 s).length (csR (cutR ra s)) →
      OwnD W wA.heap.size (.slice a' (cutR l1 s).length c') (.slice p2 l2.length e2) (cutR ra s) rb) := fun W h1 h2 =>
    OD.cut (s := s) h1 (by rw [show (cutR ra s).length = (cutR l1 s).length from by rw [← HP.out, nds_len]]; exact ownBase h2 (by omega)) m3
  generalize cutR l1 s = O at *
  generalize cutR ra s = rp at *
  -- the store into the box
  have hv' := ownFarB (b := w3.heap.size) (o := 0) (u := .slice a' O.length c') hv (by omega)
  have T0 := (((t0.below bG').below hb4).other (b' := w3.heap.size) (o := 0) (x := .slice a' O.length c') (by have := t0.lt; omega))
  have T1 := (((t1.below bG').below hb4).other (b' := w3.heap.size) (o := 0) (x := .slice a' O.length c') (by have := t1.lt; omega))
  have G1 := (g0'.below hb4).put0 (x := .slice a' O.length c')
  have hBw : Below w3.heap.size w3 (w4.setCell ⟨w3.heap.size, 0, none⟩ (.slice a' O.length c')) := (behind bG' hb4).setCell (Nat.le_refl _) _
  obtain ⟨⟨x0', x1'⟩, f0, f1⟩ := g0'.below hb4
  clear x0 x1 cP' hv hb4 bG' g0' OK3 s0 s1 hb3 b0
  go_upto_region 5 with fail
  generalize w4.setCell ⟨w3.heap.size, 0, none⟩ (.slice a' O.length c') = wH at *
  have ODH := OD.below hBw
  have BH := behind B3 hBw
  have q1 : RdNd wH a' O := by
    rw [← HP.out]
    exact rdNd_of (RdR.own hv') (HPe.out wH ODH.2.2.1.rd)
  have q2 : RdNd wH p2 l2 := by
    have := ODH.rd.2
    rw [EB.out] at this
    exact this
  have cE := specEnds a1 a2 a' p2 c1 c2 c' e2 l1 l2 O l2 s wH z1.1 z2.1 z1.2 z2.2 hs (fun _ => ⟨⟨zO.1, z2.1⟩, zO.2, z2.2⟩) (r1.below BH) (r2.below BH) q1 q2
  rw [show ((listOk l1 && listOk l2) && Nm.name s.data.toList && (listOk O && listOk l2)) = V from HV.out] at cE
  have mH := BH.size
  have mW := hBw.size
  have HLc := HL.out
  rw [HV.out] at HLc
  obtain ⟨⟨y0, y1⟩, -, -⟩ := id T0
  obtain ⟨⟨y2, y3⟩, -, -⟩ := id G1
  clear q1 q2 x0' x1' f0 f1 zO HPe HL r1 r2
  cases V with
  | false =>
    simp only [Bool.false_eq_true, if_false] at cE HLc
    subst HLc
    clear HV HOD
    go_wp2_with fail
    go_at_call 27
    refine cE.mono ?_
    rintro e w6 ⟨k1, k2, m1, m2, ra', rb', rfl, OD', ea', eb', hb6⟩
    obtain ⟨⟨t2, t3⟩, t4, t5⟩ := T1.below hb6
    have FA := DkAns.set (w := w) (wE := wH) (ok := false) (b := w.heap.size + 1) (behind BH hb6) OD' ea' eb' (by omega) (by have := T1.lt; omega) mH
    obtain ⟨n0, n1⟩ := boxSet (v1 := .slice k1 l1.length m1) (v2 := .slice k2 l2.length m2) t2 t3
    clear OD' ea' eb' cE
    go_wp2
    exact bodyPost_ret (v := .tuple #[.agg #[.slice k1 l1.length m1, .slice k2 l2.length m2], .bool false]) (by simp [results, Try.results8, go_sem, n0, n1]) rfl FA
  | true =>
    simp only [if_true] at cE HLc
    subst HLc
    have OD2 := HOD.out wH hBw hv'
    clear HV HOD hv'
    go_wp2_with fail
    go_at_call 27
    refine cE.mono ?_
    rintro e w6 ⟨rfl, hb6⟩
    obtain ⟨⟨t2, t3⟩, t4, t5⟩ := T1.below hb6
    have FA := DkAns.set (w := w) (wE := wA) (ok := true) (b := w.heap.size + 1) (behind BH hb6) (OD2.below hb6) HP.out EB.out (by omega) (by omega) (by omega)
    obtain ⟨n0, n1⟩ := boxSet (v1 := .slice a' O.length c') (v2 := .slice p2 l2.length e2) t2 t3
    clear OD2 cE
    go_wp2
    exact bodyPost_ret (v := .tuple #[.agg #[.slice a' O.length c', .slice p2 l2.length e2], .bool true]) (by simp [results, Try.results8, go_sem, n0, n1]) rfl FA
end Go.Proofs.Ytmappmboedpgmaq.Wk
