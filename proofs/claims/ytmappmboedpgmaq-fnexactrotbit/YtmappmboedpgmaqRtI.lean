/- What RotBit of the program comes to. -/
import Derived.Test.YtmappmboedpgmaqRbI
import Derived.Test.YtmappmboedpgmaqCdI
import Derived.Test.YtmappmboedpgmaqFoI
import Derived.Test.YtmappmboedpgmaqPoI
import Derived.BigQuiet
namespace Go.Proofs.Ytmappmboedpgmaq.Wk
set_option linter.unusedVariables false
open Go.ChangeShapes Go.WideShapes Go.ChangeAt Go.RowKit

set_option maxHeartbeats 4000000 in
set_option maxRecDepth 100000 in
theorem implRot (a1 a2 : Option Addr) (c1 c2 : Nat) (l1 l2 : List Nd) (s : ByteArray) (n : Int) (w : World) (z1 : NdZ l1) (z2 : NdZ l2) (hn0 : -9223372036854775808 ≤ n) (hn1 : n ≤ 9223372036854775807)
    (r1 : RdNd w a1 l1) (r2 : RdNd w a2 l2) :
    Calls Try.prog 22 #[.agg #[.slice a1 l1.length c1, .slice a2 l2.length c2], .string s, .int .i64 n] w (DkAns w (rotL l1 l2 s n).1 (rotL l1 l2 s n).2.1 (rotL l1 l2 s n).2.2) := by
  obtain ⟨R, HR⟩ : ∃ R, Hid (rotL l1 l2 s n = R) := ⟨_, rfl⟩
  rw [HR.out]
  have b0 := bel2 w (.cells #[.slice a1 l1.length c1, .slice a2 l2.length c2] 28) (.cells #[.slice none 0 0, .slice none 0 0] 28)
  have s0 := (slot2dNew w (.slice a1 l1.length c1) (.slice a2 l2.length c2) 28).below (bel1 _ (.cells #[.slice none 0 0, .slice none 0 0] 28))
  have s1 := slot2dNew (w.alloc (.cells #[.slice a1 l1.length c1, .slice a2 l2.length c2] 28)) (.slice none 0 0) (.slice none 0 0) 28
  have hsz : ((w.alloc (.cells #[.slice a1 l1.length c1, .slice a2 l2.length c2] 28)).alloc (.cells #[.slice none 0 0, .slice none 0 0] 28)).heap.size = w.heap.size + 2 := by simp
  rw [World.size_alloc] at s1
  go_enter Try.func22, Try.ntmps22
  go_wp2_with fail
  generalize (w.alloc (.cells #[.slice a1 l1.length c1, .slice a2 l2.length c2] 28)).alloc (.cells #[.slice none 0 0, .slice none 0 0] 28) = wA at *
  go_at_call 31
  refine (implCopyDk a1 a2 c1 c2 l1 l2 wA z1.1 z2.1 (fun x hx => (z1.2 x hx).2) (fun x hx => (z2.2 x hx).2) (r1.below b0) (r2.below b0)).mono ?_
  rintro e w3 ⟨p1, p2, e1, e2, rfl, OK3, hb3⟩
  obtain ⟨ra, rb, ea, eb, OD3⟩ := OK3.rows
  have hblk := OD3.blk
  have B3 := behind b0 hb3
  have t0 := s0.below hb3
  have t1 := s1.below hb3
  have m3 := hb3.size
  have bG := bel1 w3 (.cells #[.slice p1 l1.length e1, .slice p2 l2.length e2] 28)
  have g0 := slot2dNew w3 (.slice p1 l1.length e1) (.slice p2 l2.length e2) 28
  have BG := behind B3 bG
  have EA : Hid (nds ra = l1) := ea
  have EB : Hid (nds rb = l2) := eb
  have T0G := t0.below bG
  have T1G := t1.below bG
  have ODG := OD3.below bG
  have RG := ODG.rd
  rw [ea, eb] at RG
  have hsG : (w3.alloc (.cells #[.slice p1 l1.length e1, .slice p2 l2.length e2] 28)).heap.size = w3.heap.size + 1 := World.size_alloc _ _
  obtain ⟨⟨x0, x1⟩, -, -⟩ := id g0
  clear ea eb OK3 OD3 t0 t1 s0 s1 b0 hb3
  go_wp2_with fail
  generalize w3.alloc (.cells #[.slice p1 l1.length e1, .slice p2 l2.length e2] 28) = wG at *
  go_at_call 30
  refine (implPlace p1 e1 l1 s wG z1.1 RG.1).mono ?_
  rintro e wK ⟨rfl, bK⟩
  have BK := behind BG bK
  have T0K := T0G.below bK
  have T1K := T1G.below bK
  have GK := g0.below bK
  have ODK := ODG.below bK
  have hsK : w3.heap.size + 1 ≤ wK.heap.size := by have := bK.size; omega
  clear x0 x1 T0G T1G g0 ODG bK BG hsG bG RG
  have cD := implDiskOk a1 a2 c1 c2 l1 l2 wK z1.1 z2.1 z1.2 z2.2 (r1.below BK) (r2.below BK)
  obtain ⟨V, HV⟩ : ∃ V, Hid ((listOk l1 && listOk l2) = V) := ⟨_, rfl⟩
  rw [HV.out] at cD
  obtain ⟨⟨y0, y1⟩, -, -⟩ := id T0K
  cases hat : ndAt l1 s with
  | none =>
    have HRc : R = (false, l1, l2) := by
      rw [← HR.out]
      unfold rotL
      rw [hat]
      split <;> rfl
    clear HR
    subst HRc
    simp only [atN]
    go_wp2_with fail
    go_at_call 29
    refine cD.mono ?_
    rintro e wD ⟨rfl, hbD⟩
    have BD := behind BK hbD
    have T1D := T1K.below hbD
    have GD := GK.below hbD
    have ODD := ODK.below hbD
    clear cD y0 y1 T0K T1K GK ODK
    cases V with
    | false =>
      obtain ⟨⟨t2, t3⟩, t4, t5⟩ := T1D
      obtain ⟨⟨x2, x3⟩, -, -⟩ := id GD
      have FA := DkAns.set (w := w) (wE := wA) (ok := false) (b := w.heap.size + 1) BD ODD EA.out EB.out (by omega) (by omega) (by omega)
      obtain ⟨n0, n1⟩ := boxSet (v1 := .slice p1 l1.length e1) (v2 := .slice p2 l2.length e2) t2 t3
      go_wp2
      exact bodyPost_ret (v := .tuple #[.agg #[.slice p1 l1.length e1, .slice p2 l2.length e2], .bool false]) (by simp [results, Try.results22, go_sem, n0, n1]) rfl FA
    | true =>
      obtain ⟨⟨t2, t3⟩, t4, t5⟩ := T1D
      obtain ⟨⟨x2, x3⟩, -, -⟩ := id GD
      have FA := DkAns.set (w := w) (wE := wA) (ok := false) (b := w.heap.size + 1) BD ODD EA.out EB.out (by omega) (by omega) (by omega)
      obtain ⟨n0, n1⟩ := boxSet (v1 := .slice p1 l1.length e1) (v2 := .slice p2 l2.length e2) t2 t3
      go_wp2
      exact bodyPost_ret (v := .tuple #[.agg #[.slice p1 l1.length e1, .slice p2 l2.length e2], .bool false]) (by simp [results, Try.results22, go_sem, n0, n1]) rfl FA
  | some k =>
    obtain ⟨hkl, -⟩ := List.findIdx?_eq_some_iff_getElem.1 hat
    have hk0 : ¬ ((k : Int) < 0) := by omega
    simp only [atN]
    cases V with
    | false =>
      have HRc : R = (false, l1, l2) := by
        rw [← HR.out]
        unfold rotL
        rw [HV.out]
        rfl
      clear HR
      subst HRc
      go_wp2_with fail
      go_at_call 29
      refine cD.mono ?_
      rintro e wD ⟨rfl, hbD⟩
      have BD := behind BK hbD
      have T1D := T1K.below hbD
      have GD := GK.below hbD
      have ODD := ODK.below hbD
      clear cD y0 y1 T0K T1K GK ODK
      obtain ⟨⟨t2, t3⟩, t4, t5⟩ := T1D
      obtain ⟨⟨x2, x3⟩, -, -⟩ := id GD
      have FA := DkAns.set (w := w) (wE := wA) (ok := false) (b := w.heap.size + 1) BD ODD EA.out EB.out (by omega) (by omega) (by omega)
      obtain ⟨n0, n1⟩ := boxSet (v1 := .slice p1 l1.length e1) (v2 := .slice p2 l2.length e2) t2 t3
      go_wp2
      exact bodyPost_ret (v := .tuple #[.agg #[.slice p1 l1.length e1, .slice p2 l2.length e2], .bool false]) (by simp [results, Try.results22, go_sem, n0, n1]) rfl FA
    | true =>
      go_wp2_with fail
      go_at_call 29
      refine cD.mono ?_
      rintro e wD ⟨rfl, hbD⟩
      have BD := behind BK hbD
      have T1D := T1K.below hbD
      have GD := GK.below hbD
      have ODD := ODK.below hbD
      clear cD y0 y1 T0K T1K GK ODK
      have RD := ODD.rd
      rw [EA.out, EB.out] at RD
      obtain ⟨b, off, ai, ci, hpb, q1, q2, hz, hcap, hnil⟩ := RD.1 k hkl
      subst hpb
      obtain ⟨⟨x0, x1⟩, -, -⟩ := id GD
      have hpl := (z1.2 l1[k] (List.getElem_mem hkl)).2
      have hI := implHas ai l1[k].2.length ci n wD hpl hn0 hn1
      have HP : Hid (bytesAt l1 k = l1[k].2) := by show _ = _; unfold bytesAt; rw [dif_pos hkl]
      by_cases hB : 0 ≤ n ∧ n.toNat / 8 < l1[k].2.length
      rotate_left 1
      · have HRc : R = (false, l1, l2) := by
          rw [← HR.out]
          unfold rotL
          rw [HV.out, hat, if_pos rfl]
          dsimp only
          rw [HP.out, if_neg hB]
        clear HR
        subst HRc
        rw [decide_eq_false hB] at hI
        clear hB HP
        generalize l1[k].2 = p at *
        go_wp2_with fail
        go_at_call 48
        refine hI.mono ?_
        rintro e wI ⟨rfl, nI, rfl⟩
        have BI : Below w.heap.size w (wD.drewN nI) := ⟨BD.os, BD.tape, BD.output, BD.size, BD.block⟩
        have bI : Below wD.heap.size wD (wD.drewN nI) := ⟨rfl, rfl, rfl, Nat.le_refl _, fun _ _ => rfl⟩
        have T1I := T1D.below bI
        have GI := GD.below bI
        have ODI := ODD.below bI
        clear T1D GD ODD bI x0 x1
        obtain ⟨⟨t2, t3⟩, t4, t5⟩ := T1I
        obtain ⟨⟨x2, x3⟩, -, -⟩ := id GI
        have FA := DkAns.set (w := w) (wE := wA) (ok := false) (b := w.heap.size + 1) BI ODI EA.out EB.out (by omega) (by omega) (by omega)
        obtain ⟨n0, n1⟩ := boxSet (v1 := .slice (some ⟨b, off, none⟩) l1.length e1) (v2 := .slice p2 l2.length e2) t2 t3
        go_wp2
        exact bodyPost_ret (v := .tuple #[.agg #[.slice (some ⟨b, off, none⟩) l1.length e1, .slice p2 l2.length e2], .bool false]) (by simp [results, Try.results22, go_sem, n0, n1]) rfl FA
      have HRc : Hid (R = (true, turnL l1 k n.toNat, turnO l2 (twin l2 s l1[k].2) n.toNat)) := by
        show R = _
        rw [← HR.out]
        unfold rotL
        rw [HV.out, hat, if_pos rfl]
        dsimp only
        rw [HP.out, if_pos hB]
      rw [decide_eq_true hB] at hI
      obtain ⟨N, rfl⟩ := Int.eq_ofNat_of_zero_le hB.1
      have hNq : N / 8 < l1[k].2.length := by have := hB.2; rw [Int.toNat_natCast] at this; exact this
      rw [Int.toNat_natCast] at HRc
      clear hB HR
      go_wp2_with fail
      go_at_call 48
      refine hI.mono ?_
      rintro e wI ⟨rfl, nI, rfl⟩
      have BI : Below w.heap.size w (wD.drewN nI) := ⟨BD.os, BD.tape, BD.output, BD.size, BD.block⟩
      have bI : Below wD.heap.size wD (wD.drewN nI) := ⟨rfl, rfl, rfl, Nat.le_refl _, fun _ _ => rfl⟩
      have T1I := T1D.below bI
      have GI := GD.below bI
      have ODI := ODD.below bI
      clear T1D GD ODD bI x0 x1 q1 q2 hz hI BD RD
      generalize wD.drewN nI = wI at *
      obtain ⟨⟨x0, x1⟩, -, -⟩ := id GI
      have RI := ODI.rd
      rw [EA.out, EB.out] at RI
      go_wp2_with fail
      go_at_call 30
      refine (implPlace p2 e2 l2 s wI z2.1 RI.2).mono ?_
      rintro e wU ⟨rfl, bU⟩
      have BU := behind BI bU
      have T1U := T1I.below bU
      have GU := GI.below bU
      have ODU := ODI.below bU
      have T0U := bU.size
      clear T1I GI ODI bU BI x0 x1 RI
      obtain ⟨⟨x0, x1⟩, -, -⟩ := id GU
      cases hat2 : ndAt l2 s with
      | none =>
        have HT : Hid (twin l2 s l1[k].2 = none) := by show _ = _; unfold twin; rw [hat2]
        rw [HT.out] at HRc
        simp only [atN]
        go_upto_region 6 with fail
        go_quiet (fail)
        have BX : Below w.heap.size w (wU.drewN nq) := ⟨BU.os, BU.tape, BU.output, BU.size, BU.block⟩
        have bX : Below wU.heap.size wU (wU.drewN nq) := ⟨rfl, rfl, rfl, Nat.le_refl _, fun _ _ => rfl⟩
        have T1X := T1U.below bX
        have GX := GU.below bX
        have ODX := ODU.below bX
        clear T0U T1U GU ODU bX BU x0 x1
        generalize wU.drewN nq = wX at *
        have BY := BX
        have T1Y := T1X
        have GY := GX
        have ODY := ODX
        clear BX T1X GX ODX
        obtain ⟨ga, g, cg, bb, ra', hpa, v0, v1, v2, hg0, hgk, OT, eT, gT⟩ := ODY.turnAt EA.out k hkl N hNq
        obtain ⟨⟨x0, x1⟩, -, -⟩ := id GY
        cases hpa
        have hgl := (hblk g (.inl hgk)).2
        have cU1 := implTurn g cg l1[k].2.length N bb wX hpl hNq (by omega) v1 v2
        go_wp2_with fail
        go_at_call 50
        refine cU1.mono ?_
        rintro e wZ ⟨rfl, nZ, rfl⟩
        have BZ0 : Below w.heap.size w (wX.setCell ⟨g, N / 8, none⟩ (.int .u8 ((tbN bb N).toNat : Int))) := BY.setCell (by show w.heap.size ≤ g; omega) _
        have BZ : Below w.heap.size w ((wX.setCell ⟨g, N / 8, none⟩ (.int .u8 ((tbN bb N).toNat : Int))).drewN nZ) := ⟨BZ0.os, BZ0.tape, BZ0.output, BZ0.size, BZ0.block⟩
        have T1Z : Slot2d ((wX.setCell ⟨g, N / 8, none⟩ (.int .u8 ((tbN bb N).toNat : Int))).drewN nZ) _ _ _ := T1Y.other (b' := g) (o := N / 8) (x := .int .u8 ((tbN bb N).toNat : Int)) (by omega)
        have GZ : Slot2d ((wX.setCell ⟨g, N / 8, none⟩ (.int .u8 ((tbN bb N).toNat : Int))).drewN nZ) _ _ _ := GY.other (b' := g) (o := N / 8) (x := .int .u8 ((tbN bb N).toNat : Int)) (by omega)
        have ODZ : OwnD ((wX.setCell ⟨g, N / 8, none⟩ (.int .u8 ((tbN bb N).toNat : Int))).drewN nZ) _ _ _ _ _ := OT
        clear T1Y GY BY BZ0 x0 x1 v0 v1 v2 gT OT ODY cU1
        generalize (wX.setCell ⟨g, N / 8, none⟩ (.int .u8 ((tbN bb N).toNat : Int))).drewN nZ = wZ at *
        obtain ⟨⟨t2, t3⟩, t4, t5⟩ := T1Z
        obtain ⟨⟨x2, x3⟩, -, -⟩ := id GZ
        have FA := DkAns.set (w := w) (wE := wA) (ok := true) (b := w.heap.size + 1) (a1 := some ⟨b, 0, none⟩) (a2 := p2) (c1 := e1) (c2 := e2) (l1 := turnL l1 k N) (l2 := l2) BZ (by rw [turnL_len]; exact ODZ) eT EB.out (by omega) (by omega) (by omega)
        rw [turnL_len] at FA
        have HRd : R = (true, turnL l1 k N, l2) := HRc.out
        subst HRd
        obtain ⟨n0, n1⟩ := boxSet (v1 := .slice (some ⟨b, 0, none⟩) l1.length e1) (v2 := .slice (p2) l2.length e2) t2 t3
        go_wp2
        exact bodyPost_ret (v := .tuple #[.agg #[.slice (some ⟨b, 0, none⟩) l1.length e1, .slice (p2) l2.length e2], .bool true]) (by simp [results, Try.results22, go_sem, n0, n1]) rfl FA
      | some m =>
        obtain ⟨hml, -⟩ := List.findIdx?_eq_some_iff_getElem.1 hat2
        have HQ : Hid (bytesAt l2 m = l2[m].2) := by show _ = _; unfold bytesAt; rw [dif_pos hml]
        have RU := ODU.rd
        rw [EA.out, EB.out] at RU
        obtain ⟨b2, o2, ai2, ci2, hpb2, u1, u2, hz2, hcap2, hnil2⟩ := RU.2 m hml
        obtain ⟨b', off', ai', ci', hbb, q1, q2, hz, hcap', hnil'⟩ := RU.1 k hkl
        cases hbb
        subst hpb2
        have hpl2 := (z2.2 l2[m] (List.getElem_mem hml)).2
        have cE := fun (j : Nat) => implEqual ai2 ai' ci2 ci' l2[m].2 l1[k].2 (wU.drewN j) hnil2 hnil' hz2 hz
        clear RU
        by_cases hsame : l2[m].2 = l1[k].2
        · have HT : Hid (twin l2 s l1[k].2 = some m) := by show _ = _; unfold twin; rw [hat2]; dsimp only; rw [HQ.out, if_pos hsame]
          rw [HT.out] at HRc
          rw [decide_eq_true hsame] at cE
          simp only [hsame] at cE
          rw [hsame] at u2
          clear hz hz2 hcap2 hcap' u1 q1
          simp only [atN]
          go_upto_region 6 with fail
          go_quiet ((go_at_call 49; exact Calls.quiet_of (cE _)))
          have BX : Below w.heap.size w (wU.drewN nq) := ⟨BU.os, BU.tape, BU.output, BU.size, BU.block⟩
          have bX : Below wU.heap.size wU (wU.drewN nq) := ⟨rfl, rfl, rfl, Nat.le_refl _, fun _ _ => rfl⟩
          have T1X := T1U.below bX
          have GX := GU.below bX
          have ODX := ODU.below bX
          clear T0U T1U GU ODU bX BU x0 x1
          generalize wU.drewN nq = wX at *
          obtain ⟨ga2, g2, cg2, bb2, rb', hpa2, v0, v1, v2, hg02, hgk2, OT2, eT2, gT2⟩ := ODX.swap.turnAt EB.out m hml N (by rw [hsame]; exact hNq)
          obtain ⟨⟨x0, x1⟩, -, -⟩ := id GX
          cases hpa2
          have hgl2 := (hblk g2 (.inr hgk2)).2
          have OT := OT2.swap
          rw [hsame] at v0
          have cU2 := implTurn g2 cg2 l1[k].2.length N bb2 wX hpl hNq (by omega) v1 v2
          go_wp2_with fail
          go_at_call 50
          refine cU2.mono ?_
          rintro e wY ⟨rfl, nY, rfl⟩
          have BY0 : Below w.heap.size w (wX.setCell ⟨g2, N / 8, none⟩ (.int .u8 ((tbN bb2 N).toNat : Int))) := BX.setCell (by show w.heap.size ≤ g2; omega) _
          have BY : Below w.heap.size w ((wX.setCell ⟨g2, N / 8, none⟩ (.int .u8 ((tbN bb2 N).toNat : Int))).drewN nY) := ⟨BY0.os, BY0.tape, BY0.output, BY0.size, BY0.block⟩
          have T1Y : Slot2d ((wX.setCell ⟨g2, N / 8, none⟩ (.int .u8 ((tbN bb2 N).toNat : Int))).drewN nY) _ _ _ := T1X.other (b' := g2) (o := N / 8) (x := .int .u8 ((tbN bb2 N).toNat : Int)) (by omega)
          have GY : Slot2d ((wX.setCell ⟨g2, N / 8, none⟩ (.int .u8 ((tbN bb2 N).toNat : Int))).drewN nY) _ _ _ := GX.other (b' := g2) (o := N / 8) (x := .int .u8 ((tbN bb2 N).toNat : Int)) (by omega)
          have ODY : OwnD ((wX.setCell ⟨g2, N / 8, none⟩ (.int .u8 ((tbN bb2 N).toNat : Int))).drewN nY) _ _ _ _ _ := OT
          clear T1X GX BX BY0 x0 x1 v0 v1 v2 gT2 OT OT2 ODX cU2
          generalize (wX.setCell ⟨g2, N / 8, none⟩ (.int .u8 ((tbN bb2 N).toNat : Int))).drewN nY = wY at *
          obtain ⟨ga, g, cg, bb, ra', hpa, v0, v1, v2, hg0, hgk, OT, eT, gT⟩ := ODY.turnAt EA.out k hkl N hNq
          obtain ⟨⟨x0, x1⟩, -, -⟩ := id GY
          cases hpa
          have hgl := (hblk g (.inl hgk)).2
          have cU1 := implTurn g cg l1[k].2.length N bb wY hpl hNq (by omega) v1 v2
          go_wp2_with fail
          go_at_call 50
          refine cU1.mono ?_
          rintro e wZ ⟨rfl, nZ, rfl⟩
          have BZ0 : Below w.heap.size w (wY.setCell ⟨g, N / 8, none⟩ (.int .u8 ((tbN bb N).toNat : Int))) := BY.setCell (by show w.heap.size ≤ g; omega) _
          have BZ : Below w.heap.size w ((wY.setCell ⟨g, N / 8, none⟩ (.int .u8 ((tbN bb N).toNat : Int))).drewN nZ) := ⟨BZ0.os, BZ0.tape, BZ0.output, BZ0.size, BZ0.block⟩
          have T1Z : Slot2d ((wY.setCell ⟨g, N / 8, none⟩ (.int .u8 ((tbN bb N).toNat : Int))).drewN nZ) _ _ _ := T1Y.other (b' := g) (o := N / 8) (x := .int .u8 ((tbN bb N).toNat : Int)) (by omega)
          have GZ : Slot2d ((wY.setCell ⟨g, N / 8, none⟩ (.int .u8 ((tbN bb N).toNat : Int))).drewN nZ) _ _ _ := GY.other (b' := g) (o := N / 8) (x := .int .u8 ((tbN bb N).toNat : Int)) (by omega)
          have ODZ : OwnD ((wY.setCell ⟨g, N / 8, none⟩ (.int .u8 ((tbN bb N).toNat : Int))).drewN nZ) _ _ _ _ _ := OT
          clear T1Y GY BY BZ0 x0 x1 v0 v1 v2 gT OT ODY cU1
          generalize (wY.setCell ⟨g, N / 8, none⟩ (.int .u8 ((tbN bb N).toNat : Int))).drewN nZ = wZ at *
          obtain ⟨⟨t2, t3⟩, t4, t5⟩ := T1Z
          obtain ⟨⟨x2, x3⟩, -, -⟩ := id GZ
          have FA := DkAns.set (w := w) (wE := wA) (ok := true) (b := w.heap.size + 1) (a1 := some ⟨b, 0, none⟩) (a2 := some ⟨b2, 0, none⟩) (c1 := e1) (c2 := e2) (l1 := turnL l1 k N) (l2 := turnL l2 m N) BZ (by rw [turnL_len, turnL_len]; exact ODZ) eT eT2 (by omega) (by omega) (by omega)
          rw [turnL_len, turnL_len] at FA
          have HRd : R = (true, turnL l1 k N, turnL l2 m N) := HRc.out
          subst HRd
          obtain ⟨n0, n1⟩ := boxSet (v1 := .slice (some ⟨b, 0, none⟩) l1.length e1) (v2 := .slice (some ⟨b2, 0, none⟩) l2.length e2) t2 t3
          go_wp2
          exact bodyPost_ret (v := .tuple #[.agg #[.slice (some ⟨b, 0, none⟩) l1.length e1, .slice (some ⟨b2, 0, none⟩) l2.length e2], .bool true]) (by simp [results, Try.results22, go_sem, n0, n1]) rfl FA
        · have HT : Hid (twin l2 s l1[k].2 = none) := by show _ = _; unfold twin; rw [hat2]; dsimp only; rw [HQ.out, if_neg hsame]
          rw [HT.out] at HRc
          rw [decide_eq_false hsame] at cE
          clear hz hz2 hcap2 hcap' u1 q1
          simp only [atN]
          go_upto_region 6 with fail
          go_quiet ((go_at_call 49; exact Calls.quiet_of (cE _)))
          have BX : Below w.heap.size w (wU.drewN nq) := ⟨BU.os, BU.tape, BU.output, BU.size, BU.block⟩
          have bX : Below wU.heap.size wU (wU.drewN nq) := ⟨rfl, rfl, rfl, Nat.le_refl _, fun _ _ => rfl⟩
          have T1X := T1U.below bX
          have GX := GU.below bX
          have ODX := ODU.below bX
          clear T0U T1U GU ODU bX BU x0 x1
          generalize wU.drewN nq = wX at *
          have BY := BX
          have T1Y := T1X
          have GY := GX
          have ODY := ODX
          clear BX T1X GX ODX
          obtain ⟨ga, g, cg, bb, ra', hpa, v0, v1, v2, hg0, hgk, OT, eT, gT⟩ := ODY.turnAt EA.out k hkl N hNq
          obtain ⟨⟨x0, x1⟩, -, -⟩ := id GY
          cases hpa
          have hgl := (hblk g (.inl hgk)).2
          have cU1 := implTurn g cg l1[k].2.length N bb wX hpl hNq (by omega) v1 v2
          go_wp2_with fail
          go_at_call 50
          refine cU1.mono ?_
          rintro e wZ ⟨rfl, nZ, rfl⟩
          have BZ0 : Below w.heap.size w (wX.setCell ⟨g, N / 8, none⟩ (.int .u8 ((tbN bb N).toNat : Int))) := BY.setCell (by show w.heap.size ≤ g; omega) _
          have BZ : Below w.heap.size w ((wX.setCell ⟨g, N / 8, none⟩ (.int .u8 ((tbN bb N).toNat : Int))).drewN nZ) := ⟨BZ0.os, BZ0.tape, BZ0.output, BZ0.size, BZ0.block⟩
          have T1Z : Slot2d ((wX.setCell ⟨g, N / 8, none⟩ (.int .u8 ((tbN bb N).toNat : Int))).drewN nZ) _ _ _ := T1Y.other (b' := g) (o := N / 8) (x := .int .u8 ((tbN bb N).toNat : Int)) (by omega)
          have GZ : Slot2d ((wX.setCell ⟨g, N / 8, none⟩ (.int .u8 ((tbN bb N).toNat : Int))).drewN nZ) _ _ _ := GY.other (b' := g) (o := N / 8) (x := .int .u8 ((tbN bb N).toNat : Int)) (by omega)
          have ODZ : OwnD ((wX.setCell ⟨g, N / 8, none⟩ (.int .u8 ((tbN bb N).toNat : Int))).drewN nZ) _ _ _ _ _ := OT
          clear T1Y GY BY BZ0 x0 x1 v0 v1 v2 gT OT ODY cU1
          generalize (wX.setCell ⟨g, N / 8, none⟩ (.int .u8 ((tbN bb N).toNat : Int))).drewN nZ = wZ at *
          obtain ⟨⟨t2, t3⟩, t4, t5⟩ := T1Z
          obtain ⟨⟨x2, x3⟩, -, -⟩ := id GZ
          have FA := DkAns.set (w := w) (wE := wA) (ok := true) (b := w.heap.size + 1) (a1 := some ⟨b, 0, none⟩) (a2 := some ⟨b2, o2, none⟩) (c1 := e1) (c2 := e2) (l1 := turnL l1 k N) (l2 := l2) BZ (by rw [turnL_len]; exact ODZ) eT EB.out (by omega) (by omega) (by omega)
          rw [turnL_len] at FA
          have HRd : R = (true, turnL l1 k N, l2) := HRc.out
          subst HRd
          obtain ⟨n0, n1⟩ := boxSet (v1 := .slice (some ⟨b, 0, none⟩) l1.length e1) (v2 := .slice (some ⟨b2, o2, none⟩) l2.length e2) t2 t3
          go_wp2
          exact bodyPost_ret (v := .tuple #[.agg #[.slice (some ⟨b, 0, none⟩) l1.length e1, .slice (some ⟨b2, o2, none⟩) l2.length e2], .bool true]) (by simp [results, Try.results22, go_sem, n0, n1]) rfl FA
end Go.Proofs.Ytmappmboedpgmaq.Wk
