/- What WriteName, RemoveName and SyncName of the specification come to. -/
import Derived.Test.YtmappmboedpgmapNeS
import Derived.Test.YtmappmboedpgmapNpS
import Derived.Test.YtmappmboedpgmapNwB
import Derived.Deep.CutBlock
import Derived.Deep.DeepCutAuto
namespace Go.Proofs.Ytmappmboedpgmap.Wk
set_option linter.unusedVariables false
open Go.ChangeShapes Go.WideShapes Go.ChangeAt Go.RowKit

/-- whether l1 may take the place of what stood beside l2 -/
noncomputable def endsOk (l1 l2 : List Nd) (s : ByteArray) (o1 o2 : List Nd) : Bool := (listOk l1 && listOk l2) && Nm.name s.data.toList && (listOk o1 && listOk o2)
theorem put_bounds {l : List Nd} {x : Nd} (h : listOk l = true) (hz : NdZ l) (h1 : x.1.size ≤ 1048576) (h2 : x.2.length ≤ 1048576) : NdZ (putR l x) := by
  have h60 := ((listOk_iff l).1 h).2.2
  refine ⟨Nat.le_trans (putR_len l x) (by omega), fun y hy => ?_⟩
  rcases mem_put_any hy with rfl | hy
  · exact ⟨h1, h2⟩
  · exact hz.2 y hy
theorem cut_bounds {l : List Nd} {s : ByteArray} (hz : NdZ l) : NdZ (cutR l s) :=
  ⟨Nat.le_trans (List.length_filter_le _ _) hz.1, fun y hy => hz.2 y (mem_cut.1 hy).2⟩
theorem bysPut {w : World} {rs : List Rw} {x : Rw} (h : BysR w rs) (hx : RdV w x.2.1 x.2.2) : BysR w (putR rs x) := by
  intro r hr
  rcases mem_put_any hr with rfl | hr
  · exact hx
  · exact h r hr
theorem RdV.far {w : World} {base b o : Nat} {u v : Value} {p : List UInt8} (h : OwnB w base u p) (hlt : b < base) : RdV (w.setCell ⟨b, o, none⟩ v) u p := rdV_own (ownFarB h hlt)
theorem rise_rows {rs : List Rw} {l : List Nd} (e : nds rs = l) (h : listOk l = true) : rise rs := rise_nds.1 (by rw [e]; exact ((listOk_iff l).1 h).1)

/-- the end of a call that answers a disk and whether: the answer's box is written -/
theorem DkAns.set {w wE w6 : World} {ok : Bool} {b : Nat} {a1 a2 : Option Addr} {c1 c2 : Nat} {l1 l2 : List Nd} {r1 r2 : List Rw} (hB : Below w.heap.size w w6) (OD : OwnD w6 wE.heap.size (.slice a1 l1.length c1) (.slice a2 l2.length c2) r1 r2) (e1 : nds r1 = l1) (e2 : nds r2 = l2)
    (hb : w.heap.size ≤ b) (hlt : b < wE.heap.size) (hle : w.heap.size ≤ wE.heap.size) : DkAns w ok l1 l2 (.returned (.tuple #[.agg #[.slice a1 l1.length c1, .slice a2 l2.length c2], .bool ok])) ((w6.setCell ⟨b, 0, none⟩ (.slice a1 l1.length c1)).setCell ⟨b, 1, none⟩ (.slice a2 l2.length c2)) :=
  ⟨a1, a2, c1, c2, r1, r2, rfl, ((OD.far hlt).far hlt).base hle, e1, e2, setBelow hB hb _ _⟩

set_option maxHeartbeats 4000000 in
set_option maxRecDepth 100000 in
theorem specWrite (a1 a2 ab : Option Addr) (c1 c2 cb : Nat) (l1 l2 : List Nd) (s : ByteArray) (bs : List UInt8) (w : World) (z1 : NdZ l1) (z2 : NdZ l2) (hs : s.size ≤ 1048576) (hbl : bs.length ≤ 1048576)
    (r1 : RdNd w a1 l1) (r2 : RdNd w a2 l2) (hrb : RdA w ab bs) (hnil : ab = none → cb = 0) :
    Calls Try.prog 32 #[.agg #[.slice a1 l1.length c1, .slice a2 l2.length c2], .string s, .slice ab bs.length cb] w (DkAns w (endsOk l1 l2 s (putR l1 (s, bs)) l2) (if endsOk l1 l2 s (putR l1 (s, bs)) l2 then putR l1 (s, bs) else l1) l2) := by
  obtain ⟨L, HL⟩ : ∃ L, Hid ((if endsOk l1 l2 s (putR l1 (s, bs)) l2 then putR l1 (s, bs) else l1) = L) := ⟨_, rfl⟩
  rw [HL.out]
  obtain ⟨V, HV⟩ : ∃ V, Hid (endsOk l1 l2 s (putR l1 (s, bs)) l2 = V) := ⟨_, rfl⟩
  rw [HV.out]
  have b0 := bel2 w (.cells #[.slice a1 l1.length c1, .slice a2 l2.length c2] 50) (.cells #[.slice none 0 0, .slice none 0 0] 50)
  have s0 := (slot2dNew w (.slice a1 l1.length c1) (.slice a2 l2.length c2) 50).below (bel1 _ (.cells #[.slice none 0 0, .slice none 0 0] 50))
  have s1 := slot2dNew (w.alloc (.cells #[.slice a1 l1.length c1, .slice a2 l2.length c2] 50)) (.slice none 0 0) (.slice none 0 0) 50
  have hsz : ((w.alloc (.cells #[.slice a1 l1.length c1, .slice a2 l2.length c2] 50)).alloc (.cells #[.slice none 0 0, .slice none 0 0] 50)).heap.size = w.heap.size + 2 := by simp
  rw [World.size_alloc] at s1
  go_enter Try.func32, Try.ntmps32
  go_wp2_with fail
  generalize (w.alloc (.cells #[.slice a1 l1.length c1, .slice a2 l2.length c2] 50)).alloc (.cells #[.slice none 0 0, .slice none 0 0] 50) = wA at *
  go_at_call 58
  refine (specCopyDk a1 a2 c1 c2 l1 l2 wA z1.1 z2.1 (fun x hx => (z1.2 x hx).2) (fun x hx => (z2.2 x hx).2) (r1.below b0) (r2.below b0)).mono ?_
  rintro e w3 ⟨p1, p2, e1, e2, rfl, OK3, hb3⟩
  obtain ⟨ra, rb, ea, eb, OD⟩ := OK3.rows
  have hla : l1.length = ra.length := by rw [← ea, nds_len]
  have hlb : l2.length = rb.length := by rw [← eb, nds_len]
  have B3 := behind b0 hb3
  have t0 := s0.below hb3
  have t1 := s1.below hb3
  have m3 := hb3.size
  -- the box of what is laid
  have bG := bel1 w3 (.cells #[.slice p1 l1.length e1, .slice p2 l2.length e2] 50)
  have g0 := slot2dNew w3 (.slice p1 l1.length e1) (.slice p2 l2.length e2) 50
  have B3' := behind B3 bG
  have hRa : RdR (w3.alloc (.cells #[.slice p1 l1.length e1, .slice p2 l2.length e2] 50)) p1 ra := RdR.below (by have := OD.1; rw [hla] at this; exact RdR.own this) bG
  have hYa : BysR (w3.alloc (.cells #[.slice p1 l1.length e1, .slice p2 l2.length e2] 50)) ra := OD.2.2.1.rd.below bG
  have cP := specPut p1 ab e1 cb ra s bs _ (by have := z1.1; omega) (by omega) hRa hYa (hrb.below B3') hnil
  rw [← hla] at cP
  have HLA : Hid (l1.length = ra.length) := hla
  have HLB : Hid (l2.length = rb.length) := hlb
  have EA : Hid (nds ra = l1) := ea
  have EB : Hid (nds rb = l2) := eb
  clear hla hlb ea eb
  obtain ⟨⟨x0, x1⟩, -, -⟩ := id g0
  go_wp2_with fail
  have hsG : (w3.alloc (.cells #[.slice p1 l1.length e1, .slice p2 l2.length e2] 50)).heap.size = w3.heap.size + 1 := World.size_alloc _ _
  generalize w3.alloc (.cells #[.slice p1 l1.length e1, .slice p2 l2.length e2] 50) = wG at *
  go_at_call 59
  refine cP.mono ?_
  rintro e w4 ⟨v', u, rfl, ⟨a', c', rfl⟩, hv, hu, hap, hb4⟩
  have HP : Hid (nds (putR ra (s, u, bs)) = putR l1 (s, bs)) := by show nds _ = _; rw [nds_put, EA.out]
  have hPl : (putR ra (s, u, bs)).length = (putR l1 (s, bs)).length := by rw [← HP.out, nds_len]
  rw [hPl] at hv hap ⊢
  clear hPl
  have zO := fun h => put_bounds (x := (s, bs)) (l := l1) h z1 hs hbl
  have HPe : Hid (∀ W, BysR W ra → RdV W u bs → BysR W (putR ra (s, u, bs))) := fun W h1 h2 => bysPut h1 h2
  have HOD : Hid (rise ra → ∀ W, Below w3.heap.size w3 W → W.ownsRow wG.heap.size 80 2 (.slice a' (putR l1 (s, bs)).length c') (putR l1 (s, bs)).length (csR (putR ra (s, u, bs))) → OwnB W wG.heap.size u bs →
      OwnD W wA.heap.size (.slice a' (putR l1 (s, bs)).length c') (.slice p2 l2.length e2) (putR ra (s, u, bs)) rb) := fun hr W h1 h2 h3 =>
    OD.put (x := (s, u, bs)) hr h1 (by rw [show (putR ra (s, u, bs)).length = (putR l1 (s, bs)).length from by rw [← HP.out, nds_len]]; exact ownBase h2 (by omega)) (ownBase h3 (by omega)) hap m3
  generalize putR l1 (s, bs) = O at *
  generalize putR ra (s, u, bs) = rp at *
  -- the store into the box
  have hv' := ownFarB (b := w3.heap.size) (o := 0) (u := .slice a' O.length c') hv (by omega)
  have hu' := ownFarB (b := w3.heap.size) (o := 0) (u := .slice a' O.length c') hu (by omega)
  have T0 := (((t0.below bG).below hb4).other (b' := w3.heap.size) (o := 0) (x := .slice a' O.length c') (by have := t0.lt; omega))
  have T1 := (((t1.below bG).below hb4).other (b' := w3.heap.size) (o := 0) (x := .slice a' O.length c') (by have := t1.lt; omega))
  have G1 := (g0.below hb4).put0 (x := .slice a' O.length c')
  have hBw : Below w3.heap.size w3 (w4.setCell ⟨w3.heap.size, 0, none⟩ (.slice a' O.length c')) := (behind bG hb4).setCell (Nat.le_refl _) _
  obtain ⟨⟨x0', x1'⟩, f0, f1⟩ := g0.below hb4
  clear x0 x1 cP hv hu hb4 bG g0 hRa hYa OK3 s0 s1 hb3 b0
  go_upto_region 3 with fail
  generalize w4.setCell ⟨w3.heap.size, 0, none⟩ (.slice a' O.length c') = wH at *
  have ODH := OD.below hBw
  have BH := behind B3 hBw
  have q1 : RdNd wH a' O := by
    rw [← HP.out]
    exact rdNd_of (RdR.own hv') (HPe.out wH ODH.2.2.1.rd (rdV_own hu'))
  have q2 : RdNd wH p2 l2 := by
    have := ODH.rd.2
    rw [EB.out] at this
    exact this
  have cE := specEnds a1 a2 a' p2 c1 c2 c' e2 l1 l2 O l2 s wH z1.1 z2.1 z1.2 z2.2 hs (fun h => ⟨⟨(zO (by simp at h; exact h.1)).1, z2.1⟩, (zO (by simp at h; exact h.1)).2, z2.2⟩) (r1.below BH) (r2.below BH) q1 q2
  rw [show ((listOk l1 && listOk l2) && Nm.name s.data.toList && (listOk O && listOk l2)) = V from HV.out] at cE
  have mH := BH.size
  have mW := hBw.size
  have HR : Hid (V = true → rise ra) := by
    intro h
    have := HV.out.trans h
    unfold endsOk at this
    simp only [Bool.and_eq_true] at this
    exact rise_rows EA.out this.1.1.1
  have HLc := HL.out
  rw [HV.out] at HLc
  obtain ⟨⟨y0, y1⟩, -, -⟩ := id T0
  obtain ⟨⟨y2, y3⟩, -, -⟩ := id G1
  clear q1 q2 x0' x1' f0 f1 zO HPe HL r1 r2
  cases V with
  | false =>
    simp only [Bool.false_eq_true, if_false] at cE HLc
    subst HLc
    clear HV HOD HR
    go_wp2_with fail
    go_at_call 60
    refine cE.mono ?_
    rintro e w6 ⟨k1, k2, m1, m2, ra', rb', rfl, OD', ea', eb', hb6⟩
    obtain ⟨⟨t2, t3⟩, t4, t5⟩ := T1.below hb6
    have FA := DkAns.set (w := w) (wE := wH) (ok := false) (b := w.heap.size + 1) (behind BH hb6) OD' ea' eb' (by omega) (by have := T1.lt; omega) mH
    obtain ⟨n0, n1⟩ := boxSet (v1 := .slice k1 l1.length m1) (v2 := .slice k2 l2.length m2) t2 t3
    clear OD' ea' eb' cE
    go_wp2
    exact bodyPost_ret (v := .tuple #[.agg #[.slice k1 l1.length m1, .slice k2 l2.length m2], .bool false]) (by simp [results, Try.results32, go_sem, n0, n1]) rfl FA
  | true =>
    simp only [if_true] at cE HLc
    subst HLc
    have OD2 := HOD.out (HR.out rfl) wH hBw hv' hu'
    clear HV HOD HR hv' hu'
    go_wp2_with fail
    go_at_call 60
    refine cE.mono ?_
    rintro e w6 ⟨rfl, hb6⟩
    obtain ⟨⟨t2, t3⟩, t4, t5⟩ := T1.below hb6
    have FA := DkAns.set (w := w) (wE := wA) (ok := true) (b := w.heap.size + 1) (behind BH hb6) (OD2.below hb6) HP.out EB.out (by omega) (by omega) (by omega)
    obtain ⟨n0, n1⟩ := boxSet (v1 := .slice a' O.length c') (v2 := .slice p2 l2.length e2) t2 t3
    clear OD2 cE
    go_wp2
    exact bodyPost_ret (v := .tuple #[.agg #[.slice a' O.length c', .slice p2 l2.length e2], .bool true]) (by simp [results, Try.results32, go_sem, n0, n1]) rfl FA
end Go.Proofs.Ytmappmboedpgmap.Wk
