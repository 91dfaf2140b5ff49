/- What FallDisk of the specification comes to. -/
import Derived.Test.YtmappmboedpgmaqFaM
import Derived.Test.YtmappmboedpgmaqFaS
import Derived.Test.YtmappmboedpgmaqApR
import Derived.Test.YtmappmboedpgmaqDnS
namespace Go.Proofs.Ytmappmboedpgmaq.Wk
set_option linter.unusedVariables false
open Go.ChangeShapes Go.WideShapes Go.ChangeAt Go.RowKit

set_option maxHeartbeats 4000000 in
set_option maxRecDepth 100000 in
theorem specFall (a1 a2 ak : Option Addr) (c1 c2 ck : Nat) (l1 l2 : List Nd) (keep : List Bool) (w : World) (z1 : NdZ l1) (z2 : NdZ l2) (hkp : keep.length ≤ 1048576) (r1 : RdNd w a1 l1) (r2 : RdNd w a2 l2) (rk : RdK w ak keep) :
    Calls Try.prog 16 #[.agg #[.slice a1 l1.length c1, .slice a2 l2.length c2], .slice ak keep.length ck] w (DkAns1 w (fallS l1 l2 keep).1 (fallS l1 l2 keep).2) := by
  obtain ⟨R, HR⟩ : ∃ R, Hid (fallS l1 l2 keep = R) := ⟨_, rfl⟩
  rw [HR.out]
  have b0 := bel2 w (.cells #[.slice a1 l1.length c1, .slice a2 l2.length c2] 28) (.cells #[.slice none 0 0, .slice none 0 0] 28)
  have s0 := (slot2dNew w (.slice a1 l1.length c1) (.slice a2 l2.length c2) 28).below (bel1 _ (.cells #[.slice none 0 0, .slice none 0 0] 28))
  have s1 := slot2dNew (w.alloc (.cells #[.slice a1 l1.length c1, .slice a2 l2.length c2] 28)) (.slice none 0 0) (.slice none 0 0) 28
  have hsz : ((w.alloc (.cells #[.slice a1 l1.length c1, .slice a2 l2.length c2] 28)).alloc (.cells #[.slice none 0 0, .slice none 0 0] 28)).heap.size = w.heap.size + 2 := by simp
  rw [World.size_alloc] at s1
  obtain ⟨V, HV⟩ : ∃ V, Hid ((listOk l1 && listOk l2) = V) := ⟨_, rfl⟩
  go_enter Try.func16, Try.ntmps16
  go_wp2_with fail
  generalize (w.alloc (.cells #[.slice a1 l1.length c1, .slice a2 l2.length c2] 28)).alloc (.cells #[.slice none 0 0, .slice none 0 0] 28) = wA at *
  have cD := specDiskOk a1 a2 c1 c2 l1 l2 wA z1.1 z2.1 z1.2 z2.2 (r1.below b0) (r2.below b0)
  rw [HV.out] at cD
  go_at_call 42
  refine cD.mono ?_
  rintro e wD ⟨rfl, hbD⟩
  have BD := behind b0 hbD
  have T0 := s0.below hbD
  have T1 := s1.below hbD
  have mD := hbD.size
  clear cD s0 s1 b0 hbD
  obtain ⟨⟨y0, y1⟩, -, -⟩ := id T0
  cases V with
  | false =>
    have HRc : R = (l1, l2) := by
      rw [← HR.out]
      unfold fallS
      rw [HV.out]
      rfl
    clear HR
    subst HRc
    go_wp2_with fail
    go_at_call 24
    refine (specCopyDk a1 a2 c1 c2 l1 l2 wD z1.1 z2.1 (fun x hx => (z1.2 x hx).2) (fun x hx => (z2.2 x hx).2) (r1.below BD) (r2.below BD)).mono ?_
    rintro e w3 ⟨p1, p2, e1, e2, rfl, OK3, hb3⟩
    obtain ⟨ra, rb, ea, eb, OD3⟩ := OK3.rows
    obtain ⟨⟨t2, t3⟩, t4, t5⟩ := T1.below hb3
    have FA := DkAns1.set (w := w) (wE := wD) (b := w.heap.size + 1) (behind BD hb3) OD3 ea eb (by omega) (by omega) (by omega)
    obtain ⟨n0, n1⟩ := boxSet (v1 := .slice p1 l1.length e1) (v2 := .slice p2 l2.length e2) t2 t3
    clear OD3 OK3 ea eb y0 y1
    go_wp2
    exact bodyPost_ret (v := .agg #[.slice p1 l1.length e1, .slice p2 l2.length e2]) (by simp [results, Try.results16, go_sem, n0, n1]) rfl FA
  | true =>
    have hA : (listOk l1 && listOk l2) = true := HV.out
    have hA1 : listOk l1 = true := by simp at hA; exact hA.1
    have hA2 : listOk l2 = true := by simp at hA; exact hA.2
    have h60a := ((listOk_iff l1).1 hA1).2.2
    have h60b := ((listOk_iff l2).1 hA2).2.2
    clear hA hA1 hA2
    have hnl := nmsL_len l1 l2
    obtain ⟨ns, HNS⟩ : ∃ ns, Hid (nmsL l1 l2 = ns) := ⟨_, rfl⟩
    have cN := specNames a1 a2 c1 c2 l1 l2 wD (by omega) (by omega) (r1.below BD) (r2.below BD)
    rw [HNS.out] at cN hnl
    go_wp2_with fail
    go_at_call 43
    refine cN.mono ?_
    rintro e wM ⟨an, cn, rfl, hn, hbM⟩
    have BM := behind BD hbM
    have T0 := T0.below hbM
    have T1 := T1.below hbM
    have mM := hbM.size
    have r1M := r1.below BM
    have r2M := r2.below BM
    have rkM := rk.below BM
    obtain ⟨ra, ea, qa, ya0⟩ := rdR_ex r1M
    obtain ⟨rb, eb, qb, yb0⟩ := rdR_ex r2M
    have EA : Hid (nds ra = l1) := ea
    have EB : Hid (nds rb = l2) := eb
    have hnr : ∀ k (h : k < ns.length), ∃ g, an = some ⟨g, 0, none⟩ ∧ wM.cell? ⟨g, k, none⟩ = some (.string ns[k].1) := fun k h => by
      obtain ⟨g, cg, eg, -, -⟩ := World.ownsRow.form hn (by omega)
      cases eg
      refine ⟨g, rfl, ?_⟩
      rw [World.ownsRow.cellAt hn k (by omega)]
      simp [StrsN, h]
    have q0 := World.ownsRow_made (e := 57) (size := 2) wM #[] 0 (Nat.le_refl _) (Nat.zero_le _) rfl
    have bM0 := bel1 wM (.cells #[] 57)
    clear cN y0 y1 ea eb r1 r2 rk hn hbM BD
    go_wp2
    go_loopw [6, 7, 8, 9] (fun v i fr kk wr => ∃ (k : Nat) (o : List Rw), k ≤ ns.length ∧ i = .int .i64 k ∧ o.length ≤ k ∧ Hid (fallF ra rb keep ns k = o) ∧ wr.ownsRow wM.heap.size 57 2 v o.length (csR o) ∧ BysR wM o ∧ Below wM.heap.size wM wr) (fun _ i _ _ _ => ns.length - (intOf i).toNat)
    case atStart => exact ⟨0, [], Nat.zero_le _, rfl, Nat.zero_le _, fallF_zero _ _ _ _, q0, fun r hr => by simp at hr, bM0⟩
    case round =>
      obtain ⟨k, o, hk, rfl, hol, HO, hq, hyo, hb⟩ := hrel
      obtain ⟨av, cv, rfl⟩ := Nd_shape hq
      by_cases hlt : k < ns.length
      · obtain ⟨gn, rfl, x1⟩ := hnr k hlt
        have HS : Hid (fallF ra rb keep ns (k + 1) = o ++ stepF ra rb (keep.getD k false) ns[k].1) := by show _ = _; rw [fallF_step hlt, HO.out]
        have x1' := cellNd x1 hb
        clear x1 hnr
        generalize ns[k].1 = x at HS x1'
        by_cases hkl : k < keep.length
        · obtain ⟨bk, ok, rfl, ck1⟩ := (rkM.below hb) k hkl
          cases hkv : keep[k] with
          | true =>
            have hkeep : keep.getD k false = true := by simp [hkl, hkv]
            rw [hkv] at ck1
            have cA := specAt a1 c1 l1 x wr z1.1 ((r1M).below hb)
            rw [hkeep] at HS
            obtain ⟨⟨y0, y1⟩, -, -⟩ := T0.below hb
            cases hat : ndAt l1 x with
            | none =>
              have HF : Hid (fallF ra rb keep ns (k + 1) = o) := by show _ = _; rw [HS.out]; simp only [stepF, if_true]; rw [rfind_rows EA.out, hat]; simp
              rw [hat] at cA
              simp only [atN] at cA
              go_wp2_with fail
              go_at_call 25
              refine cA.mono ?_
              rintro e wq ⟨rfl, nq, rfl⟩
              go_wp2
              go_roundw
              case rel => exact ⟨k + 1, o, by omega, by go_num, by omega, HF, hq, hyo, ⟨hb.os, hb.tape, hb.output, hb.size, hb.block⟩⟩
              case measure => simp [intOf]; omega
            | some j =>
              obtain ⟨hjl, -⟩ := List.findIdx?_eq_some_iff_getElem.1 hat
              have hjr : j < ra.length := by rw [← nds_len, EA.out]; exact hjl
              have hj0 : ¬ ((j : Int) < 0) := by omega
              have HF : Hid (fallF ra rb keep ns (k + 1) = o ++ [ra[j]]) := by show _ = _; rw [HS.out]; simp only [stepF, if_true]; rw [rfind_rows EA.out, hat]; simp only [Option.bind_some, List.getElem?_eq_getElem hjr, Option.map_some]; rw [← row_at EA.out hat hjr]
              rw [hat] at cA
              simp only [atN] at cA
              obtain ⟨b9, o9, ea9, d1, d2⟩ := ((qa).below hb) j hjr
              have hyj := ya0 _ (List.getElem_mem hjr)
              have hyn : BysR wM (o ++ [ra[j]]) := fun r hr => by
                rcases List.mem_append.1 hr with hr | hr
                · exact hyo r hr
                · rw [List.mem_singleton.1 hr]; exact hyj
              have hsh := rdV_shape hyj
              subst ea9
              generalize ra[j] = yr at HF hyn d1 d2 hsh
              obtain ⟨yn, yu, yb⟩ := yr
              dsimp only at d1 d2 hsh
              obtain ⟨ya, ym, yc, rfl⟩ := hsh
              clear hyj
              go_wp2_with fail
              go_at_call 25
              refine cA.mono ?_
              rintro e wq ⟨rfl, nq, rfl⟩
              have hbq : Below wM.heap.size wM (wr.drewN nq) := ⟨hb.os, hb.tape, hb.output, hb.size, hb.block⟩
              have hqq : (wr.drewN nq).ownsRow wM.heap.size 57 2 (.slice av o.length cv) o.length (csR o) := hq
              have d1' : (wr.drewN nq).cell? _ = _ := d1
              have d2' : (wr.drewN nq).cell? _ = _ := d2
              clear cA d1 d2 hq hb y0 y1
              generalize wr.drewN nq = wz at *
              have bC := bel1 wz (.cells #[.string yn, .slice ya ym yc] 57)
              have rowC := ownBelow hqq bC
              have hbz := hbq.size
              go_wp2_with (at_builtin; refine wpList_appR _ rfl (.tmp 49) (.tmp 54) rfl wM.heap.size (.slice av o.length cv) o rfl rowC ⟨wz.heap.size, 0, none⟩ 1 (yn, .slice ya ym yc, yb) rfl two_at ⟨_, _, _, rfl⟩ (by omega) (by first | omega | (simp; omega)) (wz.heap.size + 1) (World.size_alloc _ _) ?_; intro g2 cap2 w2 hown2 hgrow2 hat2)
              have hB2 := (behind hbq bC).grown hgrow2 (by simp; omega) (fun j e => (World.ownsRow.lt hqq j e).1)
              go_roundw
              case rel => exact ⟨k + 1, o ++ [(yn, .slice ya ym yc, yb)], by omega, by go_num, by simp; omega, HF, by rw [show (o ++ [(yn, Value.slice ya ym yc, yb)]).length = o.length + 1 from by simp]; rw [show (o ++ [(yn, Value.slice ya ym yc, yb)]).length = o.length + 1 from by simp] at hown2; exact hown2, hyn, hB2⟩
              case measure => simp [intOf]; omega
          | false =>
            have hkeep : keep.getD k false = false := by simp [hkl, hkv]
            rw [hkv] at ck1
            have cA := specAt a2 c2 l2 x wr z2.1 ((r2M).below hb)
            rw [hkeep] at HS
            obtain ⟨⟨y0, y1⟩, -, -⟩ := T0.below hb
            cases hat : ndAt l2 x with
            | none =>
              have HF : Hid (fallF ra rb keep ns (k + 1) = o) := by show _ = _; rw [HS.out]; simp only [stepF, Bool.false_eq_true, if_false]; rw [rfind_rows EB.out, hat]; simp
              rw [hat] at cA
              simp only [atN] at cA
              go_wp2_with fail
              go_at_call 25
              refine cA.mono ?_
              rintro e wq ⟨rfl, nq, rfl⟩
              go_wp2
              go_roundw
              case rel => exact ⟨k + 1, o, by omega, by go_num, by omega, HF, hq, hyo, ⟨hb.os, hb.tape, hb.output, hb.size, hb.block⟩⟩
              case measure => simp [intOf]; omega
            | some j =>
              obtain ⟨hjl, -⟩ := List.findIdx?_eq_some_iff_getElem.1 hat
              have hjr : j < rb.length := by rw [← nds_len, EB.out]; exact hjl
              have hj0 : ¬ ((j : Int) < 0) := by omega
              have HF : Hid (fallF ra rb keep ns (k + 1) = o ++ [rb[j]]) := by show _ = _; rw [HS.out]; simp only [stepF, Bool.false_eq_true, if_false]; rw [rfind_rows EB.out, hat]; simp only [Option.bind_some, List.getElem?_eq_getElem hjr, Option.map_some]; rw [← row_at EB.out hat hjr]
              rw [hat] at cA
              simp only [atN] at cA
              obtain ⟨b9, o9, ea9, d1, d2⟩ := ((qb).below hb) j hjr
              have hyj := yb0 _ (List.getElem_mem hjr)
              have hyn : BysR wM (o ++ [rb[j]]) := fun r hr => by
                rcases List.mem_append.1 hr with hr | hr
                · exact hyo r hr
                · rw [List.mem_singleton.1 hr]; exact hyj
              have hsh := rdV_shape hyj
              subst ea9
              generalize rb[j] = yr at HF hyn d1 d2 hsh
              obtain ⟨yn, yu, yb⟩ := yr
              dsimp only at d1 d2 hsh
              obtain ⟨ya, ym, yc, rfl⟩ := hsh
              clear hyj
              go_wp2_with fail
              go_at_call 25
              refine cA.mono ?_
              rintro e wq ⟨rfl, nq, rfl⟩
              have hbq : Below wM.heap.size wM (wr.drewN nq) := ⟨hb.os, hb.tape, hb.output, hb.size, hb.block⟩
              have hqq : (wr.drewN nq).ownsRow wM.heap.size 57 2 (.slice av o.length cv) o.length (csR o) := hq
              have d1' : (wr.drewN nq).cell? _ = _ := d1
              have d2' : (wr.drewN nq).cell? _ = _ := d2
              clear cA d1 d2 hq hb y0 y1
              generalize wr.drewN nq = wz at *
              have bC := bel1 wz (.cells #[.string yn, .slice ya ym yc] 57)
              have rowC := ownBelow hqq bC
              have hbz := hbq.size
              go_wp2_with (at_builtin; refine wpList_appR _ rfl (.tmp 49) (.tmp 54) rfl wM.heap.size (.slice av o.length cv) o rfl rowC ⟨wz.heap.size, 0, none⟩ 1 (yn, .slice ya ym yc, yb) rfl two_at ⟨_, _, _, rfl⟩ (by omega) (by first | omega | (simp; omega)) (wz.heap.size + 1) (World.size_alloc _ _) ?_; intro g2 cap2 w2 hown2 hgrow2 hat2)
              have hB2 := (behind hbq bC).grown hgrow2 (by simp; omega) (fun j e => (World.ownsRow.lt hqq j e).1)
              go_roundw
              case rel => exact ⟨k + 1, o ++ [(yn, .slice ya ym yc, yb)], by omega, by go_num, by simp; omega, HF, by rw [show (o ++ [(yn, Value.slice ya ym yc, yb)]).length = o.length + 1 from by simp]; rw [show (o ++ [(yn, Value.slice ya ym yc, yb)]).length = o.length + 1 from by simp] at hown2; exact hown2, hyn, hB2⟩
              case measure => simp [intOf]; omega
        · have hkeep : keep.getD k false = false := by simp [hkl]
          have cA := specAt a2 c2 l2 x wr z2.1 ((r2M).below hb)
          rw [hkeep] at HS
          obtain ⟨⟨y0, y1⟩, -, -⟩ := T0.below hb
          cases hat : ndAt l2 x with
          | none =>
            have HF : Hid (fallF ra rb keep ns (k + 1) = o) := by show _ = _; rw [HS.out]; simp only [stepF, Bool.false_eq_true, if_false]; rw [rfind_rows EB.out, hat]; simp
            rw [hat] at cA
            simp only [atN] at cA
            go_wp2_with fail
            go_at_call 25
            refine cA.mono ?_
            rintro e wq ⟨rfl, nq, rfl⟩
            go_wp2
            go_roundw
            case rel => exact ⟨k + 1, o, by omega, by go_num, by omega, HF, hq, hyo, ⟨hb.os, hb.tape, hb.output, hb.size, hb.block⟩⟩
            case measure => simp [intOf]; omega
          | some j =>
            obtain ⟨hjl, -⟩ := List.findIdx?_eq_some_iff_getElem.1 hat
            have hjr : j < rb.length := by rw [← nds_len, EB.out]; exact hjl
            have hj0 : ¬ ((j : Int) < 0) := by omega
            have HF : Hid (fallF ra rb keep ns (k + 1) = o ++ [rb[j]]) := by show _ = _; rw [HS.out]; simp only [stepF, Bool.false_eq_true, if_false]; rw [rfind_rows EB.out, hat]; simp only [Option.bind_some, List.getElem?_eq_getElem hjr, Option.map_some]; rw [← row_at EB.out hat hjr]
            rw [hat] at cA
            simp only [atN] at cA
            obtain ⟨b9, o9, ea9, d1, d2⟩ := ((qb).below hb) j hjr
            have hyj := yb0 _ (List.getElem_mem hjr)
            have hyn : BysR wM (o ++ [rb[j]]) := fun r hr => by
              rcases List.mem_append.1 hr with hr | hr
              · exact hyo r hr
              · rw [List.mem_singleton.1 hr]; exact hyj
            have hsh := rdV_shape hyj
            subst ea9
            generalize rb[j] = yr at HF hyn d1 d2 hsh
            obtain ⟨yn, yu, yb⟩ := yr
            dsimp only at d1 d2 hsh
            obtain ⟨ya, ym, yc, rfl⟩ := hsh
            clear hyj
            go_wp2_with fail
            go_at_call 25
            refine cA.mono ?_
            rintro e wq ⟨rfl, nq, rfl⟩
            have hbq : Below wM.heap.size wM (wr.drewN nq) := ⟨hb.os, hb.tape, hb.output, hb.size, hb.block⟩
            have hqq : (wr.drewN nq).ownsRow wM.heap.size 57 2 (.slice av o.length cv) o.length (csR o) := hq
            have d1' : (wr.drewN nq).cell? _ = _ := d1
            have d2' : (wr.drewN nq).cell? _ = _ := d2
            clear cA d1 d2 hq hb y0 y1
            generalize wr.drewN nq = wz at *
            have bC := bel1 wz (.cells #[.string yn, .slice ya ym yc] 57)
            have rowC := ownBelow hqq bC
            have hbz := hbq.size
            go_wp2_with (at_builtin; refine wpList_appR _ rfl (.tmp 49) (.tmp 54) rfl wM.heap.size (.slice av o.length cv) o rfl rowC ⟨wz.heap.size, 0, none⟩ 1 (yn, .slice ya ym yc, yb) rfl two_at ⟨_, _, _, rfl⟩ (by omega) (by first | omega | (simp; omega)) (wz.heap.size + 1) (World.size_alloc _ _) ?_; intro g2 cap2 w2 hown2 hgrow2 hat2)
            have hB2 := (behind hbq bC).grown hgrow2 (by simp; omega) (fun j e => (World.ownsRow.lt hqq j e).1)
            go_roundw
            case rel => exact ⟨k + 1, o ++ [(yn, .slice ya ym yc, yb)], by omega, by go_num, by simp; omega, HF, by rw [show (o ++ [(yn, Value.slice ya ym yc, yb)]).length = o.length + 1 from by simp]; rw [show (o ++ [(yn, Value.slice ya ym yc, yb)]).length = o.length + 1 from by simp] at hown2; exact hown2, hyn, hB2⟩
            case measure => simp [intOf]; omega
      · have hke : k = ns.length := by omega
        subst hke
        have HON : Hid (nds o = fallF l1 l2 keep ns ns.length) := by
          show _ = _
          rw [← HO.out, ← EA.out, ← EB.out]
          exact (fallF_map _ ra rb keep ns ns.length (Nat.le_refl _)).symm
        have hfl : (fallF l1 l2 keep ns ns.length).length = o.length := by rw [← HON.out, nds_len]
        have BR := behind BM hb
        obtain ⟨⟨y0, y1⟩, -, -⟩ := T0.below hb
        have T1R := T1.below hb
        have hbz := hb.size
        by_cases h60 : 60 < o.length
        · have HRc : R = (l1, l2) := by
            rw [← HR.out]
            unfold fallS
            rw [HV.out, if_pos rfl, HNS.out, hfl, if_pos h60]
          clear HR hfl HON HO
          subst HRc
          have h60I : (o.length : Int) > 60 := by omega
          go_wp2_with fail
          go_at_call 24
          refine (specCopyDk a1 a2 c1 c2 l1 l2 wr z1.1 z2.1 (fun x hx => (z1.2 x hx).2) (fun x hx => (z2.2 x hx).2) (r1M.below hb) (r2M.below hb)).mono ?_
          rintro e w3 ⟨p1, p2, e1, e2, rfl, OK3, hb3⟩
          obtain ⟨sa, sb, ea, eb, OD3⟩ := OK3.rows
          obtain ⟨⟨t2, t3⟩, t4, t5⟩ := T1R.below hb3
          have FA := DkAns1.set (w := w) (wE := wr) (b := w.heap.size + 1) (behind BR hb3) OD3 ea eb (by omega) (by omega) (by omega)
          obtain ⟨n0, n1⟩ := boxSet (v1 := .slice p1 l1.length e1) (v2 := .slice p2 l2.length e2) t2 t3
          clear OD3 OK3 ea eb y0 y1
          go_wp2
          exact bodyPost_ret (v := .agg #[.slice p1 l1.length e1, .slice p2 l2.length e2]) (by simp [results, Try.results16, go_sem, n0, n1]) rfl FA
        · have HRc : R = (nds o, nds o) := by
            rw [← HR.out]
            unfold fallS
            rw [HV.out, if_pos rfl, HNS.out, hfl, if_neg h60, HON.out]
          clear HR hfl HO
          subst HRc
          have h60I : ¬ ((o.length : Int) > 60) := by omega
          have hyR : BysR wr o := hyo.below hb
          have rO := rdNd_of (RdR.own hq) hyR
          have hzo : ∀ x ∈ nds o, x.2.length ≤ 1048576 := fun x hx => by
            rw [HON.out] at hx
            rcases fallF_mem hx with h | h
            · exact (z1.2 x h).2
            · exact (z2.2 x h).2
          have cL := specCopyList av cv (nds o) wr (by rw [nds_len]; omega) hzo rO
          have cL2 := fun (W : World) (h : Below wr.heap.size wr W) => specCopyList av cv (nds o) W (by rw [nds_len]; omega) hzo (rO.below h)
          simp only [nds_len] at cL cL2
          clear HON
          clear y0 y1
          go_wp2_with fail
          go_at_call 44
          refine cL.mono ?_
          rintro e w3 ⟨p1, e1, rfl, ON3, hb3⟩
          go_wp2_with fail
          go_at_call 44
          refine (cL2 w3 hb3).mono ?_
          rintro e w4 ⟨p2, e2, rfl, ON4, hb4⟩
          have hb34 := behind hb3 (hb4)
          obtain ⟨sa, sb, ea, eb, OD4⟩ := (OwnDk.join ON3 hb4 ON4 hb3.size).rows
          obtain ⟨⟨t2, t3⟩, t4, t5⟩ := T1R.below hb34
          have FA := DkAns1.set (w := w) (wE := wr) (b := w.heap.size + 1) (a1 := p1) (a2 := p2) (c1 := e1) (c2 := e2) (l1 := nds o) (l2 := nds o) (behind BR hb34) (by rw [nds_len]; exact OD4) ea eb (by omega) (by omega) (by omega)
          rw [nds_len] at FA
          obtain ⟨n0, n1⟩ := boxSet (v1 := .slice p1 o.length e1) (v2 := .slice p2 o.length e2) t2 t3
          clear ON3 ON4 OD4 ea eb
          go_wp2
          exact bodyPost_ret (v := .agg #[.slice p1 o.length e1, .slice p2 o.length e2]) (by simp [results, Try.results16, go_sem, n0, n1]) rfl FA
end Go.Proofs.Ytmappmboedpgmaq.Wk
