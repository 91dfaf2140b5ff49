/- What l9Names of the specification comes to: all names of two lists, ascending. -/
import Derived.Test.YtmappmboedpgmaqNpS
import Derived.Test.YtmappmboedpgmaqRwK
namespace Go.Proofs.Ytmappmboedpgmaq.Wk
set_option linter.unusedVariables false
open Go.ChangeShapes Go.WideShapes Go.ChangeAt Go.RowKit

/-- a list of its names alone -/
def nmE (l : List Nd) : List Nd := l.map fun x => (x.1, [])
theorem nmE_len (l : List Nd) : (nmE l).length = l.length := by simp [nmE]
/-- the names of two lists, ascending -/
def nmsL (l1 l2 : List Nd) : List Nd := putAll (nmE l1 ++ nmE l2)
def StrsN (l : List Nd) : List Value := l.map fun x => .string x.1
theorem StrsN_take {l : List Nd} {k : Nat} (h : k < l.length) : StrsN (l.take (k + 1)) = StrsN (l.take k) ++ [.string l[k].1] := by
  unfold StrsN
  rw [List.take_succ_eq_append_getElem h, List.map_append]
  rfl
theorem oneN_at {wr : World} {c : Value} : ∀ j u, [c][j]? = some u → (wr.alloc (.cells #[c] 9)).cell? ((⟨wr.heap.size, 0, none⟩ : Addr).add j) = some u := by
  intro j u hj
  cases j with
  | zero =>
    simp at hj
    subst hj
    rw [Go.WideShapes.add_plain, World.cell?_alloc_at _ _ _ _ rfl]
    rfl
  | succ n => simp at hj
theorem oneN_one {s : ByteArray} : ∀ u ∈ [Value.string s], u.oneCell' = true := by
  intro u hu
  simp at hu
  subst hu
  rfl
theorem infoStrN : (Try.prog.info? 9).map (fun i => (i.zero, i.size, i.bytes)) = some (some (.string ByteArray.empty), 1, 16) := by kernel_rfl
/-- one name more -/
theorem putN {wr w' : World} {rs : List Rw} {l : List Nd} {u : Value} {s : ByteArray} {base : Nat} (HN : Hid (nds rs = l)) (hy : BysO wr base rs) (hb : Below wr.heap.size wr w') (hle : base ≤ wr.heap.size) (hu : OwnB w' wr.heap.size u []) :
    Hid (nds (putR rs (s, u, [])) = putR l (s, [])) ∧ BysO w' base (putR rs (s, u, [])) := by
  refine ⟨by show _ = _; rw [nds_put, HN.out], fun r hr => ?_⟩
  rcases mem_put_any hr with rfl | hr
  · exact ownBase hu hle
  · exact ownBelow (hy r hr) hb

set_option maxHeartbeats 4000000 in
set_option maxRecDepth 100000 in
theorem specNames (a1 a2 : Option Addr) (c1 c2 : Nat) (l1 l2 : List Nd) (w : World) (h1 : l1.length ≤ 1000000) (h2 : l2.length ≤ 1000000) (r1 : RdNd w a1 l1) (r2 : RdNd w a2 l2) :
    Calls Try.prog 43 #[.slice a1 l1.length c1, .slice a2 l2.length c2] w fun e w' => ∃ (a' : Option Addr) (c' : Nat), e = .returned (.slice a' (nmsL l1 l2).length c') ∧
      w'.ownsRow w.heap.size 9 1 (.slice a' (nmsL l1 l2).length c') (nmsL l1 l2).length (StrsN (nmsL l1 l2)) ∧ Below w.heap.size w w' := by
  obtain ⟨i0, hi, hz0, hz1, hz2⟩ := info_parts infoStrN
  have q0 := World.ownsRow_made (e := 57) (size := 2) w #[] 0 (Nat.le_refl _) (Nat.zero_le _) rfl
  go_enter Try.func43, Try.ntmps43
  go_wp2
  go_loopw [5, 6] (fun v i wr => ∃ (k : Nat) (rs : List Rw), k ≤ l1.length ∧ i = .int .i64 k ∧ rs.length ≤ k ∧ Hid (nds rs = putAll ((nmE l1).take k)) ∧ wr.ownsRow w.heap.size 57 2 v rs.length (csR rs) ∧ BysO wr w.heap.size rs ∧ Below w.heap.size w wr) (fun _ i _ => l1.length - (intOf i).toNat)
  case atStart => exact ⟨0, [], Nat.zero_le _, rfl, Nat.zero_le _, rfl, q0, fun r hr => by simp at hr, bel1 w _⟩
  case round =>
    obtain ⟨k, rs, hk, rfl, hrl, HN, hq, hy, hb⟩ := hrel
    obtain ⟨av, cv, rfl⟩ := Nd_shape hq
    by_cases hlt : k < l1.length
    · obtain ⟨b, off, ai, ci, rfl, e1, -, -, -, -⟩ := (r1.below hb) k hlt
      have HT : Hid (putAll ((nmE l1).take (k + 1)) = putR (putAll ((nmE l1).take k)) (l1[k].1, [])) := by
        show _ = _
        rw [putAll_take (by rw [nmE_len]; exact hlt)]
        simp [nmE]
      generalize l1[k].1 = x at *
      have bC := bel1 wr (.cells #[] 5)
      have cP := specPut av (some ⟨wr.heap.size, 0, none⟩) cv 0 rs x [] (wr.alloc (.cells #[] 5)) (by omega) (by simp) ((RdR.own hq).below bC) (hy.rd.below bC) (fun i hi => by simp at hi) (fun e => by cases e)
      simp only [List.length_nil] at cP
      have e1' := cellNd e1 bC
      have hbz := hb.size
      have hC := bC.size
      go_wp2_with fail
      go_at_call 39
      refine cP.mono ?_
      rintro e w3 ⟨v, u, rfl, ⟨a', c', rfl⟩, hv, hu, -, hb3⟩
      have B3 := behind bC hb3
      obtain ⟨HN2, hy2⟩ := putN (s := x) HN hy (w' := w3) B3 hbz (ownBase hu hC)
      rw [← HT.out] at HN2
      have hl2 := putR_len rs (x, u, [])
      go_wp2
      go_roundw
      case rel => exact ⟨k + 1, putR rs (x, u, []), by omega, by go_num, by omega, HN2, ownBase hv (by omega), hy2, behind hb B3⟩
      case measure => simp [intOf]; omega
    · have hkl : k = l1.length := by omega
      subst hkl
      have HN1 : Hid (nds rs = putAll (nmE l1 ++ (nmE l2).take 0)) := by
        show _ = _
        rw [HN.out, List.take_of_length_le (by rw [nmE_len]; exact Nat.le_refl _)]
        simp
      clear HN
      go_wp2
      go_loopw [5, 7] (fun v i wr => ∃ (k : Nat) (rs : List Rw), k ≤ l2.length ∧ i = .int .i64 k ∧ rs.length ≤ l1.length + k ∧ Hid (nds rs = putAll (nmE l1 ++ (nmE l2).take k)) ∧ wr.ownsRow w.heap.size 57 2 v rs.length (csR rs) ∧ BysO wr w.heap.size rs ∧ Below w.heap.size w wr) (fun _ i _ => l2.length - (intOf i).toNat)
      case atStart => exact ⟨0, rs, Nat.zero_le _, rfl, by omega, HN1, hq, hy, hb⟩
      case round =>
        obtain ⟨k, rs, hk, rfl, hrl, HN, hq, hy, hb⟩ := hrel
        obtain ⟨av, cv, rfl⟩ := Nd_shape hq
        by_cases hlt : k < l2.length
        · obtain ⟨b, off, ai, ci, rfl, e1, -, -, -, -⟩ := (r2.below hb) k hlt
          have HT : Hid (putAll (nmE l1 ++ (nmE l2).take (k + 1)) = putR (putAll (nmE l1 ++ (nmE l2).take k)) (l2[k].1, [])) := by
            show _ = _
            rw [List.take_succ_eq_append_getElem (by rw [nmE_len]; exact hlt), ← List.append_assoc]
            unfold putAll
            rw [List.foldl_append]
            simp [nmE]
          generalize l2[k].1 = x at *
          have bC := bel1 wr (.cells #[] 5)
          have cP := specPut av (some ⟨wr.heap.size, 0, none⟩) cv 0 rs x [] (wr.alloc (.cells #[] 5)) (by omega) (by simp) ((RdR.own hq).below bC) (hy.rd.below bC) (fun i hi => by simp at hi) (fun e => by cases e)
          simp only [List.length_nil] at cP
          have e1' := cellNd e1 bC
          have hbz := hb.size
          have hC := bC.size
          go_wp2_with fail
          go_at_call 39
          refine cP.mono ?_
          rintro e w3 ⟨v, u, rfl, ⟨a', c', rfl⟩, hv, hu, -, hb3⟩
          have B3 := behind bC hb3
          obtain ⟨HN2, hy2⟩ := putN (s := x) HN hy (w' := w3) B3 hbz (ownBase hu hC)
          rw [← HT.out] at HN2
          have hl2 := putR_len rs (x, u, [])
          go_wp2
          go_roundw
          case rel => exact ⟨k + 1, putR rs (x, u, []), by omega, by go_num, by omega, HN2, ownBase hv (by omega), hy2, behind hb B3⟩
          case measure => simp [intOf]; omega
        · have hkl : k = l2.length := by omega
          subst hkl
          have HM : Hid (nds rs = nmsL l1 l2) := by
            show _ = _
            rw [HN.out, List.take_of_length_le (by rw [nmE_len]; exact Nat.le_refl _)]
            rfl
          have HML : Hid (rs.length = (nmsL l1 l2).length) := by show _ = _; rw [← HM.out, nds_len]
          have hql := World.ownsRow.lt hq
          have hrr := RdR.own hq
          have hb0 := bel1 wr (.cells #[] 9)
          have q1 := World.ownsRow_made (e := 9) (size := 1) wr #[] 0 (Nat.le_refl _) (Nat.zero_le _) rfl
          clear HN r1 r2
          obtain ⟨wq, rfl⟩ : ∃ x, x = wr := ⟨_, rfl⟩
          go_wp2
          go_loopw [8, 9] (fun v i wr => ∃ (k : Nat), k ≤ rs.length ∧ i = .int .i64 k ∧ wr.ownsRow wq.heap.size 9 1 v k (StrsN ((nds rs).take k)) ∧ Below wq.heap.size wq wr) (fun _ i _ => rs.length - (intOf i).toNat)
          case atStart => exact ⟨0, Nat.zero_le _, rfl, q1, hb0⟩
          case round =>
            obtain ⟨k, hk, rfl, hs, hbx⟩ := hrel
            obtain ⟨ao, co, rfl⟩ := Nd_shape hs
            by_cases hlt : k < rs.length
            · obtain ⟨b, off, rfl, d1, -⟩ := (hrr.below hbx) k hlt
              have HT : Hid (StrsN ((nds rs).take (k + 1)) = StrsN ((nds rs).take k) ++ [.string rs[k].1]) := by
                show _ = _
                rw [StrsN_take (by rw [nds_len]; exact hlt), nds_get rs k hlt]
              generalize rs[k].1 = x at *
              have hbz := hbx.size
              have hbw := hb.size
              have dA := cellNd d1 (bel1 wr (.cells #[.string x] 9))
              go_wp2_with (at_builtin; refine wpList_append_own _ rfl (.tmp 46) (.tmp 52) 65 rfl wq.heap.size 9 i0 (.string ByteArray.empty) 1 16 Try.underlying65 hi hz0 hz1 hz2 rfl (by decide) _ _ _ rfl (World.ownsRow.alloc hs _) ⟨_, 0, none⟩ 1 1 [.string x] rfl rfl oneN_at oneN_one (by unfold maxLen; omega) (by omega) (by simp; omega) ?_; intro v2 w2 hown2 hgrow2 hnil2)
              have hB2 := (behind hbx (bel1 wr (.cells #[.string x] 9))).grown hgrow2 (by simp; omega) (fun j e => (World.ownsRow.lt hs j e).1)
              rw [← HT.out] at hown2
              go_roundw
              case rel => exact ⟨k + 1, by omega, by go_num, hown2, hB2⟩
              case measure => simp [intOf]; omega
            · have hkl : k = rs.length := by omega
              subst hkl
              have HR : Hid ((nds rs).take rs.length = nmsL l1 l2) := by show _ = _; rw [List.take_of_length_le (by rw [nds_len]; exact Nat.le_refl _), HM.out]
              rw [HR.out] at hs
              go_wp2
              go_ret
              rw [← HML.out]
              exact ⟨ao, co, rfl, ownBase hs hb.size, behind hb hbx⟩
end Go.Proofs.Ytmappmboedpgmaq.Wk
