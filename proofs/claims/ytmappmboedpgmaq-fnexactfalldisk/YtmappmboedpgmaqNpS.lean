/- What l9Put of the specification comes to: the name put in its place, its bytes copied. -/
import Derived.Test.YtmappmboedpgmaqApR
import Derived.Test.YtmappmboedpgmaqDlS
namespace Go.Proofs.Ytmappmboedpgmaq.Wk
set_option linter.unusedVariables false
open Go.ChangeShapes Go.WideShapes Go.ChangeAt Go.RowKit

theorem step_tt {x : Rw} {o : List Rw} {y : Rw} (h : ¬ y.1 = x.1) : putStep x (o, true) y = (o ++ [y], true) := by simp [putStep, h]
theorem step_te {x : Rw} {o : List Rw} {y : Rw} (h : y.1 = x.1) : putStep x (o, true) y = (o, true) := by simp [putStep, h]
theorem step_fb {x : Rw} {o : List Rw} {y : Rw} (h : bl y.1 x.1 = true) : putStep x (o, false) y = (o ++ [y], false) := by simp [putStep, bl_ne h, h]
theorem step_fe {x : Rw} {o : List Rw} {y : Rw} (h : y.1 = x.1) : putStep x (o, false) y = (o ++ [x], true) := by simp [putStep, h, bl_irrefl]
theorem step_fa {x : Rw} {o : List Rw} {y : Rw} (h : bl y.1 x.1 = false) (hn : ¬ y.1 = x.1) : putStep x (o, false) y = (o ++ [x] ++ [y], true) := by simp [putStep, hn, h]

set_option maxHeartbeats 4000000 in
set_option maxRecDepth 100000 in
theorem specPut (a ab : Option Addr) (ca cb : Nat) (rs : List Rw) (s : ByteArray) (bs : List UInt8) (w : World) (hl : rs.length ≤ 2097152) (hbl : bs.length ≤ 2097152) (hr : RdR w a rs) (hy : BysR w rs) (hrb : RdA w ab bs) (hnil : ab = none → cb = 0) :
    Calls Try.prog 39 #[.slice a rs.length ca, .string s, .slice ab bs.length cb] w fun e w' => ∃ (v u : Value), e = .returned v ∧ (∃ a' c', v = .slice a' (putR rs (s, u, bs)).length c') ∧
      w'.ownsRow w.heap.size 57 2 v (putR rs (s, u, bs)).length (csR (putR rs (s, u, bs))) ∧ OwnB w' w.heap.size u bs ∧ Apart v u ∧ Below w.heap.size w w' := by
  go_enter Try.func39, Try.ntmps39
  have b1 := bel1 w (.cells #[] 57)
  have b2 := bel1 (w.alloc (.cells #[] 57)) (.cells #[] 5)
  have o3 := emptyBy (w.alloc (.cells #[] 57)) (w.heap.size + 1) (by simp)
  rw [World.size_alloc] at o3
  have q3 := (World.ownsRow_made (e := 57) (size := 2) w #[] 0 (Nat.le_refl _) (Nat.zero_le _) rfl).alloc (.cells #[] 5)
  have z3 := hrb.below (behind b1 b2)
  have hs3 : ((w.alloc (.cells #[] 57)).alloc (.cells #[] 5)).heap.size = w.heap.size + 1 + 1 := by rw [World.size_alloc, World.size_alloc]
  go_wp2_with (at_builtin; refine wpList_appB _ rfl (.tmp 13) (.tmp 14) rfl (w.heap.size + 1) (.slice (some ⟨w.heap.size + 1, 0, none⟩) 0 0) [] rfl o3 ab cb bs rfl z3 hnil (by simp; omega) (by omega) ?_; intro v7 w7 hown7 hg7; simp only [List.nil_append] at hown7; obtain ⟨a7, c7, rfl⟩ := By_shape hown7)
  have hPI : PInv w (s, .slice a7 bs.length c7, bs) w7.heap.size (.slice (some ⟨w.heap.size, 0, none⟩) 0 0) [] (w7.alloc (.cells #[.string s, .slice a7 bs.length c7] 57)) := by
    have bb := bel1 w7 (.cells #[.string s, .slice a7 bs.length c7] 57)
    have q7 := World.ownsRow.kept q3 hg7 (.inr (by simp [Value.ownBlock]))
    have l7 := World.ownsRow.lt hown7
    refine ⟨ownBelow q7 bb, ?_, ?_, ownBase (ownBelow hown7 bb) (by omega), ⟨?_, ?_⟩, behind ((behind b1 b2).grown hg7 (by omega) (fun j e => by cases e; exact Nat.le_succ _)) bb⟩
    · refine .inr (fun e => ?_)
      have := (l7 w.heap.size e.symm).1
      omega
    · have := hg7.size
      simp [Value.ownBlock]
      omega
    · rw [World.cell?_alloc_at _ _ _ _ rfl]; rfl
    · rw [World.cell?_alloc_at _ _ _ _ rfl]; rfl
  generalize w7.heap.size = g at hPI ⊢
  generalize (w7.alloc (.cells #[.string s, .slice a7 bs.length c7] 57)) = wB at hPI ⊢
  clear hown7 hg7 q3 o3 z3 b1 b2 hs3 hrb hnil
  have hone : ∃ a n c, Value.slice a7 bs.length c7 = .slice a n c := ⟨_, _, _, rfl⟩
  generalize Value.slice a7 bs.length c7 = u at hPI hone ⊢
  go_loopw [7, 8, 10] (fun q pv i wr => ∃ (k : Nat) (o : List Rw) (p : Bool), k ≤ rs.length ∧ i = .int .i64 k ∧ pv = .bool p ∧ o.length + (if p then 0 else 1) ≤ k + 1 ∧ Hid (putSt (s, u, bs) (rs.take k) = (o, p)) ∧ Hid (PInv w (s, u, bs) g q o wr)) (fun _ _ i _ => rs.length - (intOf i).toNat)
  case atStart => exact ⟨0, [], false, Nat.zero_le _, rfl, rfl, by simp, rfl, hPI⟩
  case round =>
    obtain ⟨k, o, p, hk, rfl, rfl, hol, HS, HP⟩ := hrel
    obtain ⟨hq, -, -, -, ⟨g0, g1⟩, hb⟩ := HP.out
    obtain ⟨av, cv, rfl⟩ := Nd_shape hq
    have hol1 : o.length ≤ k + 1 := by omega
    by_cases hlt : k < rs.length
    · have HN : Hid (putSt (s, u, bs) (rs.take (k + 1)) = putStep (s, u, bs) (o, p) rs[k]) := by
        show putSt (s, u, bs) (rs.take (k + 1)) = _
        rw [putSt_take _ hlt, HS.out]
      obtain ⟨b, off, rfl, c10, c20⟩ := hr k hlt
      have c1 := cellNd c10 hb
      have c2 := cellNd c20 hb
      have hy1 := rdV_shape (hy _ (List.getElem_mem hlt))
      generalize rs[k] = y at HN c1 c2 hy1 c10 c20
      obtain ⟨yn, yu, yb⟩ := y
      dsimp only at c1 c2 hy1 c10 c20
      have bA := bel1 wr (.cells #[.string s, u] 57)
      have bC := bel1 wr (.cells #[.string yn, yu] 57)
      have rowA := ownBelow hq bA
      have rowC := ownBelow hq bC
      have hbz := hb.size
      have hbw := World.block_lt_of_cell? wr _ c1
      have hgw := World.block_lt_of_cell? wr _ g0
      have hbw0 : b < w.heap.size := World.block_lt_of_cell? w _ c10
      have WB : Hid (∀ b', some b' = (Value.slice av o.length cv).ownBlock → w.heap.size ≤ b') := fun b' e => (World.ownsRow.lt hq b' e.symm).1
      clear c10 c20
      cases p with
      | true =>
        simp only [if_true, Nat.add_zero] at hol
        by_cases he : yn = s
        · rw [step_te (x := (s, u, bs)) (y := (yn, yu, yb)) he] at HN
          rw [he] at c1
          clear he
          go_wp2
          go_roundw
          case rel => exact ⟨k + 1, o, true, by omega, by go_num, rfl, by first | omega | (simp; omega) | simp, HN, HP⟩
          case measure => simp [intOf]; omega
        · have hne := bytes_ne he
          rw [step_tt (x := (s, u, bs)) (y := (yn, yu, yb)) he] at HN
          clear he
          go_wp2_with (at_builtin; refine wpList_appR _ rfl (.tmp 45) (.tmp 50) rfl w.heap.size (.slice av o.length cv) o rfl rowC ⟨wr.heap.size, 0, none⟩ 1 (yn, yu, yb) rfl two_at hy1 (by first | omega | (simp; omega)) (by first | omega | (simp; omega)) (wr.heap.size + 1) (World.size_alloc _ _) ?_; intro g2 cap2 w2 hown2 hgrow2 hat2)
          have PI2 := PInv.app HP.out hgrow2 hat2 hown2
          go_roundw
          case rel => exact ⟨k + 1, _, true, by omega, by go_num, rfl, by first | omega | (simp; omega) | simp, HN, PI2⟩
          case measure => simp [intOf]; omega
      | false =>
        simp only [Bool.false_eq_true, if_false] at hol
        by_cases he : yn = s
        · rw [step_fe (x := (s, u, bs)) (y := (yn, yu, yb)) he] at HN
          rw [he] at c1
          have hbl2 : Op.bytesLess s.toList s.toList = false := bl_irrefl s
          clear he
          go_wp2_with (at_builtin; refine wpList_appR _ rfl (.tmp 34) (.tmp 36) rfl w.heap.size (.slice av o.length cv) o rfl rowA ⟨wr.heap.size, 0, none⟩ 1 (s, u, bs) rfl two_at hone (by first | omega | (simp; omega)) (by first | omega | (simp; omega)) (wr.heap.size + 1) (World.size_alloc _ _) ?_; intro g2 cap2 w2 hown2 hgrow2 hat2; have d1 := hgrow2.cell (cellNd c1 bA) (fun e => by have := WB.out b e; omega))
          have PI2 := PInv.app HP.out hgrow2 hat2 hown2
          go_wp2
          go_roundw
          case rel => exact ⟨k + 1, _, true, by omega, by go_num, rfl, by first | omega | (simp; omega) | simp, HN, PI2⟩
          case measure => simp [intOf]; omega
        · have hne := bytes_ne he
          cases hbl2 : bl yn s with
          | true =>
            rw [step_fb (x := (s, u, bs)) (y := (yn, yu, yb)) hbl2] at HN
            have hbl3 : Op.bytesLess yn.toList s.toList = true := hbl2
            clear he hbl2
            go_wp2_with (at_builtin; refine wpList_appR _ rfl (.tmp 45) (.tmp 50) rfl w.heap.size (.slice av o.length cv) o rfl rowC ⟨wr.heap.size, 0, none⟩ 1 (yn, yu, yb) rfl two_at hy1 (by first | omega | (simp; omega)) (by first | omega | (simp; omega)) (wr.heap.size + 1) (World.size_alloc _ _) ?_; intro g2 cap2 w2 hown2 hgrow2 hat2)
            have PI2 := PInv.app HP.out hgrow2 hat2 hown2
            go_roundw
            case rel => exact ⟨k + 1, _, false, by omega, by go_num, rfl, by first | omega | (simp; omega) | simp, HN, PI2⟩
            case measure => simp [intOf]; omega
          | false =>
            rw [step_fa (x := (s, u, bs)) (y := (yn, yu, yb)) hbl2 he] at HN
            have hbl3 : Op.bytesLess yn.toList s.toList = false := hbl2
            clear he hbl2
            go_wp2_with (first | (at_builtin; refine wpList_appR _ rfl (.tmp 34) (.tmp 36) rfl w.heap.size (.slice av o.length cv) o rfl rowA ⟨wr.heap.size, 0, none⟩ 1 (s, u, bs) rfl two_at hone (by first | omega | (simp; omega)) (by first | omega | (simp; omega)) (wr.heap.size + 1) (World.size_alloc _ _) ?_; intro g2 cap2 w2 hown2 hgrow2 hat2; have d1 := hgrow2.cell (cellNd c1 bA) (fun e => by have := WB.out b e; omega); have d2 := hgrow2.cell (cellNd c2 bA) (fun e => by have := WB.out b e; omega); have row3 := ownBelow hown2 (bel1 w2 (.cells #[.string yn, yu] 57)) ; have PI2 := PInv.app HP.out hgrow2 hat2 hown2; clear rowA) | (at_builtin; refine wpList_appR _ rfl (.tmp 45) (.tmp 50) rfl w.heap.size (.slice (some ⟨g2, 0, none⟩) (o.length + 1) cap2) (o ++ [(s, u, bs)]) rfl row3 ⟨w2.heap.size, 0, none⟩ 1 (yn, yu, yb) rfl two_at hy1 (by first | omega | (simp; omega)) (by have := hgrow2.size; simp at this ⊢; omega) (w2.heap.size + 1) (World.size_alloc _ _) ?_; intro g3 cap3 w3 hown3 hgrow3 hat3) | fail)
            have PI3 := PInv.app PI2 hgrow3 hat3 hown3
            simp only [List.length_append, List.length_cons, List.length_nil, Nat.zero_add] at PI3
            go_roundw
            case rel => exact ⟨k + 1, _, true, by omega, by go_num, rfl, by first | omega | (simp; omega) | simp, HN, PI3⟩
            case measure => simp [intOf]; omega
    · have hkl : k = rs.length := by omega
      subst hkl
      have HE : Hid (putR rs (s, u, bs) = putEnd (s, u, bs) (o, p)) := by
        show putR rs (s, u, bs) = _
        unfold putR
        have := HS.out
        rw [List.take_length] at this
        rw [this]
      obtain ⟨hq1, hq2, hq3, hq4, -, hq6⟩ := HP.out
      cases p with
      | true =>
        have HE2 : putR rs (s, u, bs) = o := HE.out
        go_wp2
        go_ret
        exact ⟨_, rfl, u, ⟨av, cv, by rw [HE2]; rfl⟩, by rw [HE2]; exact hq1, hq4, hq2, hq6⟩
      | false =>
        have HE2 : putR rs (s, u, bs) = o ++ [(s, u, bs)] := HE.out
        have bA := bel1 wr (.cells #[.string s, u] 57)
        have rowA := ownBelow hq bA
        have hbz := hb.size
        go_wp2_with (at_builtin; refine wpList_appR _ rfl (.tmp 54) (.tmp 56) rfl w.heap.size (.slice av o.length cv) o rfl rowA ⟨wr.heap.size, 0, none⟩ 1 (s, u, bs) rfl two_at hone (by first | omega | (simp; omega)) (by first | omega | (simp; omega)) (wr.heap.size + 1) (World.size_alloc _ _) ?_; intro g2 cap2 w2 hown2 hgrow2 hat2)
        obtain ⟨x1, x2, x3, x4, -, x6⟩ := PInv.app HP.out hgrow2 hat2 hown2
        go_ret
        exact ⟨_, rfl, u, ⟨some ⟨g2, 0, none⟩, cap2, by rw [HE2, List.length_append]; rfl⟩, by rw [HE2]; exact x1, x4, x2, x6⟩
end Go.Proofs.Ytmappmboedpgmaq.Wk
