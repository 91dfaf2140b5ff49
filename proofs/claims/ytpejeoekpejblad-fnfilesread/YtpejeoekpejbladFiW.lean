/- What fileIn of the program comes to: the walk. -/
import Derived.Test.YtpejeoekpejbladFiI
namespace Go.Proofs.Ytpejeoekpejblad.Wk
set_option linter.unusedVariables false
open Go.ChangeShapes Go.WideShapes Go.ChangeAt Go.RowKit

set_option maxHeartbeats 8000000 in
set_option maxRecDepth 100000 in
theorem fileIn (a : Option Addr) (l : List UInt8) (w : World) (hl : l.length ≤ 1048576) (hr : RdA w a l) :
    Calls Try.prog 28 #[.slice a l.length l.length] w fun e w' => FinRet (fIn l) e w' ∧ Below w.heap.size w w' := by
  obtain ⟨Z, hZ⟩ : ∃ Z : Obj, Z = .cells #[.int .i64 0, .int .i64 0, .int .i64 0, .bool false, .slice none 0 0] 27 := ⟨_, rfl⟩
  obtain ⟨I, hI⟩ : ∃ I : Obj, I = .cells #[.int .i64 0] 3 := ⟨_, rfl⟩
  obtain ⟨O, hO⟩ : ∃ O : Obj, O = .cells #[.pointer (some ⟨w.heap.size + 1, 0, none⟩), .pointer (some ⟨w.heap.size + 1, 1, none⟩), .pointer (some ⟨w.heap.size + 1, 2, none⟩), .pointer (some ⟨w.heap.size + 1 + 1, 0, none⟩), .pointer (some ⟨w.heap.size + 1 + 1 + 1, 0, none⟩)] 68 := ⟨_, rfl⟩
  have e1 : (w.alloc Z).heap.size = w.heap.size + 1 := by simp
  have e2 : ((w.alloc Z).alloc Z).heap.size = w.heap.size + 1 + 1 := by simp
  have e3 : (((w.alloc Z).alloc Z).alloc I).heap.size = w.heap.size + 1 + 1 + 1 := by simp
  have e4 : ((((w.alloc Z).alloc Z).alloc I).alloc I).heap.size = w.heap.size + 1 + 1 + 1 + 1 := by simp
  have b1 := bel1 w Z
  have b2 := behind b1 (bel1 _ Z)
  have b3 := behind b2 (bel1 _ I)
  have b4 := behind b3 (bel1 _ I)
  have b5 := behind b4 (bel1 _ O)
  have sR := ((((slot5fNew w (.int .i64 0) (.int .i64 0) (.int .i64 0) (.bool false) (.slice none 0 0) 27).below (bel1 _ Z)).below (bel1 _ I)).below (bel1 _ I)).below (bel1 _ O)
  rw [← hZ] at sR
  have sF := (((slot5fNew (w.alloc Z) (.int .i64 0) (.int .i64 0) (.int .i64 0) (.bool false) (.slice none 0 0) 27).below (bel1 _ I)).below (bel1 _ I)).below (bel1 _ O)
  rw [← hZ, e1] at sF
  have cM := ((cell1New ((w.alloc Z).alloc Z) (.int .i64 0) 3).below (by rw [← hI]; exact bel1 _ I)).below (bel1 _ O)
  rw [e2] at cM
  have cS := (cell1New (((w.alloc Z).alloc Z).alloc I) (.int .i64 0) 3).below (by rw [← hI]; exact bel1 _ O)
  rw [e3] at cS
  have hO5 : ∀ i v, [Value.pointer (some ⟨w.heap.size + 1, 0, none⟩), .pointer (some ⟨w.heap.size + 1, 1, none⟩), .pointer (some ⟨w.heap.size + 1, 2, none⟩), .pointer (some ⟨w.heap.size + 1 + 1, 0, none⟩), .pointer (some ⟨w.heap.size + 1 + 1 + 1, 0, none⟩)][i]? = some v → (((((w.alloc Z).alloc Z).alloc I).alloc I).alloc O).cell? ⟨w.heap.size + 1 + 1 + 1 + 1, i, none⟩ = some v := by
    intro i v h
    rw [hO, World.cell?_alloc_at _ _ _ _ (by rw [e4])]
    simpa using h
  have hNA : NumsAt (((((w.alloc Z).alloc Z).alloc I).alloc I).alloc O) [⟨w.heap.size + 1, 0, none⟩, ⟨w.heap.size + 1, 1, none⟩, ⟨w.heap.size + 1, 2, none⟩, ⟨w.heap.size + 1 + 1, 0, none⟩, ⟨w.heap.size + 1 + 1 + 1, 0, none⟩] (w.heap.size + 1 + 1 + 1 + 1) a l := by
    obtain ⟨⟨f0, f1, f2, -, -⟩, z0, z1, z2, -, -⟩ := sF
    refine ⟨?_, ?_, hr.below b5⟩
    · intro x hx
      simp only [List.mem_cons, List.not_mem_nil, or_false] at hx
      rcases hx with rfl | rfl | rfl | rfl | rfl
      · exact ⟨⟨_, f0⟩, z0⟩
      · exact ⟨⟨_, f1⟩, z1⟩
      · exact ⟨⟨_, f2⟩, z2⟩
      · exact ⟨⟨_, cM.1⟩, cM.2⟩
      · exact ⟨⟨_, cS.1⟩, cS.2⟩
    · intro i hi
      refine hO5 i _ ?_
      match i, hi with
      | 0, _ => rfl
      | 1, _ => rfl
      | 2, _ => rfl
      | 3, _ => rfl
      | 4, _ => rfl
  have hblk : ∀ y ∈ [(⟨w.heap.size + 1, 0, none⟩ : Addr), ⟨w.heap.size + 1, 1, none⟩, ⟨w.heap.size + 1, 2, none⟩, ⟨w.heap.size + 1 + 1, 0, none⟩, ⟨w.heap.size + 1 + 1 + 1, 0, none⟩], w.heap.size < y.block ∧ y.block < w.heap.size + 1 + 1 + 1 + 1 := by
    intro y hy
    simp only [List.mem_cons, List.not_mem_nil, or_false] at hy
    rcases hy with rfl | rfl | rfl | rfl | rfl <;> (constructor <;> simp only [] <;> omega)
  have hab : ∀ b off, a = some ⟨b, off, none⟩ → 0 < l.length → b < w.heap.size := by
    intro b off ea h0
    obtain ⟨b', off', ea', hc⟩ := hr 0 h0
    rw [ea] at ea'
    cases ea'
    exact World.block_lt_of_cell? w _ hc
  have cG := getNums a l.length l [⟨w.heap.size + 1, 0, none⟩, ⟨w.heap.size + 1, 1, none⟩, ⟨w.heap.size + 1, 2, none⟩, ⟨w.heap.size + 1 + 1, 0, none⟩, ⟨w.heap.size + 1 + 1 + 1, 0, none⟩] (w.heap.size + 1 + 1 + 1 + 1) 5 0 (((((w.alloc Z).alloc Z).alloc I).alloc I).alloc O) hl (Nat.le_refl _) (by unfold maxLen; omega) (by simp) hNA (fun y hy => by have := (hblk y hy).2; omega) (fun h0 b off ea y hy => by have h1 := hab b off ea h0; have h2 := (hblk y hy).1; intro e; rw [e] at h2; exact Nat.lt_irrefl _ (Nat.lt_trans h1 h2))
  have hWb := runNums_below l [⟨w.heap.size + 1, 0, none⟩, ⟨w.heap.size + 1, 1, none⟩, ⟨w.heap.size + 1, 2, none⟩, ⟨w.heap.size + 1 + 1, 0, none⟩, ⟨w.heap.size + 1 + 1 + 1, 0, none⟩] 0 _ (fun y hy => Nat.le_of_lt (hblk y hy).1) b5
  have hWR := runNums_slot l [⟨w.heap.size + 1, 0, none⟩, ⟨w.heap.size + 1, 1, none⟩, ⟨w.heap.size + 1, 2, none⟩, ⟨w.heap.size + 1 + 1, 0, none⟩, ⟨w.heap.size + 1 + 1 + 1, 0, none⟩] 0 _ (R := w.heap.size) (fun y hy e => by have h2 := (hblk y hy).1; rw [e] at h2; exact Nat.lt_irrefl _ h2) sR
  have hNo := runNums_no l ⟨w.heap.size + 1, 0, none⟩ ⟨w.heap.size + 1, 1, none⟩ ⟨w.heap.size + 1, 2, none⟩ ⟨w.heap.size + 1 + 1, 0, none⟩ ⟨w.heap.size + 1 + 1 + 1, 0, none⟩ (((((w.alloc Z).alloc Z).alloc I).alloc I).alloc O)
  have hYes := runNums_yes l ⟨w.heap.size + 1, 0, none⟩ ⟨w.heap.size + 1, 1, none⟩ ⟨w.heap.size + 1, 2, none⟩ ⟨w.heap.size + 1 + 1, 0, none⟩ ⟨w.heap.size + 1 + 1 + 1, 0, none⟩ (((((w.alloc Z).alloc Z).alloc I).alloc I).alloc O)
  generalize hRN : runNums l [⟨w.heap.size + 1, 0, none⟩, ⟨w.heap.size + 1, 1, none⟩, ⟨w.heap.size + 1, 2, none⟩, ⟨w.heap.size + 1 + 1, 0, none⟩, ⟨w.heap.size + 1 + 1 + 1, 0, none⟩] 0 (((((w.alloc Z).alloc Z).alloc I).alloc I).alloc O) = RN at cG hWb hWR hNo hYes
  obtain ⟨wn, pn⟩ := RN
  clear hRN hNA hblk hO5 e1 e2 e3 e4 b1 b2 b3 b4
  change _ → pn = none at hNo
  change Below w.heap.size w wn at hWb
  change Slot5f wn w.heap.size _ _ _ _ _ at hWR
  change Calls _ _ _ _ fun e w' => e = .returned (numsV pn) ∧ w' = wn at cG
  have hrn := hr.below hWb
  cases hOk : iOk l with
  | false =>
    have hF : fIn l = none := by unfold fIn; rw [hOk]; rfl
    rw [hF]
    have hp := hNo hOk
    subst hp
    change Calls _ _ _ _ fun e w' => e = .returned (.tuple #[.int .i64 0, .bool false]) ∧ w' = wn at cG
    clear hNo hYes sF cM cS hF hOk
    subst hZ hI hO
    obtain ⟨⟨x0, x1, x2, x3, x4⟩, f0, f1, f2, f3, f4⟩ := id hWR
    go_enter Try.func28, Try.ntmps28
    go_wp2_with fail
    refine cG.mono ?_
    rintro e w2 ⟨rfl, hw2⟩
    subst hw2
    go_wp2
    obtain ⟨z0, z1, z2, z3, z4⟩ := (hWR.set (.int .i64 0) (.int .i64 0) (.int .i64 0) (.bool false) (.slice none 0 0)).1
    exact bodyPost_ret (v := .tuple #[.agg #[.int .i64 0, .int .i64 0, .int .i64 0, .bool false, .slice none 0 0], .bool false]) (by simp [results, Try.results28, go_sem, z0, z1, z2, z3, z4]) rfl ⟨⟨0, 0, 0, false, none, 0, 0, false, rfl, rfl⟩, set5 hWb (Nat.le_refl _) _ _ _ _ _⟩
  | true =>
    have hy := hYes hOk
    have v1 : fIn l = if iFit l && fileB (nv (gS1 l)) (nv (gS2 l)) (nv (gS3 l)) (gDead l) (iData l).length then some (nv (gS1 l), nv (gS2 l), nv (gS3 l), gDead l, iData l) else none := by unfold fIn; rw [hOk]; rfl
    simp only [iOk, Bool.and_eq_true] at hOk
    obtain ⟨-, -, k5⟩ := hOk
    obtain ⟨⟨n5, p5⟩, e5⟩ := some_of k5
    have hle5 := Mt.getNum_le l _ n5 p5 e5
    rw [v1]
    clear v1 k5
    have hfit : iFit l = (decide (nv (gD l) ≤ 1) && decide ((n5 : Int) = (l.length : Int) - (p5 : Int))) := by unfold iFit; rw [e5]; rfl
    have hdat : iData l = l.drop p5 := by unfold iData; rw [e5]; rfl
    have hdd : gDead l = (nv (gD l) == 1) := rfl
    rw [hfit, hdat, hdd]
    rw [e5] at hy
    have a1 : nv (some (n5, p5)) = (n5 : Int) := rfl
    have a2 : np (some (n5, p5)) = (p5 : Int) := rfl
    rw [a1, a2] at hy
    simp only [Prod.mk.injEq] at hy
    obtain ⟨hwn, rfl⟩ := hy
    change Calls _ _ _ _ fun e w' => e = .returned (.tuple #[.int .i64 (p5 : Int), .bool true]) ∧ _ at cG
    clear hNo hYes hfit hdat hdd e5
    have sF' := ((((sF.put0 (.int .i64 (nv (gS1 l)))).put1 (.int .i64 (nv (gS2 l)))).put2 (.int .i64 (nv (gS3 l)))).other (c := w.heap.size + 1 + 1) (o := 0) (x := .int .i64 (nv (gD l))) (by omega)).other (c := w.heap.size + 1 + 1 + 1) (o := 0) (x := .int .i64 (n5 : Int)) (by omega)
    have cM' := ((((cM.other (c := w.heap.size + 1) (o := 0) (x := .int .i64 (nv (gS1 l))) (by omega)).other (c := w.heap.size + 1) (o := 1) (x := .int .i64 (nv (gS2 l))) (by omega)).other (c := w.heap.size + 1) (o := 2) (x := .int .i64 (nv (gS3 l))) (by omega)).put (.int .i64 (nv (gD l)))).other (c := w.heap.size + 1 + 1 + 1) (o := 0) (x := .int .i64 (n5 : Int)) (by omega)
    have cS' := ((((cS.other (c := w.heap.size + 1) (o := 0) (x := .int .i64 (nv (gS1 l))) (by omega)).other (c := w.heap.size + 1) (o := 1) (x := .int .i64 (nv (gS2 l))) (by omega)).other (c := w.heap.size + 1) (o := 2) (x := .int .i64 (nv (gS3 l))) (by omega)).other (c := w.heap.size + 1 + 1) (o := 0) (x := .int .i64 (nv (gD l))) (by omega)).put (.int .i64 (n5 : Int))
    rw [← hwn] at sF' cM' cS'
    clear hwn sF cM cS sR
    generalize nv (gS1 l) = T at sF' ⊢
    generalize nv (gS2 l) = Q at sF' ⊢
    generalize nv (gS3 l) = N at sF' ⊢
    generalize nv (gD l) = dn at cM' ⊢
    subst hZ hI hO
    obtain ⟨cM0, cM1⟩ := cM'
    obtain ⟨cS0, cS1⟩ := cS'
    obtain ⟨⟨y0, y1, y2, y3, y4⟩, g0, g1, g2, g3, g4⟩ := id sF'
    obtain ⟨⟨x0, x1, x2, x3, x4⟩, f0, f1, f2, f3, f4⟩ := id hWR
    by_cases h1 : dn ≤ 1
    · by_cases h2 : (n5 : Int) = (l.length : Int) - (p5 : Int)
      · have hs1 : (p5 : Int) + (n5 : Int) = (l.length : Int) := by omega
        have hA : (l.length : Int) - (p5 : Int) = (n5 : Int) := by omega
        have hA' : l.length - p5 = n5 := by omega
        rw [decide_eq_true h1, decide_eq_true h2]
        have hdl : (l.drop p5).length = n5 := by rw [List.length_drop]; omega
        rw [hdl]
        obtain ⟨b, off, rfl, -⟩ := hr 0 (by omega)
        have h1' : ¬ 1 < dn := by omega
        clear h2 hle5
        by_cases h0 : n5 = 0
        · subst h0
          have hpe : p5 = l.length := by omega
          have hdr : l.drop p5 = [] := List.eq_nil_of_length_eq_zero hdl
          have hrd : ∀ w', Below w.heap.size w w' → RdA w' (some ⟨b, off, none⟩) (l.drop p5) := fun w' _ => by rw [hdr]; exact RdA.nil _ _
          have sF8 := (sF'.put3 (.bool (dn == 1))).put4 (.slice (some ⟨b, off, none⟩) 0 0)
          have sR8 := (hWR.other (c := w.heap.size + 1) (o := 3) (x := .bool (dn == 1)) (by omega)).other (c := w.heap.size + 1) (o := 4) (x := .slice (some ⟨b, off, none⟩) 0 0) (by omega)
          have b8 := (hWb.setCell (p := ⟨w.heap.size + 1, 3, none⟩) (by show w.heap.size ≤ w.heap.size + 1; omega) (.bool (dn == 1))).setCell (p := ⟨w.heap.size + 1, 4, none⟩) (by show w.heap.size ≤ w.heap.size + 1; omega) (.slice (some ⟨b, off, none⟩) 0 0)
          have cK := fun w => implFile T Q N (dn == 1) (some ⟨b, off, none⟩) 0 0 w (by omega)
          generalize fileB T Q N (dn == 1) 0 = K at cK ⊢
          generalize hfo : (if (true && true && K) = true then some (T, Q, N, dn == 1, l.drop p5) else none) = fo
          go_enter Try.func28, Try.ntmps28
          go_wp2_with fail
          refine cG.mono ?_
          rintro e w2 ⟨rfl, hw2⟩
          subst hw2
          go_wp2_with fail
          clear x0 x1 x2 x3 x4 f0 f1 f2 f3 f4 y0 y1 y2 y3 y4 g0 g1 g2 g3 g4 cM0 cM1 cS0 cS1 sF' hWR hrn hWb
          generalize (w2.setCell ⟨w.heap.size + 1, 3, none⟩ (.bool (dn == 1))).setCell ⟨w.heap.size + 1, 4, none⟩ (.slice (some ⟨b, off, none⟩) 0 0) = w8 at sF8 sR8 b8 ⊢
          obtain ⟨⟨y0, y1, y2, y3, y4⟩, g0, g1, g2, g3, g4⟩ := id sF8
          have q8 := fun (w9 : World) (hb9 : Below w8.drew.heap.size w8.drew w9) => And.intro (sF8.below (w := w8.drew) hb9) (sR8.below (w := w8.drew) hb9)
          cases K with
          | true =>
            have hfo' : some (T, Q, N, dn == 1, l.drop p5) = fo := hfo
            subst hfo'
            go_region_with (go_at_call 9; refine (cK _).mono ?_; rintro e w9 ⟨rfl, hb9⟩; obtain ⟨⟨⟨y0, y1, y2, y3, y4⟩, g0, g1, g2, g3, g4⟩, ⟨⟨x0, x1, x2, x3, x4⟩, f0, f1, f2, f3, f4⟩⟩ := (show _ from q8 w9 hb9))
            all_goals
              go_wp2
              obtain ⟨z0, z1, z2, z3, z4⟩ := ((q8 w9 hb9).2.set (.int .i64 T) (.int .i64 Q) (.int .i64 N) (.bool (dn == 1)) (.slice (some ⟨b, off, none⟩) 0 0)).1
              have hE := set5 (behind b8.drew hb9) (Nat.le_refl _) (.int .i64 T) (.int .i64 Q) (.int .i64 N) (.bool (dn == 1)) (.slice (some ⟨b, off, none⟩) 0 0)
              exact bodyPost_ret (v := .tuple #[.agg #[.int .i64 T, .int .i64 Q, .int .i64 N, .bool (dn == 1), .slice (some ⟨b, off, none⟩) 0 0], .bool true]) (by simp [results, Try.results28, go_sem, z0, z1, z2, z3, z4]) rfl ⟨⟨T, Q, N, dn == 1, (some ⟨b, off, none⟩), 0, 0, true, rfl, rfl, rfl, rfl, rfl, rfl, hdl, hrd _ hE⟩, hE⟩
          | false =>
            have hfo' : none = fo := hfo
            subst hfo'
            go_region_with (go_at_call 9; refine (cK _).mono ?_; rintro e w9 ⟨rfl, hb9⟩; obtain ⟨⟨⟨y0, y1, y2, y3, y4⟩, g0, g1, g2, g3, g4⟩, ⟨⟨x0, x1, x2, x3, x4⟩, f0, f1, f2, f3, f4⟩⟩ := (show _ from q8 w9 hb9))
            all_goals
              go_wp2
              obtain ⟨z0, z1, z2, z3, z4⟩ := ((q8 w9 hb9).2.set (.int .i64 T) (.int .i64 Q) (.int .i64 N) (.bool (dn == 1)) (.slice (some ⟨b, off, none⟩) 0 0)).1
              have hE := set5 (behind b8.drew hb9) (Nat.le_refl _) (.int .i64 T) (.int .i64 Q) (.int .i64 N) (.bool (dn == 1)) (.slice (some ⟨b, off, none⟩) 0 0)
              exact bodyPost_ret (v := .tuple #[.agg #[.int .i64 T, .int .i64 Q, .int .i64 N, .bool (dn == 1), .slice (some ⟨b, off, none⟩) 0 0], .bool false]) (by simp [results, Try.results28, go_sem, z0, z1, z2, z3, z4]) rfl ⟨⟨T, Q, N, dn == 1, (some ⟨b, off, none⟩), 0, 0, false, rfl, rfl⟩, hE⟩
        · have hpl : ¬ p5 = l.length := by omega
          have hpl2 : ¬ l.length = p5 := by omega
          have hrd : ∀ w', Below w.heap.size w w' → RdA w' (some ⟨b, off + p5, none⟩) (l.drop p5) := by
            intro w' hb i hi
            rw [List.length_drop] at hi
            obtain ⟨b', off', e', hc⟩ := (hr.below hb) (p5 + i) (by omega)
            cases e'
            exact ⟨b, off + p5, rfl, by rw [List.getElem_drop, Nat.add_assoc]; exact hc⟩
          have sF8 := (sF'.put3 (.bool (dn == 1))).put4 (.slice (some ⟨b, off + p5, none⟩) n5 n5)
          have sR8 := (hWR.other (c := w.heap.size + 1) (o := 3) (x := .bool (dn == 1)) (by omega)).other (c := w.heap.size + 1) (o := 4) (x := .slice (some ⟨b, off + p5, none⟩) n5 n5) (by omega)
          have b8 := (hWb.setCell (p := ⟨w.heap.size + 1, 3, none⟩) (by show w.heap.size ≤ w.heap.size + 1; omega) (.bool (dn == 1))).setCell (p := ⟨w.heap.size + 1, 4, none⟩) (by show w.heap.size ≤ w.heap.size + 1; omega) (.slice (some ⟨b, off + p5, none⟩) n5 n5)
          have cK := fun w => implFile T Q N (dn == 1) (some ⟨b, off + p5, none⟩) n5 n5 w (by omega)
          generalize fileB T Q N (dn == 1) n5 = K at cK ⊢
          generalize hfo : (if (true && true && K) = true then some (T, Q, N, dn == 1, l.drop p5) else none) = fo
          go_enter Try.func28, Try.ntmps28
          go_wp2_with fail
          refine cG.mono ?_
          rintro e w2 ⟨rfl, hw2⟩
          subst hw2
          go_wp2_with fail
          clear x0 x1 x2 x3 x4 f0 f1 f2 f3 f4 y0 y1 y2 y3 y4 g0 g1 g2 g3 g4 cM0 cM1 cS0 cS1 sF' hWR hrn hWb
          generalize (w2.setCell ⟨w.heap.size + 1, 3, none⟩ (.bool (dn == 1))).setCell ⟨w.heap.size + 1, 4, none⟩ (.slice (some ⟨b, off + p5, none⟩) n5 n5) = w8 at sF8 sR8 b8 ⊢
          obtain ⟨⟨y0, y1, y2, y3, y4⟩, g0, g1, g2, g3, g4⟩ := id sF8
          have q8 := fun (w9 : World) (hb9 : Below w8.drew.heap.size w8.drew w9) => And.intro (sF8.below (w := w8.drew) hb9) (sR8.below (w := w8.drew) hb9)
          cases K with
          | true =>
            have hfo' : some (T, Q, N, dn == 1, l.drop p5) = fo := hfo
            subst hfo'
            go_region_with (go_at_call 9; refine (cK _).mono ?_; rintro e w9 ⟨rfl, hb9⟩; obtain ⟨⟨⟨y0, y1, y2, y3, y4⟩, g0, g1, g2, g3, g4⟩, ⟨⟨x0, x1, x2, x3, x4⟩, f0, f1, f2, f3, f4⟩⟩ := (show _ from q8 w9 hb9))
            all_goals
              go_wp2
              obtain ⟨z0, z1, z2, z3, z4⟩ := ((q8 w9 hb9).2.set (.int .i64 T) (.int .i64 Q) (.int .i64 N) (.bool (dn == 1)) (.slice (some ⟨b, off + p5, none⟩) n5 n5)).1
              have hE := set5 (behind b8.drew hb9) (Nat.le_refl _) (.int .i64 T) (.int .i64 Q) (.int .i64 N) (.bool (dn == 1)) (.slice (some ⟨b, off + p5, none⟩) n5 n5)
              exact bodyPost_ret (v := .tuple #[.agg #[.int .i64 T, .int .i64 Q, .int .i64 N, .bool (dn == 1), .slice (some ⟨b, off + p5, none⟩) n5 n5], .bool true]) (by simp [results, Try.results28, go_sem, z0, z1, z2, z3, z4]) rfl ⟨⟨T, Q, N, dn == 1, (some ⟨b, off + p5, none⟩), n5, n5, true, rfl, rfl, rfl, rfl, rfl, rfl, hdl, hrd _ hE⟩, hE⟩
          | false =>
            have hfo' : none = fo := hfo
            subst hfo'
            go_region_with (go_at_call 9; refine (cK _).mono ?_; rintro e w9 ⟨rfl, hb9⟩; obtain ⟨⟨⟨y0, y1, y2, y3, y4⟩, g0, g1, g2, g3, g4⟩, ⟨⟨x0, x1, x2, x3, x4⟩, f0, f1, f2, f3, f4⟩⟩ := (show _ from q8 w9 hb9))
            all_goals
              go_wp2
              obtain ⟨z0, z1, z2, z3, z4⟩ := ((q8 w9 hb9).2.set (.int .i64 T) (.int .i64 Q) (.int .i64 N) (.bool (dn == 1)) (.slice (some ⟨b, off + p5, none⟩) n5 n5)).1
              have hE := set5 (behind b8.drew hb9) (Nat.le_refl _) (.int .i64 T) (.int .i64 Q) (.int .i64 N) (.bool (dn == 1)) (.slice (some ⟨b, off + p5, none⟩) n5 n5)
              exact bodyPost_ret (v := .tuple #[.agg #[.int .i64 T, .int .i64 Q, .int .i64 N, .bool (dn == 1), .slice (some ⟨b, off + p5, none⟩) n5 n5], .bool false]) (by simp [results, Try.results28, go_sem, z0, z1, z2, z3, z4]) rfl ⟨⟨T, Q, N, dn == 1, (some ⟨b, off + p5, none⟩), n5, n5, false, rfl, rfl⟩, hE⟩
      · rw [decide_eq_true h1, decide_eq_false h2]
        simp only [Bool.and_false, Bool.false_and, Bool.false_eq_true, if_false]
        have h1' : ¬ 1 < dn := by omega
        have h2d : ((n5 : Int) != (l.length : Int) - (p5 : Int)) = true := bne_iff_ne.2 h2
        go_enter Try.func28, Try.ntmps28
        go_wp2_with fail
        refine cG.mono ?_
        rintro e w2 ⟨rfl, hw2⟩
        subst hw2
        go_wp2
        obtain ⟨z0, z1, z2, z3, z4⟩ := (hWR.set (.int .i64 0) (.int .i64 0) (.int .i64 0) (.bool false) (.slice none 0 0)).1
        exact bodyPost_ret (v := .tuple #[.agg #[.int .i64 0, .int .i64 0, .int .i64 0, .bool false, .slice none 0 0], .bool false]) (by simp [results, Try.results28, go_sem, z0, z1, z2, z3, z4]) rfl ⟨⟨0, 0, 0, false, none, 0, 0, false, rfl, rfl⟩, set5 hWb (Nat.le_refl _) _ _ _ _ _⟩
    · rw [decide_eq_false h1]
      simp only [Bool.false_and, Bool.false_eq_true, if_false]
      have h1' : 1 < dn := by omega
      go_enter Try.func28, Try.ntmps28
      go_wp2_with fail
      refine cG.mono ?_
      rintro e w2 ⟨rfl, hw2⟩
      subst hw2
      go_wp2
      obtain ⟨z0, z1, z2, z3, z4⟩ := (hWR.set (.int .i64 0) (.int .i64 0) (.int .i64 0) (.bool false) (.slice none 0 0)).1
      exact bodyPost_ret (v := .tuple #[.agg #[.int .i64 0, .int .i64 0, .int .i64 0, .bool false, .slice none 0 0], .bool false]) (by simp [results, Try.results28, go_sem, z0, z1, z2, z3, z4]) rfl ⟨⟨0, 0, 0, false, none, 0, 0, false, rfl, rfl⟩, set5 hWb (Nat.le_refl _) _ _ _ _ _⟩
end Go.Proofs.Ytpejeoekpejblad.Wk
