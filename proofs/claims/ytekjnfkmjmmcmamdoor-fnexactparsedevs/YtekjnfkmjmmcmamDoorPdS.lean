/- What ParseDevs of the specification comes to. -/
import Derived.Test.YtekjnfkmjmmcmamDoorPdM
import Derived.Test.YtekjnfkmjmmcmamDoorDvS
import Derived.Test.YtekjnfkmjmmcmamDoorRdS
import Derived.Test.YtekjnfkmjmmcmamDoorPcW
import Derived.Test.YtekjnfkmjmmcmamDoorStR
import Derived.Test.YtekjnfkmjmmcmamDoorDot
import Derived.Deep.DeepCutAuto
import Derived.Deep.CutRange
import Derived.Deep.AppendLies
import Derived.Deep.RegionHeld3
namespace Go.Proofs.YtekjnfkmjmmcmamDoor.Wk
set_option linter.unusedVariables false
open Go.ChangeShapes Go.WideShapes Go.ChangeAt Go.RowKit

theorem keepG {w w' : World} {b o : Nat} {r : Option Nat} {v1 v2 v3 : Value} (h : w.cell? ⟨b, o, none⟩ = some v1 ∧ w.cell? ⟨b, o + 1, none⟩ = some v2 ∧ w.cell? ⟨b, o + 2, none⟩ = some v3) (hg : w.grownBy w' r) (hf : some b ≠ r) :
    w'.cell? ⟨b, o, none⟩ = some v1 ∧ w'.cell? ⟨b, o + 1, none⟩ = some v2 ∧ w'.cell? ⟨b, o + 2, none⟩ = some v3 := ⟨hg.cell h.1 hf, hg.cell h.2.1 hf, hg.cell h.2.2 hf⟩
theorem RdTC.grown {w w' : World} {a : Option Addr} {D : List (List UInt8)} {r : Option Nat} (h : RdTC w a D) (hg : w.grownBy w' r) (hr : ∀ x, a = some x → some x.block ≠ r) : RdTC w' a D := by
  intro i hi
  obtain ⟨b, off, ha, hc⟩ := h i hi
  exact ⟨b, off, ha, hg.cell hc (show some b ≠ r from hr ⟨b, off, none⟩ ha)⟩
theorem grownD (w : World) (r : Option Nat) : w.grownBy w.drew r := ⟨rfl, rfl, rfl, Nat.le_refl _, fun _ _ _ => rfl⟩
set_option maxHeartbeats 2000000 in
set_option maxRecDepth 100000 in
theorem specParseD (s : ByteArray) (w : World) (hs : s.size ≤ 1048576) :
    Calls Tryd.prog 10 #[.string s] w fun e w' => ∃ (a : Option Addr) (cp : Nat), e = .returned (.tuple #[.slice a ((Dv.parse s.data.toList).getD []).length cp, .bool (Dv.parse s.data.toList).isSome]) ∧ RdS w' a ((Dv.parse s.data.toList).getD []) ∧ Below w.heap.size w w' := by
  have hlen : s.data.toList.length = s.size := by simp
  have hcut := l2SplC 32 s
  obtain ⟨R, hR⟩ : ∃ R, Dv.parse s.data.toList = R := ⟨_, rfl⟩
  have HS : Hid (∀ k (hk : k < (Pc.pieces 32 s.data.toList).length), Dv.word (Pc.pieces 32 s.data.toList)[k] = none → R = none) := fun k hk h => hR ▸ Dv.parse_stop hk h
  have HE : Hid (∀ k X, ¬ k < (Pc.pieces 32 s.data.toList).length → Dv.words ((Pc.pieces 32 s.data.toList).take k) = some X → R = if Dv.devs X = true then some X else none) := fun k X hk h => hR ▸ Dv.parse_end hk h
  have HL : Hid (∀ p ∈ Pc.pieces 32 s.data.toList, p.length ≤ 1048576) := fun p hp => by have := Pc.pieces_len 32 s.data.toList p hp; omega
  have hW : (Pc.pieces 32 s.data.toList).length ≤ 1048577 := by have := Pc.pieces_few 32 s.data.toList; omega
  rw [hR]
  clear hR
  generalize Pc.pieces 32 s.data.toList = W at hcut HS HE HL hW
  obtain ⟨i0, hi, hz0, hz1, hz2⟩ := info_parts infoDv
  have hown1 : (w.alloc (.cells #[] 36)).ownsRow w.heap.size 36 3 (.slice (some ⟨w.heap.size, 0, none⟩) 0 0) 0 [] := World.ownsRow_made w #[] 0 (Nat.le_refl _) (Nat.zero_le _) rfl
  go_enter Tryd.func10, Tryd.ntmps10
  go_wp2_with fail
  refine (hcut _ hs).mono ?_
  rintro e w1 ⟨a, cp, rfl, hrd, hb1, hnw⟩
  simp only [World.size_alloc] at hnw
  have hown1' := ownOn hown1 hb1
  have hB1 := behind (bel1 _ _) hb1
  go_wp2
  clear hown1 hb1 hcut
  go_loopw [4, 6] (fun v i wr => ∃ (k : Nat) (X : List Sm.St), k ≤ W.length ∧ X.length ≤ k ∧ i = .int .i64 k ∧ Hid (Dv.words (W.take k) = some X) ∧ wr.ownsRow w.heap.size 36 3 v X.length (Ss X) ∧ RdTC wr a W ∧ (∀ x, a = some x → some x.block ≠ v.ownBlock) ∧ Below w.heap.size w wr ∧ w.heap.size < wr.heap.size) (fun _ i _ => W.length - (intOf i).toNat)
  case atStart => exact ⟨0, [], Nat.zero_le _, Nat.zero_le _, rfl, rfl, hown1', hrd, fun x hx e => by have := hnw x hx; simp [Value.ownBlock] at e; omega, hB1, by have := World.ownsRow.lt hown1' w.heap.size rfl; omega⟩
  case round =>
    obtain ⟨k, X, hk, hX, rfl, HX, hown, hrd', hne, hb, hsz⟩ := hrel
    clear hown1' hB1 hrd hnw
    by_cases hlt : k < W.length
    · obtain ⟨b, off, rfl, hcell⟩ := hrd' k hlt
      have hp := HL.out _ (List.getElem_mem hlt)
      have HSk := HS.out k hlt
      have HXk := fun x h => Dv.words_step (x := x) hlt HX.out h
      obtain ⟨p, hpe⟩ : ∃ p, W[k] = p := ⟨_, rfl⟩
      rw [hpe] at hcell hp HSk HXk
      have cs := l2SplC 58 ⟨p.toArray⟩
      simp only [szL] at cs
      have hs1 : Hid (Dv.word p = none → R = none) := HSk
      have hx1 : Hid (∀ x, Dv.word p = some x → Dv.words (W.take (k + 1)) = some (X ++ [x])) := HXk
      clear hpe HSk HXk HX
      by_cases h3 : (Pc.pieces 58 p).length = 3
      · obtain ⟨p0, p1, p2, hp3⟩ := Dv.three h3
        have hl := Pc.pieces_len 58 p
        have HN := hx1.out _ (Dv.word_three hp3)
        rw [hp3] at hl cs
        have l0 := hl p0 (by simp)
        have l1 := hl p1 (by simp)
        have l2 := hl p2 (by simp)
        have c0 := fun w => l2Num ⟨p0.toArray⟩ w (by rw [szL p0]; omega)
        have c1 := fun w => l2Num ⟨p1.toArray⟩ w (by rw [szL p1]; omega)
        have c2 := fun w => l2Num ⟨p2.toArray⟩ w (by rw [szL p2]; omega)
        simp only at c0 c1 c2
        have HN' : Hid (Dv.words (W.take (k + 1)) = some (X ++ [(Sm.num10 p0, Sm.num10 p1, Sm.num10 p2)])) := HN
        clear HN hs1 hx1 hl hp3 h3
        generalize Sm.num10 p0 = A at c0 HN'
        generalize Sm.num10 p1 = B at c1 HN'
        generalize Sm.num10 p2 = C at c2 HN'
        go_wp2_with fail
        refine (cs _ hp).mono ?_
        rintro e w2 ⟨a2, cp2, rfl, hrd2, hb2, hnew2⟩
        have hown2 := ownOn hown hb2
        have hrdW := hrd'.below hb2
        have hB2 := behind hb hb2
        have hsz2 := hb2.size
        have hcellW := hcell
        rw [← hb2.cell (p := ⟨b, off + k, none⟩) (World.block_lt_of_cell? wr _ hcell)] at hcellW
        obtain ⟨b2, off2, rfl, m0⟩ := hrd2 0 (by simp)
        obtain ⟨b', off', he, m1⟩ := hrd2 1 (by simp)
        simp only [Option.some.injEq, Addr.mk.injEq, and_true] at he
        obtain ⟨rfl, rfl⟩ := he
        obtain ⟨b', off', he, m2⟩ := hrd2 2 (by simp)
        simp only [Option.some.injEq, Addr.mk.injEq, and_true] at he
        obtain ⟨rfl, rfl⟩ := he
        simp only [Nat.add_zero, List.getElem_cons_zero, List.getElem_cons_succ] at m0 m1 m2
        have hfar : some b2 ≠ u4.ownBlock := by
          intro e
          have h1 := (World.ownsRow.lt hown b2 e.symm).2
          have h2 := hnew2 _ rfl
          exact absurd h1 (by simpa using h2)
        have hlo : ∀ j, u4.ownBlock = some j → w.heap.size ≤ j := fun j e => (World.ownsRow.lt hown j e).1
        clear hrd2 cs hrd' hcell hnew2
        go_wp2_with fail
        go_region_held3 (fun wy => wy.cell? ⟨b2, off2, none⟩ = some (.string ⟨p0.toArray⟩) ∧ wy.cell? ⟨b2, off2 + 1, none⟩ = some (.string ⟨p1.toArray⟩) ∧ wy.cell? ⟨b2, off2 + 2, none⟩ = some (.string ⟨p2.toArray⟩))
          (first | exact ⟨m0, m1, m2⟩ | exact keep3 ⟨m0, m1, m2⟩ (bel1 _ _).drew | exact keepG (keep3 ⟨m0, m1, m2⟩ (bel1 _ _).drew) hgrow3 hfar | go_keep)
          (first | (refine step_append_lies _ (by rfl) (.tmp 26) (.tmp 40) 25 (by rfl) w.heap.size 36 i0 _ 3 24 Tryd.underlying25 hi hz0 hz1 hz2 rfl (by decide) _ _ _ (by rfl) (World.ownsRow.alloc (show w2.drew.ownsRow _ _ _ _ _ _ from hown2) _) ⟨_, 0, none⟩ 1 1 [.int .i64 A, .int .i64 B, .int .i64 C] (by rfl) rfl three_at three_one (by omega) (by unfold maxLen; omega) (by omega) (by simp; omega) _ rfl ?_; intro g3 cap3 w3 hown3 hgrow3 hat3 hlt3) | (go_at_call_of 22 (Value.string ⟨p0.toArray⟩); refine (c0 _).mono ?_; rintro e w3 ⟨rfl, rfl⟩) | (go_at_call_of 22 (Value.string ⟨p1.toArray⟩); refine (c1 _).mono ?_; rintro e w3 ⟨rfl, rfl⟩) | (go_at_call_of 22 (Value.string ⟨p2.toArray⟩); refine (c2 _).mono ?_; rintro e w3 ⟨rfl, rfl⟩))
        have hbw : b < w2.heap.size := World.block_lt_of_cell? w2 _ hcellW
        have hat4 : u4.ownBlock = some g3 ∨ g3 = w2.heap.size + 1 := by
          rcases hat3 with h | h
          · exact .inl h
          · refine .inr (h.trans ?_)
            show (w2.alloc _).heap.size = _
            simp
        have hgA : w2.grownBy w3 u4.ownBlock := grownC (grownC (World.grownBy_alloc w2 _ u4.ownBlock) (grownD _ _)) hgrow3
        have hrd3 := hrdW.grown hgA (fun x hx => hne x hx)
        have hB3 : Below w.heap.size w w3 := hB2.grown hgA (by omega) hlo
        have ho3 : w3.ownsRow w.heap.size 36 3 (.slice (some ⟨g3, 0, none⟩) (X.length + 1) cap3) (X ++ [(A, B, C)]).length (Ss (X ++ [(A, B, C)])) := by
          rw [Ss_snoc, List.length_append]; exact hown3
        have hs3 := hgA.size
        have hne3 : ∀ x, some (⟨b, off, none⟩ : Addr) = some x → some x.block ≠ (Value.slice (some ⟨g3, 0, none⟩) (X.length + 1) cap3).ownBlock := by
          intro x hx e
          cases hx
          simp [Value.ownBlock] at e
          rcases hat4 with h | h
          · exact hne _ rfl (by rw [h, e])
          · omega
        clear hown3 hgrow3 hat3 hat4 m0 m1 m2 hgA
        go_wp2
        go_roundw
        case rel => exact ⟨k + 1, X ++ [(A, B, C)], by omega, by simp; omega, by go_num, HN', ho3, hrd3, hne3, hB3, by omega⟩
        case measure => simp [intOf]; omega
      · have e := hs1.out (Dv.word_few h3)
        subst e
        generalize Pc.pieces 58 p = P at h3 cs
        have h3b : (((P.length : Nat) : Int) == 3) = false := by simp; omega
        clear hs1 hx1
        go_wp2_with fail
        refine (cs _ hp).mono ?_
        rintro e w2 ⟨a2, cp2, rfl, hrd2, hb2, -⟩
        go_wp2
        go_ret2
        exact ⟨_, _, rfl, fun i h => by simp at h, behind (behind hb hb2) (bel1 _ _)⟩
    · have hE := HE.out k X hlt HX.out
      obtain ⟨a3, cp3, rfl, hrX⟩ := Ss_rd hown
      have cD := fun w hr => specDevs a3 cp3 X w (by omega) hr
      clear HE HS HL HX hne
      cases hD : Dv.devs X with
      | true =>
        rw [hD] at hE cD
        rw [if_pos rfl] at hE
        subst hE
        clear hD
        go_wp2_with fail
        refine (cD _ hrX).mono ?_
        rintro e w3 ⟨rfl, hb3⟩
        have hr3 := hrX.below hb3
        go_wp2
        go_ret2
        exact ⟨_, _, rfl, hr3, behind hb hb3⟩
      | false =>
        rw [hD] at hE cD
        rw [if_neg (by simp)] at hE
        subst hE
        clear hD
        go_wp2_with fail
        refine (cD _ hrX).mono ?_
        rintro e w3 ⟨rfl, hb3⟩
        go_wp2
        go_ret2
        exact ⟨_, _, rfl, fun i h => by simp at h, behind (behind hb hb3) (bel1 _ _)⟩
end Go.Proofs.YtekjnfkmjmmcmamDoor.Wk
