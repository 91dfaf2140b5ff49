/- What GetFile of the specification comes to where a part cannot be read, the dead's sign is no sign or the length does not fit (the rest: walks/GfG.txt, unfinished). -/
import Derived.Test.YtpejeoekpejbladFgS
import Derived.Test.YtpejeoekpejbladFpS
import Derived.Test.YtpejeoekpejbladFlT
import Derived.Test.YtpejeoekpejbladGetTextW
namespace Go.Proofs.Ytpejeoekpejblad.Wk
set_option linter.unusedVariables false
open Go.ChangeShapes Go.WideShapes Go.ChangeAt Go.RowKit

/-- what is told of a file that is read -/
def FileRet (w : World) (o : Option Fl) (e : Ending) (w' : World) : Prop := match o with
  | none => e = .returned (.tuple #[.agg #[.int .i64 0, .int .i64 0, .int .i64 0, .bool false, .slice none 0 0], .bool false])
  | some x => ∃ (g c : Nat), e = .returned (.tuple #[.agg #[.int .i64 x.1, .int .i64 x.2.1, .int .i64 x.2.2.1, .bool x.2.2.2.1, .slice (some ⟨g, 0, none⟩) x.2.2.2.2.length c], .bool true]) ∧ OwnB w' w.heap.size (.slice (some ⟨g, 0, none⟩) x.2.2.2.2.length c) x.2.2.2.2

theorem Slot.grownT {w w' : World} {b C : Nat} {t q n : Int} (h : Slot w b t q n) (hg : w.grownBy w' (some C)) (hne : b ≠ C) : Slot w' b t q n := by
  obtain ⟨⟨h0, h1, h2⟩, f0, f1, f2⟩ := h
  have a0 := cellGrownT ⟨h0, f0⟩ hg hne
  have a1 := cellGrownT ⟨h1, f1⟩ hg hne
  have a2 := cellGrownT ⟨h2, f2⟩ hg hne
  exact ⟨⟨a0.1, a1.1, a2.1⟩, a0.2, a1.2, a2.2⟩

set_option maxHeartbeats 4000000 in
set_option maxRecDepth 100000 in
theorem specGetFile_bad (a : Option Addr) (cap : Nat) (l : List UInt8) (w : World) (hl : l.length ≤ 1048576) (hcap : l.length ≤ cap) (hcm : cap ≤ maxLen) (hr : RdA w a l) (hG : gGood l = false) :
    Calls Try.prog 15 #[.slice a l.length cap] w fun e w' => FileRet w (getF l) e w' ∧ Below w.heap.size w w' := by
  have b0 := bel1 w (.cells #[.int .i64 0, .int .i64 0, .int .i64 0, .bool false, .slice none 0 0] 27)
  have hr0 := hr.below b0
  have s0 := slot5fNew w (.int .i64 0) (.int .i64 0) (.int .i64 0) (.bool false) (.slice none 0 0) 27
  have cS := specGetStamp a cap l 0 (w.alloc (.cells #[.int .i64 0, .int .i64 0, .int .i64 0, .bool false, .slice none 0 0] 27)) hl hr0
  have cD := fun w hr => specGetNum a cap l (np (gS3 l)) w hl hr
  have cX := fun w hr => specGetText a cap l (np (gD l)) w hl hcap hcm hr
  have hX := tp_le l (np (gD l))
  have hR : getF l = none := by unfold getF; rw [hG]; rfl
  unfold getStampV at cS
  change Calls _ _ _ _ fun e w' => e = .returned (.tuple #[.agg #[.int .i64 (nv (gS1 l)), .int .i64 (nv (gS2 l)), .int .i64 (nv (gS3 l))], .int .i64 (np (gS3 l)), .bool (gOk l)]) ∧ _ at cS
  change ∀ w hr, Calls _ _ _ _ fun e w' => e = .returned (numV (gD l)) ∧ _ at cD
  change ∀ w hr, Calls _ _ _ _ fun e w' => e = .returned (textV (gX l)) ∧ _ at cX
  simp only [numV_eq] at cD
  simp only [textV_eq] at cX
  change 0 ≤ tp (gX l) ∧ tp (gX l) ≤ l.length ∧ (tv (gX l)).length ≤ l.length at hX
  unfold gGood at hG
  rw [hR]
  clear hR
  generalize nv (gS1 l) = T at cS
  generalize nv (gS2 l) = Q at cS
  generalize nv (gS3 l) = N at cS
  generalize np (gS3 l) = P at cS cD
  generalize gOk l = k1 at cS hG
  generalize nv (gD l) = dn at cD hG
  generalize np (gD l) = q at cD cX
  generalize (gD l).isSome = k2 at cD hG
  generalize tv (gX l) = data at cX hX
  generalize tp (gX l) = r at cX hX hG
  generalize (gX l).isSome = k3 at cX hG
  have hr1 : ∀ w1, Below (w.alloc (.cells #[.int .i64 0, .int .i64 0, .int .i64 0, .bool false, .slice none 0 0] 27)).heap.size (w.alloc (.cells #[.int .i64 0, .int .i64 0, .int .i64 0, .bool false, .slice none 0 0] 27)) w1 → RdA (w1.alloc (.cells #[.int .i64 T, .int .i64 Q, .int .i64 N] 25)) a l ∧ Slot5f (w1.alloc (.cells #[.int .i64 T, .int .i64 Q, .int .i64 N] 25)) w.heap.size (.int .i64 0) (.int .i64 0) (.int .i64 0) (.bool false) (.slice none 0 0) ∧ Below w.heap.size w (w1.alloc (.cells #[.int .i64 T, .int .i64 Q, .int .i64 N] 25)) := fun w1 hb =>
    ⟨(hr0.below hb).below (bel1 _ _), (s0.below hb).below (bel1 _ _), behind (behind b0 hb) (bel1 _ _)⟩
  have HB : k1 = false ∨ (k1 = true ∧ k2 = false) ∨ (k1 = true ∧ k2 = true ∧ k3 = false) ∨ (k1 = true ∧ k2 = true ∧ k3 = true ∧ ¬ dn ≤ 1) ∨ (k1 = true ∧ k2 = true ∧ k3 = true ∧ dn ≤ 1 ∧ ¬ r + 4 = l.length) := by
    cases k1 <;> cases k2 <;> cases k3 <;> simp at hG ⊢
    by_cases h1 : dn ≤ 1
    · exact .inr ⟨h1, hG h1⟩
    · exact .inl (by omega)
  clear hG
  go_enter Try.func15, Try.ntmps15
  go_wp2_with fail
  refine cS.mono ?_
  rintro e w1 ⟨rfl, hb1⟩
  obtain ⟨hr2, hs2, hB2⟩ := hr1 w1 hb1
  obtain ⟨⟨c0, c1, c2, c3, c4⟩, f0, f1, f2, f3, f4⟩ := (show _ from hs2)
  go_wp2_with fail
  refine (cD _ hr2).mono ?_
  rintro e w2 ⟨rfl, hw2⟩
  subst hw2
  go_wp2_with fail
  refine (cX _ hr2).mono ?_
  rintro e w3 ⟨rfl, hw3⟩
  subst hw3
  clear cS cD cX hr1
  rcases HB with rfl | ⟨rfl, rfl⟩ | ⟨rfl, rfl, rfl⟩ | ⟨rfl, rfl, rfl, h1⟩ | ⟨rfl, rfl, rfl, h1, h2⟩
  · go_wp2
    obtain ⟨z0, z1, z2, z3, z4⟩ := (hs2.set (.int .i64 0) (.int .i64 0) (.int .i64 0) (.bool false) (.slice none 0 0)).1
    exact bodyPost_ret (v := .tuple #[.agg #[.int .i64 0, .int .i64 0, .int .i64 0, .bool false, .slice none 0 0], .bool false]) (by simp [results, Try.results15, go_sem, z0, z1, z2, z3, z4]) rfl ⟨rfl, set5 hB2 (Nat.le_refl _) _ _ _ _ _⟩
  · go_wp2
    obtain ⟨z0, z1, z2, z3, z4⟩ := (hs2.set (.int .i64 0) (.int .i64 0) (.int .i64 0) (.bool false) (.slice none 0 0)).1
    exact bodyPost_ret (v := .tuple #[.agg #[.int .i64 0, .int .i64 0, .int .i64 0, .bool false, .slice none 0 0], .bool false]) (by simp [results, Try.results15, go_sem, z0, z1, z2, z3, z4]) rfl ⟨rfl, set5 hB2 (Nat.le_refl _) _ _ _ _ _⟩
  · go_wp2
    obtain ⟨z0, z1, z2, z3, z4⟩ := (hs2.set (.int .i64 0) (.int .i64 0) (.int .i64 0) (.bool false) (.slice none 0 0)).1
    exact bodyPost_ret (v := .tuple #[.agg #[.int .i64 0, .int .i64 0, .int .i64 0, .bool false, .slice none 0 0], .bool false]) (by simp [results, Try.results15, go_sem, z0, z1, z2, z3, z4]) rfl ⟨rfl, set5 hB2 (Nat.le_refl _) _ _ _ _ _⟩
  · go_wp2
    obtain ⟨z0, z1, z2, z3, z4⟩ := (hs2.set (.int .i64 0) (.int .i64 0) (.int .i64 0) (.bool false) (.slice none 0 0)).1
    exact bodyPost_ret (v := .tuple #[.agg #[.int .i64 0, .int .i64 0, .int .i64 0, .bool false, .slice none 0 0], .bool false]) (by simp [results, Try.results15, go_sem, z0, z1, z2, z3, z4]) rfl ⟨rfl, set5 hB2 (Nat.le_refl _) _ _ _ _ _⟩
  · have hdn : ¬ 1 < dn := by omega
    go_wp2
    obtain ⟨z0, z1, z2, z3, z4⟩ := (hs2.set (.int .i64 0) (.int .i64 0) (.int .i64 0) (.bool false) (.slice none 0 0)).1
    exact bodyPost_ret (v := .tuple #[.agg #[.int .i64 0, .int .i64 0, .int .i64 0, .bool false, .slice none 0 0], .bool false]) (by simp [results, Try.results15, go_sem, z0, z1, z2, z3, z4]) rfl ⟨rfl, set5 hB2 (Nat.le_refl _) _ _ _ _ _⟩
    · exact absurd (‹dn ≤ 1 ∧ (r + 4 != (l.length : Int)) = false›).2 (by simp [h2])
end Go.Proofs.Ytpejeoekpejblad.Wk
