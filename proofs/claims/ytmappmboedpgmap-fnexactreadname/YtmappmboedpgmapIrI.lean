/- What ReadName of the program comes to. -/
import Derived.Test.YtmappmboedpgmapPoI
import Derived.Test.YtmappmboedpgmapCbI
import Derived.Test.YtmappmboedpgmapDlS
import Derived.Deep.CutBlock
import Derived.Deep.DeepCutAuto
namespace Go.Proofs.Ytmappmboedpgmap.Wk
set_option linter.unusedVariables false
open Go.ChangeShapes Go.WideShapes Go.ChangeAt Go.RowKit

set_option maxHeartbeats 2000000 in
set_option maxRecDepth 100000 in
theorem implReadName (a1 a2 : Option Addr) (c1 c2 : Nat) (l1 l2 : List Nd) (s : ByteArray) (w : World) (h1 : l1.length ≤ 1048576) (z1 : ∀ x ∈ l1, x.2.length ≤ 1048576) (r1 : RdNd w a1 l1) :
    Calls Try.prog 29 #[.agg #[.slice a1 l1.length c1, .slice a2 l2.length c2], .string s] w fun e w' => ∃ a c, e = .returned (.tuple #[.slice a (ndRead l1 s).length c, .bool (ndAt l1 s).isSome]) ∧ OwnB w' w.heap.size (.slice a (ndRead l1 s).length c) (ndRead l1 s) ∧ Below w.heap.size w w' := by
  have b0 := bel1 w (.cells #[.slice a1 l1.length c1, .slice a2 l2.length c2] 50)
  have s0 := slot2dNew w (.slice a1 l1.length c1) (.slice a2 l2.length c2) 50
  have cP := implPlace a1 c1 l1 s _ h1 (r1.below b0)
  cases hk : ndAt l1 s with
  | none =>
    have e1 : ndRead l1 s = [] := by unfold ndRead; rw [hk]
    rw [e1]
    rw [hk] at cP
    simp only [atN, Option.isSome_none, List.length_nil] at cP ⊢
    go_enter Try.func29, Try.ntmps29
    go_upto_region 1 with fail
    generalize w.alloc (.cells #[.slice a1 l1.length c1, .slice a2 l2.length c2] 50) = wA at *
    obtain ⟨⟨x0, x1⟩, -⟩ := id s0
    go_wp2_with fail
    go_at_call 56
    refine cP.mono ?_
    rintro e w2 ⟨rfl, hb2⟩
    have B2 := behind b0 hb2
    have o3 := emptyBy w2 w.heap.size B2.size
    have b3 := behind B2 (bel1 w2 (.cells #[] 5))
    go_wp2
    exact bodyPost_ret (v := .tuple #[.slice (some ⟨w2.heap.size, 0, none⟩) 0 0, .bool false]) (by simp [results, Try.results29, go_sem]) rfl ⟨_, _, rfl, o3, b3⟩
  | some k =>
    obtain ⟨hkl, -⟩ := List.findIdx?_eq_some_iff_getElem.1 hk
    have e1 : ndRead l1 s = l1[k].2 := by unfold ndRead; rw [hk]; simp [hkl]
    rw [e1]
    rw [hk] at cP
    simp only [atN, Option.isSome_some] at cP ⊢
    obtain ⟨b, off, ai, ci, rfl, c1', c2', hz, hcap, hnil⟩ := r1 k hkl
    have hpl := z1 l1[k] (List.getElem_mem hkl)
    have hk0 : ¬ ((k : Int) < 0) := by omega
    generalize l1[k].2 = p at *
    go_enter Try.func29, Try.ntmps29
    go_upto_region 1 with fail
    generalize w.alloc (.cells #[.slice (some ⟨b, off, none⟩) l1.length c1, .slice a2 l2.length c2] 50) = wA at *
    obtain ⟨⟨x0, x1⟩, -⟩ := id s0
    go_wp2_with fail
    go_at_call 56
    refine cP.mono ?_
    rintro e w2 ⟨rfl, hb2⟩
    have B2 := behind b0 hb2
    obtain ⟨⟨y0, y1⟩, -⟩ := s0.below hb2
    have c3 := cellNd c2' B2
    have z3 := hz.below B2
    have cC := copyBytesN ai ci p w2 hpl z3
    clear x0 x1 s0 cP
    go_wp2_with fail
    go_at_call 42
    refine cC.mono ?_
    rintro e w3 ⟨rfl, ho, hb3⟩
    go_wp2
    exact bodyPost_ret (v := .tuple #[.slice (some ⟨w2.heap.size, 0, none⟩) p.length p.length, .bool true]) (by simp [results, Try.results29, go_sem]) rfl ⟨_, _, rfl, ownBase ho B2.size, behind B2 hb3⟩
end Go.Proofs.Ytmappmboedpgmap.Wk
