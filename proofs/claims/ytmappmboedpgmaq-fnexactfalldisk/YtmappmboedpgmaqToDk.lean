/- What the laws' toNamedS, toDisk and szDisk come to: the same names and bytes in memory of its own; how much there is. -/
import Derived.Test.YtmappmboedpgmaqByW
import Derived.Test.YtmappmboedpgmaqCfI
import Derived.Test.YtmappmboedpgmaqNeS
import Derived.Test.YtmappmboedpgmaqOpDk
namespace Go.Proofs.Ytmappmboedpgmaq.Wk
set_option linter.unusedVariables false
open Go.ChangeShapes Go.WideShapes Go.ChangeAt Go.RowKit

set_option maxHeartbeats 2000000 in
set_option maxRecDepth 100000 in
theorem toNamed (s : ByteArray) (a : Option Addr) (cap : Nat) (p : List UInt8) (w : World) (hl : p.length ≤ 1048576) (hr : RdA w a p) :
    Calls Try.prog 53 #[.agg #[.string s, .slice a p.length cap]] w fun e w' => ∃ g, e = .returned (.agg #[.string s, .slice (some ⟨g, 0, none⟩) p.length p.length]) ∧ OwnB w' (w.heap.size + 1) (.slice (some ⟨g, 0, none⟩) p.length p.length) p ∧ Below w.heap.size w w' := by
  have b0 := bel3 w (.cells #[.string s, .slice a p.length cap] 76) (.cells #[.string ⟨#[]⟩, .slice none 0 0] 57) (.cells #[.string ⟨#[]⟩, .slice none 0 0] 57)
  have q0 : (w.alloc (.cells #[.string s, .slice a p.length cap] 76)).cell? ⟨w.heap.size, 0, none⟩ = some (.string s) := by rw [World.cell?_alloc_at _ _ _ _ rfl]; rfl
  have q1 : (w.alloc (.cells #[.string s, .slice a p.length cap] 76)).cell? ⟨w.heap.size, 1, none⟩ = some (.slice a p.length cap) := by rw [World.cell?_alloc_at _ _ _ _ rfl]; rfl
  have bb := (bel2 (w.alloc (.cells #[.string s, .slice a p.length cap] 76)) (.cells #[.string ⟨#[]⟩, .slice none 0 0] 57) (.cells #[.string ⟨#[]⟩, .slice none 0 0] 57))
  have Q0 := cellNd q0 bb
  have Q1 := cellNd q1 bb
  have s1 := (slot2dNew (w.alloc (.cells #[.string s, .slice a p.length cap] 76)) (.string ⟨#[]⟩) (.slice none 0 0) 57).below (bel1 _ (.cells #[.string ⟨#[]⟩, .slice none 0 0] 57))
  have s2 := slot2dNew ((w.alloc (.cells #[.string s, .slice a p.length cap] 76)).alloc (.cells #[.string ⟨#[]⟩, .slice none 0 0] 57)) (.string ⟨#[]⟩) (.slice none 0 0) 57
  have hsz : (((w.alloc (.cells #[.string s, .slice a p.length cap] 76)).alloc (.cells #[.string ⟨#[]⟩, .slice none 0 0] 57)).alloc (.cells #[.string ⟨#[]⟩, .slice none 0 0] 57)).heap.size = w.heap.size + 3 := by simp
  rw [World.size_alloc] at s1
  rw [World.size_alloc, World.size_alloc] at s2
  have hR := hr.below b0
  clear bb q0 q1
  go_enter Try.func53, Try.ntmps53
  go_upto_region 2 with fail
  generalize ((w.alloc (.cells #[.string s, .slice a p.length cap] 76)).alloc (.cells #[.string ⟨#[]⟩, .slice none 0 0] 57)).alloc (.cells #[.string ⟨#[]⟩, .slice none 0 0] 57) = wA at *
  have t0 : (wA.setCell ⟨w.heap.size + 1 + 1, 0, none⟩ (.string s)).cell? ⟨w.heap.size, 0, none⟩ = some (.string s) := by rw [World.cell?_setCell_other _ _ _ _ (by simp)]; exact Q0
  have t1 : (wA.setCell ⟨w.heap.size + 1 + 1, 0, none⟩ (.string s)).cell? ⟨w.heap.size, 1, none⟩ = some (.slice a p.length cap) := by rw [World.cell?_setCell_other _ _ _ _ (by simp)]; exact Q1
  have T1 := s1.other (b' := w.heap.size + 1 + 1) (o := 0) (x := .string s) (by omega)
  have T2 := s2.put0 (x := .string s)
  have hR2 : RdA (wA.setCell ⟨w.heap.size + 1 + 1, 0, none⟩ (.string s)) a p := by
    have hB : Below w.heap.size w (wA.setCell ⟨w.heap.size + 1 + 1, 0, none⟩ (.string s)) := b0.setCell (by show w.heap.size ≤ w.heap.size + 1 + 1; omega) _
    exact hr.below hB
  have b1 : Below w.heap.size w (wA.setCell ⟨w.heap.size + 1 + 1, 0, none⟩ (.string s)) := b0.setCell (by show w.heap.size ≤ w.heap.size + 1 + 1; omega) _
  have hs1 : (wA.setCell ⟨w.heap.size + 1 + 1, 0, none⟩ (.string s)).heap.size = w.heap.size + 3 := by simp [hsz]
  obtain ⟨⟨y0, y1⟩, y2, y3⟩ := id s2
  go_upto_region 3 with fail
  generalize wA.setCell ⟨w.heap.size + 1 + 1, 0, none⟩ (.string s) = wB at *
  clear Q0 Q1 s1 s2 y0 y1 y2 y3 hR b0
  go_wp2_with fail
  go_at_call 68
  refine (toByteS a cap p wB hl hR2).mono ?_
  rintro e w2 ⟨rfl, ho, hb2⟩
  have hs1' : w.heap.size + 3 ≤ wB.heap.size := Nat.le_of_eq hs1.symm
  have B2 := behind b1 hb2
  have X1 := T1.below hb2
  have X2 := T2.below hb2
  have ho' := ownFarB (b := w.heap.size + 1 + 1) (o := 1) (u := .slice (some ⟨wB.heap.size, 0, none⟩) p.length p.length) ho (by omega)
  have X1' := X1.other (b' := w.heap.size + 1 + 1) (o := 1) (x := .slice (some ⟨wB.heap.size, 0, none⟩) p.length p.length) (by omega)
  have X2' := X2.put1 (x := .slice (some ⟨wB.heap.size, 0, none⟩) p.length p.length)
  have B3 : Below w.heap.size w (w2.setCell ⟨w.heap.size + 1 + 1, 1, none⟩ (.slice (some ⟨wB.heap.size, 0, none⟩) p.length p.length)) := B2.setCell (by show w.heap.size ≤ w.heap.size + 1 + 1; omega) _
  obtain ⟨⟨y0, y1⟩, y2, y3⟩ := id X2
  clear hs1 t0 t1 T1 T2 X1
  generalize hG : wB.heap.size = g at *
  go_upto_region 4 with fail
  generalize w2.setCell ⟨w.heap.size + 1 + 1, 1, none⟩ (.slice (some ⟨g, 0, none⟩) p.length p.length) = wC at *
  clear y0 y1 y2 y3 X2
  obtain ⟨⟨y0, y1⟩, y2, y3⟩ := id X2'
  obtain ⟨⟨z0, z1⟩, z2, z3⟩ := id X1'
  obtain ⟨n0, n1⟩ := boxSet (v1 := .string s) (v2 := .slice (some ⟨g, 0, none⟩) p.length p.length) z0 z1
  have FA : OwnB ((wC.setCell ⟨w.heap.size + 1, 0, none⟩ (.string s)).setCell ⟨w.heap.size + 1, 1, none⟩ (.slice (some ⟨g, 0, none⟩) p.length p.length)) (w.heap.size + 1) (.slice (some ⟨g, 0, none⟩) p.length p.length) p ∧ Below w.heap.size w ((wC.setCell ⟨w.heap.size + 1, 0, none⟩ (.string s)).setCell ⟨w.heap.size + 1, 1, none⟩ (.slice (some ⟨g, 0, none⟩) p.length p.length)) :=
    ⟨ownBase (ownFarB (ownFarB ho' (by omega)) (by omega)) (by omega), setBelow B3 (by omega) _ _⟩
  go_wp2
  exact bodyPost_ret (v := .agg #[.string s, .slice (some ⟨g, 0, none⟩) p.length p.length]) (by simp [results, Try.results53, go_sem, n0, n1]) rfl ⟨g, rfl, FA.1, FA.2⟩
end Go.Proofs.Ytmappmboedpgmaq.Wk
