/- What idsOf of the program comes to: what a part has, as an array. -/
import Derived.Test.YtoemblcheahbeacCpW
namespace Go.Proofs.Ytoemblcheahbeac.Wk
set_option linter.unusedVariables false
open Go.ChangeShapes Go.WideShapes Go.ChangeAt Go.RowKit

set_option maxHeartbeats 2000000 in
set_option maxRecDepth 100000 in
theorem implIds (a : Option Addr) (ca : Nat) (p : List Int) (w : World) (hp1 : 1 ≤ p.length) (hp5 : p.length ≤ 5) (hr : RdZ w a p) :
    Calls Try.prog 53 #[.agg #[.slice a p.length ca]] w fun e w' => e = .returned (.agg #[.int .i64 (gd p 0), .int .i64 (gd p 1), .int .i64 (gd p 2), .int .i64 (gd p 3), .int .i64 (gd p 4)]) ∧ Below w.heap.size w w' := by
  obtain ⟨b, off, rfl⟩ : ∃ b off, a = some ⟨b, off, none⟩ := by
    obtain ⟨b, off, e, _⟩ := hr 0 (by omega)
    exact ⟨b, off, e⟩
  have s0 := slot1New w (.slice (some ⟨b, off, none⟩) p.length ca) 36
  have b0 := bel1 w (.cells #[.slice (some ⟨b, off, none⟩) p.length ca] 36)
  have hS1 : (w.alloc (.cells #[.slice (some ⟨b, off, none⟩) p.length ca] 36)).heap.size = w.heap.size + 1 := by simp
  obtain ⟨w1, hw1⟩ : ∃ w1, w.alloc (.cells #[.slice (some ⟨b, off, none⟩) p.length ca] 36) = w1 := ⟨_, rfl⟩
  rw [hw1] at s0 b0 hS1
  have r0 : Slot5 (w1.alloc (.cells #[.int .i64 0, .int .i64 0, .int .i64 0, .int .i64 0, .int .i64 0] 82)) w1.heap.size [] := slot5New w1 [] 82
  have b1 := bel1 w1 (.cells #[.int .i64 0, .int .i64 0, .int .i64 0, .int .i64 0, .int .i64 0] 82)
  have hS2 : (w1.alloc (.cells #[.int .i64 0, .int .i64 0, .int .i64 0, .int .i64 0, .int .i64 0] 82)).heap.size = w.heap.size + 1 + 1 := by simp [hS1]
  obtain ⟨w2, hw2⟩ : ∃ w2, w1.alloc (.cells #[.int .i64 0, .int .i64 0, .int .i64 0, .int .i64 0, .int .i64 0] 82) = w2 := ⟨_, rfl⟩
  rw [hw2] at r0 b1 hS2
  have h3 : (w2.alloc (.cells #[.int .i64 0, .int .i64 0, .int .i64 0, .int .i64 0, .int .i64 0] 82)).heap[w2.heap.size]? = some (.cells (five []).toArray 82 (0, 0)) := heapNew w2 [] 82
  have b2 := bel1 w2 (.cells #[.int .i64 0, .int .i64 0, .int .i64 0, .int .i64 0, .int .i64 0] 82)
  obtain ⟨w3, hw3⟩ : ∃ w3, w2.alloc (.cells #[.int .i64 0, .int .i64 0, .int .i64 0, .int .i64 0, .int .i64 0] 82) = w3 := ⟨_, rfl⟩
  rw [hw3] at h3 b2
  rw [hS1] at r0
  rw [hS2] at h3
  have hW : ((w.alloc (.cells #[.slice (some ⟨b, off, none⟩) p.length ca] 36)).alloc (.cells #[.int .i64 0, .int .i64 0, .int .i64 0, .int .i64 0, .int .i64 0] 82)).alloc (.cells #[.int .i64 0, .int .i64 0, .int .i64 0, .int .i64 0, .int .i64 0] 82) = w3 := by rw [hw1, hw2, hw3]
  have hB3 := behind (behind b0 b1) b2
  have s3 := (s0.below b1).below b2
  have r3 := r0.below b2
  have hr3 := hr.below hB3
  have hsz : (Try.prog.info? 3).map (·.size) = some 1 := by kernel_rfl
  have hfill : ((five []).toArray.toList.take 0 ++ Zv p ++ (five []).toArray.toList.drop (0 + (Zv p).length)) = five p := by simpa using five_fill p hp5
  have hlZ : (Zv p).length = Nat.min p.length 5 := by simp [Zv]; exact (Nat.min_eq_left hp5).symm
  have hsrc : ∀ j v, (Zv p)[j]? = some v → w3.cell? ((⟨b, off, none⟩ : Addr).add j) = some v := by
    intro j v hj
    have hjl : j < p.length := by
      have := (List.getElem?_eq_some_iff.1 hj).1
      simpa [Zv] using this
    obtain ⟨b', off', e, hc⟩ := hr3 j hjl
    simp only [Option.some.injEq, Addr.mk.injEq, and_true] at e
    obtain ⟨rfl, rfl⟩ := e
    have hu : v = .int .i64 p[j] := by
      simp [Zv, hjl] at hj
      exact hj.symm
    rw [hu, show (⟨b, off, none⟩ : Addr).add j = ⟨b, off + j, none⟩ from by simp [Addr.add]]
    exact hc
  have HS : Hid (∀ j v, (Zv p)[j]? = some v → w3.cell? ((⟨b, off, none⟩ : Addr).add j) = some v) := hsrc
  have h7 : (w3.drew.setRow (w.heap.size + 1 + 1) (five p).toArray).heap[w.heap.size + 1 + 1]? = some (.cells (five p).toArray 82 (0, 0)) := setRow_heap w3.drew _ _ _ _ _ h3
  have s7 := slot5Of h7
  have r7 := Slot5.row (w := w3.drew) (g := w.heap.size + 1 + 1) r3 (by omega) (five p).toArray
  have hB7 : Below w.heap.size w (w3.drew.setRow (w.heap.size + 1 + 1) (five p).toArray) := below_setRow hB3.drew (by omega) _
  obtain ⟨t0, -⟩ := id s3
  have HF : Hid (((five []).toArray.toList.take 0 ++ Zv p ++ (five []).toArray.toList.drop (0 + (Zv p).length)) = five p) := hfill
  have HL : Hid ((Zv p).length = Nat.min p.length 5) := hlZ
  have HN : Hid (0 + (Zv p).length ≤ (five []).toArray.size) := by show 0 + (Zv p).length ≤ 5; have e : (Zv p).length = p.length := (by simp [Zv]); omega
  clear hw1 hw2 hw3 s0 b0 b1 b2 r0 hsrc hfill hlZ hr3 hr h7
  go_enter Try.func53, Try.ntmps53
  go_wp2
  go_region_law (first | (refine step_copyR (by rfl) (.tmp 4) (.tmp 6) 32 32 (by rfl) 3 Try.underlying32 hsz (w.heap.size + 1 + 1) 0 5 5 ⟨b, off, none⟩ p.length ca (by rfl) (by rfl) (five []).toArray 82 (by exact h3) (Zv p) HL.out (by exact HS.out) HN.out (Zv_cell p) ?_; rw [HF.out]) | fail)
  all_goals
    obtain ⟨⟨c0, c1, c2, c3, c4⟩, -⟩ := s7.out
    obtain ⟨⟨d0, d1, d2, d3, d4⟩, f0, f1, f2, f3, f4⟩ := r7.out
    generalize w3.drew.setRow (w.heap.size + 1 + 1) (five p).toArray = w7 at s7 r7 hB7 c0 c1 c2 c3 c4 d0 d1 d2 d3 d4 f0 f1 f2 f3 f4 ⊢
    go_wp2
    obtain ⟨e0, e1, e2, e3, e4⟩ := store5 r7 (.int .i64 (gd p 0)) (.int .i64 (gd p 1)) (.int .i64 (gd p 2)) (.int .i64 (gd p 3)) (.int .i64 (gd p 4))
    refine bodyPost_ret (v := .agg #[.int .i64 (gd p 0), .int .i64 (gd p 1), .int .i64 (gd p 2), .int .i64 (gd p 3), .int .i64 (gd p 4)]) (by simp [results, Try.results53, go_sem, e0, e1, e2, e3, e4]) rfl ⟨rfl, below5 hB7 (by omega) _ _ _ _ _⟩
end Go.Proofs.Ytoemblcheahbeac.Wk
