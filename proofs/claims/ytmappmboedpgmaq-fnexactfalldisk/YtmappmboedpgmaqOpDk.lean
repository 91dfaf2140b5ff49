/- A disk that came in, as the row reads it: two lists of named bytes behind their addresses. -/
import Derived.Test.YtmappmboedpgmaqNdB
import Derived.Deep.SlicePairs
import Derived.OpenShut
import Derived.ChangeSame
import Derived.Lib.SmallJoins
namespace Go.Proofs.Ytmappmboedpgmaq.Wk
set_option linter.unusedVariables false
open Go.ChangeShapes Go.WideShapes Go.ChangeAt Go.RowKit

theorem cellsDk2 : Try.prog.cellsOf 24 = 2 := by kernel_rfl
theorem cellsNd2 : Try.prog.cellsOf 76 = 2 := by kernel_rfl
theorem cellsNdB : Try.prog.cellsOf 55 = 1 := by kernel_rfl
theorem cellsNdS : Try.prog.cellsOf 9 = 1 := by kernel_rfl
set_option maxRecDepth 100000 in
theorem openBs {H : Type} {enc : TypeId × Value → H} {W : World} {base fuel : Nat} {spare : Nat → Bool} {held : Bool} {v : Value} {x : DataW H × List MemPlace}
    (h : DataW.trod enc Try.prog W base spare held fuel 55 [v] = some x) : ∃ (a : Option Addr) (cap : Nat) (l : List UInt8), v = .slice a l.length cap ∧ l.length ≤ maxLen ∧ RdA W a l ∧ l.length ≤ cap ∧ (a = none → cap = 0) := by
  rcases open_ints Try.underlying55 Try.underlying5 (by kernel_rfl) h with ⟨hcs, _⟩ | ⟨x, len, cap, zs, hcs, _, hl, hm, hz, _, hcell, hw⟩
  · simp only [List.cons.injEq, and_true] at hcs
    exact ⟨none, 0, [], hcs, Nat.zero_le _, RdA.nil _ _, Nat.zero_le _, fun _ => rfl⟩
  · simp only [List.cons.injEq, and_true] at hcs
    have hzl : zs.length ≤ cap ∧ len ≤ zs.length := by rw [hz]; split <;> omega
    have hR : ∃ l : List UInt8, l.length = len ∧ RdA W (some x) l := by
      refine ⟨(zs.take len).map fun z => UInt8.ofNat z.toNat, by simp; omega, ?_⟩
      intro i hi
      simp at hi
      have hil : i < zs.length := by omega
      obtain ⟨b, off, rfl, hk⟩ := ints_at hcell (by omega)
      refine ⟨b, off, rfl, ?_⟩
      have hb := range_u8 hw i
      rw [hk i (by omega)]
      simp only [List.getElem_map, List.getElem_take, Option.some.injEq, Value.int.injEq, true_and]
      rw [List.getElem?_eq_getElem hil] at hb
      simp only [Option.getD_some] at hb
      rw [List.getD_eq_getElem?_getD, List.getElem?_eq_getElem hil, Option.getD_some]
      simp
      omega
    obtain ⟨l, e, hr⟩ := hR
    exact ⟨some x, cap, l, by rw [e]; exact hcs, by omega, hr, by omega, fun h => by cases h⟩
/-- what the row tells of a list of named bytes -/
def IsNds (w : World) (a : Option Addr) (len cap : Nat) (l : List Nd) : Prop := l.length = len ∧ len ≤ maxLen ∧ (∀ x ∈ l, x.1.size ≤ maxLen ∧ x.2.length ≤ maxLen) ∧ RdNd w a l
set_option maxRecDepth 100000 in
theorem openNds {H : Type} {enc : TypeId × Value → H} {W : World} {base fuel : Nat} {spare : Nat → Bool} {held : Bool} {v : Value} {x : DataW H × List MemPlace}
    (h : DataW.trod enc Try.prog W base spare held fuel 22 [v] = some x) : ∃ (a : Option Addr) (len cap : Nat) (l : List Nd), v = .slice a len cap ∧ IsNds W a len cap l := by
  rcases Go.Deep.open_slice_pairs Try.underlying22 Try.underlying76 cellsNd2 rfl rfl cellsNdS cellsNdB h with ⟨hcs, _⟩ | ⟨x, len, cap, m, n, V0, V1, D0, D1, P0, P1, hcs, hb, hl, hm, hmm, _, hx⟩
  · simp only [List.cons.injEq, and_true] at hcs
    exact ⟨none, 0, 0, [], hcs, rfl, Nat.zero_le _, fun p hp => by simp at hp, RdNd.nil _ _⟩
  · simp only [List.cons.injEq, and_true] at hcs
    have hlm : len ≤ m := by rw [hmm]; split <;> omega
    have key : ∀ i, i < len → ∃ q : Nd × Option Addr × Nat, W.cell? (x.add (i * 2)) = some (.string q.1.1) ∧ W.cell? (x.add (i * 2 + 1)) = some (.slice q.2.1 q.1.2.length q.2.2) ∧ (q.1.1.size ≤ maxLen ∧ q.1.2.length ≤ maxLen) ∧ RdA W q.2.1 q.1.2 ∧ q.1.2.length ≤ q.2.2 ∧ (q.2.1 = none → q.2.2 = 0) := by
      intro i hi
      obtain ⟨h1, h2, h3, h4⟩ := hx i (by omega)
      obtain ⟨s, e1, -, hs⟩ := DataW.trod_string Try.underlying9 h3
      obtain ⟨a, c, l, e2, k1, k2, k3, k4⟩ := openBs h4
      simp only [List.cons.injEq, and_true] at e1
      exact ⟨((s, l), a, c), by rw [h1, e1], by rw [h2, e2], ⟨hs, k1⟩, k2, k3, k4⟩
    obtain ⟨f, hf⟩ := Go.Deep.choose_lt key
    refine ⟨some x, len, cap, (List.range len).map fun i => (f i).1, hcs, by simp, Nat.le_trans hl hm, ?_, ?_⟩
    · intro p hp
      simp only [List.mem_map, List.mem_range] at hp
      obtain ⟨i, hi, rfl⟩ := hp
      exact (hf i hi).2.2.1
    · intro i hi
      simp only [List.length_map, List.length_range] at hi
      obtain ⟨h1, h2, -, h3, h4, h5⟩ := hf i hi
      obtain ⟨b, off, spot⟩ := x
      have hspot : spot = none := by simpa [Addr.add] using World.cell?_spot (hf 0 (by omega)).1
      subst hspot
      rw [add_plain] at h1 h2
      rw [← Nat.add_assoc] at h2
      exact ⟨b, off, (f i).2.1, (f i).2.2, rfl, by simpa using h1, by simpa using h2, by simpa using h3, by simpa using h4, h5⟩
set_option maxRecDepth 100000 in
theorem openDkV {H : Type} {enc : TypeId × Value → H} {W : World} {base b0 : Nat} {r : Reach} {spare : Nat → Bool} {held : Bool} {v : Value} {d : DataW H} {p : List MemPlace}
    (hv : Value.okWide Try.prog W r b0 24 v) (h : DataW.Trod enc Try.prog W base spare held 24 v d p) :
    ∃ (a1 a2 : Option Addr) (n1 n2 c1 c2 : Nat) (l1 l2 : List Nd), v = .agg #[.slice a1 n1 c1, .slice a2 n2 c2] ∧ IsNds W a1 n1 c1 l1 ∧ IsNds W a2 n2 c2 l2 := by
  obtain ⟨x0, x1, y0, y1, m, rfl, rfl, rfl, hy0, hy1⟩ := Go.Joins.open_agg2 Try.underlying24 (by kernel_rfl) cellsDk2 hv h
  obtain ⟨a1, n1, c1, l1, rfl, h1⟩ := openNds hy0
  obtain ⟨a2, n2, c2, l2, rfl, h2⟩ := openNds hy1
  exact ⟨a1, a2, n1, n2, c1, c2, l1, l2, rfl, h1, h2⟩
end Go.Proofs.Ytmappmboedpgmaq.Wk
