/- A ring, or a part, that came in, as the row reads it: its lists lie behind its address. -/
import Derived.Test.YtcejeiakgmamdanRgB
import Derived.Deep.Slices
import Derived.OpenShut
import Derived.ChangeSame
import Derived.Lib.SmallJoins
namespace Go.Proofs.Ytcejeiakgmamdan.Wk
set_option linter.unusedVariables false
open Go.ChangeShapes Go.WideShapes Go.ChangeAt Go.RowKit

theorem cellsIn1 : Try.prog.cellsOf 3 = 1 := by kernel_rfl
theorem cellsIn2 : Try.prog.cellsOf 40 = 1 := by kernel_rfl
theorem cellsPt1 : Try.prog.cellsOf 42 = 1 := by kernel_rfl

set_option maxRecDepth 100000 in
theorem openZs {H : Type} {enc : TypeId × Value → H} {W : World} {base fuel : Nat} {spare : Nat → Bool} {held : Bool} {v : Value} {x : DataW H × List MemPlace}
    (h : DataW.trod enc Try.prog W base spare held fuel 40 [v] = some x) : ∃ (a : Option Addr) (cap : Nat) (l : List Int), v = .slice a l.length cap ∧ l.length ≤ maxLen ∧ RdZ W a l ∧ l.length ≤ cap := by
  rcases open_ints Try.underlying40 Try.underlying3 cellsIn1 h with ⟨hcs, _⟩ | ⟨x, len, cap, zs, hcs, _, hl, hm, hz, _, hcell, hw⟩
  · simp only [List.cons.injEq, and_true] at hcs
    exact ⟨none, 0, [], hcs, Nat.zero_le _, fun i h => by simp at h, Nat.zero_le _⟩
  · simp only [List.cons.injEq, and_true] at hcs
    have hzl : len ≤ zs.length := by rw [hz]; split <;> omega
    have hlen : (zs.take len).length = len := by rw [List.length_take]; omega
    refine ⟨some x, cap, zs.take len, by rw [hlen]; exact hcs, by rw [hlen]; omega, ?_, by rw [hlen]; exact hl⟩
    intro i hi
    rw [hlen] at hi
    obtain ⟨b, off, spot⟩ := x
    have hspot : spot = none := by
      have k0 := hcell 0 (by omega)
      simpa [Addr.add] using World.cell?_spot k0
    subst hspot
    refine ⟨b, off, rfl, ?_⟩
    have k := hcell i (by omega)
    rw [add_plain] at k
    rw [k, List.getElem_take]
    simp [List.getD, List.getElem?_eq_getElem (show i < zs.length by omega)]
/-- what the row tells of a slice of parts -/
def IsPts (w : World) (a : Option Addr) (len cap : Nat) (ps : List (List Int)) : Prop := ps.length = len ∧ len ≤ maxLen ∧ (∀ p ∈ ps, p.length ≤ maxLen) ∧ RdP w a ps
set_option maxRecDepth 100000 in
theorem openPt {H : Type} {enc : TypeId × Value → H} {W : World} {base fuel : Nat} {spare : Nat → Bool} {held : Bool} {v : Value} {x : DataW H × List MemPlace}
    (h : DataW.trod enc Try.prog W base spare held fuel 42 [v] = some x) : ∃ (a : Option Addr) (cap : Nat) (l : List Int), v = .slice a l.length cap ∧ l.length ≤ maxLen ∧ RdZ W a l ∧ l.length ≤ cap := by
  obtain ⟨y0, n, _, _, h0⟩ := trod_struct1 Try.underlying42 h
  refine openZs (enc := enc) (base := base) (spare := spare) (held := held) (fuel := n) (x := y0) ?_
  simpa [cellsIn2] using h0
set_option maxRecDepth 100000 in
theorem openPts {H : Type} {enc : TypeId × Value → H} {W : World} {base fuel : Nat} {spare : Nat → Bool} {held : Bool} {v : Value} {x : DataW H × List MemPlace}
    (h : DataW.trod enc Try.prog W base spare held fuel 22 [v] = some x) : ∃ (a : Option Addr) (len cap : Nat) (ps : List (List Int)), v = .slice a len cap ∧ IsPts W a len cap ps := by
  rcases Go.Deep.open_slice1 Try.underlying22 cellsPt1 h with ⟨hcs, _⟩ | ⟨x, len, cap, m, n, V, D, Pl, hcs, hb, hl, hm, hmm, _, hx⟩
  · simp only [List.cons.injEq, and_true] at hcs
    exact ⟨none, 0, 0, [], hcs, rfl, Nat.zero_le _, fun p hp => by simp at hp, fun i h => by simp at h⟩
  · simp only [List.cons.injEq, and_true] at hcs
    have hlm : len ≤ m := by rw [hmm]; split <;> omega
    have key : ∀ i, i < len → ∃ q : List Int × Option Addr × Nat, W.cell? (x.add i) = some (.slice q.2.1 q.1.length q.2.2) ∧ q.1.length ≤ maxLen ∧ RdZ W q.2.1 q.1 ∧ q.1.length ≤ q.2.2 := by
      intro i hi
      obtain ⟨h1, h2⟩ := hx i (by omega)
      obtain ⟨a, c, l, e, h3, h4, h5⟩ := openPt h2
      exact ⟨(l, a, c), by rw [h1, e], h3, h4, h5⟩
    obtain ⟨f, hf⟩ := Go.Deep.choose_lt key
    refine ⟨some x, len, cap, (List.range len).map fun i => (f i).1, hcs, by simp, Nat.le_trans hl hm, ?_, ?_⟩
    · intro p hp
      simp only [List.mem_map, List.mem_range] at hp
      obtain ⟨i, hi, rfl⟩ := hp
      exact (hf i hi).2.1
    · intro i hi
      simp only [List.length_map, List.length_range] at hi
      obtain ⟨h1, -, h3, h4⟩ := hf i hi
      obtain ⟨b, off, spot⟩ := x
      have hspot : spot = none := by simpa [Addr.add] using World.cell?_spot (hf 0 (by omega)).1
      subst hspot
      rw [add_plain] at h1
      refine ⟨b, off, (f i).2.1, (f i).2.2, rfl, ?_, ?_, by simpa using h4⟩
      · simpa using h1
      · simpa using h3
set_option maxRecDepth 100000 in
theorem openPtV {H : Type} {enc : TypeId × Value → H} {W : World} {base b0 : Nat} {r : Reach} {spare : Nat → Bool} {held : Bool} {v : Value} {d : DataW H} {p : List MemPlace}
    (hv : Value.okWide Try.prog W r b0 42 v) (h : DataW.Trod enc Try.prog W base spare held 42 v d p) : ∃ (a : Option Addr) (cap : Nat) (l : List Int), v = .agg #[.slice a l.length cap] ∧ l.length ≤ maxLen ∧ RdZ W a l := by
  obtain ⟨cs, rfl, hsz⟩ := okWide_struct Try.underlying42 hv
  rw [cellsPt1] at hsz
  obtain ⟨c, rfl⟩ : ∃ c, cs = #[c] := by
    obtain ⟨l⟩ := cs
    match l, hsz with
    | [c], _ => exact ⟨c, rfl⟩
  obtain ⟨fuel, hf⟩ := h
  obtain ⟨a, cap, l, rfl, h1, h2, -⟩ := openPt (fuel := fuel) (x := (d, p)) (by simpa [Value.cells] using hf)
  exact ⟨a, cap, l, rfl, h1, h2⟩
theorem cellsRg2 : Try.prog.cellsOf 24 = 2 := by kernel_rfl
set_option maxRecDepth 100000 in
theorem openRgV {H : Type} {enc : TypeId × Value → H} {W : World} {base b0 : Nat} {r : Reach} {spare : Nat → Bool} {held : Bool} {v : Value} {d : DataW H} {p : List MemPlace}
    (hv : Value.okWide Try.prog W r b0 24 v) (h : DataW.Trod enc Try.prog W base spare held 24 v d p) :
    ∃ (n : Int) (a : Option Addr) (len cap : Nat) (ps : List (List Int)), v = .agg #[.int .i64 n, .slice a len cap] ∧ (Lit.int .i64 n).wf = true ∧ IsPts W a len cap ps := by
  obtain ⟨x0, x1, y0, y1, m, rfl, rfl, rfl, hy0, hy1⟩ := Go.Joins.open_agg2 Try.underlying24 (by kernel_rfl) cellsRg2 hv h
  obtain ⟨n, e0, -, hw⟩ := DataW.trod_int Try.underlying3 hy0
  simp only [List.cons.injEq, and_true] at e0
  subst e0
  obtain ⟨a, len, cap, ps, rfl, hP⟩ := openPts hy1
  exact ⟨n, a, len, cap, ps, rfl, hw, hP⟩
end Go.Proofs.Ytcejeiakgmamdan.Wk
