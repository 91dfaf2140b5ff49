/- A slice of devices that came in, as the row reads it: its devices lie behind its address. -/
import Derived.Test.YtcejeiakgmamdanStL
import Derived.Deep.Slices
import Derived.Deep.Strs
import Derived.OpenShut
namespace Go.Proofs.Ytcejeiakgmamdan.Wk
set_option linter.unusedVariables false
open Go.ChangeShapes Go.WideShapes Go.ChangeAt Go.RowKit

theorem cellsLD : Try.prog.cellsOf 67 = 3 := by kernel_rfl
theorem cellsInD : Try.prog.cellsOf 3 = 1 := by kernel_rfl

/-- what the row tells of a slice of devices -/
def IsDvs (w : World) (a : Option Addr) (len cap : Nat) (l : List Sm.St) : Prop := l.length = len ∧ len ≤ maxLen ∧ RdS w a l

set_option maxRecDepth 100000 in
theorem openDvs {H : Type} {enc : TypeId × Value → H} {W : World} {base : Nat} {spare : Nat → Bool} {held : Bool} {a : Option Addr} {len cap : Nat} {d : DataW H} {p : List MemPlace}
    (h : DataW.Trod enc Try.prog W base spare held 25 (.slice a len cap) d p) : ∃ l : List Sm.St, IsDvs W a len cap l := by
  obtain ⟨fuel, hf⟩ := h
  rcases Go.Deep.open_slice Try.underlying25 hf with ⟨hcs, _⟩ | ⟨x, len', cap', m, n, D, Pl, hcs, hb, hl, hm, hmm, _, hx⟩
  · simp [Value.cells] at hcs
    obtain ⟨rfl, rfl, rfl⟩ := hcs
    exact ⟨[], rfl, Nat.zero_le _, fun i h => by simp at h⟩
  · simp [Value.cells] at hcs
    obtain ⟨rfl, rfl, rfl⟩ := hcs
    have hlm : len ≤ m := by rw [hmm]; split <;> omega
    have key : ∀ i, i < len → ∃ s : Sm.St, ∃ b off, x = ⟨b, off, none⟩ ∧ StAt W b (off + i * 3) s := by
      intro i hi
      obtain ⟨b, off, spot⟩ := x
      have hspot : spot = none := by
        obtain ⟨cs0, h1, h2⟩ := hx 0 (by omega)
        rw [cellsLD] at h1
        obtain ⟨_, hlen, hc⟩ := World.cells?_some h1
        have k0 := hc 0 (by omega)
        rw [List.getElem?_eq_getElem (by omega)] at k0
        simpa [Addr.add] using World.cell?_spot k0
      subst hspot
      obtain ⟨cs', h1, h2⟩ := hx i (by omega)
      rw [cellsLD] at h1
      obtain ⟨_, hlen, hc⟩ := World.cells?_some h1
      match cs', hlen with
      | [c0, c1, c2], _ =>
        obtain ⟨y0, y1, y2, n', _, _, t0, t1, t2⟩ := Go.Deep.trod_struct3 Try.underlying67 h2
        obtain ⟨t, e0, -, -⟩ := DataW.trod_int Try.underlying3 t0
        obtain ⟨q, e1, -, -⟩ := DataW.trod_int Try.underlying3 t1
        obtain ⟨n, e2, -, -⟩ := DataW.trod_int Try.underlying3 t2
        simp [cellsInD] at e0 e1 e2
        subst e0 e1 e2
        have k0 := hc 0 (by omega)
        have k1 := hc 1 (by omega)
        have k2 := hc 2 (by omega)
        rw [add_plain, add_plain] at k0 k1 k2
        exact ⟨(t, q, n), b, off, rfl, k0, k1, k2⟩
    obtain ⟨f, hf⟩ := Go.Deep.choose_lt key
    refine ⟨(List.range len).map f, by simp, Nat.le_trans hl hm, ?_⟩
    intro i hi
    simp at hi
    obtain ⟨b, off, rfl, hs⟩ := hf i hi
    exact ⟨b, off, rfl, by simpa using hs⟩
end Go.Proofs.Ytcejeiakgmamdan.Wk
