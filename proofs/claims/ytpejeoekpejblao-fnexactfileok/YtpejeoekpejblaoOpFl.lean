/- A file that came in, as the row reads it: its data lie behind its address. -/
import Derived.Test.YtpejeoekpejblaoBy
import Derived.Deep.Slices
import Derived.Deep.Strs
import Derived.OpenShut
import Derived.ChangeSame
import Derived.Lib.SmallJoins
namespace Go.Proofs.Ytpejeoekpejblao.Wk
set_option linter.unusedVariables false
open Go.ChangeShapes Go.WideShapes Go.ChangeAt Go.RowKit

theorem cellsFl5 : Try.prog.cellsOf 53 = 5 := by kernel_rfl
theorem cellsFlSt : Try.prog.cellsOf 50 = 3 := by kernel_rfl
theorem cellsFlBs : Try.prog.cellsOf 51 = 1 := by kernel_rfl
theorem cellsFlBo : Try.prog.cellsOf 4 = 1 := by kernel_rfl
theorem cellsFlIn : Try.prog.cellsOf 3 = 1 := by kernel_rfl

set_option maxRecDepth 100000 in
theorem openFlV {H : Type} {enc : TypeId × Value → H} {W : World} {base b0 : Nat} {r : Reach} {held : Bool} {v : Value} {d : DataW H} {p : List MemPlace}
    (hv : Value.okWide Try.prog W r b0 53 v) (h : DataW.Trod enc Try.prog W base (fun _ => true) held 53 v d p) :
    ∃ (t q n : Int) (dd : Bool) (a : Option Addr) (len cap : Nat) (zs : List Int), v = .agg #[.int .i64 t, .int .i64 q, .int .i64 n, .bool dd, .slice a len cap] ∧
      (Lit.int .i64 t).wf = true ∧ (Lit.int .i64 q).wf = true ∧ (Lit.int .i64 n).wf = true ∧ IsRow .u8 W a len cap zs := by
  obtain ⟨cs, rfl, hsz⟩ := okWide_struct Try.underlying53 hv
  rw [cellsFl5] at hsz
  obtain ⟨c0, c1, c2, c3, c4, rfl⟩ : ∃ c0 c1 c2 c3 c4, cs = #[c0, c1, c2, c3, c4] := by
    obtain ⟨l⟩ := cs
    match l, hsz with
    | [c0, c1, c2, c3, c4], _ => exact ⟨c0, c1, c2, c3, c4, rfl⟩
  obtain ⟨fuel, hf⟩ := h
  obtain ⟨y0, y1, y2, m, -, -, h0, h1, h2⟩ := Go.Deep.trod_struct3 Try.underlying53 hf
  simp only [Value.cells, cellsFlSt, cellsFlBs, cellsFlBo, List.drop_zero, List.drop_succ_cons, List.take_succ_cons, List.take_zero] at h0 h1 h2
  obtain ⟨z0, z1, z2, k, -, -, g0, g1, g2⟩ := Go.Deep.trod_struct3 Try.underlying50 h0
  simp only [cellsFlIn, List.drop_zero, List.drop_succ_cons, List.take_succ_cons, List.take_zero] at g0 g1 g2
  obtain ⟨t, e0, -, w0⟩ := DataW.trod_int Try.underlying3 g0
  obtain ⟨q, e1, -, w1⟩ := DataW.trod_int Try.underlying3 g1
  obtain ⟨n, e2, -, w2⟩ := DataW.trod_int Try.underlying3 g2
  simp at e0 e1 e2
  subst e0 e1 e2
  obtain ⟨dd, e3, -⟩ := DataW.trod_bool Try.underlying4 h1
  simp at e3
  subst e3
  rcases open_ints Try.underlying51 Try.underlying5 (by kernel_rfl) h2 with ⟨hcs, _⟩ | ⟨x, l, c, zs, hcs, _, hl, hm, hz, _, hcell, hwz⟩
  · simp at hcs
    subst hcs
    exact ⟨t, q, n, dd, none, 0, 0, [], rfl, w0, w1, w2, .inl ⟨rfl, rfl, rfl, rfl⟩⟩
  · simp at hcs
    subst hcs
    exact ⟨t, q, n, dd, some x, l, c, zs, rfl, w0, w1, w2, .inr ⟨_, rfl, hl, hm, by simpa using hz, hcell, hwz⟩⟩
end Go.Proofs.Ytpejeoekpejblao.Wk
