/- A text that is appended to a new empty row, at a step of a region that draws its order. -/
import Derived.Test.YtpejeoekpejbladBy
import Derived.Deep.AppendLies
namespace Go.Proofs.Ytpejeoekpejblad.Wk
set_option linter.unusedVariables false
open Go.ChangeShapes Go.WideShapes Go.ChangeAt Go.RowKit

theorem step_appStr (w : World) {ops : Array Oper} {o : Oper} {a : Act} {K : Act → World → Prop} {Q : Exit → Act → World → Prop} {E : Prop} (hgd : o.guard = none) (s x : Operand)
    (ho : o.op = .call { callee := .builtin .append, args := #[s, x], argTypes := #[22, 9] })
    (g : Nat) (hs : a.eval s = .slice (some ⟨g, 0, none⟩) 0 0) (hown : OwnB w g (.slice (some ⟨g, 0, none⟩) 0 0) []) (data : List UInt8) (hx : a.eval x = .string ⟨data.toArray⟩)
    (hl : data.length ≤ 1048576)
    (h : ∀ g' c' w', OwnB w' g (.slice (some ⟨g', 0, none⟩) data.length c') data → g' < w'.heap.size → w.grownBy w' (some g) → K (a.put o.dst (.slice (some ⟨g', 0, none⟩) data.length c')) w') :
    if Region.wanted o (yielded ops a.tmps) = true then Oper.wp Try.prog o a w K Q else E := by
  have hw : Region.wanted o (yielded ops a.tmps) = true := by simp [Region.wanted, hgd]
  rw [if_pos hw]
  obtain ⟨i0, hi, hz0, hz1, hz2⟩ := info_parts Try.info5
  have hg : g < w.heap.size := (World.ownsRow.lt hown g rfl).2
  have hsz : (⟨data.toArray⟩ : ByteArray).size = data.length := rfl
  obtain ⟨v', w', hrun, h2, h3, h4⟩ := Lib.run_append_own_string (P := Try.prog) w g 22 9 o.type 5 i0 Try.underlying22 Try.underlying9 hi hz0 hz1 hz2 _ 0 [] hown ⟨data.toArray⟩ (by unfold maxLen; omega) (by omega) (by omega)
  unfold Oper.wp execOp
  simp only [ho, resolve, invoke, builtin, Sem.run_bind, Sem.run_pure, Result.andThen_ok, List.map_toArray, List.map_cons, List.map_nil, hs, hx, hrun]
  have ho := OwnB.text (l := []) h2
  rw [List.nil_append] at ho
  have ho' : OwnB w' g v' data := ho
  rcases (show w'.ownsRow g 5 1 v' data.length (By data) from ho').2 with ⟨e, -⟩ | ⟨g', c', cur, rfl, -, hh, -⟩
  · have := (h4.1 e).1
    simp at this
  · exact h g' c' w' ho' (Array.getElem?_eq_some_iff.1 hh).1 h3
end Go.Proofs.Ytpejeoekpejblad.Wk
