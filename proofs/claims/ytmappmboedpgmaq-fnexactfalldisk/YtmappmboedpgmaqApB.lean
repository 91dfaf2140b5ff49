/- append of bytes to a row of one's own, whether the bytes are nil or not. -/
import Derived.Test.YtmappmboedpgmaqBy
import Derived.Test.YtmappmboedpgmaqStB
import Derived.Laws.OwnMore
import Derived.Laws.AppendOwn
import Derived.Deep.AppendLies
import Derived.Maps.AppendAt
import Derived.Deep.RegionLaw
namespace Go.Proofs.Ytmappmboedpgmaq.Wk
set_option linter.unusedVariables false
open Go.ChangeShapes Go.WideShapes Go.ChangeAt Go.RowKit

theorem wp_appB (w : World) {o : Oper} {a : Act} {K : Act → World → Prop} {Q : Exit → Act → World → Prop} (s x : Operand)
    (ho : o.op = .call { callee := .builtin .append, args := #[s, x], argTypes := #[55, 55] })
    (base : Nat) (v : Value) (xs : List UInt8) (hs : a.eval s = v) (hown : OwnB w base v xs) (b : Option Addr) (c : Nat) (ms : List UInt8) (hx : a.eval x = .slice b ms.length c) (hr : RdA w b ms) (hbc : b = none → c = 0)
    (hl : xs.length + ms.length ≤ 4194304) (hbase : base ≤ w.heap.size)
    (h : ∀ v' w', OwnB w' base v' (xs ++ ms) → w.grownBy w' v.ownBlock → K (a.put o.dst v') w') : o.wp Try.prog a w K Q := by
  obtain ⟨j0, hj0, hy0, hy1, hy2⟩ := info_parts Try.info5
  cases b with
  | none =>
    have hm : ms = [] := by
      cases ms with
      | nil => rfl
      | cons y r =>
        obtain ⟨_, _, e, _⟩ := hr 0 (by simp)
        cases e
    subst hm
    obtain rfl := hbc rfl
    have hrun := run_append_owned_none (P := Try.prog) (w := w) base 55 o.type 5 j0 1 Try.underlying55 hj0 v xs.length (By xs) hown
    have hk := h v w (by rw [List.append_nil]; exact hown) ⟨rfl, rfl, rfl, Nat.le_refl _, fun _ _ _ => rfl⟩
    unfold Oper.wp
    simp only [List.length_nil] at hx
    simp [execOp, ho, resolve, invoke, builtin, hs, hx, hrun, Result.andThen]
    exact hk
  | some ad =>
    refine wp_append_own w s x 55 ho base 5 j0 _ 1 1 Try.underlying55 hj0 hy0 hy1 hy2 rfl (by decide) v xs.length (By xs) hs hown ad ms.length c (By ms) hx (by rw [By_length, Nat.mul_one]) (RdA.news hr) (By_one ms) (by unfold maxLen; omega) (by omega) hbase ?_
    intro v' w' h2 h3 _
    exact h v' w' (by unfold OwnB; rw [List.length_append, By_append]; exact h2) h3
theorem wpList_appB (w : World) {ops : Array Oper} {rest : List Oper} {o : Oper} {a : Act} {Q : Exit → Act → World → Prop} (hgd : o.guard = none) (s x : Operand)
    (ho : o.op = .call { callee := .builtin .append, args := #[s, x], argTypes := #[55, 55] })
    (base : Nat) (v : Value) (xs : List UInt8) (hs : a.eval s = v) (hown : OwnB w base v xs) (b : Option Addr) (c : Nat) (ms : List UInt8) (hx : a.eval x = .slice b ms.length c) (hr : RdA w b ms) (hbc : b = none → c = 0)
    (hl : xs.length + ms.length ≤ 4194304) (hbase : base ≤ w.heap.size)
    (h : ∀ v' w', OwnB w' base v' (xs ++ ms) → w.grownBy w' v.ownBlock → wpList Try.prog ops Q rest (a.put o.dst v') w') : wpList Try.prog ops Q (o :: rest) a w :=
  wpList_plain hgd fun _ hK => wp_appB w s x ho base v xs hs hown b c ms hx hr hbc hl hbase fun v' w' h2 h3 => hK _ _ (h v' w' h2 h3)
theorem step_appB (w : World) {ops : Array Oper} {o : Oper} {a : Act} {K : Act → World → Prop} {Q : Exit → Act → World → Prop} {E : Prop} (hgd : o.guard = none) (s x : Operand)
    (ho : o.op = .call { callee := .builtin .append, args := #[s, x], argTypes := #[55, 55] })
    (base : Nat) (v : Value) (xs : List UInt8) (hs : a.eval s = v) (hown : OwnB w base v xs) (b : Option Addr) (c : Nat) (ms : List UInt8) (hx : a.eval x = .slice b ms.length c) (hr : RdA w b ms) (hbc : b = none → c = 0)
    (hl : xs.length + ms.length ≤ 4194304) (hbase : base ≤ w.heap.size)
    (h : ∀ v' w', OwnB w' base v' (xs ++ ms) → w.grownBy w' v.ownBlock → K (a.put o.dst v') w') :
    if Region.wanted o (yielded ops a.tmps) = true then Oper.wp Try.prog o a w K Q else E := by
  have hw : Region.wanted o (yielded ops a.tmps) = true := by simp [Region.wanted, hgd]
  rw [if_pos hw]
  exact wp_appB w s x ho base v xs hs hown b c ms hx hr hbc hl hbase h
/-- a row of bytes that was just made, empty -/
theorem emptyBy (w : World) (base : Nat) (h : base ≤ w.heap.size) : OwnB (w.alloc (.cells #[] 5)) base (.slice (some ⟨w.heap.size, 0, none⟩) 0 0) [] := World.ownsRow_made w #[] 0 h (Nat.zero_le _) rfl
theorem By_shape {w : World} {base n : Nat} {v : Value} {l : List Value} (h : w.ownsRow base 5 1 v n l) : ∃ a c, v = .slice a n c := by
  rcases h.2 with ⟨rfl, h0⟩ | ⟨g, cap, cur, e, _⟩
  · exact ⟨none, 0, by rw [h0]⟩
  · exact ⟨_, cap, e⟩
end Go.Proofs.Ytmappmboedpgmaq.Wk
