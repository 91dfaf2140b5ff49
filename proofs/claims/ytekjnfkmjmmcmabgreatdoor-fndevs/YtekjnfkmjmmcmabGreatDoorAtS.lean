/- What DevAt and l4Has of the specification come to. -/
import Derived.Test.YtekjnfkmjmmcmabGreatDoorStL
namespace Go.Proofs.YtekjnfkmjmmcmabGreatDoor.Dv
/-- the first device of this Id -/
def at_ (l : List Sm.St) (id : Int) : Option Sm.St := l.find? fun x => x.1 == id
theorem at_no {l : List Sm.St} {id : Int} {k : Nat} (hk : k < l.length) (h : l.take k |>.all fun x => !(x.1 == id)) (hx : ¬ l[k].1 = id) : (l.take (k + 1)).all fun x => !(x.1 == id) := by
  rw [List.take_succ_eq_append_getElem hk, List.all_append, h]
  simp [hx]
theorem at_yes {l : List Sm.St} {id : Int} {k : Nat} (hk : k < l.length) (h : l.take k |>.all fun x => !(x.1 == id)) (hx : l[k].1 = id) : at_ l id = some l[k] := by
  have e : l = l.take k ++ l[k] :: l.drop (k + 1) := by rw [← List.drop_eq_getElem_cons hk, List.take_append_drop]
  have hn : (l.take k).find? (fun x => x.1 == id) = none := by
    rw [List.find?_eq_none]
    intro x hxm
    have := List.all_eq_true.1 h x hxm
    simpa using this
  unfold at_
  conv => lhs; rw [e]
  rw [List.find?_append, hn, List.find?_cons_of_pos (by simp [hx])]
  rfl
theorem at_end {l : List Sm.St} {id : Int} {k : Nat} (hk : ¬ k < l.length) (h : l.take k |>.all fun x => !(x.1 == id)) : at_ l id = none := by
  rw [List.take_of_length_le (by omega)] at h
  unfold at_
  rw [List.find?_eq_none]
  intro x hxm
  have := List.all_eq_true.1 h x hxm
  simpa using this
end Go.Proofs.YtekjnfkmjmmcmabGreatDoor.Dv
namespace Go.Proofs.YtekjnfkmjmmcmabGreatDoor.Wk
set_option linter.unusedVariables false
open Go.ChangeShapes Go.WideShapes Go.ChangeAt Go.RowKit

/-- the answer of DevAt -/
def dvAtV (r : Option Sm.St) : Value := match r with
  | some x => .tuple #[.agg #[.int .i64 x.1, .int .i64 x.2.1, .int .i64 x.2.2], .bool true]
  | none => .tuple #[.agg #[.int .i64 0, .int .i64 0, .int .i64 0], .bool false]

end Go.Proofs.YtekjnfkmjmmcmabGreatDoor.Wk
