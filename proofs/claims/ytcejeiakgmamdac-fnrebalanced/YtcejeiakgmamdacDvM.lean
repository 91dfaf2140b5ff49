/- Devices: which lists of them are right. -/
import Derived.Test.YtcejeiakgmamdacStL
namespace Go.Proofs.Ytcejeiakgmamdac.Dv
set_option linter.unusedVariables false

/-- a device as told: Id, Zone, Weight -/
def dev (i z n : Int) : Bool := (decide (0 ≤ i) && decide (i ≤ 20)) && ((decide (0 ≤ z) && decide (z ≤ 20)) && (decide (1 ≤ n) && decide (n ≤ 1000)))
/-- the device at this place is as told, and behind the one ahead of it -/
def okAt (l : List Sm.St) (k : Nat) : Bool :=
  match l[k]? with
  | none => false
  | some x => dev x.1 x.2.1 x.2.2 && (match k with
    | 0 => true
    | j + 1 => match l[j]? with
      | none => false
      | some y => decide (y.1 < x.1))
def upto (l : List Sm.St) (k : Nat) : Bool := (List.range k).all fun i => okAt l i
/-- the devices are right -/
def devs (l : List Sm.St) : Bool := upto l l.length && (decide (1 ≤ l.length) && decide (l.length ≤ 12))

theorem upto_succ (l : List Sm.St) (k : Nat) : upto l (k + 1) = (upto l k && okAt l k) := by
  simp [upto, List.range_succ]
theorem upto_no {l : List Sm.St} {k : Nat} (hk : k < l.length) (h : okAt l k = false) : devs l = false := by
  have : upto l l.length = false := by
    unfold upto
    rw [List.all_eq_false]
    exact ⟨k, List.mem_range.2 hk, by rw [h]; simp⟩
  simp [devs, this]
theorem okAt_zero {l : List Sm.St} {i z n : Int} (h0 : 0 < l.length) (h : l[0] = (i, z, n)) : okAt l 0 = dev i z n := by
  simp [okAt, List.getElem?_eq_getElem h0, h]
theorem okAt_succ {l : List Sm.St} {k : Nat} {i z n i' z' n' : Int} (hk : k + 1 < l.length) (h' : l[k] = (i', z', n')) (h : l[k + 1] = (i, z, n)) : okAt l (k + 1) = (dev i z n && decide (i' < i)) := by
  simp [okAt, List.getElem?_eq_getElem hk, List.getElem?_eq_getElem (show k < l.length by omega), h, h']
theorem devs_all {l : List Sm.St} {k : Nat} (hk : ¬ k < l.length) (hk' : k ≤ l.length) (h : upto l k = true) : devs l = (decide (1 ≤ l.length) && decide (l.length ≤ 12)) := by
  rw [show k = l.length from by omega] at h
  simp [devs, h]
end Go.Proofs.Ytcejeiakgmamdac.Dv
