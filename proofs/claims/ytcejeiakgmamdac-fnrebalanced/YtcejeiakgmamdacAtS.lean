/- What DevAt and l4Has of the specification come to. -/
import Derived.Test.YtcejeiakgmamdacStL
namespace Go.Proofs.Ytcejeiakgmamdac.Dv
/-- the first device of this Id -/
def at_ (l : List Sm.St) (id : Int) : Option Sm.St := l.find? fun x => x.1 == id
theorem at_no {l : List Sm.St} {id : Int} {k : Nat} (hk : k < l.length) (h : l.take k |>.all fun x => !(x.1 == id)) (hx : ¬ l[k].1 = id) : (l.take (k + 1)).all fun x => !(x.1 == id) := by
  rw [List.take_succ_eq_append_getElem hk, List.all_append, h]
  simp [hx]
theorem at_yes {l : List Sm.St} {id : Int} {k : Nat} (hk : k < l.length) (h : l.take k |>.all fun x => !(x.1 == id)) (hx : l[k].1 = id) : at_ l id = some l[k] := by
  have e : l = l.take k ++ l[k] :: l.drop (k + 1) := by rw [← List.drop_eq_getElem_cons hk, List.take_append_drop]
  have hn : (l.take k).find? (fun x => x.1 == id) = none := by
    rw [List.find?_eq_none]
    intro x hxm
    have := List.all_eq_true.1 h x hxm
    simpa using this
  unfold at_
  conv => lhs; rw [e]
  rw [List.find?_append, hn, List.find?_cons_of_pos (by simp [hx])]
  rfl
theorem at_end {l : List Sm.St} {id : Int} {k : Nat} (hk : ¬ k < l.length) (h : l.take k |>.all fun x => !(x.1 == id)) : at_ l id = none := by
  rw [List.take_of_length_le (by omega)] at h
  unfold at_
  rw [List.find?_eq_none]
  intro x hxm
  have := List.all_eq_true.1 h x hxm
  simpa using this
end Go.Proofs.Ytcejeiakgmamdac.Dv
namespace Go.Proofs.Ytcejeiakgmamdac.Wk
set_option linter.unusedVariables false
open Go.ChangeShapes Go.WideShapes Go.ChangeAt Go.RowKit

/-- the answer of DevAt -/
def dvAtV (r : Option Sm.St) : Value := match r with
  | some x => .tuple #[.agg #[.int .i64 x.1, .int .i64 x.2.1, .int .i64 x.2.2], .bool true]
  | none => .tuple #[.agg #[.int .i64 0, .int .i64 0, .int .i64 0], .bool false]

set_option maxHeartbeats 1000000 in
set_option maxRecDepth 100000 in
theorem specAt (a : Option Addr) (cap : Nat) (l : List Sm.St) (idn : Int) (w : World) (hl : l.length ≤ 1048576) (hr : RdS w a l) :
    Calls Try.prog 68 #[.slice a l.length cap, .int .i64 idn] w fun e w' => e = .returned (dvAtV (Dv.at_ l idn)) ∧ Below w.heap.size w w' := by
  have r0 := slotNew w 0 0 0 42
  obtain ⟨K, hK⟩ : ∃ K, Dv.at_ l idn = K := ⟨_, rfl⟩
  have HK : Hid (Dv.at_ l idn = K) := hK
  rw [hK]
  clear hK
  go_enter Try.func68, Try.ntmps68
  go_wp2
  go_loopw [6] (fun i wr => ∃ k : Nat, k ≤ l.length ∧ i = .int .i64 k ∧ Hid (((l.take k).all fun x => !(x.1 == idn)) = true) ∧ Slot wr w.heap.size 0 0 0 ∧ Below w.heap.size w wr) (fun i _ => l.length - (intOf i).toNat)
  case atStart => exact ⟨0, Nat.zero_le _, rfl, rfl, r0, bel1 _ _⟩
  case round =>
    obtain ⟨k, hk, rfl, HA, hs, hb⟩ := hrel
    clear r0
    obtain ⟨⟨c0, c1, c2⟩, f0, f1, f2⟩ := (show _ from hs)
    by_cases hlt : k < l.length
    · obtain ⟨b, off, rfl, p⟩ := (hr.below hb) k hlt
      have HY := fun h => Dv.at_yes hlt HA.out h
      have HZ := fun h => Dv.at_no hlt HA.out h
      rw [HK.out] at HY
      obtain ⟨u, hu⟩ : ∃ u, l[k] = u := ⟨_, rfl⟩
      rw [hu] at p HY HZ
      obtain ⟨i, z, n⟩ := u
      have HY' : Hid (i = idn → K = some (i, z, n)) := HY
      have HZ' : Hid (¬ i = idn → ((l.take (k + 1)).all fun x => !(x.1 == idn)) = true) := HZ
      obtain ⟨p0, p1, p2⟩ := (show _ from p)
      dsimp only at p0 p1 p2
      clear HY HZ HA HK hu hr p
      by_cases hi : i = idn
      · subst hi
        have e := HY'.out rfl
        subst e
        clear HY' HZ'
        obtain ⟨⟨q0, q1, q2⟩, -⟩ := hs.set i z n
        go_wp2
        exact bodyPost_ret (v := dvAtV (some (i, z, n))) (by simp [dvAtV, results, Try.results68, go_sem, q0, q1, q2]) rfl ⟨rfl, set3 hb (Nat.le_refl _)⟩
      · have HN := HZ'.out hi
        have HN' : Hid (((l.take (k + 1)).all fun x => !(x.1 == idn)) = true) := HN
        clear HN HY' HZ'
        go_wp2
        go_roundw
        case rel => exact ⟨k + 1, by omega, by go_num, HN', hs, hb⟩
        case measure => simp [intOf]; omega
    · have e := HK.out.symm.trans (Dv.at_end hlt HA.out)
      subst e
      clear HA HK hr
      obtain ⟨⟨q0, q1, q2⟩, -⟩ := hs.set 0 0 0
      go_wp2
      exact bodyPost_ret (v := dvAtV none) (by simp [dvAtV, results, Try.results68, go_sem, q0, q1, q2]) rfl ⟨rfl, set3 hb (Nat.le_refl _)⟩
end Go.Proofs.Ytcejeiakgmamdac.Wk
