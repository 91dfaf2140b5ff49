/- An array of five numbers; copy into a row and out of it. -/
import Derived.Test.YtoemblcheahbeacRbW
import Derived.Laws.CopyOwn
import Derived.Deep.RegionLaw
namespace Go.Proofs.Ytoemblcheahbeac.Wk
set_option linter.unusedVariables false
open Go.ChangeShapes Go.WideShapes Go.ChangeAt Go.RowKit

/-- copy as one step of a region that draws its order, with the world behind it named -/
theorem step_copyR {P : Program} {ops : Array Oper} {o : Oper} {a : Act} {w : World} {K : Act → World → Prop} {Q : Exit → Act → World → Prop} {E : Prop} (hgd : o.guard = none) (d s : Operand) (dT sT : TypeId)
    (ho : o.op = .call { callee := .builtin .copy, args := #[d, s], argTypes := #[dT, sT] }) (elem : TypeId) (hu : P.underlying dT = some (.slice elem)) (hsz : (P.info? elem).map (·.size) = some 1)
    (g off dLen dCap : Nat) (ad : Addr) (sLen sCap : Nat) (hd : a.eval d = .slice (some ⟨g, off, none⟩) dLen dCap) (hs : a.eval s = .slice (some ad) sLen sCap)
    (cur : Array Value) (t : TypeId) (hg : w.heap[g]? = some (.cells cur t (0, 0))) (cs : List Value) (hn : cs.length = Nat.min sLen dLen)
    (hsrc : ∀ j v, cs[j]? = some v → w.cell? (ad.add j) = some v) (hfit : off + cs.length ≤ cur.size) (h1 : ∀ v ∈ cs, v.oneCell' = true)
    (h : K (a.put o.dst (goInt cs.length)) (w.setRow g (cur.toList.take off ++ cs ++ cur.toList.drop (off + cs.length)).toArray)) :
    if Region.wanted o (yielded ops a.tmps) = true then Oper.wp P o a w K Q else E := by
  have hw : Region.wanted o (yielded ops a.tmps) = true := by simp [Region.wanted, hgd]
  rw [if_pos hw]
  have hrun := run_copy_row (P := P) w dT sT o.type elem g off dLen dCap ad sLen sCap cur t cs hu hsz hg hn hsrc hfit h1
  unfold Oper.wp
  simp only [execOp, ho, resolve, invoke, builtin, Sem.run_bind, Sem.run_pure, Result.andThen_ok, List.map_toArray, List.map_cons, List.map_nil, hd, hs, hrun]
  exact h
theorem Zv_cell (l : List Int) : ∀ u ∈ Zv l, u.oneCell' = true := by
  intro u hu
  obtain ⟨z, -, rfl⟩ := List.mem_map.1 hu
  exact oneZ_one _ (List.mem_singleton.2 rfl)
/-- the number at this place; 0 behind the end -/
def gd (p : List Int) (j : Nat) : Int := p.getD j 0
/-- five numbers as cells; behind the list's end stand noughts -/
def five (p : List Int) : List Value := [.int .i64 (gd p 0), .int .i64 (gd p 1), .int .i64 (gd p 2), .int .i64 (gd p 3), .int .i64 (gd p 4)]
theorem five_fill (p : List Int) (h : p.length ≤ 5) : (five []).take 0 ++ Zv p ++ (five []).drop (0 + (Zv p).length) = five p := by
  rcases p with _ | ⟨x0, _ | ⟨x1, _ | ⟨x2, _ | ⟨x3, _ | ⟨x4, _ | ⟨x5, r⟩⟩⟩⟩⟩⟩
  all_goals first | rfl | (simp at h)
theorem five_take (p : List Int) (h : p.length ≤ 5) : (five p).take p.length = Zv p := by
  rcases p with _ | ⟨x0, _ | ⟨x1, _ | ⟨x2, _ | ⟨x3, _ | ⟨x4, _ | ⟨x5, r⟩⟩⟩⟩⟩⟩
  all_goals first | rfl | (simp at h)
theorem five_get (p : List Int) (j : Nat) (hj : j < 5) : (five p)[j]? = some (.int .i64 (gd p j)) := by
  match j, hj with
  | 0, _ => rfl
  | 1, _ => rfl
  | 2, _ => rfl
  | 3, _ => rfl
  | 4, _ => rfl
/-- five cells that may be written and read as this -/
def Slot5 (w : World) (b : Nat) (p : List Int) : Prop := ∀ j, j < 5 → w.cell? ⟨b, j, none⟩ = some (.int .i64 (gd p j)) ∧ w.frozen? ⟨b, j, none⟩ = false
theorem Slot5.lt {w : World} {b : Nat} {p : List Int} (h : Slot5 w b p) : b < w.heap.size := World.block_lt_of_cell? w _ (h 0 (by omega)).1
theorem Slot5.below {w w' : World} {b : Nat} {p : List Int} (h : Slot5 w b p) (hb : Below w.heap.size w w') : Slot5 w' b p := fun j hj =>
  ⟨cellOn (h j hj).1 hb, by rw [hb.frozen (p := ⟨b, j, none⟩) h.lt]; exact (h j hj).2⟩
theorem Slot5.out {w : World} {b : Nat} {p : List Int} (h : Slot5 w b p) :
    (w.cell? ⟨b, 0, none⟩ = some (.int .i64 (gd p 0)) ∧ w.cell? ⟨b, 1, none⟩ = some (.int .i64 (gd p 1)) ∧ w.cell? ⟨b, 2, none⟩ = some (.int .i64 (gd p 2)) ∧ w.cell? ⟨b, 3, none⟩ = some (.int .i64 (gd p 3)) ∧ w.cell? ⟨b, 4, none⟩ = some (.int .i64 (gd p 4))) ∧
    (w.frozen? ⟨b, 0, none⟩ = false ∧ w.frozen? ⟨b, 1, none⟩ = false ∧ w.frozen? ⟨b, 2, none⟩ = false ∧ w.frozen? ⟨b, 3, none⟩ = false ∧ w.frozen? ⟨b, 4, none⟩ = false) :=
  ⟨⟨(h 0 (by omega)).1, (h 1 (by omega)).1, (h 2 (by omega)).1, (h 3 (by omega)).1, (h 4 (by omega)).1⟩, (h 0 (by omega)).2, (h 1 (by omega)).2, (h 2 (by omega)).2, (h 3 (by omega)).2, (h 4 (by omega)).2⟩
theorem slot5Of {w : World} {b : Nat} {p : List Int} {T : TypeId} (h : w.heap[b]? = some (.cells (five p).toArray T (0, 0))) : Slot5 w b p := fun j hj =>
  ⟨by simp [World.cell?, h, five_get p j hj], by simp [World.frozen?, h]⟩
theorem heapNew (w : World) (p : List Int) (T : TypeId) : (w.alloc (.cells (five p).toArray T)).heap[w.heap.size]? = some (.cells (five p).toArray T (0, 0)) := by
  show (w.heap.push _)[w.heap.size]? = _
  rw [Array.getElem?_push_size]
theorem slot5New (w : World) (p : List Int) (T : TypeId) : Slot5 (w.alloc (.cells (five p).toArray T)) w.heap.size p := slot5Of (heapNew w p T)
theorem getD_set (p : List Int) (k j : Nat) (x : Int) (hk : k < p.length) : gd (p.set k x) j = if j = k then x else gd p j := by
  unfold gd
  rw [List.getD_eq_getElem?_getD, List.getD_eq_getElem?_getD]
  by_cases e : j = k
  · subst e
    rw [List.getElem?_set_self hk, if_pos rfl]
    rfl
  · rw [List.getElem?_set_ne (fun h => e h.symm), if_neg e]
theorem Slot5.put {w : World} {b k : Nat} {p : List Int} (h : Slot5 w b p) (hk : k < p.length) (hk5 : k < 5) (x : Int) : Slot5 (w.setCell ⟨b, k, none⟩ (.int .i64 x)) b (p.set k x) := fun j hj => by
  refine ⟨?_, by rw [World.frozen?_setCell]; exact (h j hj).2⟩
  rw [getD_set p k j x hk]
  by_cases e : j = k
  · subst e
    rw [if_pos rfl]
    exact World.cell?_setCell_same' _ _ _ (by rw [(h j hj).1]; rfl)
  · rw [if_neg e, World.cell?_setCell_other _ _ _ _ (fun h => e (congrArg Addr.off h).symm)]
    exact (h j hj).1
theorem Slot5.far {w : World} {b b' o : Nat} {p : List Int} {x : Value} (h : Slot5 w b p) (hne : b' ≠ b) : Slot5 (w.setCell ⟨b', o, none⟩ x) b p := fun j hj =>
  ⟨by rw [World.cell?_setCell_other _ _ _ _ (fun e => hne (congrArg Addr.block e))]; exact (h j hj).1, by rw [World.frozen?_setCell]; exact (h j hj).2⟩
theorem Slot5.row {w : World} {b g : Nat} {p : List Int} (h : Slot5 w b p) (hne : b ≠ g) (cs : Array Value) : Slot5 (w.setRow g cs) b p := fun j hj =>
  ⟨by rw [World.cell?_of_block (w := w) (setRow_other w g b cs hne)]; exact (h j hj).1, by rw [World.frozen?_of_block (w := w) (setRow_other w g b cs hne)]; exact (h j hj).2⟩
/-- what five stores leave -/
theorem store5 {w : World} {b : Nat} {p : List Int} (h : Slot5 w b p) (v0 v1 v2 v3 v4 : Value) :
    (((((w.setCell ⟨b, 0, none⟩ v0).setCell ⟨b, 1, none⟩ v1).setCell ⟨b, 2, none⟩ v2).setCell ⟨b, 3, none⟩ v3).setCell ⟨b, 4, none⟩ v4).cell? ⟨b, 0, none⟩ = some v0 ∧
    (((((w.setCell ⟨b, 0, none⟩ v0).setCell ⟨b, 1, none⟩ v1).setCell ⟨b, 2, none⟩ v2).setCell ⟨b, 3, none⟩ v3).setCell ⟨b, 4, none⟩ v4).cell? ⟨b, 1, none⟩ = some v1 ∧
    (((((w.setCell ⟨b, 0, none⟩ v0).setCell ⟨b, 1, none⟩ v1).setCell ⟨b, 2, none⟩ v2).setCell ⟨b, 3, none⟩ v3).setCell ⟨b, 4, none⟩ v4).cell? ⟨b, 2, none⟩ = some v2 ∧
    (((((w.setCell ⟨b, 0, none⟩ v0).setCell ⟨b, 1, none⟩ v1).setCell ⟨b, 2, none⟩ v2).setCell ⟨b, 3, none⟩ v3).setCell ⟨b, 4, none⟩ v4).cell? ⟨b, 3, none⟩ = some v3 ∧
    (((((w.setCell ⟨b, 0, none⟩ v0).setCell ⟨b, 1, none⟩ v1).setCell ⟨b, 2, none⟩ v2).setCell ⟨b, 3, none⟩ v3).setCell ⟨b, 4, none⟩ v4).cell? ⟨b, 4, none⟩ = some v4 := by
  have c0 := (h 0 (by omega)).1
  have c1 := (h 1 (by omega)).1
  have c2 := (h 2 (by omega)).1
  have c3 := (h 3 (by omega)).1
  have c4 := (h 4 (by omega)).1
  refine ⟨?_, ?_, ?_, ?_, ?_⟩
  · rw [World.cell?_setCell_other _ _ _ _ (by simp), World.cell?_setCell_other _ _ _ _ (by simp), World.cell?_setCell_other _ _ _ _ (by simp), World.cell?_setCell_other _ _ _ _ (by simp)]
    exact World.cell?_setCell_same' _ _ _ (by rw [c0]; rfl)
  · rw [World.cell?_setCell_other _ _ _ _ (by simp), World.cell?_setCell_other _ _ _ _ (by simp), World.cell?_setCell_other _ _ _ _ (by simp)]
    exact World.cell?_setCell_same' _ _ _ (by rw [World.cell?_setCell_other _ _ _ _ (by simp), c1]; rfl)
  · rw [World.cell?_setCell_other _ _ _ _ (by simp), World.cell?_setCell_other _ _ _ _ (by simp)]
    exact World.cell?_setCell_same' _ _ _ (by rw [World.cell?_setCell_other _ _ _ _ (by simp), World.cell?_setCell_other _ _ _ _ (by simp), c2]; rfl)
  · rw [World.cell?_setCell_other _ _ _ _ (by simp)]
    exact World.cell?_setCell_same' _ _ _ (by rw [World.cell?_setCell_other _ _ _ _ (by simp), World.cell?_setCell_other _ _ _ _ (by simp), World.cell?_setCell_other _ _ _ _ (by simp), c3]; rfl)
  · exact World.cell?_setCell_same' _ _ _ (by rw [World.cell?_setCell_other _ _ _ _ (by simp), World.cell?_setCell_other _ _ _ _ (by simp), World.cell?_setCell_other _ _ _ _ (by simp), World.cell?_setCell_other _ _ _ _ (by simp), c4]; rfl)
theorem below5 {B b : Nat} {w0 w : World} (h : Below B w0 w) (hb : B ≤ b) (v0 v1 v2 v3 v4 : Value) : Below B w0 (((((w.setCell ⟨b, 0, none⟩ v0).setCell ⟨b, 1, none⟩ v1).setCell ⟨b, 2, none⟩ v2).setCell ⟨b, 3, none⟩ v3).setCell ⟨b, 4, none⟩ v4) :=
  ((((h.setCell (by exact hb) _).setCell (by exact hb) _).setCell (by exact hb) _).setCell (by exact hb) _).setCell (by exact hb) _
theorem heap5 {w : World} {b : Nat} {T : TypeId} (h : w.heap[b]? = some (.cells (five []).toArray T (0, 0))) (q : List Int) :
    (((((w.setCell ⟨b, 0, none⟩ (.int .i64 (gd q 0))).setCell ⟨b, 1, none⟩ (.int .i64 (gd q 1))).setCell ⟨b, 2, none⟩ (.int .i64 (gd q 2))).setCell ⟨b, 3, none⟩ (.int .i64 (gd q 3))).setCell ⟨b, 4, none⟩ (.int .i64 (gd q 4))).heap[b]? = some (.cells (five q).toArray T (0, 0)) :=
  heap_setCell_same _ b 4 _ T _ (heap_setCell_same _ b 3 _ T _ (heap_setCell_same _ b 2 _ T _ (heap_setCell_same _ b 1 _ T _ (heap_setCell_same w b 0 _ T _ h))))
/-- numbers copied over the whole of a row of one's own -/
theorem ownCopy {w : World} {base g n c : Nat} {p q : List Int} (ho : w.ownsRow base 3 1 (.slice (some ⟨g, 0, none⟩) n c) n (Zv p)) (hq : q.length = n) :
    ∃ cur : Array Value, w.heap[g]? = some (.cells cur 3 (0, 0)) ∧ 0 + (Zv q).length ≤ cur.size ∧ (w.setRow g (cur.toList.take 0 ++ Zv q ++ cur.toList.drop (0 + (Zv q).length)).toArray).ownsRow base 3 1 (.slice (some ⟨g, 0, none⟩) n c) n (Zv q) ∧
      w.grownBy (w.setRow g (cur.toList.take 0 ++ Zv q ++ cur.toList.drop (0 + (Zv q).length)).toArray) (some g) := by
  have hlq : (Zv q).length = n := by simp [Zv, hq]
  rcases ho.2 with ⟨e, _⟩ | ⟨g', cap', cur, e, hb, hg, hnc, hcm, hcs, htake⟩
  · simp at e
  · simp only [Value.slice.injEq, Option.some.injEq, Addr.mk.injEq, and_true, true_and] at e
    obtain ⟨rfl, rfl⟩ := e
    refine ⟨cur, hg, by omega, ⟨by omega, .inr ⟨g, c, _, rfl, hb, setRow_heap w g cur _ 3 _ hg, hnc, hcm, by simp; omega, ?_⟩⟩, ⟨rfl, rfl, rfl, by simp, fun k hk hne => setRow_other w g k _ (fun e => hne (by rw [e]))⟩⟩
    simp [hlq]
end Go.Proofs.Ytoemblcheahbeac.Wk
