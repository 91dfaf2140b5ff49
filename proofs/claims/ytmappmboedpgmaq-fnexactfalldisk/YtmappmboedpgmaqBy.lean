/- Bytes and ints in memory: what is read, what is owned; values that are answered. Nothing of the program's functions is named here. -/
import Derived.Test.YtmappmboedpgmaqRows
import Derived.Test.YtmappmboedpgmaqNumM
import Derived.WalkKit
import Derived.ProofKit
import Derived.OpenShut
import Derived.ShutString
import Derived.Below
import Derived.BigQuiet
import Derived.Laws.Shifts
import Derived.Laws.IdiomStrings
import Derived.Lib.AppendStr
namespace Go.Proofs.Ytmappmboedpgmaq.Wk
set_option linter.unusedVariables false
open Go.ChangeShapes Go.WideShapes Go.ChangeAt Go.RowKit

theorem Try.info5 : (Try.prog.info? 5).map (fun i => (i.zero, i.size, i.bytes)) = some (some (.int .u8 0), 1, 1) := by kernel_rfl

/-- bytes as cells -/
def By (l : List UInt8) : List Value := l.map fun c => Value.int .u8 (c.toNat : Int)
theorem By_length (l : List UInt8) : (By l).length = l.length := by simp [By]
theorem By_append (l m : List UInt8) : By (l ++ m) = By l ++ By m := by simp [By]
theorem By_get (l : List UInt8) (i : Nat) (h : i < l.length) : (By l)[i]? = some (.int .u8 (l[i].toNat : Int)) := by simp [By, h]
theorem By_take (l : List UInt8) (k : Nat) (h : k < l.length) : By (l.take (k + 1)) = By (l.take k) ++ [.int .u8 (l[k].toNat : Int)] := by
  rw [List.take_succ_eq_append_getElem h, By_append]; rfl

theorem By_set (l : List UInt8) (k : Nat) (y : UInt8) : (By l).set k (.int .u8 (y.toNat : Int)) = By (l.set k y) := by simp [By, List.map_set]

/-- the address a leads to the bytes l -/
def RdA (w : World) (a : Option Addr) (l : List UInt8) : Prop := ∀ i (h : i < l.length), ∃ b off, a = some ⟨b, off, none⟩ ∧ w.cell? ⟨b, off + i, none⟩ = some (.int .u8 (l[i].toNat : Int))

theorem RdA.below {w w' : World} {a : Option Addr} {l : List UInt8} (h : RdA w a l) (hb : Below w.heap.size w w') : RdA w' a l := by
  intro i hi
  obtain ⟨b, off, ha, hc⟩ := h i hi
  exact ⟨b, off, ha, by rw [hb.cell (p := ⟨b, off + i, none⟩) (World.block_lt_of_cell? w _ hc)]; exact hc⟩

theorem RdA.take {w : World} {a : Option Addr} {l : List UInt8} (h : RdA w a l) (k : Nat) : RdA w a (l.take k) := by
  intro i hi
  have hi' : i < l.length := by rw [List.length_take] at hi; omega
  obtain ⟨b, off, ha, hc⟩ := h i hi'
  exact ⟨b, off, ha, by rw [hc, List.getElem_take]⟩
theorem RdA.nil (w : World) (a : Option Addr) : RdA w a [] := by intro i hi; simp at hi

theorem RdA.own {w : World} {base cap n : Nat} {a : Option Addr} {l : List UInt8} (h : w.ownsRow base 5 1 (.slice a n cap) n (By l)) : RdA w a l := by
  intro i hi
  have hn : n = l.length := by have := h.1; simp [By_length] at this; omega
  rcases h.2 with ⟨h', hz⟩ | ⟨g, c, cur, h', hb, hg, hnc, hcm, hcs, ht⟩
  · omega
  · simp only [Value.slice.injEq] at h'
    obtain ⟨rfl, -, rfl⟩ := h'
    refine ⟨g, 0, rfl, ?_⟩
    have := h.cellAt i (by omega)
    rw [Nat.zero_add, this]; exact By_get l i hi

/-- what the row tells of a slice of bytes that came in: nil, or a row of cap cells, the numbers zs, of which the first len are its elements -/
def IsRow (k : IntKind) (w : World) (a : Option Addr) (len cap : Nat) (zs : List Int) : Prop :=
  (a = none ∧ len = 0 ∧ cap = 0 ∧ zs = []) ∨
  ∃ x, a = some x ∧ len ≤ cap ∧ cap ≤ maxLen ∧ zs.length = cap ∧ (∀ i, i < zs.length → w.cell? (x.add i) = some (.int k (zs.getD i 0))) ∧ ∀ n ∈ zs, (Lit.int k n).wf = true

theorem IsRow.rd {w : World} {a : Option Addr} {len cap : Nat} {zs : List Int} (h : IsRow .u8 w a len cap zs) : ∃ l : List UInt8, l.length = len ∧ len ≤ cap ∧ cap ≤ maxLen ∧ RdA w a l := by
  rcases h with ⟨rfl, rfl, rfl, rfl⟩ | ⟨x, rfl, hl, hm, hz, hc, hw⟩
  · exact ⟨[], rfl, Nat.le_refl _, Nat.zero_le _, RdA.nil _ _⟩
  · refine ⟨(zs.take len).map fun z => UInt8.ofNat z.toNat, by simp; omega, hl, hm, ?_⟩
    intro i hi
    simp at hi
    obtain ⟨b, off, rfl, hcs⟩ := ints_at hc (by omega)
    refine ⟨b, off, rfl, ?_⟩
    have hb := range_u8 hw i
    have hil : i < zs.length := by omega
    have := hcs i (by omega)
    rw [this]
    simp only [List.getElem_map, List.getElem_take, Option.some.injEq, Value.int.injEq, true_and]
    rw [List.getElem?_eq_getElem hil] at hb
    simp only [Option.getD_some] at hb
    rw [List.getD_eq_getElem?_getD, List.getElem?_eq_getElem hil, Option.getD_some]
    simp
    omega

theorem ownBelow {w w' : World} {base e size n : Nat} {v : Value} {xs : List Value} (h : w.ownsRow base e size v n xs) (hb : Below w.heap.size w w') : w'.ownsRow base e size v n xs :=
  h.kept ⟨hb.os, hb.tape, hb.output, hb.size, fun k hk _ => hb.block k hk⟩ (row := none) (by cases v.ownBlock <;> simp)
theorem ownBase {w : World} {base base' e size n : Nat} {v : Value} {xs : List Value} (h : w.ownsRow base e size v n xs) (hb : base' ≤ base) : w.ownsRow base' e size v n xs := by
  refine ⟨h.1, ?_⟩
  rcases h.2 with hn | ⟨g, cap, cur, e1, hg, rest⟩
  · exact .inl hn
  · exact .inr ⟨g, cap, cur, e1, Nat.le_trans hb hg, rest⟩
theorem ownDrewN {w : World} {base e size n : Nat} {v : Value} {xs : List Value} (h : w.ownsRow base e size v n xs) (m : Nat) : (w.drewN m).ownsRow base e size v n xs := h
theorem belowGrown {B g : Nat} {w w1 w2 : World} (h : Below B w w1) (hg : w1.grownBy w2 (some g)) (hB : B ≤ g) (hs : B ≤ w1.heap.size) : Below B w w2 :=
  h.grown hg hs (fun k hk => by cases hk; exact hB)

theorem belowDrewN {B : Nat} {a w : World} (h : Below B a w) (n : Nat) : Below B a (w.drewN n) := h.trans ⟨rfl, rfl, rfl, Nat.le_refl _, fun _ _ => rfl⟩

theorem set_mid {α : Type} (p : List α) (z u : α) (m : Nat) : (p ++ List.replicate (m + 1) z).set p.length u = (p ++ [u]) ++ List.replicate m z := by
  rw [List.set_append_right _ _ (Nat.le_refl _)]; simp [List.replicate_succ]

theorem mid_get (l : List UInt8) (k : Nat) (z : Value) (h : k < l.length) : (By (l.take k) ++ List.replicate (l.length - k) z)[k]? = some z := by
  have e : (By (l.take k)).length = k := by rw [By_length, List.length_take]; omega
  rw [List.getElem?_append_right (by omega), e, Nat.sub_self]
  obtain ⟨m, hm⟩ : ∃ m, l.length - k = m + 1 := ⟨l.length - k - 1, by omega⟩
  rw [hm]; rfl
theorem mid_set (l : List UInt8) (k : Nat) (z : Value) (h : k < l.length) :
    (By (l.take k) ++ List.replicate (l.length - k) z).set k (.int .u8 (l[k].toNat : Int)) = By (l.take (k + 1)) ++ List.replicate (l.length - (k + 1)) z := by
  have e : (By (l.take k)).length = k := by rw [By_length, List.length_take]; omega
  obtain ⟨m, hm⟩ : ∃ m, l.length - k = m + 1 := ⟨l.length - k - 1, by omega⟩
  have := set_mid (By (l.take k)) z (.int .u8 (l[k].toNat : Int)) m
  rw [e] at this
  rw [hm, this, By_take l k h, show l.length - (k + 1) = m from by omega]


/-- v is a slice of the bytes l, in a row of the call's own, from block base on -/
def OwnB (w : World) (base : Nat) (v : Value) (l : List UInt8) : Prop := w.ownsRow base 5 1 v l.length (By l)

theorem RdA.news {w : World} {ad : Addr} {l : List UInt8} (h : RdA w (some ad) l) : ∀ j u, (By l)[j]? = some u → w.cell? (ad.add j) = some u := by
  intro j u hj
  have hlt : j < l.length := by
    have := (List.getElem?_eq_some_iff.1 hj).1
    simpa [By_length] using this
  obtain ⟨b, off, e, hc⟩ := h j hlt
  simp only [Option.some.injEq] at e
  subst e
  rw [Go.WideShapes.add_plain, hc, ← hj, By_get l j hlt]
theorem By_one (l : List UInt8) : ∀ u ∈ By l, u.oneCell' = true := by
  intro u hu
  simp only [By, List.mem_map] at hu
  obtain ⟨c, -, rfl⟩ := hu
  rfl

theorem OwnB.snoc {w' : World} {base : Nat} {v : Value} {l : List UInt8} {c : UInt8} {x : Int} (hx : x = (c.toNat : Int)) (h : w'.ownsRow base 5 1 v (l.length + 1) (By l ++ [.int .u8 x])) : OwnB w' base v (l ++ [c]) := by
  unfold OwnB
  rw [By_append, List.length_append]
  subst hx
  exact h
theorem OwnB.all {w' : World} {base : Nat} {v : Value} {l : List UInt8} (h : w'.ownsRow base 5 1 v (0 + l.length) ([] ++ By l)) : OwnB w' base v l := by
  unfold OwnB
  rw [Nat.zero_add, List.nil_append] at h
  exact h
theorem one_at {wr : World} {c : Value} : ∀ j u, [c][j]? = some u → (wr.alloc (.cells #[c] 5)).cell? ((⟨wr.heap.size, 0, none⟩ : Addr).add j) = some u := by
  intro j u hj
  match j, hj with
  | 0, hj => simp at hj; subst hj; simp [Addr.add]
theorem one_one {k : IntKind} {x : Int} : ∀ u ∈ [Value.int k x], u.oneCell' = true := by
  intro u hu
  simp at hu
  subst hu
  rfl
theorem below_own {base : Nat} {w wr w1 : World} {o : Obj} {v : Value} {n : Nat} {xs : List Value} (hb : Below base w wr) (hB : base ≤ wr.heap.size) (hown : wr.ownsRow base 5 1 v n xs) (hg : (wr.alloc o).grownBy w1 v.ownBlock) : Below base w w1 :=
  (hb.alloc hB o).grown hg (by simp; omega) (fun j hj => (hown.lt j hj).1)
theorem byte_of (r : Nat) (h : r < 256) : ((UInt8.ofNat r).toNat : Int) = (r : Int) := by simp; omega


/-- the shape of an owned slice that is not empty -/
theorem OwnB.shape {w : World} {base : Nat} {v : Value} {l : List UInt8} (h : OwnB w base v l) (hl : 0 < l.length) : ∃ g cap, v = .slice (some ⟨g, 0, none⟩) l.length cap ∧ base ≤ g ∧ g < w.heap.size ∧ l.length ≤ cap ∧ cap ≤ maxLen := by
  rcases h.2 with ⟨_, h0⟩ | ⟨g, cap, cur, e1, hg, hh, hnc, hcm, _⟩
  · omega
  · exact ⟨g, cap, e1, hg, (Array.getElem?_eq_some_iff.1 hh).1, hnc, hcm⟩

/-- the address a leads to the ints ns -/
def RdI (w : World) (a : Option Addr) (ns : List Int) : Prop := ∀ i (h : i < ns.length), ∃ b off, a = some ⟨b, off, none⟩ ∧ w.cell? ⟨b, off + i, none⟩ = some (.int .i64 ns[i])
theorem RdI.below {w w' : World} {a : Option Addr} {l : List Int} (h : RdI w a l) (hb : Below w.heap.size w w') : RdI w' a l := by
  intro i hi
  obtain ⟨b, off, ha, hc⟩ := h i hi
  exact ⟨b, off, ha, by rw [hb.cell (p := ⟨b, off + i, none⟩) (World.block_lt_of_cell? w _ hc)]; exact hc⟩


def numV : Option (Nat × Nat) → Value
  | some (n, k) => .tuple #[.int .i64 (n : Int), .int .i64 (k : Int), .bool true]
  | none => .tuple #[.int .i64 0, .int .i64 0, .bool false]

theorem ret_num {x y : Int} {n k : Nat} (hx : x = n) (hy : y = k) : Ending.returned (.tuple #[.int .i64 x, .int .i64 y, .bool true]) = .returned (numV (some (n, k))) := by
  rw [hx, hy]; rfl


def textV : Option (List UInt8 × Nat) → Value
  | some (t, k) => .tuple #[.string ⟨t.toArray⟩, .int .i64 (k : Int), .bool true]
  | none => .tuple #[.string ⟨#[]⟩, .int .i64 0, .bool false]


def putT (l : List UInt8) (s : ByteArray) : List UInt8 := (l ++ Mt.enc (Mt.clamp (s.size : Int))) ++ s.data.toList
theorem putT_len (l : List UInt8) (s : ByteArray) (hl : l.length ≤ 1048576) (hs : s.size ≤ 1048576) : (putT l s).length ≤ 2097157 ∧ 0 < (putT l s).length := by
  have := Mt.enc_len (Mt.clamp (s.size : Int))
  have e : s.data.toList.length = s.size := by simp
  unfold putT
  rw [List.length_append, List.length_append, e]; omega
theorem OwnB.text {w' : World} {base : Nat} {v : Value} {l : List UInt8} {s : ByteArray} (h : w'.ownsRow base 5 1 v (l.length + s.size) (By l ++ Lib.strCells s)) : OwnB w' base v (l ++ s.data.toList) := by
  unfold OwnB
  have e : s.data.toList.length = s.size := by simp
  rw [By_append, List.length_append, e]
  exact h

end Go.Proofs.Ytmappmboedpgmaq.Wk
