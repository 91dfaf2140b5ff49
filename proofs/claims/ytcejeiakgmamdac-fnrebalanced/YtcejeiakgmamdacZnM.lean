/- Rows of numbers in memory; which zones a list of devices has. -/
import Derived.Test.YtcejeiakgmamdacStR
namespace Go.Proofs.Ytcejeiakgmamdac.Dv
set_option linter.unusedVariables false

/-- R are the zones of the devices l, rising -/
def Zs (l : List Sm.St) (R : List Int) : Prop := R.Pairwise (· < ·) ∧ (∀ z, z ∈ R ↔ ∃ d ∈ l, d.2.1 = z) ∧ R.length ≤ l.length
theorem Zs_nil : Zs [] [] := ⟨.nil, by simp, Nat.le_refl _⟩
theorem rise_eq : ∀ {A B : List Int}, A.Pairwise (· < ·) → B.Pairwise (· < ·) → (∀ z, z ∈ A ↔ z ∈ B) → A = B
  | [], [], _, _, _ => rfl
  | [], b :: B, _, _, h => absurd ((h b).2 (List.mem_cons_self ..)) (by simp)
  | a :: A, [], _, _, h => absurd ((h a).1 (List.mem_cons_self ..)) (by simp)
  | a :: A, b :: B, hA, hB, h => by
    rw [List.pairwise_cons] at hA hB
    have e : a = b := by
      have h1 := (h a).1 (List.mem_cons_self ..)
      have h2 := (h b).2 (List.mem_cons_self ..)
      simp only [List.mem_cons] at h1 h2
      rcases h1 with h1 | h1
      · exact h1
      · rcases h2 with h2 | h2
        · exact h2.symm
        · have := hB.1 a h1
          have := hA.1 b h2
          omega
    subst e
    rw [rise_eq hA.2 hB.2 (fun z => ⟨fun hz => ?_, fun hz => ?_⟩)]
    · rcases List.mem_cons.1 ((h z).1 (List.mem_cons_of_mem _ hz)) with e | e
      · have := hA.1 z hz
        omega
      · exact e
    · rcases List.mem_cons.1 ((h z).2 (List.mem_cons_of_mem _ hz)) with e | e
      · have := hB.1 z hz
        omega
      · exact e
theorem Zs.uniq {l : List Sm.St} {A B : List Int} (hA : Zs l A) (hB : Zs l B) : A = B :=
  rise_eq hA.1 hB.1 fun z => (hA.2.1 z).trans (hB.2.1 z).symm
theorem take_mem {l : List Sm.St} {k : Nat} (hk : k < l.length) (z : Int) : (∃ d ∈ l.take (k + 1), d.2.1 = z) ↔ (∃ d ∈ l.take k, d.2.1 = z) ∨ l[k].2.1 = z := by
  rw [List.take_succ_eq_append_getElem hk]
  simp only [List.mem_append, List.mem_singleton, or_and_right, exists_or, exists_eq_left]
theorem Zs.skip {l : List Sm.St} {k : Nat} {R : List Int} (hk : k < l.length) (h : Zs (l.take k) R) (hz : l[k].2.1 ∈ R) : Zs (l.take (k + 1)) R := by
  refine ⟨h.1, fun z => ?_, ?_⟩
  · rw [take_mem hk, ← h.2.1]
    constructor
    · exact .inl
    · rintro (e | e)
      · exact e
      · rw [← e]; exact hz
  · have := h.2.2
    simp only [List.length_take] at this ⊢
    omega
theorem Zs.put {l : List Sm.St} {k j : Nat} {R : List Int} (hk : k < l.length) (h : Zs (l.take k) R) (h1 : ∀ x ∈ R.take j, x < l[k].2.1) (h2 : ∀ x ∈ R.drop j, l[k].2.1 < x) : Zs (l.take (k + 1)) (R.take j ++ l[k].2.1 :: R.drop j) := by
  have hp := h.1
  rw [← List.take_append_drop j R, List.pairwise_append] at hp
  refine ⟨?_, fun z => ?_, ?_⟩
  · rw [List.pairwise_append]
    refine ⟨hp.1, List.pairwise_cons.2 ⟨h2, hp.2.1⟩, fun a ha b hb => ?_⟩
    rcases List.mem_cons.1 hb with rfl | hb
    · exact h1 a ha
    · exact hp.2.2 a ha b hb
  · rw [take_mem hk, ← h.2.1]
    have : z ∈ R ↔ z ∈ R.take j ∨ z ∈ R.drop j := by rw [← List.mem_append, List.take_append_drop]
    rw [this]
    simp only [List.mem_append, List.mem_cons]
    constructor
    · rintro (e | e | e)
      · exact .inl (.inl e)
      · exact .inr e.symm
      · exact .inl (.inr e)
    · rintro ((e | e) | e)
      · exact .inl e
      · exact .inr (.inr e)
      · exact .inr (.inl e.symm)
  · have := h.2.2
    simp only [List.length_append, List.length_cons, List.length_take, List.length_drop] at this ⊢
    omega
/-- what lies ahead of a place whose last one is less is all less -/
theorem Zs.less {l : List Sm.St} {R : List Int} {j : Nat} {z : Int} (h : Zs l R) (hj : j < R.length) (hz : R[j] < z) : ∀ x ∈ R.take (j + 1), x < z := by
  intro x hx
  rw [List.take_succ_eq_append_getElem hj, List.mem_append, List.mem_singleton] at hx
  rcases hx with hx | rfl
  · have hp := h.1
    rw [← List.take_append_drop j R, List.pairwise_append] at hp
    have := hp.2.2 x hx R[j] (by rw [List.drop_eq_getElem_cons hj]; exact List.mem_cons_self ..)
    omega
  · exact hz
/-- one place on: what was at j - 1 is at j, too -/
theorem shift {R : List Int} {j : Nat} {x : Int} (hj : j < R.length) : (R.take (j + 1) ++ x :: R.drop (j + 1)).set (j + 1) R[j] = R.take j ++ R[j] :: R.drop j := by
  have e : (R.take (j + 1)).length = j + 1 := by simp; omega
  rw [List.set_append_right _ _ (by omega), e, Nat.sub_self, List.set_cons_zero, List.take_succ_eq_append_getElem hj, List.append_assoc]
  conv => rhs; rw [List.drop_eq_getElem_cons hj]
  rfl
theorem lay {R : List Int} {j : Nat} {x z : Int} (hj : j ≤ R.length) : (R.take j ++ x :: R.drop j).set j z = R.take j ++ z :: R.drop j := by
  have e : (R.take j).length = j := by simp; omega
  rw [List.set_append_right _ _ (by omega), e, Nat.sub_self, List.set_cons_zero]
theorem ahead {R : List Int} {j : Nat} {x : Int} (hj : j < R.length) : (R.take (j + 1) ++ x :: R.drop (j + 1))[j]? = some R[j] := by
  rw [List.getElem?_append_left (by simp; omega), List.getElem?_take_of_lt (by omega), List.getElem?_eq_getElem hj]
theorem zmore {R : List Int} {j : Nat} {z : Int} (hj : j < R.length) (hz : z < R[j]) (h : ∀ x ∈ R.drop (j + 1), z < x) : ∀ x ∈ R.drop j, z < x := by
  intro x hx
  rw [List.drop_eq_getElem_cons hj] at hx
  rcases List.mem_cons.1 hx with rfl | hx
  · exact hz
  · exact h x hx
end Go.Proofs.Ytcejeiakgmamdac.Dv
namespace Go.Proofs.Ytcejeiakgmamdac.Wk
set_option linter.unusedVariables false
open Go.ChangeShapes Go.WideShapes Go.ChangeAt Go.RowKit

theorem infoZ : (Try.prog.info? 3).map (fun i => (i.zero, i.size, i.bytes)) = some (some (.int .i64 0), 1, 8) := by kernel_rfl
/-- numbers as cells -/
def Zv (l : List Int) : List Value := l.map (Value.int .i64)
theorem Zv_len (l : List Int) : (Zv l).length = l.length := by simp [Zv]
theorem Zv_snoc (l : List Int) (z : Int) : Zv (l ++ [z]) = Zv l ++ [.int .i64 z] := by simp [Zv]
theorem Zv_set (l : List Int) (i : Nat) (z : Int) : (Zv l).set i (.int .i64 z) = Zv (l.set i z) := by simp [Zv]
theorem Zv_get {l : List Int} {i : Nat} {z : Int} (h : l[i]? = some z) : (Zv l)[i]? = some (.int .i64 z) := by simp [Zv, h]
/-- the address a leads to the numbers l -/
def RdZ (w : World) (a : Option Addr) (l : List Int) : Prop := ∀ i (h : i < l.length), ∃ b off, a = some ⟨b, off, none⟩ ∧ w.cell? ⟨b, off + i, none⟩ = some (.int .i64 l[i])
theorem RdZ.below {w w' : World} {a : Option Addr} {l : List Int} (h : RdZ w a l) (hb : Below w.heap.size w w') : RdZ w' a l := by
  intro i hi
  obtain ⟨b, off, ha, hc⟩ := h i hi
  exact ⟨b, off, ha, by rw [hb.cell (p := ⟨b, off + i, none⟩) (World.block_lt_of_cell? w _ hc)]; exact hc⟩
theorem Zv_shape {w : World} {base n : Nat} {e : TypeId} {v : Value} {xs : List Value} (hown : w.ownsRow base e 1 v n xs) : ∃ a cap, v = .slice a n cap := by
  rcases hown.2 with ⟨rfl, h0⟩ | ⟨g, cap, cur, rfl, hb, _⟩
  · exact ⟨none, 0, by rw [h0]⟩
  · exact ⟨_, cap, rfl⟩
theorem Zv_some {w : World} {base n : Nat} {e : TypeId} {v : Value} {xs : List Value} (hown : w.ownsRow base e 1 v (n + 1) xs) : ∃ g cap, v = .slice (some ⟨g, 0, none⟩) (n + 1) cap ∧ base ≤ g := by
  rcases hown.2 with ⟨rfl, h0⟩ | ⟨g, cap, cur, rfl, hb, _⟩
  · omega
  · exact ⟨_, cap, rfl, hb⟩
theorem Zv_rd {w : World} {base cap : Nat} {e : TypeId} {a : Option Addr} {l : List Int} (hown : w.ownsRow base e 1 (.slice a l.length cap) l.length (Zv l)) : RdZ w a l := by
  rcases hown.2 with ⟨h, h0⟩ | ⟨g, cap', cur, h, hb, _⟩
  · intro i hi
    omega
  · simp only [Value.slice.injEq] at h
    obtain ⟨rfl, -, -⟩ := h
    intro i hi
    refine ⟨g, 0, rfl, ?_⟩
    rw [Nat.zero_add, hown.cellAt i (by omega)]
    simp [Zv, hi]
theorem oneZ_at {wr : World} {c : Value} {T : TypeId} : ∀ j u, [c][j]? = some u → (wr.alloc (.cells #[c] T)).cell? ((⟨wr.heap.size, 0, none⟩ : Addr).add j) = some u := by
  intro j u hj
  match j, hj with
  | 0, hj => simp at hj; subst hj; simp [Addr.add]
theorem oneZ_one {z : Int} : ∀ u ∈ [Value.int .i64 z], u.oneCell' = true := by
  intro u hu
  simp at hu
  subst hu
  rfl
theorem grownZ {w w1 w2 : World} {r : Option Nat} (h : w.grownBy w1 r) (k : w1.grownBy w2 r) : w.grownBy w2 r :=
  ⟨k.os.trans h.os, k.tape.trans h.tape, k.output.trans h.output, Nat.le_trans h.size k.size, fun i hi hn => (k.block i (Nat.lt_of_lt_of_le hi h.size) hn).trans (h.block i hi hn)⟩
end Go.Proofs.Ytcejeiakgmamdac.Wk
