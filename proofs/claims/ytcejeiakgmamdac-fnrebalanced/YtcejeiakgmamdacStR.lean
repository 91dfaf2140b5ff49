/- Rows of stamps that the call itself has made. -/
import Derived.Test.YtcejeiakgmamdacStL
import Derived.Laws.OwnMore
namespace Go.Proofs.Ytcejeiakgmamdac.Wk
set_option linter.unusedVariables false
open Go.ChangeShapes Go.WideShapes Go.ChangeAt Go.RowKit

theorem infoDv : (Try.prog.info? 42).map (fun i => (i.zero, i.size, i.bytes)) = some (some (.agg #[.int .i64 0, .int .i64 0, .int .i64 0]), 3, 24) := by kernel_rfl

/-- of a row's cells the first k stamps of l -/
def RowIs (xs : List Value) (l : List Sm.St) (k : Nat) : Prop := ∀ i (h : i < l.length), i < k → xs[i * 3]? = some (.int .i64 l[i].1) ∧ xs[i * 3 + 1]? = some (.int .i64 l[i].2.1) ∧ xs[i * 3 + 2]? = some (.int .i64 l[i].2.2)

theorem RowIs.step {xs : List Value} {l : List Sm.St} {k : Nat} {t q n : Int} (hrow : RowIs xs l k) (hlt : k < l.length) (hs : l[k] = (t, q, n)) (hlen : xs.length = l.length * 3) :
    RowIs (((xs.set (k * 3) (.int .i64 t)).set (k * 3 + 1) (.int .i64 q)).set (k * 3 + 2) (.int .i64 n)) l (k + 1) := by
  intro i h hi
  by_cases e : i = k
  · subst e
    rw [hs]
    refine ⟨?_, ?_, ?_⟩
    · rw [List.getElem?_set_ne (by omega), List.getElem?_set_ne (by omega), List.getElem?_set_self (by omega)]
    · rw [List.getElem?_set_ne (by omega), List.getElem?_set_self (by simp; omega)]
    · rw [List.getElem?_set_self (by simp; omega)]
  · obtain ⟨a, b, c⟩ := hrow i h (by omega)
    refine ⟨?_, ?_, ?_⟩
    · rw [List.getElem?_set_ne (by omega), List.getElem?_set_ne (by omega), List.getElem?_set_ne (by omega)]; exact a
    · rw [List.getElem?_set_ne (by omega), List.getElem?_set_ne (by omega), List.getElem?_set_ne (by omega)]; exact b
    · rw [List.getElem?_set_ne (by omega), List.getElem?_set_ne (by omega), List.getElem?_set_ne (by omega)]; exact c
theorem RowIs.rd {w : World} {base g cap : Nat} {xs : List Value} {l : List Sm.St} {e : TypeId} (hown : w.ownsRow base e 3 (.slice (some ⟨g, 0, none⟩) l.length cap) l.length xs) (hrow : RowIs xs l l.length) : RdS w (some ⟨g, 0, none⟩) l := by
  intro i hi
  obtain ⟨a, b, c⟩ := hrow i hi hi
  refine ⟨g, 0, rfl, ?_, ?_, ?_⟩
  · rw [Nat.zero_add, hown.cellAt (i * 3) (by omega)]; exact a
  · rw [Nat.zero_add, hown.cellAt (i * 3 + 1) (by omega)]; exact b
  · rw [Nat.zero_add, hown.cellAt (i * 3 + 2) (by omega)]; exact c

/-- stamps as cells -/
def Ss (l : List Sm.St) : List Value := l.flatMap fun s => [.int .i64 s.1, .int .i64 s.2.1, .int .i64 s.2.2]
theorem Ss_snoc (l : List Sm.St) (t q n : Int) : Ss (l ++ [(t, q, n)]) = Ss l ++ [.int .i64 t, .int .i64 q, .int .i64 n] := by simp [Ss]
theorem Ss_row (l : List Sm.St) : RowIs (Ss l) l l.length := by
  induction l with
  | nil => intro i h; simp at h
  | cons s r ih =>
    intro i h hk
    cases i with
    | zero => exact ⟨rfl, rfl, rfl⟩
    | succ i =>
      have h' : i < r.length := by simpa using h
      obtain ⟨a, b, c⟩ := ih i h' h'
      have e : Ss (s :: r) = [.int .i64 s.1, .int .i64 s.2.1, .int .i64 s.2.2] ++ Ss r := rfl
      rw [e]
      refine ⟨?_, ?_, ?_⟩
      · rw [show (i + 1) * 3 = i * 3 + 3 from by omega, List.getElem?_append_right (by simp)]; simpa using a
      · rw [show (i + 1) * 3 + 1 = i * 3 + 1 + 3 from by omega, List.getElem?_append_right (by simp)]; simpa using b
      · rw [show (i + 1) * 3 + 2 = i * 3 + 2 + 3 from by omega, List.getElem?_append_right (by simp)]; simpa using c
theorem Ss_one (l : List Sm.St) : ∀ u ∈ Ss l, u.oneCell' = true := by
  intro u hu
  simp only [Ss, List.mem_flatMap, List.mem_cons, List.not_mem_nil, or_false] at hu
  obtain ⟨s, -, rfl | rfl | rfl⟩ := hu <;> rfl
/-- an owned row of stamps, read -/
theorem Ss_rd {w : World} {base : Nat} {e : TypeId} {v : Value} {l : List Sm.St} (hown : w.ownsRow base e 3 v l.length (Ss l)) : ∃ a cap, v = .slice a l.length cap ∧ RdS w a l := by
  rcases hown.2 with ⟨rfl, h0⟩ | ⟨g, cap, cur, rfl, _⟩
  · exact ⟨none, 0, by rw [h0], fun i h => by omega⟩
  · exact ⟨some ⟨g, 0, none⟩, cap, rfl, RowIs.rd hown (Ss_row l)⟩
theorem three_at {wr : World} {a b c : Value} {T : TypeId} : ∀ j u, [a, b, c][j]? = some u → (wr.alloc (.cells #[a, b, c] T)).cell? ((⟨wr.heap.size, 0, none⟩ : Addr).add j) = some u := by
  intro j u hj
  match j, hj with
  | 0, hj => simp at hj; subst hj; simp [Addr.add]
  | 1, hj => simp at hj; subst hj; simp [Addr.add]
  | 2, hj => simp at hj; subst hj; simp [Addr.add]
theorem three_one {x y z : Int} : ∀ u ∈ [Value.int .i64 x, .int .i64 y, .int .i64 z], u.oneCell' = true := by
  intro u hu
  simp at hu
  rcases hu with rfl | rfl | rfl <;> rfl
end Go.Proofs.Ytcejeiakgmamdac.Wk
