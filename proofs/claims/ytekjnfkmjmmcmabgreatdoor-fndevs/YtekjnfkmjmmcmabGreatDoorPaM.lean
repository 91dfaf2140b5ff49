/- Texts of numbers with dots between: pieces, digits, what three of them are worth. Plain facts, nothing of the program is named here. -/
import Derived.Test.YtekjnfkmjmmcmabGreatDoorStM
import Derived.Lib.Split
import Derived.Lib.SplitLaws
import Derived.Lib.CountLaws
import Derived.Lib.IndexBytes
import Derived.Lib.IndexLaws
import Derived.Lib.ItoaNum
namespace Go.Proofs.YtekjnfkmjmmcmabGreatDoor.Sm
open Go.RowKit

/-- what stands between the dots -/
def pieces : List UInt8 → List (List UInt8)
  | [] => [[]]
  | c :: r => if c = 46 then [] :: pieces r else
    match pieces r with
    | [] => [[c]]
    | p :: ps => (c :: p) :: ps

theorem pieces_ne (l : List UInt8) : pieces l ≠ [] := by
  cases l with
  | nil => simp [pieces]
  | cons c r =>
    unfold pieces
    split
    · simp
    · split <;> simp

theorem pieces_dot (r : List UInt8) : pieces (46 :: r) = [] :: pieces r := by rw [pieces, if_pos rfl]
theorem pieces_no {c : UInt8} (h : ¬ c = 46) (r : List UInt8) : ∃ p ps, pieces r = p :: ps ∧ pieces (c :: r) = (c :: p) :: ps := by
  cases hp : pieces r with
  | nil => exact absurd hp (pieces_ne r)
  | cons p ps => exact ⟨p, ps, rfl, by rw [pieces, if_neg h, hp]⟩

theorem pieces_run (a b : List UInt8) (h : ∀ c ∈ a, c ≠ 46) : pieces (a ++ 46 :: b) = a :: pieces b := by
  induction a with
  | nil => exact pieces_dot b
  | cons c r ih =>
    have e := ih (fun x hx => h x (List.mem_cons_of_mem _ hx))
    obtain ⟨p, ps, e1, e2⟩ := pieces_no (h c List.mem_cons_self) (r ++ 46 :: b)
    rw [e] at e1
    simp only [List.cons.injEq] at e1
    obtain ⟨rfl, rfl⟩ := e1
    exact e2
theorem pieces_end (a : List UInt8) (h : ∀ c ∈ a, c ≠ 46) : pieces a = [a] := by
  induction a with
  | nil => rfl
  | cons c r ih =>
    have e := ih (fun x hx => h x (List.mem_cons_of_mem _ hx))
    obtain ⟨p, ps, e1, e2⟩ := pieces_no (h c List.mem_cons_self) r
    rw [e] at e1
    simp only [List.cons.injEq] at e1
    obtain ⟨rfl, rfl⟩ := e1
    exact e2

theorem pieces_miss {l : List UInt8} (h : Lib.index l [46] = -1) : pieces l = [l] := by
  rw [Lib.index_one] at h
  refine pieces_end l (fun c hc e => ?_)
  subst e
  obtain ⟨k, hk, he⟩ := List.getElem_of_mem hc
  exact Lib.indexByte_none h k (by rw [List.getElem?_eq_getElem hk, he])
theorem pieces_hit {l : List UInt8} {i : Nat} (h : Lib.index l [46] = i) : pieces l = l.take i :: pieces (l.drop (i + 1)) := by
  rw [Lib.index_one] at h
  obtain ⟨h1, h2⟩ := Lib.indexByte_some h
  obtain ⟨hi, he⟩ := List.getElem?_eq_some_iff.1 h1
  have e : l = l.take i ++ 46 :: l.drop (i + 1) := by
    rw [← he, ← List.drop_eq_getElem_cons hi, List.take_append_drop]
  have hno : ∀ c ∈ l.take i, c ≠ 46 := by
    intro c hc e
    subst e
    obtain ⟨k, hk, hk2⟩ := List.getElem_of_mem hc
    have hk' : k < i := by rw [List.length_take] at hk; omega
    refine h2 k hk' ?_
    rw [List.getElem_take] at hk2
    rw [List.getElem?_eq_getElem (by omega), hk2]
  conv => lhs; rw [e]
  exact pieces_run _ _ hno

theorem split_pieces : ∀ (k : Nat) (l : List UInt8), Lib.count l [46] = k → Lib.splitK [46] 0 k l = pieces l := by
  intro k
  induction k with
  | zero =>
    intro l hk
    rcases Lib.index_spec l [46] with ⟨h, _⟩ | ⟨i, h, _⟩
    · rw [pieces_miss h]; rfl
    · rw [Lib.count_hit (by simp) h] at hk; omega
  | succ k ih =>
    intro l hk
    rcases Lib.index_spec l [46] with ⟨h, _⟩ | ⟨i, h, _⟩
    · rw [Lib.count_miss h] at hk; omega
    · have hc := Lib.count_hit (sub := [46]) (by simp) h
      rw [hk] at hc
      have hd : Lib.count (l.drop (i + 1)) [46] = k := by
        have : ([46] : List UInt8).length = 1 := rfl
        rw [this] at hc; omega
      have hm : ¬ (Lib.index l [46] == -1) = true := fun e => by have := beq_iff_eq.1 e; omega
      unfold Lib.splitK
      rw [if_neg hm, h, Int.toNat_natCast, pieces_hit h, Nat.add_zero]
      have : ([46] : List UInt8).length = 1 := rfl
      rw [this, ih _ hd]
theorem count_pieces (l : List UInt8) : (pieces l).length = Lib.count l [46] + 1 := by
  generalize hk : Lib.count l [46] = k
  induction k generalizing l with
  | zero =>
    rcases Lib.index_spec l [46] with ⟨h, _⟩ | ⟨i, h, _⟩
    · rw [pieces_miss h]; rfl
    · rw [Lib.count_hit (by simp) h] at hk; omega
  | succ k ih =>
    rcases Lib.index_spec l [46] with ⟨h, _⟩ | ⟨i, h, _⟩
    · rw [Lib.count_miss h] at hk; omega
    · have hc := Lib.count_hit (sub := [46]) (by simp) h
      rw [hk] at hc
      have hd : Lib.count (l.drop (i + 1)) [46] = k := by
        have : ([46] : List UInt8).length = 1 := rfl
        rw [this] at hc; omega
      rw [pieces_hit h, List.length_cons, ih _ hd]

/-- digits alone, and no needless noughts ahead -/
def digit (c : UInt8) : Bool := decide (48 ≤ c.toNat) && decide (c.toNat ≤ 57)
def isNum (l : List UInt8) : Bool := !l.isEmpty && !(decide (1 < l.length) && l.head? == some 48) && l.all digit
def val (l : List UInt8) : Nat := l.foldl (fun n c => n * 10 + (c.toNat - 48)) 0
theorem val_snoc (l : List UInt8) (c : UInt8) : val (l ++ [c]) = val l * 10 + (c.toNat - 48) := by unfold val; rw [List.foldl_append]; rfl
theorem val_grow : ∀ (r : List UInt8) (n : Nat), n ≤ r.foldl (fun n c => n * 10 + (c.toNat - 48)) n := by
  intro r
  induction r with
  | nil => intro n; exact Nat.le_refl _
  | cons c r ih => intro n; exact Nat.le_trans (show n ≤ n * 10 + (c.toNat - 48) by omega) (ih _)
theorem val_take (l : List UInt8) (k : Nat) : val (l.take k) ≤ val l := by
  have h := val_grow (l.drop k) (val (l.take k))
  have e : val l = (l.drop k).foldl (fun n c => n * 10 + (c.toNat - 48)) (val (l.take k)) := by
    unfold val; rw [← List.foldl_append, List.take_append_drop]
  rw [e]; exact h
theorem val_big : ∀ (r : List UInt8) (n : Nat), n * 10 ^ r.length ≤ r.foldl (fun n c => n * 10 + (c.toNat - 48)) n := by
  intro r
  induction r with
  | nil => intro n; simp
  | cons c r ih =>
    intro n
    refine Nat.le_trans ?_ (ih _)
    rw [List.length_cons, Nat.pow_succ]
    have : n * (10 ^ r.length * 10) = n * 10 * 10 ^ r.length := by rw [Nat.mul_comm (10 ^ r.length) 10, Nat.mul_assoc]
    rw [this]
    exact Nat.mul_le_mul_right _ (show n * 10 ≤ n * 10 + (c.toNat - 48) by omega)

theorem isNum_digits {l : List UInt8} (h : isNum l = true) : ∀ c ∈ l, 48 ≤ c.toNat ∧ c.toNat ≤ 57 := by
  unfold isNum at h
  simp only [Bool.and_eq_true, List.all_eq_true] at h
  intro c hc
  have := h.2 c hc
  unfold digit at this
  simpa using this
theorem isNum_pos {l : List UInt8} (h : isNum l = true) : 0 < l.length := by
  unfold isNum at h
  cases l with
  | nil => simp at h
  | cons c r => simp
theorem isNum_head {l : List UInt8} (h : isNum l = true) (h1 : 1 < l.length) : l.head? ≠ some 48 := by
  unfold isNum at h
  intro e
  simp [e, h1] at h
theorem isNum_long {l : List UInt8} (h : isNum l = true) (hl : 10 < l.length) : 10000000000 ≤ val l := by
  cases l with
  | nil => simp at hl
  | cons c r =>
    have hd := isNum_digits h c List.mem_cons_self
    have hh := isNum_head h (by simp at hl ⊢; omega)
    have hc : c.toNat ≠ 48 := by
      intro e
      apply hh
      have : c = 48 := UInt8.toNat_inj.1 (by rw [e]; rfl)
      rw [this]; rfl
    have hb := val_big r (c.toNat - 48)
    have e : val (c :: r) = r.foldl (fun n c => n * 10 + (c.toNat - 48)) (c.toNat - 48) := by unfold val; simp
    rw [e]
    refine Nat.le_trans ?_ hb
    have hp : 10 ^ 10 ≤ 10 ^ r.length := Nat.pow_le_pow_right (by decide) (by simp at hl; omega)
    calc 10000000000 = 1 * 10 ^ 10 := by decide
      _ ≤ (c.toNat - 48) * 10 ^ r.length := Nat.mul_le_mul (by omega) hp

/-- a number up to a limit -/
def rd (limit : Nat) (l : List UInt8) : Option Nat := if isNum l = true ∧ val l ≤ limit then some (val l) else none
/-- three numbers in their ranges -/
def parse (l : List UInt8) : Option (Nat × Nat × Nat) :=
  match pieces l with
  | [a, b, c] => (rd 1000000000 a).bind fun t => (rd 1000000 b).bind fun q => (rd 20 c).map fun n => (t, q, n)
  | _ => none
/-- the specification's number: none is -1, more than ten digits are none -/
def num10 (l : List UInt8) : Int := if isNum l = true ∧ l.length ≤ 10 then (val l : Int) else -1
theorem num10_rd (l : List UInt8) (m : Nat) (hm : m < 10000000000) : (0 ≤ num10 l ∧ num10 l ≤ m) ↔ ∃ v, rd m l = some v ∧ num10 l = v := by
  unfold num10 rd
  by_cases h : isNum l = true
  · by_cases hl : l.length ≤ 10
    · rw [if_pos ⟨h, hl⟩]
      by_cases hv : val l ≤ m
      · rw [if_pos ⟨h, hv⟩]
        exact ⟨fun _ => ⟨_, rfl, rfl⟩, fun _ => by omega⟩
      · rw [if_neg (fun x => hv x.2)]
        exact ⟨fun x => by omega, fun ⟨v, x, _⟩ => by cases x⟩
    · rw [if_neg (fun x => hl x.2)]
      have := isNum_long h (by omega)
      rw [if_neg (fun x => by have := x.2; omega)]
      exact ⟨fun x => by omega, fun ⟨v, x, _⟩ => by cases x⟩
  · rw [if_neg (fun x => h x.1), if_neg (fun x => h x.1)]
    exact ⟨fun x => by omega, fun ⟨v, x, _⟩ => by cases x⟩
end Go.Proofs.YtekjnfkmjmmcmabGreatDoor.Sm
