/- What stands between the bytes of one kind in a text. Plain facts, nothing of the program is named here. -/
import Derived.Test.YtekjnfkmjmmcmabGreatDoorStM
import Derived.Lib.Split
import Derived.Lib.SplitLaws
import Derived.Lib.CountLaws
import Derived.Lib.IndexBytes
import Derived.Lib.IndexLaws
namespace Go.Proofs.YtekjnfkmjmmcmabGreatDoor.Pc
open Go.RowKit

/-- what stands between the bytes d -/
def pieces (d : UInt8) : List UInt8 → List (List UInt8)
  | [] => [[]]
  | c :: r => if c = d then [] :: pieces d r else
    match pieces d r with
    | [] => [[c]]
    | p :: ps => (c :: p) :: ps

theorem pieces_ne (d : UInt8) (l : List UInt8) : pieces d l ≠ [] := by
  cases l with
  | nil => simp [pieces]
  | cons c r =>
    unfold pieces
    split
    · simp
    · split <;> simp

theorem pieces_at (d : UInt8) (r : List UInt8) : pieces d (d :: r) = [] :: pieces d r := by rw [pieces, if_pos rfl]
theorem pieces_no {d c : UInt8} (h : ¬ c = d) (r : List UInt8) : ∃ p ps, pieces d r = p :: ps ∧ pieces d (c :: r) = (c :: p) :: ps := by
  cases hp : pieces d r with
  | nil => exact absurd hp (pieces_ne d r)
  | cons p ps => exact ⟨p, ps, rfl, by rw [pieces, if_neg h, hp]⟩

theorem pieces_run {d : UInt8} (a b : List UInt8) (h : ∀ c ∈ a, c ≠ d) : pieces d (a ++ d :: b) = a :: pieces d b := by
  induction a with
  | nil => exact pieces_at d b
  | cons c r ih =>
    have e := ih (fun x hx => h x (List.mem_cons_of_mem _ hx))
    obtain ⟨p, ps, e1, e2⟩ := pieces_no (h c List.mem_cons_self) (r ++ d :: b)
    rw [e] at e1
    simp only [List.cons.injEq] at e1
    obtain ⟨rfl, rfl⟩ := e1
    exact e2
theorem pieces_end {d : UInt8} (a : List UInt8) (h : ∀ c ∈ a, c ≠ d) : pieces d a = [a] := by
  induction a with
  | nil => rfl
  | cons c r ih =>
    have e := ih (fun x hx => h x (List.mem_cons_of_mem _ hx))
    obtain ⟨p, ps, e1, e2⟩ := pieces_no (h c List.mem_cons_self) r
    rw [e] at e1
    simp only [List.cons.injEq] at e1
    obtain ⟨rfl, rfl⟩ := e1
    exact e2

theorem pieces_miss {d : UInt8} {l : List UInt8} (h : Lib.index l [d] = -1) : pieces d l = [l] := by
  rw [Lib.index_one] at h
  refine pieces_end l (fun c hc e => ?_)
  subst e
  obtain ⟨k, hk, he⟩ := List.getElem_of_mem hc
  exact Lib.indexByte_none h k (by rw [List.getElem?_eq_getElem hk, he])
theorem pieces_hit {d : UInt8} {l : List UInt8} {i : Nat} (h : Lib.index l [d] = i) : pieces d l = l.take i :: pieces d (l.drop (i + 1)) := by
  rw [Lib.index_one] at h
  obtain ⟨h1, h2⟩ := Lib.indexByte_some h
  obtain ⟨hi, he⟩ := List.getElem?_eq_some_iff.1 h1
  have e : l = l.take i ++ d :: l.drop (i + 1) := by
    rw [← he, ← List.drop_eq_getElem_cons hi, List.take_append_drop]
  have hno : ∀ c ∈ l.take i, c ≠ d := by
    intro c hc e
    subst e
    obtain ⟨k, hk, hk2⟩ := List.getElem_of_mem hc
    have hk' : k < i := by rw [List.length_take] at hk; omega
    refine h2 k hk' ?_
    rw [List.getElem_take] at hk2
    rw [List.getElem?_eq_getElem (by omega), hk2]
  conv => lhs; rw [e]
  exact pieces_run _ _ hno

theorem split_pieces (d : UInt8) : ∀ (k : Nat) (l : List UInt8), Lib.count l [d] = k → Lib.splitK [d] 0 k l = pieces d l := by
  intro k
  induction k with
  | zero =>
    intro l hk
    rcases Lib.index_spec l [d] with ⟨h, _⟩ | ⟨i, h, _⟩
    · rw [pieces_miss h]; rfl
    · rw [Lib.count_hit (by simp) h] at hk; omega
  | succ k ih =>
    intro l hk
    rcases Lib.index_spec l [d] with ⟨h, _⟩ | ⟨i, h, _⟩
    · rw [Lib.count_miss h] at hk; omega
    · have hc := Lib.count_hit (sub := [d]) (by simp) h
      rw [hk] at hc
      have hd : Lib.count (l.drop (i + 1)) [d] = k := by
        have : ([d] : List UInt8).length = 1 := rfl
        rw [this] at hc; omega
      have hm : ¬ (Lib.index l [d] == -1) = true := fun e => by have := beq_iff_eq.1 e; omega
      unfold Lib.splitK
      rw [if_neg hm, h, Int.toNat_natCast, pieces_hit h, Nat.add_zero]
      have : ([d] : List UInt8).length = 1 := rfl
      rw [this, ih _ hd]
theorem count_pieces (d : UInt8) (l : List UInt8) : (pieces d l).length = Lib.count l [d] + 1 := by
  generalize hk : Lib.count l [d] = k
  induction k generalizing l with
  | zero =>
    rcases Lib.index_spec l [d] with ⟨h, _⟩ | ⟨i, h, _⟩
    · rw [pieces_miss h]; rfl
    · rw [Lib.count_hit (by simp) h] at hk; omega
  | succ k ih =>
    rcases Lib.index_spec l [d] with ⟨h, _⟩ | ⟨i, h, _⟩
    · rw [Lib.count_miss h] at hk; omega
    · have hc := Lib.count_hit (sub := [d]) (by simp) h
      rw [hk] at hc
      have hd : Lib.count (l.drop (i + 1)) [d] = k := by
        have : ([d] : List UInt8).length = 1 := rfl
        rw [this] at hc; omega
      rw [pieces_hit h, List.length_cons, ih _ hd]

theorem pieces_len (d : UInt8) (l : List UInt8) : ∀ p ∈ pieces d l, p.length ≤ l.length := by
  induction l with
  | nil => intro p hp; simp [pieces] at hp; subst hp; simp
  | cons c r ih =>
    intro p hp
    by_cases hc : c = d
    · subst hc
      rw [pieces_at] at hp
      rcases List.mem_cons.1 hp with rfl | hp
      · simp
      · have := ih p hp; simp; omega
    · obtain ⟨p', ps, e1, e2⟩ := pieces_no hc r
      rw [e2] at hp
      rw [e1] at ih
      rcases List.mem_cons.1 hp with rfl | hp
      · have := ih p' List.mem_cons_self; simp; omega
      · have := ih p (List.mem_cons_of_mem _ hp); simp; omega
/-- the pieces with the byte between are the text -/
theorem pieces_join (d : UInt8) (l : List UInt8) : ∀ p ps, pieces d l = p :: ps → l = p ++ ps.flatMap fun x => d :: x := by
  induction l with
  | nil => intro p ps h; simp [pieces] at h; obtain ⟨rfl, rfl⟩ := h; rfl
  | cons c r ih =>
    intro p ps h
    by_cases hc : c = d
    · subst hc
      rw [pieces_at] at h
      simp only [List.cons.injEq] at h
      obtain ⟨rfl, rfl⟩ := h
      cases hp : pieces c r with
      | nil => exact absurd hp (pieces_ne c r)
      | cons q qs =>
        have := ih q qs hp
        conv => lhs; rw [this]
        simp
    · obtain ⟨q, qs, e1, e2⟩ := pieces_no hc r
      rw [e2] at h
      simp only [List.cons.injEq] at h
      obtain ⟨rfl, rfl⟩ := h
      have := ih q qs e1
      conv => lhs; rw [this]
      rfl
theorem pieces_few (d : UInt8) (l : List UInt8) : (pieces d l).length ≤ l.length + 1 := by
  induction l with
  | nil => simp [pieces]
  | cons c r ih =>
    by_cases hc : c = d
    · subst hc
      rw [pieces_at]
      simp
      omega
    · obtain ⟨q, qs, e1, e2⟩ := pieces_no hc r
      rw [e2]
      rw [e1] at ih
      simp at ih ⊢
      omega
end Go.Proofs.YtekjnfkmjmmcmabGreatDoor.Pc
