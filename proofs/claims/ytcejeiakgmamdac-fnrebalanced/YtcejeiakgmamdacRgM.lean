/- Rings: which are right, loads, zones, the best device, a ring that is built. Plain facts. -/
import Derived.Test.YtcejeiakgmamdacDvM
import Derived.Test.YtcejeiakgmamdacAtS
namespace Go.Proofs.Ytcejeiakgmamdac.Rg
set_option linter.unusedVariables false
open Dv

/-- no two alike, and as many as are asked for -/
def partB (p : List Int) (reps : Int) : Bool := decide p.Nodup && decide ((p.length : Int) = reps)
/-- all of devices that there are -/
def known (l : List Sm.St) (p : List Int) : Bool := p.all fun x => (at_ l x).isSome
/-- what is asked ahead of the parts -/
def headB (reps : Int) (n : Nat) (l : List Sm.St) : Bool := devs l && ((decide (1 ≤ reps) && decide (reps ≤ 5)) && (decide (1 ≤ n) && decide (n ≤ 64)))
/-- a part is as told -/
def partOk (reps : Int) (l : List Sm.St) (p : List Int) : Bool := partB p reps && known l p
def ringB (reps : Int) (ps : List (List Int)) (l : List Sm.St) : Bool := headB reps ps.length l && ps.all (partOk reps l)
/-- how often they have it -/
def load (ps : List (List Int)) (id : Int) : Nat := (ps.map fun p => p.count id).sum
/-- one more zone, if it is a new one -/
def zadd (l : List Sm.St) (out : List Int) (id : Int) : List Int := match at_ l id with
  | none => out
  | some d => if d.2.1 ∈ out then out else out ++ [d.2.1]
/-- the zones of these, each once -/
def zns (l : List Sm.St) (ids : List Int) : List Int := ids.foldl (zadd l) []

theorem partB_no {p : List Int} {k : Nat} {reps : Int} (hk : k < p.length) (h : p[k] ∈ p.take k) : partB p reps = false := by
  have : ¬ p.Nodup := by
    intro hn
    obtain ⟨j, hj, e⟩ := List.mem_iff_getElem.1 h
    rw [List.length_take] at hj
    rw [List.getElem_take] at e
    have := (List.getElem_inj (h₀ := by omega) (h₁ := hk) hn).1 e
    omega
  simp [partB, this]
theorem nodup_step {p : List Int} {k : Nat} (hk : k < p.length) (h : p[k] ∉ p.take k) (hn : (p.take k).Nodup) : (p.take (k + 1)).Nodup := by
  rw [List.take_succ_eq_append_getElem hk, List.nodup_append]
  refine ⟨hn, by simp, ?_⟩
  intro a ha b hb
  rw [List.mem_singleton] at hb
  subst hb
  intro e
  subst e
  exact h ha
theorem partB_end {p : List Int} {k : Nat} {reps : Int} (hk : ¬ k < p.length) (hn : (p.take k).Nodup) : partB p reps = decide ((p.length : Int) = reps) := by
  rw [List.take_of_length_le (by omega)] at hn
  simp [partB, hn]
theorem all_no {α : Type} {f : α → Bool} {l : List α} {k : Nat} (hk : k < l.length) (h : f l[k] = false) : l.all f = false := by
  rw [List.all_eq_false]
  exact ⟨l[k], List.getElem_mem hk, by rw [h]; simp⟩
theorem all_step {α : Type} {f : α → Bool} {l : List α} {k : Nat} (hk : k < l.length) (h : f l[k] = true) (ha : (l.take k).all f = true) : (l.take (k + 1)).all f = true := by
  rw [List.take_succ_eq_append_getElem hk, List.all_append, ha]
  simp [h]
theorem all_end {α : Type} {f : α → Bool} {l : List α} {k : Nat} (hk : ¬ k < l.length) (ha : (l.take k).all f = true) : l.all f = true := by
  rw [List.take_of_length_le (by omega)] at ha
  exact ha
theorem load_nil (id : Int) : load [] id = 0 := rfl
theorem load_snoc (ps : List (List Int)) (p : List Int) (id : Int) : load (ps ++ [p]) id = load ps id + p.count id := by simp [load]
theorem load_step {ps : List (List Int)} {k : Nat} (hk : k < ps.length) (id : Int) : load (ps.take (k + 1)) id = load (ps.take k) id + ps[k].count id := by
  rw [List.take_succ_eq_append_getElem hk, load_snoc]
theorem load_le (ps : List (List Int)) (id : Int) : load ps id ≤ (ps.map List.length).sum := by
  induction ps with
  | nil => simp [load]
  | cons p r ih =>
    have h1 : p.count id ≤ p.length := List.count_le_length
    simp only [load, List.map_cons, List.sum_cons] at ih ⊢
    omega
theorem count_step {p : List Int} {k : Nat} (hk : k < p.length) (id : Int) : (p.take (k + 1)).count id = (p.take k).count id + if p[k] = id then 1 else 0 := by
  rw [List.take_succ_eq_append_getElem hk, List.count_append, List.count_singleton]
  by_cases h : p[k] = id
  · simp [h]
  · simp [h]
theorem zns_step {ids : List Int} {k : Nat} (hk : k < ids.length) (l : List Sm.St) : zns l (ids.take (k + 1)) = zadd l (zns l (ids.take k)) ids[k] := by
  rw [List.take_succ_eq_append_getElem hk]
  unfold zns
  rw [List.foldl_append]
  rfl
theorem zadd_len (l : List Sm.St) (out : List Int) (id : Int) : (zadd l out id).length ≤ out.length + 1 := by
  unfold zadd
  split
  · omega
  · split
    · omega
    · simp
theorem zns_len (l : List Sm.St) (ids : List Int) : (zns l ids).length ≤ ids.length := by
  have : ∀ (ids out : List Int), (ids.foldl (zadd l) out).length ≤ out.length + ids.length := by
    intro ids
    induction ids with
    | nil => intro out; simp
    | cons x r ih =>
      intro out
      have h1 := ih (zadd l out x)
      have h2 := zadd_len l out x
      simp only [List.foldl_cons, List.length_cons]
      omega
  simpa [zns] using this ids []

/-- one device more to choose from: the best so far, and whether its zone is a new one -/
def bstep (ps : List (List Int)) (p zs : List Int) (s : Option (Sm.St × Bool)) (d : Sm.St) : Option (Sm.St × Bool) :=
  if d.1 ∈ p then s else
    match s with
    | none => some (d, !decide (d.2.1 ∈ zs))
    | some (b, fresh) =>
      if (!decide (d.2.1 ∈ zs)) = true ∧ fresh = false then some (d, true)
      else if (!decide (d.2.1 ∈ zs)) = fresh ∧ ((load ps d.1 : Int) + 1) * b.2.2 < ((load ps b.1 : Int) + 1) * d.2.2 then some (d, fresh)
      else some (b, fresh)
def bfold (ps : List (List Int)) (p zs : List Int) (l : List Sm.St) : Option (Sm.St × Bool) := l.foldl (bstep ps p zs) none
/-- the best device's Id, or -1 -/
def best (ps : List (List Int)) (p : List Int) (l : List Sm.St) : Int :=
  if devs l = true then (match bfold ps p (zns l p) l with
    | none => -1
    | some (d, _) => d.1) else -1
theorem bfold_step {l : List Sm.St} {k : Nat} (hk : k < l.length) (ps : List (List Int)) (p zs : List Int) : bfold ps p zs (l.take (k + 1)) = bstep ps p zs (bfold ps p zs (l.take k)) l[k] := by
  rw [List.take_succ_eq_append_getElem hk]
  unfold bfold
  rw [List.foldl_append]
  rfl
/-- so many devices for a part behind these -/
def grow (l : List Sm.St) (ps : List (List Int)) : Nat → List Int
  | 0 => []
  | k + 1 => grow l ps k ++ [best (ps ++ [grow l ps k]) (grow l ps k) l]
/-- so many parts -/
def parts (l : List Sm.St) (reps : Nat) : Nat → List (List Int)
  | 0 => []
  | i + 1 => parts l reps i ++ [grow l (parts l reps i) reps]
theorem grow_len (l : List Sm.St) (ps : List (List Int)) (k : Nat) : (grow l ps k).length = k := by
  induction k with
  | zero => rfl
  | succ k ih => simp [grow, ih]
theorem parts_len (l : List Sm.St) (reps i : Nat) : (parts l reps i).length = i := by
  induction i with
  | zero => rfl
  | succ i ih => simp [parts, ih]
theorem parts_each (l : List Sm.St) (reps i : Nat) : ∀ p ∈ parts l reps i, p.length = reps := by
  induction i with
  | zero => intro p hp; simp [parts] at hp
  | succ i ih =>
    intro p hp
    simp only [parts, List.mem_append, List.mem_singleton] at hp
    rcases hp with hp | rfl
    · exact ih p hp
    · exact grow_len _ _ _
end Go.Proofs.Ytcejeiakgmamdac.Rg
