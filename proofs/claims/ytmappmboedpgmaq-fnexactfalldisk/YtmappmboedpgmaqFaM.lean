/- A crash of a disk, as lists: of each name what it is in the one list or in the other. -/
import Derived.Test.YtmappmboedpgmaqFaS
import Derived.Test.YtmappmboedpgmaqNwC
namespace Go.Proofs.Ytmappmboedpgmaq.Wk
set_option linter.unusedVariables false
open Go.ChangeShapes Go.WideShapes Go.ChangeAt Go.RowKit

def stepF {α : Type} (l1 l2 : List (ByteArray × α)) (kp : Bool) (s : ByteArray) : List (ByteArray × α) := match rfind (if kp = true then l1 else l2) s with
  | some v => [(s, v)]
  | none => []
/-- the first k names -/
def fallF {α : Type} (l1 l2 : List (ByteArray × α)) (keep : List Bool) (ns : List Nd) (k : Nat) : List (ByteArray × α) := (ns.take k).zipIdx.flatMap fun x => stepF l1 l2 (keep.getD x.2 false) x.1.1
theorem fallF_step {α : Type} {l1 l2 : List (ByteArray × α)} {keep : List Bool} {ns : List Nd} {k : Nat} (h : k < ns.length) : fallF l1 l2 keep ns (k + 1) = fallF l1 l2 keep ns k ++ stepF l1 l2 (keep.getD k false) ns[k].1 := by
  unfold fallF
  rw [List.take_succ_eq_append_getElem h, List.zipIdx_append, List.flatMap_append]
  congr 1
  simp [Nat.min_eq_left (Nat.le_of_lt h)]
theorem fallF_zero {α : Type} (l1 l2 : List (ByteArray × α)) (keep : List Bool) (ns : List Nd) : fallF l1 l2 keep ns 0 = [] := by simp [fallF]
theorem stepF_map {α β : Type} (f : ByteArray → α → β) (l1 l2 : List (ByteArray × α)) (kp : Bool) (s : ByteArray) : stepF (mapN f l1) (mapN f l2) kp s = mapN f (stepF l1 l2 kp s) := by
  unfold stepF
  rw [show (if kp = true then mapN f l1 else mapN f l2) = mapN f (if kp = true then l1 else l2) from by split <;> rfl, rfind_map]
  cases rfind (if kp = true then l1 else l2) s with
  | none => rfl
  | some v => rfl
theorem fallF_map {α β : Type} (f : ByteArray → α → β) (l1 l2 : List (ByteArray × α)) (keep : List Bool) (ns : List Nd) (k : Nat) (h : k ≤ ns.length) : fallF (mapN f l1) (mapN f l2) keep ns k = mapN f (fallF l1 l2 keep ns k) := by
  induction k with
  | zero => rw [fallF_zero, fallF_zero]; rfl
  | succ k ih =>
    rw [fallF_step h, fallF_step h, ih (by omega), stepF_map]
    simp [mapN]
theorem stepF_mem {α : Type} {l1 l2 : List (ByteArray × α)} {kp : Bool} {s : ByteArray} {x : ByteArray × α} (h : x ∈ stepF l1 l2 kp s) : x ∈ l1 ∨ x ∈ l2 := by
  unfold stepF at h
  cases hf : rfind (if kp = true then l1 else l2) s with
  | none => rw [hf] at h; cases h
  | some v =>
    rw [hf] at h
    rw [List.mem_singleton.1 h]
    have := rfind_some hf
    cases kp with
    | true => exact .inl this
    | false => exact .inr this
theorem fallF_mem {α : Type} {l1 l2 : List (ByteArray × α)} {keep : List Bool} {ns : List Nd} {k : Nat} {x : ByteArray × α} (h : x ∈ fallF l1 l2 keep ns k) : x ∈ l1 ∨ x ∈ l2 := by
  obtain ⟨y, -, hy⟩ := List.mem_flatMap.1 h
  exact stepF_mem hy
theorem rfind_at' (l : List Nd) (s : ByteArray) : rfind l s = (ndAt l s).bind fun k => (l[k]?).map (·.2) := by
  unfold rfind ndAt
  induction l with
  | nil => rfl
  | cons x t ih =>
    by_cases e : x.1 = s
    · simp [e, List.findIdx?_cons]
    · rw [List.find?_cons_of_neg (by simpa using e), ih, List.findIdx?_cons]
      simp only [e, decide_false, Bool.false_eq_true, if_false]
      cases t.findIdx? (fun x => decide (x.1 = s)) <;> simp
theorem row_at {rs : List Rw} {l : List Nd} (e : nds rs = l) {s : ByteArray} {j : Nat} (h : ndAt l s = some j) (hj : j < rs.length) : rs[j] = (s, rs[j].2) := by
  obtain ⟨hjl, hp, -⟩ := List.findIdx?_eq_some_iff_getElem.1 h
  subst e
  have := nds_get rs j hj
  rw [this] at hp
  have hp' : rs[j].1 = s := by simpa using hp
  rw [← hp']
/-- the look-up in rows, by the place -/
theorem rfind_rows {rs : List Rw} {l : List Nd} (e : nds rs = l) (s : ByteArray) : rfind rs s = (ndAt l s).bind fun k => (rs[k]?).map (·.2) := by
  subst e
  unfold rfind ndAt nds mapN
  rw [List.findIdx?_map]
  induction rs with
  | nil => rfl
  | cons x t ih =>
    by_cases e : x.1 = s
    · simp [e, List.findIdx?_cons]
    · rw [List.find?_cons_of_neg (by simpa using e), ih, List.findIdx?_cons]
      simp only [Function.comp, e, decide_false, Bool.false_eq_true, if_false]
      cases t.findIdx? _ <;> simp
theorem foldPut_len {α : Type} (l o : List (ByteArray × α)) : (l.foldl putR o).length ≤ o.length + l.length := by
  induction l generalizing o with
  | nil => simp
  | cons x t ih =>
    have h1 := ih (putR o x)
    have h2 := putR_len o x
    simp only [List.foldl_cons, List.length_cons]
    omega
theorem nmsL_len (l1 l2 : List Nd) : (nmsL l1 l2).length ≤ l1.length + l2.length := by
  have := foldPut_len (nmE l1 ++ nmE l2) []
  unfold nmsL putAll
  rw [List.length_append, nmE_len, nmE_len] at this
  simpa using this
/-- what FallDisk of the specification comes to -/
noncomputable def fallS (l1 l2 : List Nd) (keep : List Bool) : List Nd × List Nd :=
  if (listOk l1 && listOk l2) = true then if 60 < (fallF l1 l2 keep (nmsL l1 l2) (nmsL l1 l2).length).length then (l1, l2) else (fallF l1 l2 keep (nmsL l1 l2) (nmsL l1 l2).length, fallF l1 l2 keep (nmsL l1 l2) (nmsL l1 l2).length)
  else (l1, l2)
/-- the address a leads to these flags -/
def RdK (w : World) (a : Option Addr) (keep : List Bool) : Prop := ∀ i (h : i < keep.length), ∃ b off, a = some ⟨b, off, none⟩ ∧ w.cell? ⟨b, off + i, none⟩ = some (.bool keep[i])
theorem RdK.below {w w' : World} {a : Option Addr} {keep : List Bool} (h : RdK w a keep) (hb : Below w.heap.size w w') : RdK w' a keep := by
  intro i hi
  obtain ⟨b, off, e, c⟩ := h i hi
  exact ⟨b, off, e, cellNd c hb⟩
/-- a call that answers a disk -/
def DkAns1 (w : World) (l1 l2 : List Nd) (e : Ending) (w' : World) : Prop := ∃ (a1 a2 : Option Addr) (c1 c2 : Nat) (r1 r2 : List Rw), e = .returned (.agg #[.slice a1 l1.length c1, .slice a2 l2.length c2]) ∧
  OwnD w' w.heap.size (.slice a1 l1.length c1) (.slice a2 l2.length c2) r1 r2 ∧ nds r1 = l1 ∧ nds r2 = l2 ∧ Below w.heap.size w w'
theorem DkAns1.set {w wE w6 : World} {b : Nat} {a1 a2 : Option Addr} {c1 c2 : Nat} {l1 l2 : List Nd} {r1 r2 : List Rw} (hB : Below w.heap.size w w6) (OD : OwnD w6 wE.heap.size (.slice a1 l1.length c1) (.slice a2 l2.length c2) r1 r2) (e1 : nds r1 = l1) (e2 : nds r2 = l2)
    (hb : w.heap.size ≤ b) (hlt : b < wE.heap.size) (hle : w.heap.size ≤ wE.heap.size) : DkAns1 w l1 l2 (.returned (.agg #[.slice a1 l1.length c1, .slice a2 l2.length c2])) ((w6.setCell ⟨b, 0, none⟩ (.slice a1 l1.length c1)).setCell ⟨b, 1, none⟩ (.slice a2 l2.length c2)) :=
  ⟨a1, a2, c1, c2, r1, r2, rfl, ((OD.far hlt).far hlt).base hle, e1, e2, setBelow hB hb _ _⟩
end Go.Proofs.Ytmappmboedpgmaq.Wk
