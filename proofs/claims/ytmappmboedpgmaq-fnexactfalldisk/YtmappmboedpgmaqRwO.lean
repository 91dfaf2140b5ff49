/- Rows of named bytes, each with the value that leads to its bytes: what is read, what is owned. -/
import Derived.Test.YtmappmboedpgmaqRwM
import Derived.Test.YtmappmboedpgmaqDdO
namespace Go.Proofs.Ytmappmboedpgmaq.Wk
set_option linter.unusedVariables false
open Go.ChangeShapes Go.WideShapes Go.ChangeAt Go.RowKit

/-- a name, the slice that leads to its bytes, the bytes -/
abbrev Rw := ByteArray × Value × List UInt8
/-- two cells each -/
def csR (rs : List Rw) : List Value := rs.flatMap fun r => [.string r.1, r.2.1]
def nds (rs : List Rw) : List Nd := mapN (fun _ x => x.2) rs
def vals (rs : List Rw) : List Value := rs.map fun r => r.2.1
theorem csR_len (rs : List Rw) : (csR rs).length = rs.length * 2 := by
  induction rs with
  | nil => rfl
  | cons r t ih => simp [csR] at ih ⊢; omega
theorem csR_append (a b : List Rw) : csR (a ++ b) = csR a ++ csR b := by simp [csR]
theorem csR_snoc (a : List Rw) (r : Rw) : csR (a ++ [r]) = csR a ++ [.string r.1, r.2.1] := by simp [csR]
theorem csR_get : ∀ (rs : List Rw) (i : Nat) (h : i < rs.length), (csR rs)[i * 2]? = some (.string rs[i].1) ∧ (csR rs)[i * 2 + 1]? = some rs[i].2.1
  | r :: t, 0, h => ⟨rfl, rfl⟩
  | r :: t, i + 1, h => by
    have := csR_get t i (by simpa using h)
    rw [show (i + 1) * 2 = i * 2 + 1 + 1 from by omega]
    simpa [csR] using this
theorem nds_len (rs : List Rw) : (nds rs).length = rs.length := by simp [nds, mapN]
theorem nds_get (rs : List Rw) (i : Nat) (h : i < rs.length) : (nds rs)[i]'(by rw [nds_len]; exact h) = (rs[i].1, rs[i].2.2) := by simp [nds, mapN]
theorem nds_mem {rs : List Rw} {r : Rw} (h : r ∈ rs) : (r.1, r.2.2) ∈ nds rs := List.mem_map.2 ⟨r, h, rfl⟩

/-- the address a leads to these rows -/
def RdR (w : World) (a : Option Addr) (rs : List Rw) : Prop := ∀ i (h : i < rs.length), ∃ b off, a = some ⟨b, off, none⟩ ∧ w.cell? ⟨b, off + i * 2, none⟩ = some (.string rs[i].1) ∧ w.cell? ⟨b, off + i * 2 + 1, none⟩ = some rs[i].2.1
/-- the slice u leads to the bytes p -/
def RdV (w : World) (u : Value) (p : List UInt8) : Prop := ∃ ai ci, u = .slice ai p.length ci ∧ RdA w ai p ∧ p.length ≤ ci ∧ (ai = none → ci = 0)
def BysR (w : World) (rs : List Rw) : Prop := ∀ r ∈ rs, RdV w r.2.1 r.2.2
theorem RdR.below {w w' : World} {a : Option Addr} {rs : List Rw} (h : RdR w a rs) (hb : Below w.heap.size w w') : RdR w' a rs := by
  intro i hi
  obtain ⟨b, off, ha, h1, h2⟩ := h i hi
  exact ⟨b, off, ha, cellNd h1 hb, cellNd h2 hb⟩
theorem RdV.below {w w' : World} {u : Value} {p : List UInt8} (h : RdV w u p) (hb : Below w.heap.size w w') : RdV w' u p :=
  let ⟨ai, ci, e, h1, h2, h3⟩ := h; ⟨ai, ci, e, h1.below hb, h2, h3⟩
theorem BysR.below {w w' : World} {rs : List Rw} (h : BysR w rs) (hb : Below w.heap.size w w') : BysR w' rs := fun r hr => (h r hr).below hb
theorem RdR.nil (w : World) (a : Option Addr) : RdR w a [] := fun i hi => by simp at hi
theorem RdR.own {w : World} {base n c : Nat} {T : TypeId} {a : Option Addr} {rs : List Rw} (h : w.ownsRow base T 2 (.slice a n c) n (csR rs)) : RdR w a rs := by
  intro i hi
  have hn : n = rs.length := by have := h.1; rw [csR_len] at this; omega
  rcases h.2 with ⟨h', hz⟩ | ⟨g, c, cur, h', hb, hg, hnc, hcm, hcs, ht⟩
  · omega
  · simp only [Value.slice.injEq] at h'
    obtain ⟨rfl, -, rfl⟩ := h'
    have hc := csR_get rs i hi
    refine ⟨g, 0, rfl, ?_, ?_⟩
    · have := h.cellAt (i * 2) (by omega)
      rw [Nat.zero_add, this]; exact hc.1
    · have := h.cellAt (i * 2 + 1) (by omega)
      rw [Nat.zero_add, this]; exact hc.2
theorem rdV_own {w : World} {base : Nat} {u : Value} {p : List UInt8} (h : OwnB w base u p) : RdV w u p := by
  rcases h.2 with ⟨e, h0⟩ | ⟨g, cap, cur, e, hb, hg, hc, hm, hs, ht⟩
  · exact ⟨none, 0, by rw [e, h0], fun i hi => by omega, by omega, fun _ => rfl⟩
  · subst e
    exact ⟨_, cap, rfl, RdA.own h, hc, fun e => by cases e⟩
theorem rdNd_of {w : World} {a : Option Addr} {rs : List Rw} (h : RdR w a rs) (hy : BysR w rs) : RdNd w a (nds rs) := by
  intro i hi
  have hi' : i < rs.length := by rw [nds_len] at hi; exact hi
  obtain ⟨b, off, ha, h1, h2⟩ := h i hi'
  obtain ⟨ai, ci, e, h3, h4, h5⟩ := hy _ (List.getElem_mem hi')
  rw [nds_get rs i hi']
  exact ⟨b, off, ai, ci, ha, h1, by rw [← e]; exact h2, h3, h4, h5⟩
theorem rdR_ex {w : World} {a : Option Addr} {l : List Nd} (h : RdNd w a l) : ∃ rs, nds rs = l ∧ RdR w a rs ∧ BysR w rs := by
  have H : ∀ i (hi : i < l.length), ∃ u : Value, (∃ b off, a = some ⟨b, off, none⟩ ∧ w.cell? ⟨b, off + i * 2, none⟩ = some (.string l[i].1) ∧ w.cell? ⟨b, off + i * 2 + 1, none⟩ = some u) ∧ RdV w u l[i].2 := fun i hi =>
    let ⟨b, off, ai, ci, e, h1, h2, h3, h4, h5⟩ := h i hi
    ⟨.slice ai l[i].2.length ci, ⟨b, off, e, h1, h2⟩, ai, ci, rfl, h3, h4, h5⟩
  refine ⟨List.ofFn fun i : Fin l.length => (l[i].1, Classical.choose (H i i.2), l[i].2), ?_, ?_, ?_⟩
  · unfold nds mapN
    rw [List.map_ofFn]
    apply List.ext_getElem
    · simp
    · intro i h1 h2; simp
  · intro i hi
    have hi' : i < l.length := by simpa using hi
    obtain ⟨b, off, e, h1, h2⟩ := (Classical.choose_spec (H i hi')).1
    exact ⟨b, off, e, by simpa using h1, by simpa using h2⟩
  · intro r hr
    obtain ⟨i, rfl⟩ := (List.mem_ofFn).1 hr
    exact (Classical.choose_spec (H i i.2)).2

/-- the rows' bytes are the call's own -/
def BysO (w : World) (base : Nat) (rs : List Rw) : Prop := ∀ r ∈ rs, OwnB w base r.2.1 r.2.2
theorem BysO.rd {w : World} {base : Nat} {rs : List Rw} (h : BysO w base rs) : BysR w rs := fun r hr => rdV_own (h r hr)
theorem BysO.below {w w' : World} {base : Nat} {rs : List Rw} (h : BysO w base rs) (hb : Below w.heap.size w w') : BysO w' base rs := fun r hr => ownBelow (h r hr) hb
theorem BysO.base {w : World} {base base' : Nat} {rs : List Rw} (h : BysO w base rs) (hb : base' ≤ base) : BysO w base' rs := fun r hr => ownBase (h r hr) hb
/-- a disk in memory of its own, row by row -/
def OwnD (w : World) (base : Nat) (v1 v2 : Value) (r1 r2 : List Rw) : Prop := w.ownsRow base 57 2 v1 r1.length (csR r1) ∧ w.ownsRow base 57 2 v2 r2.length (csR r2) ∧ BysO w base r1 ∧ BysO w base r2 ∧
  (v1 :: v2 :: (vals r1 ++ vals r2)).Pairwise Apart
theorem OwnD.below {w w' : World} {base : Nat} {v1 v2 : Value} {r1 r2 : List Rw} (h : OwnD w base v1 v2 r1 r2) (hb : Below w.heap.size w w') : OwnD w' base v1 v2 r1 r2 :=
  ⟨ownBelow h.1 hb, ownBelow h.2.1 hb, h.2.2.1.below hb, h.2.2.2.1.below hb, h.2.2.2.2⟩
theorem OwnD.base {w : World} {base base' : Nat} {v1 v2 : Value} {r1 r2 : List Rw} (h : OwnD w base v1 v2 r1 r2) (hb : base' ≤ base) : OwnD w base' v1 v2 r1 r2 :=
  ⟨ownBase h.1 hb, ownBase h.2.1 hb, h.2.2.1.base hb, h.2.2.2.1.base hb, h.2.2.2.2⟩
/-- rows of a list with the values us -/
def zipR : List Nd → List Value → List Rw
  | x :: l, u :: us => (x.1, u, x.2) :: zipR l us
  | _, _ => []
theorem zipR_nds : ∀ (l : List Nd) (us : List Value), us.length = l.length → nds (zipR l us) = l ∧ vals (zipR l us) = us ∧ csR (zipR l us) = NdV l us ∧ (zipR l us).length = l.length
  | [], [], _ => ⟨rfl, rfl, rfl, rfl⟩
  | x :: l, u :: us, h => by
    obtain ⟨a, b, c, d⟩ := zipR_nds l us (by simpa using h)
    refine ⟨?_, ?_, ?_, by simp [zipR, d]⟩
    · have : nds (zipR (x :: l) (u :: us)) = x :: nds (zipR l us) := rfl
      rw [this, a]
    · have : vals (zipR (x :: l) (u :: us)) = u :: vals (zipR l us) := rfl
      rw [this, b]
    · have : csR (zipR (x :: l) (u :: us)) = .string x.1 :: u :: csR (zipR l us) := rfl
      rw [this, c]
      rfl
theorem zipR_own {w : World} {base : Nat} {ob : Option Nat} : ∀ (l : List Nd) (us : List Value), us.length = l.length → (∀ i (h : i < l.length), ∃ u, us[i]? = some u ∧ OwnB w base u l[i].2 ∧ (u.ownBlock = none ∨ u.ownBlock ≠ ob)) → BysO w base (zipR l us)
  | [], [], _, _ => fun r hr => by cases hr
  | x :: l, u :: us, h, hh => by
    intro r hr
    rcases List.mem_cons.1 hr with rfl | hr
    · obtain ⟨y, e, o, -⟩ := hh 0 (by simp)
      simp at e
      subst e
      exact o
    · exact zipR_own l us (by simpa using h) (fun i hi => by
        have := hh (i + 1) (by simpa using hi)
        simpa using this) r hr
theorem apart_of_idx {us : List Value} (h : ∀ (i j : Nat) (ui uj : Value), i ≠ j → us[i]? = some ui → us[j]? = some uj → ui.ownBlock = none ∨ ui.ownBlock ≠ uj.ownBlock) : us.Pairwise Apart := by
  rw [List.pairwise_iff_getElem]
  intro i j hi hj hij
  exact h i j _ _ (by omega) (List.getElem?_eq_getElem hi) (List.getElem?_eq_getElem hj)
theorem OwnU.apart {w : World} {base : Nat} {v : Value} {us : List Value} {l : List Nd} (h : OwnU w base v.ownBlock us l) : ∀ u ∈ us, Apart v u := by
  intro u hu
  obtain ⟨i, hi, rfl⟩ := List.mem_iff_getElem.1 hu
  obtain ⟨x, e1, -, e3⟩ := h.2.1 i (by rw [← h.1]; exact hi)
  rw [List.getElem?_eq_getElem hi] at e1
  cases Option.some.inj e1
  exact (show Apart us[i] v from e3).symm
/-- the list as rows -/
theorem OwnDk.rows {w : World} {base : Nat} {v1 v2 : Value} {l1 l2 : List Nd} (h : OwnDk w base v1 v2 l1 l2) : ∃ r1 r2, nds r1 = l1 ∧ nds r2 = l2 ∧ OwnD w base v1 v2 r1 r2 := by
  obtain ⟨us1, us2, a1, a2, o1, o2, p, q1, q2, x⟩ := h
  obtain ⟨e1, e2, e3, e4⟩ := zipR_nds l1 us1 o1.1
  obtain ⟨f1, f2, f3, f4⟩ := zipR_nds l2 us2 o2.1
  refine ⟨zipR l1 us1, zipR l2 us2, e1, f1, by rw [e3, e4]; exact a1, by rw [f3, f4]; exact a2, zipR_own l1 us1 o1.1 o1.2.1, zipR_own l2 us2 o2.1 o2.2.1, ?_⟩
  rw [e2, f2]
  refine List.pairwise_cons.2 ⟨fun u hu => ?_, List.pairwise_cons.2 ⟨fun u hu => ?_, List.pairwise_append.2 ⟨apart_of_idx o1.2.2, apart_of_idx o2.2.2, x⟩⟩⟩
  · rcases List.mem_cons.1 hu with rfl | hu
    · exact p
    · rcases List.mem_append.1 hu with hu | hu
      · exact o1.apart u hu
      · exact (q2 u hu).symm
  · rcases List.mem_append.1 hu with hu | hu
    · exact (q1 u hu).symm
    · exact o2.apart u hu
theorem OwnN.rows {w : World} {base : Nat} {v : Value} {l : List Nd} (h : OwnN w base v l) : ∃ rs, nds rs = l ∧ w.ownsRow base 57 2 v rs.length (csR rs) ∧ BysO w base rs ∧ (v :: vals rs).Pairwise Apart := by
  obtain ⟨us, a, o⟩ := h
  obtain ⟨e1, e2, e3, e4⟩ := zipR_nds l us o.1
  exact ⟨zipR l us, e1, by rw [e3, e4]; exact a, zipR_own l us o.1 o.2.1, by rw [e2]; exact List.pairwise_cons.2 ⟨o.apart, apart_of_idx o.2.2⟩⟩
theorem NdV_csR : ∀ rs : List Rw, NdV (nds rs) (vals rs) = csR rs
  | [] => rfl
  | r :: t => by
    have := NdV_csR t
    show .string r.1 :: r.2.1 :: NdV (nds t) (vals t) = .string r.1 :: r.2.1 :: csR t
    rw [this]
theorem OwnN.of_rows {w : World} {base : Nat} {v : Value} {rs : List Rw} (h : w.ownsRow base 57 2 v rs.length (csR rs)) (hy : BysO w base rs) (hp : (vals rs).Pairwise Apart) (hv : ∀ u ∈ vals rs, Apart u v) : OwnN w base v (nds rs) := by
  have hl : (vals rs).length = (nds rs).length := by rw [nds_len]; simp [vals]
  refine ⟨vals rs, by rw [nds_len, NdV_csR]; exact h, hl, fun i hi => ?_, fun i j ui uj hij h1 h2 => ?_⟩
  · have hi' : i < rs.length := by rw [nds_len] at hi; exact hi
    refine ⟨rs[i].2.1, by simp [vals, hi'], ?_, hv _ (List.mem_map.2 ⟨rs[i], List.getElem_mem hi', rfl⟩)⟩
    rw [nds_get rs i hi']
    exact hy _ (List.getElem_mem hi')
  · obtain ⟨hi, e1⟩ := List.getElem?_eq_some_iff.1 h1
    obtain ⟨hj, e2⟩ := List.getElem?_eq_some_iff.1 h2
    rw [← e1, ← e2]
    rw [List.pairwise_iff_getElem] at hp
    rcases Nat.lt_or_gt_of_ne hij with h | h
    · exact hp i j hi hj h
    · exact Apart.symm (hp j i hj hi h)
/-- a disk may be read -/
theorem OwnD.rd {w : World} {base c1 c2 : Nat} {a1 a2 : Option Addr} {n1 n2 : Nat} {r1 r2 : List Rw} (h : OwnD w base (.slice a1 n1 c1) (.slice a2 n2 c2) r1 r2) : RdNd w a1 (nds r1) ∧ RdNd w a2 (nds r2) := by
  obtain ⟨x1, x2, y1, y2, -⟩ := h
  have sh : ∀ {a : Option Addr} {n c m : Nat} {xs : List Value}, w.ownsRow base 57 2 (.slice a n c) m xs → n = m := by
    intro a n c m xs h
    rcases h.2 with ⟨e, h0⟩ | ⟨g, cap, cur, e, -⟩
    · simp at e; omega
    · simp at e; exact e.2.1
  have e1 := sh x1
  have e2 := sh x2
  subst e1 e2
  exact ⟨rdNd_of (RdR.own x1) y1.rd, rdNd_of (RdR.own x2) y2.rd⟩
end Go.Proofs.Ytmappmboedpgmaq.Wk
