/- Lists that rise by name: what is put in and cut out, and the datum of a map that holds such a list. Plain facts. -/
import Derived.Test.YtmappmboedpgmaqNdM
import Derived.Lib.Strings
import Derived.Maps.Views
import Derived.Sort.KeysCollected
namespace Go.Proofs.Ytmappmboedpgmaq.Wk
set_option linter.unusedVariables false
open Go.WideShapes Go.Maps

/-- the texts' order -/
def bl (a b : ByteArray) : Bool := Op.bytesLess a.toList b.toList
theorem less_before : ∀ (x y : List UInt8), Op.bytesLess x y = bytesBefore x y
  | [], [] => rfl
  | _ :: _, [] => rfl
  | [], _ :: _ => rfl
  | a :: x, b :: y => by simp only [Op.bytesLess, bytesBefore, less_before x y]
theorem bl_before (a b : ByteArray) : bl a b = bytesBefore a.data.toList b.data.toList := by
  unfold bl
  rw [less_before, Lib.toList_data, Lib.toList_data]
theorem data_inj {a b : ByteArray} (h : a.data.toList = b.data.toList) : a = b := by
  cases a; cases b
  simpa using h
theorem bl_irrefl (a : ByteArray) : bl a a = false := by rw [bl_before]; exact Go.WideAt.bytes_irrefl _
theorem bl_trans {a b c : ByteArray} (h : bl a b = true) (h' : bl b c = true) : bl a c = true := by
  rw [bl_before] at *
  exact bytes_trans _ _ _ h h'
theorem bl_total {a b : ByteArray} (h : ¬ a = b) : bl a b = true ∨ bl b a = true := by
  rw [bl_before, bl_before]
  exact Go.WideAt.bytes_total _ _ (fun e => h (data_inj e))
theorem bl_ne {a b : ByteArray} (h : bl a b = true) : ¬ a = b := by
  rintro rfl
  rw [bl_irrefl] at h
  cases h
theorem bl_asymm {a b : ByteArray} (h : bl a b = true) : bl b a = false := by
  cases e : bl b a
  · rfl
  · have := bl_trans h e
    rw [bl_irrefl] at this
    cases this
/-- not below, and not the same: above -/
theorem bl_of_not {a b : ByteArray} (h : bl a b = false) (hn : ¬ a = b) : bl b a = true := by
  rcases bl_total hn with e | e
  · rw [h] at e; cases e
  · exact e

section
variable {α β : Type}
/-- the list rises by name -/
def rise (l : List (ByteArray × α)) : Prop := l.Pairwise fun x y => bl x.1 y.1 = true
/-- what stands at the name -/
def rfind (l : List (ByteArray × α)) (s : ByteArray) : Option α := (l.find? fun x => decide (x.1 = s)).map (·.2)
def cutR (l : List (ByteArray × α)) (s : ByteArray) : List (ByteArray × α) := l.filter fun x => decide (¬ x.1 = s)
/-- one round of putting x in -/
def putStep (x : ByteArray × α) (st : List (ByteArray × α) × Bool) (y : ByteArray × α) : List (ByteArray × α) × Bool :=
  let o := if !st.2 && !bl y.1 x.1 then st.1 ++ [x] else st.1
  (if y.1 = x.1 then o else o ++ [y], st.2 || !bl y.1 x.1)
def putSt (x : ByteArray × α) (l : List (ByteArray × α)) : List (ByteArray × α) × Bool := l.foldl (putStep x) ([], false)
def putEnd (x : ByteArray × α) (st : List (ByteArray × α) × Bool) : List (ByteArray × α) := if st.2 then st.1 else st.1 ++ [x]
def putR (l : List (ByteArray × α)) (x : ByteArray × α) : List (ByteArray × α) := putEnd x (putSt x l)
theorem putSt_take (x : ByteArray × α) {l : List (ByteArray × α)} {k : Nat} (h : k < l.length) : putSt x (l.take (k + 1)) = putStep x (putSt x (l.take k)) l[k] := by
  unfold putSt
  rw [List.take_succ_eq_append_getElem h, List.foldl_append]
  rfl
/-- names alone decide -/
def mapN (f : ByteArray → α → β) (l : List (ByteArray × α)) : List (ByteArray × β) := l.map fun x => (x.1, f x.1 x.2)
theorem putStep_map (f : ByteArray → α → β) (x : ByteArray × α) (st : List (ByteArray × α) × Bool) (y : ByteArray × α) :
    putStep (x.1, f x.1 x.2) (mapN f st.1, st.2) (y.1, f y.1 y.2) = (mapN f (putStep x st y).1, (putStep x st y).2) := by
  unfold putStep mapN
  dsimp only
  split <;> split <;> simp_all
theorem putSt_map (f : ByteArray → α → β) (x : ByteArray × α) (l : List (ByteArray × α)) : putSt (x.1, f x.1 x.2) (mapN f l) = (mapN f (putSt x l).1, (putSt x l).2) := by
  unfold putSt
  suffices H : ∀ (l : List (ByteArray × α)) (st : List (ByteArray × α) × Bool), (mapN f l).foldl (putStep (x.1, f x.1 x.2)) (mapN f st.1, st.2) = (mapN f (l.foldl (putStep x) st).1, (l.foldl (putStep x) st).2) from H l ([], false)
  intro l
  induction l with
  | nil => intro st; rfl
  | cons y r ih =>
    intro st
    show (mapN f r).foldl (putStep (x.1, f x.1 x.2)) (putStep (x.1, f x.1 x.2) (mapN f st.1, st.2) (y.1, f y.1 y.2)) = _
    rw [putStep_map]
    exact ih (putStep x st y)
theorem putR_map (f : ByteArray → α → β) (l : List (ByteArray × α)) (x : ByteArray × α) : putR (mapN f l) (x.1, f x.1 x.2) = mapN f (putR l x) := by
  unfold putR
  rw [putSt_map]
  unfold putEnd
  dsimp only
  split
  · rfl
  · simp [mapN]
theorem cutR_map (f : ByteArray → α → β) (l : List (ByteArray × α)) (s : ByteArray) : cutR (mapN f l) s = mapN f (cutR l s) := by
  unfold cutR mapN
  rw [List.filter_map]
  rfl
theorem rfind_map (f : ByteArray → α → β) (l : List (ByteArray × α)) (s : ByteArray) : rfind (mapN f l) s = (rfind l s).map (f s) := by
  unfold rfind mapN
  rw [List.find?_map]
  simp only [Function.comp_def]
  cases hf : l.find? (fun x => decide (x.1 = s)) with
  | none => rfl
  | some p =>
    have := List.find?_some hf
    simp at this
    simp [this]
theorem rise_map (f : ByteArray → α → β) {l : List (ByteArray × α)} : rise (mapN f l) ↔ rise l := by
  unfold rise mapN
  rw [List.pairwise_map]

theorem fold_all (x : ByteArray × α) : ∀ (l : List (ByteArray × α)) (o : List (ByteArray × α)), (∀ y ∈ l, bl x.1 y.1 = true) → l.foldl (putStep x) (o, true) = (o ++ l, true)
  | [], o, _ => by simp
  | y :: r, o, h => by
    have h1 := h y (by simp)
    have h2 : ¬ y.1 = x.1 := fun e => bl_ne h1 e.symm
    have e : putStep x (o, true) y = (o ++ [y], true) := by simp [putStep, h2]
    rw [List.foldl_cons, e, fold_all x r _ (fun z hz => h z (by simp [hz]))]
    simp
theorem fold_put (x : ByteArray × α) : ∀ (l : List (ByteArray × α)) (o : List (ByteArray × α)), rise l → putEnd x (l.foldl (putStep x) (o, false)) = o ++ l.filter (fun y => bl y.1 x.1) ++ x :: l.filter (fun y => bl x.1 y.1)
  | [], o, _ => by simp [putEnd]
  | y :: r, o, h => by
    obtain ⟨h1, h2⟩ := List.pairwise_cons.1 h
    rw [List.foldl_cons]
    by_cases hb : bl y.1 x.1 = true
    · have hne : ¬ y.1 = x.1 := bl_ne hb
      have e : putStep x (o, false) y = (o ++ [y], false) := by simp [putStep, hne, hb]
      rw [e]
      have := fold_put x r (o ++ [y]) h2
      rw [this]
      simp [hb, bl_asymm hb]
    · have hb' : bl y.1 x.1 = false := by simpa using hb
      have hr : ∀ z ∈ r, bl x.1 z.1 = true := fun z hz => by
        by_cases he : y.1 = x.1
        · rw [← he]; exact h1 z hz
        · exact bl_trans (bl_of_not hb' he) (h1 z hz)
      have hf1 : r.filter (fun y => bl y.1 x.1) = [] := by
        rw [List.filter_eq_nil_iff]
        intro z hz
        simp [bl_asymm (hr z hz)]
      have hf2 : r.filter (fun y => bl x.1 y.1) = r := List.filter_eq_self.2 hr
      by_cases he : y.1 = x.1
      · have e : putStep x (o, false) y = (o ++ [x], true) := by simp [putStep, he, bl_irrefl]
        rw [e, fold_all x r _ hr]
        simp [putEnd, he, bl_irrefl, hf1, hf2]
      · have e : putStep x (o, false) y = (o ++ [x] ++ [y], true) := by simp [putStep, he, hb']
        rw [e, fold_all x r _ hr]
        simp [putEnd, hb', bl_of_not hb' he, hf1, hf2]
theorem putR_eq {l : List (ByteArray × α)} (h : rise l) (x : ByteArray × α) : putR l x = l.filter (fun y => bl y.1 x.1) ++ x :: l.filter (fun y => bl x.1 y.1) := by
  have := fold_put x l [] h
  rw [List.nil_append] at this
  exact this
theorem rise_put {l : List (ByteArray × α)} (h : rise l) (x : ByteArray × α) : rise (putR l x) := by
  rw [putR_eq h]
  unfold rise
  rw [List.pairwise_append]
  refine ⟨h.filter _, List.pairwise_cons.2 ⟨fun y hy => (List.mem_filter.1 hy).2, h.filter _⟩, ?_⟩
  intro a ha b hb
  have h1 := (List.mem_filter.1 ha).2
  rcases List.mem_cons.1 hb with rfl | hb
  · exact h1
  · exact bl_trans h1 (List.mem_filter.1 hb).2
theorem rise_cut {l : List (ByteArray × α)} (h : rise l) (s : ByteArray) : rise (cutR l s) := h.filter _
theorem mem_put {l : List (ByteArray × α)} (h : rise l) (x p : ByteArray × α) : p ∈ putR l x ↔ p = x ∨ (¬ p.1 = x.1 ∧ p ∈ l) := by
  rw [putR_eq h]
  simp only [List.mem_append, List.mem_filter, List.mem_cons]
  constructor
  · rintro (⟨a, b⟩ | rfl | ⟨a, b⟩)
    · exact .inr ⟨bl_ne b, a⟩
    · exact .inl rfl
    · exact .inr ⟨fun e => bl_ne b e.symm, a⟩
  · rintro (rfl | ⟨a, b⟩)
    · exact .inr (.inl rfl)
    · rcases bl_total a with e | e
      · exact .inl ⟨b, e⟩
      · exact .inr (.inr ⟨b, e⟩)
theorem mem_cut {l : List (ByteArray × α)} {s : ByteArray} {p : ByteArray × α} : p ∈ cutR l s ↔ ¬ p.1 = s ∧ p ∈ l := by
  unfold cutR
  rw [List.mem_filter]
  simp [and_comm]
theorem rise_uniq {l : List (ByteArray × α)} (h : rise l) {p q : ByteArray × α} (hp : p ∈ l) (hq : q ∈ l) (e : p.1 = q.1) : p = q := by
  induction l with
  | nil => cases hp
  | cons y r ih =>
    obtain ⟨h1, h2⟩ := List.pairwise_cons.1 h
    rcases List.mem_cons.1 hp with e1 | hp1 <;> rcases List.mem_cons.1 hq with e2 | hq1
    · rw [e1, e2]
    · subst e1; exact absurd e (bl_ne (h1 q hq1))
    · subst e2; exact absurd e.symm (bl_ne (h1 p hp1))
    · exact ih h2 hp1 hq1
theorem rfind_some {l : List (ByteArray × α)} {s : ByteArray} {v : α} (h : rfind l s = some v) : (s, v) ∈ l := by
  unfold rfind at h
  cases hf : l.find? (fun x => decide (x.1 = s)) with
  | none => rw [hf] at h; cases h
  | some p =>
    rw [hf] at h
    have h1 := List.mem_of_find?_eq_some hf
    have h2 := List.find?_some hf
    obtain ⟨a, b⟩ := p
    simp at h h2
    subst h h2
    exact h1
theorem rfind_none {l : List (ByteArray × α)} {s : ByteArray} : rfind l s = none ↔ ∀ p ∈ l, ¬ p.1 = s := by
  unfold rfind
  simp
theorem rfind_iff {l : List (ByteArray × α)} (h : rise l) {s : ByteArray} {v : α} : rfind l s = some v ↔ (s, v) ∈ l := by
  refine ⟨rfind_some, fun hm => ?_⟩
  cases hf : rfind l s with
  | none => exact absurd rfl (rfind_none.1 hf _ hm)
  | some u =>
    have := rise_uniq h hm (rfind_some hf) rfl
    simp at this
    rw [this]
theorem rise_ext : ∀ {l l' : List (ByteArray × α)}, rise l → rise l' → (∀ p, p ∈ l ↔ p ∈ l') → l = l'
  | [], [], _, _, _ => rfl
  | [], y :: r, _, _, h => absurd ((h y).2 (by simp)) (by simp)
  | y :: r, [], _, _, h => absurd ((h y).1 (by simp)) (by simp)
  | y :: r, z :: t, h, h', hm => by
    obtain ⟨h1, h2⟩ := List.pairwise_cons.1 h
    obtain ⟨h3, h4⟩ := List.pairwise_cons.1 h'
    have e : y = z := by
      rcases List.mem_cons.1 ((hm y).1 (by simp)) with e | e
      · exact e
      · rcases List.mem_cons.1 ((hm z).2 (by simp)) with e' | e'
        · exact e'.symm
        · have a := h3 y e
          have b := h1 z e'
          have := bl_trans a b
          rw [bl_irrefl] at this
          cases this
    subst e
    refine congrArg (y :: ·) (rise_ext h2 h4 (fun p => ?_))
    constructor
    · intro hp
      rcases List.mem_cons.1 ((hm p).1 (by simp [hp])) with e | e
      · subst e
        exact absurd rfl (bl_ne (h1 p hp))
      · exact e
    · intro hp
      rcases List.mem_cons.1 ((hm p).2 (by simp [hp])) with e | e
      · subst e
        exact absurd rfl (bl_ne (h3 p hp))
      · exact e
/-- many put in, one behind the other -/
def putAll (l : List (ByteArray × α)) : List (ByteArray × α) := l.foldl putR []
theorem putAll_take {l : List (ByteArray × α)} {k : Nat} (h : k < l.length) : putAll (l.take (k + 1)) = putR (putAll (l.take k)) l[k] := by
  unfold putAll
  rw [List.take_succ_eq_append_getElem h, List.foldl_append]
  rfl
theorem rise_foldPut : ∀ (l o : List (ByteArray × α)), rise o → rise (l.foldl putR o)
  | [], o, h => h
  | x :: r, o, h => rise_foldPut r _ (rise_put h x)
theorem rise_putAll (l : List (ByteArray × α)) : rise (putAll l) := rise_foldPut l [] List.Pairwise.nil
theorem foldPut_rise : ∀ (l o : List (ByteArray × α)), rise (o ++ l) → l.foldl putR o = o ++ l
  | [], o, _ => by simp
  | x :: r, o, h => by
    have ho : rise o := (List.pairwise_append.1 h).1
    have hx : ∀ y ∈ o, bl y.1 x.1 = true := fun y hy => (List.pairwise_append.1 h).2.2 y hy x (by simp)
    have e : putR o x = o ++ [x] := by
      rw [putR_eq ho, List.filter_eq_self.2 hx, List.filter_eq_nil_iff.2 (fun y hy => by simp [bl_asymm (hx y hy)])]
    rw [List.foldl_cons, e, foldPut_rise r (o ++ [x]) (by simpa using h)]
    simp
theorem putAll_rise {l : List (ByteArray × α)} (h : rise l) : putAll l = l := by
  have := foldPut_rise l [] (by simpa using h)
  simpa [putAll] using this
theorem putAll_map (f : ByteArray → α → β) (l : List (ByteArray × α)) : putAll (mapN f l) = mapN f (putAll l) := by
  unfold putAll
  suffices H : ∀ (l o : List (ByteArray × α)), (mapN f l).foldl putR (mapN f o) = mapN f (l.foldl putR o) from H l []
  intro l
  induction l with
  | nil => intro o; rfl
  | cons y r ih =>
    intro o
    show (mapN f r).foldl putR (putR (mapN f o) (y.1, f y.1 y.2)) = _
    rw [putR_map]
    exact ih _
theorem mem_put_any {l : List (ByteArray × α)} {x p : ByteArray × α} (h : p ∈ putR l x) : p = x ∨ p ∈ l := by
  suffices H : ∀ (l : List (ByteArray × α)) (st : List (ByteArray × α) × Bool), p ∈ (l.foldl (putStep x) st).1 → p = x ∨ p ∈ st.1 ∨ p ∈ l by
    unfold putR putEnd at h
    split at h
    · rcases H l ([], false) h with e | e | e
      · exact .inl e
      · cases e
      · exact .inr e
    · rcases List.mem_append.1 h with h | h
      · rcases H l ([], false) h with e | e | e
        · exact .inl e
        · cases e
        · exact .inr e
      · exact .inl (by simpa using h)
  intro l
  induction l with
  | nil => intro st h; exact .inr (.inl h)
  | cons y r ih =>
    intro st h
    rcases ih (putStep x st y) h with e | e | e
    · exact .inl e
    · have h2 : p ∈ (putStep x st y).1 → p = x ∨ p ∈ st.1 ∨ p = y := by
        unfold putStep
        cases st.2 <;> cases bl y.1 x.1 <;> by_cases e : y.1 = x.1 <;> simp [e] <;> intro h <;> simp_all
        all_goals (rcases h with h | h | h <;> simp_all)
      rcases h2 e with e | e | e
      · exact .inl e
      · exact .inr (.inl e)
      · exact .inr (.inr (by simp [e]))
    · exact .inr (.inr (by simp [e]))
theorem putR_len (l : List (ByteArray × α)) (x : ByteArray × α) : (putR l x).length ≤ l.length + 1 := by
  suffices H : ∀ (l : List (ByteArray × α)) (st : List (ByteArray × α) × Bool), (l.foldl (putStep x) st).1.length + (if (l.foldl (putStep x) st).2 then 0 else 1) ≤ st.1.length + (if st.2 then 0 else 1) + l.length by
    have := H l ([], false)
    unfold putR putEnd putSt
    split <;> simp_all <;> omega
  intro l
  induction l with
  | nil => intro st; exact Nat.le_refl _
  | cons y r ih =>
    intro st
    have := ih (putStep x st y)
    rw [List.foldl_cons, List.length_cons]
    have h2 : (putStep x st y).1.length + (if (putStep x st y).2 then 0 else 1) ≤ st.1.length + (if st.2 then 0 else 1) + 1 := by
      unfold putStep
      cases st.2 <;> cases bl y.1 x.1 <;> by_cases e : y.1 = x.1 <;> simp [e]
    omega
end

/-! ### the datum of a map that holds such a list -/
def keyL (s : ByteArray) : Lit := .string s.data.toList
def Dof (l : List (ByteArray × Value)) : DataW Value := .map (l.map fun x => (keyL x.1, .held x.2))
theorem sameKey_keyL (a b : ByteArray) : (keyL a).sameKey (keyL b) = decide (a = b) := by
  unfold keyL Lit.sameKey
  dsimp only
  by_cases e : a = b
  · subst e; simp
  · have : ¬ a.data = b.data := fun h => e (data_inj (by rw [h]))
    simp [e, this]
theorem before_keyL (a b : ByteArray) : (keyL a).before (keyL b) = bl a b := by rw [bl_before]; rfl
theorem Dof_size (l : List (ByteArray × Value)) : Maps.size (Dof l) = l.length := by simp [Dof, Maps.size]
theorem Dof_has (l : List (ByteArray × Value)) (s : ByteArray) : Maps.has (Dof l) (keyL s) = (rfind l s).isSome := by
  unfold Dof rfind
  rw [Maps.has_eq]
  induction l with
  | nil => rfl
  | cons x r ih =>
    simp only [List.map_cons, List.any_cons, sameKey_keyL, List.find?_cons]
    by_cases e : x.1 = s <;> simp [e, ih]
theorem Dof_at (l : List (ByteArray × Value)) (s : ByteArray) (z : DataW Value) : (Dof l).atKey (keyL s) z = match rfind l s with | some v => .held v | none => z := by
  unfold Dof rfind DataW.atKey
  dsimp only
  induction l with
  | nil => rfl
  | cons x r ih =>
    simp only [List.map_cons, List.find?_cons, sameKey_keyL]
    by_cases e : x.1 = s
    · simp [e]
    · simp only [e, decide_false]; exact ih
theorem Dof_del (l : List (ByteArray × Value)) (s : ByteArray) : Dof (cutR l s) = (Dof l).del (keyL s) := by
  unfold Dof cutR
  show _ = DataW.map (List.filter _ _)
  rw [List.filter_map]
  congr 2
  apply List.filter_congr
  intro x _
  simp [sameKey_keyL]
theorem insert_keyL (x : ByteArray × Value) : ∀ (a b : List (ByteArray × Value)), (∀ y ∈ a, bl y.1 x.1 = true) → (∀ y ∈ b, bl x.1 y.1 = true) →
    DataW.insert (keyL x.1, DataW.held x.2) ((a ++ b).map fun x => (keyL x.1, DataW.held x.2)) = (a ++ x :: b).map fun x => (keyL x.1, DataW.held x.2)
  | [], [], _, _ => rfl
  | [], y :: r, _, h => by
    simp only [List.nil_append, List.map_cons, DataW.insert, before_keyL, h y (by simp), if_true]
  | y :: r, b, h, h' => by
    have h1 := bl_asymm (h y (by simp))
    simp only [List.cons_append, List.map_cons, DataW.insert, before_keyL, h1, Bool.false_eq_true, if_false]
    rw [insert_keyL x r b (fun z hz => h z (by simp [hz])) h']
theorem filter_split (x : ByteArray × Value) : ∀ {l : List (ByteArray × Value)}, rise l → l.filter (fun y => decide (¬ y.1 = x.1)) = l.filter (fun y => bl y.1 x.1) ++ l.filter (fun y => bl x.1 y.1)
  | [], _ => rfl
  | y :: r, h => by
    obtain ⟨h1, h2⟩ := List.pairwise_cons.1 h
    have ih := filter_split x h2
    by_cases hb : bl y.1 x.1 = true
    · simp [hb, bl_ne hb, bl_asymm hb] at ih ⊢
      exact ih
    · have hb' : bl y.1 x.1 = false := by simpa using hb
      have hr : ∀ z ∈ r, bl x.1 z.1 = true := fun z hz => by
        by_cases he : y.1 = x.1
        · rw [← he]; exact h1 z hz
        · exact bl_trans (bl_of_not hb' he) (h1 z hz)
      have hf1 : r.filter (fun y => bl y.1 x.1) = [] := by
        rw [List.filter_eq_nil_iff]
        intro z hz
        simp [bl_asymm (hr z hz)]
      by_cases he : y.1 = x.1
      · simp [he, bl_irrefl, hf1] at ih ⊢
        exact ih
      · simp [he, hb', bl_of_not hb' he, hf1] at ih ⊢
        exact ih
theorem Dof_put {l : List (ByteArray × Value)} (h : rise l) (x : ByteArray × Value) : Dof (putR l x) = (Dof l).put (keyL x.1) (.held x.2) := by
  have e : (Dof l).put (keyL x.1) (.held x.2) = .map (DataW.insert (keyL x.1, .held x.2) ((l.filter (fun y => decide (¬ y.1 = x.1))).map fun x => (keyL x.1, .held x.2))) := by
    unfold Dof DataW.put
    dsimp only
    rw [List.filter_map]
    congr 3
    apply List.filter_congr
    intro y _
    simp [sameKey_keyL]
  rw [e, filter_split x h, insert_keyL x _ _ (fun y hy => (List.mem_filter.1 hy).2) (fun y hy => (List.mem_filter.1 hy).2), putR_eq h]
  rfl
theorem strKeys_Dof (l : List (ByteArray × Value)) : strKeys (Dof l) = l.map fun x => x.1.data.toList := by
  simp [strKeys, Dof, keyL, strOf]
theorem lt_of_before : ∀ (x y : List UInt8), bytesBefore x y = true → x < y
  | [], [], h => by cases h
  | [], _ :: _, _ => by simp
  | _ :: _, [], h => by cases h
  | a :: x, b :: y, h => by
    rw [List.cons_lt_cons_iff]
    simp [bytesBefore] at h
    rcases h with h | ⟨rfl, h⟩
    · exact .inl h
    · exact .inr ⟨rfl, lt_of_before x y h⟩
theorem le_of_bl {a b : ByteArray} (h : bl a b = true) : a.data.toList ≤ b.data.toList := by
  rw [bl_before] at h
  exact List.le_of_lt (lt_of_before _ _ h)
theorem sort_keys {l : List (ByteArray × Value)} (h : rise l) {ss : List (List UInt8)} (hp : ss.Perm (strKeys (Dof l))) : ss.mergeSort (fun x y => decide (x ≤ y)) = l.map fun x => x.1.data.toList := by
  rw [strKeys_Dof] at hp
  have hs : (l.map fun x => x.1.data.toList).Pairwise (fun x y => x ≤ y) := by
    rw [List.pairwise_map]
    exact h.imp (fun h => le_of_bl h)
  have h1 : (ss.mergeSort (fun x y => decide (x ≤ y))).Pairwise (fun x y => x ≤ y) := by
    have := List.pairwise_mergeSort (le := fun x y : List UInt8 => decide (x ≤ y)) (fun a b c h h' => by simp at *; exact List.le_trans h h') (fun a b => by simp; exact List.le_total a b) ss
    exact this.imp (fun h => by simpa using h)
  exact List.Perm.eq_of_pairwise (le := fun x y : List UInt8 => x ≤ y) (fun a b _ _ h h' => List.le_antisymm h h') h1 hs ((List.mergeSort_perm ss _).trans hp)
end Go.Proofs.Ytmappmboedpgmaq.Wk
