/- A crash as the specification tells it and as the program does: the same lists. -/
import Derived.Test.YtmappmboedpgmaqFaI
namespace Go.Proofs.Ytmappmboedpgmaq.Wk
set_option linter.unusedVariables false

theorem putAll_key {α : Type} (l : List (ByteArray × α)) : ∀ x ∈ l, ∃ y ∈ putAll l, y.1 = x.1 := by
  suffices H : ∀ (l o : List (ByteArray × α)), rise o → ∀ x, (x ∈ o ∨ x ∈ l) → ∃ y ∈ l.foldl putR o, y.1 = x.1 from fun x hx => H l [] List.Pairwise.nil x (.inr hx)
  intro l
  induction l with
  | nil => exact fun o _ x hx => ⟨x, by simpa using hx, rfl⟩
  | cons z t ih =>
    intro o ho x hx
    have hz : z ∈ putR o z := (mem_put ho z z).2 (.inl rfl)
    rcases hx with hx | hx
    · by_cases e : x.1 = z.1
      · obtain ⟨y, hy, ey⟩ := ih (putR o z) (rise_put ho z) z (.inl hz)
        exact ⟨y, hy, ey.trans e.symm⟩
      · exact ih (putR o z) (rise_put ho z) x (.inl ((mem_put ho z x).2 (.inr ⟨e, hx⟩)))
    · rcases List.mem_cons.1 hx with rfl | hx
      · exact ih (putR o x) (rise_put ho x) x (.inl hz)
      · exact ih (putR o z) (rise_put ho z) x (.inr hx)
theorem mem_folR {rb ra : List Rw} (h : rise rb) {s : ByteArray} {p : Rw} : p ∈ folR rb ra s ↔ (p.1 = s ∧ rfind ra s = some p.2) ∨ (¬ p.1 = s ∧ p ∈ rb) := by
  unfold folR
  cases hf : rfind ra s with
  | none =>
    simp only
    rw [mem_cut]
    simp
  | some x =>
    simp only
    rw [mem_put h]
    constructor
    · rintro (e | ⟨a, b⟩)
      · subst e; exact .inl ⟨rfl, rfl⟩
      · exact .inr ⟨a, b⟩
    · rintro (⟨a, b⟩ | ⟨a, b⟩)
      · exact .inl (by cases b; rw [← a])
      · exact .inr ⟨a, b⟩
theorem mem_folRs_iff {rb : List Rw} (h : rise rb) (ra : List Rw) (keep : List Bool) (ps : List Rw) : ∀ (K : Nat), K ≤ ps.length → ∀ p : Rw, p ∈ folRs rb ra keep ps K ↔
    (∃ k, k < K ∧ (∃ h : k < ps.length, ps[k].1 = p.1) ∧ keep.getD k false = true ∧ rfind ra p.1 = some p.2) ∨ ((∀ k, k < K → ∀ h : k < ps.length, ps[k].1 = p.1 → ¬ keep.getD k false = true) ∧ p ∈ rb)
  | 0, _, p => by
    simp [folRs]
  | K + 1, hK, p => by
    have ih := mem_folRs_iff h ra keep ps K (by omega) p
    have hkk : (ps.map (·.1))[K]! = ps[K].1 := by
      rw [List.getElem!_eq_getElem?_getD, List.getElem?_map, List.getElem?_eq_getElem (show K < ps.length by omega)]
      rfl
    rw [folRs]
    by_cases hk : keep.getD K false = true
    · rw [if_pos hk, hkk, mem_folR (rise_folRs h ra keep ps K), ih]
      constructor
      · rintro (⟨e, hf⟩ | ⟨e, ⟨k, a, b, c, d⟩ | ⟨a, b⟩⟩)
        · exact .inl ⟨K, by omega, ⟨by omega, e.symm⟩, hk, by rw [e]; exact hf⟩
        · exact .inl ⟨k, by omega, b, c, d⟩
        · refine .inr ⟨fun k h1 h2 h3 => ?_, b⟩
          by_cases ek : k = K
          · subst ek; exact absurd h3.symm e
          · exact a k (by omega) h2 h3
      · rintro (⟨k, a, ⟨b, b'⟩, c, d⟩ | ⟨a, b⟩)
        · by_cases e : p.1 = ps[K].1
          · exact .inl ⟨e, by rw [← e]; exact d⟩
          · refine .inr ⟨e, .inl ⟨k, ?_, ⟨b, b'⟩, c, d⟩⟩
            rcases Nat.lt_or_ge k K with h | h
            · exact h
            · exact absurd (by have : k = K := by omega
                               subst this; exact b'.symm) e
        · by_cases e : p.1 = ps[K].1
          · exact absurd hk (a K (by omega) (by omega) e.symm)
          · exact .inr ⟨e, .inr ⟨fun k h1 h2 h3 => a k (by omega) h2 h3, b⟩⟩
    · rw [if_neg hk, ih]
      constructor
      · rintro (⟨k, a, b, c, d⟩ | ⟨a, b⟩)
        · exact .inl ⟨k, by omega, b, c, d⟩
        · refine .inr ⟨fun k h1 h2 h3 => ?_, b⟩
          by_cases ek : k = K
          · subst ek; exact hk
          · exact a k (by omega) h2 h3
      · rintro (⟨k, a, b, c, d⟩ | ⟨a, b⟩)
        · refine .inl ⟨k, ?_, b, c, d⟩
          rcases Nat.lt_or_ge k K with h | h
          · exact h
          · exact absurd c (by have : k = K := by omega
                               subst this; exact hk)
        · exact .inr ⟨fun k h1 h2 h3 => a k (by omega) h2 h3, b⟩
theorem mem_fallF {α : Type} {l1 l2 : List (ByteArray × α)} {keep : List Bool} {ns : List Nd} : ∀ (K : Nat), K ≤ ns.length → ∀ p : ByteArray × α, p ∈ fallF l1 l2 keep ns K ↔ ∃ k, k < K ∧ (∃ h : k < ns.length, ns[k].1 = p.1) ∧ rfind (if keep.getD k false = true then l1 else l2) p.1 = some p.2
  | 0, _, p => by simp [fallF_zero]
  | K + 1, hK, p => by
    rw [fallF_step hK, List.mem_append, mem_fallF K (by omega) p]
    constructor
    · rintro (⟨k, a, b, c⟩ | h)
      · exact ⟨k, by omega, b, c⟩
      · unfold stepF at h
        cases hf : rfind (if keep.getD K false = true then l1 else l2) ns[K].1 with
        | none => rw [hf] at h; cases h
        | some v =>
          rw [hf] at h
          rw [List.mem_singleton.1 h]
          exact ⟨K, by omega, ⟨by omega, rfl⟩, hf⟩
    · rintro ⟨k, a, ⟨b, b'⟩, c⟩
      by_cases e : k = K
      · subst e
        refine .inr ?_
        unfold stepF
        rw [b', c]
        exact List.mem_singleton.2 rfl
      · exact .inl ⟨k, by omega, ⟨b, b'⟩, c⟩
theorem rise_fallF {α : Type} {l1 l2 : List (ByteArray × α)} {keep : List Bool} {ns : List Nd} (hn : rise ns) : ∀ (K : Nat), K ≤ ns.length → rise (fallF l1 l2 keep ns K)
  | 0, _ => by rw [fallF_zero]; exact List.Pairwise.nil
  | K + 1, hK => by
    rw [fallF_step hK]
    refine List.pairwise_append.2 ⟨rise_fallF hn K (by omega), ?_, ?_⟩
    · unfold stepF
      split
      · exact List.pairwise_singleton _ _
      · exact List.Pairwise.nil
    · intro x hx y hy
      obtain ⟨k, a, ⟨b, b'⟩, -⟩ := (mem_fallF K (by omega) x).1 hx
      have ey : y.1 = ns[K].1 := by
        unfold stepF at hy
        split at hy
        · rw [List.mem_singleton.1 hy]
        · cases hy
      rw [← b', ey]
      exact List.pairwise_iff_getElem.1 hn k K b (by omega) a
/-- both crashes are the same -/
theorem crash_same {ra rb : List Rw} (ha : rise ra) (hb : rise rb) (keep : List Bool) (ns : List Nd) (hns : ns = mapN (fun _ _ => []) (putAll (ra ++ rb))) : folRs rb ra keep (putAll (ra ++ rb)) (min (putAll (ra ++ rb)).length keep.length) = fallF ra rb keep ns ns.length := by
  have hP := rise_putAll (ra ++ rb)
  have hK := putAll_key (ra ++ rb)
  generalize putAll (ra ++ rb) = P at *
  have hl : ns.length = P.length := by rw [hns]; simp [mapN]
  have hg : ∀ k (h : k < ns.length) (h' : k < P.length), ns[k].1 = P[k].1 := fun k h h' => by subst hns; simp [mapN]
  have hnr : rise ns := by rw [hns]; exact (rise_map _).2 hP
  have inj : ∀ j k (hj : j < P.length) (hk : k < P.length), P[j].1 = P[k].1 → j = k := fun j k hj hk e => by
    rcases Nat.lt_trichotomy j k with h | h | h
    · exact absurd e (bl_ne (List.pairwise_iff_getElem.1 hP j k hj hk h))
    · exact h
    · exact absurd e.symm (bl_ne (List.pairwise_iff_getElem.1 hP k j hk hj h))
  have kp : ∀ k, keep.getD k false = true → k < keep.length := fun k h => by
    rcases Nat.lt_or_ge k keep.length with h' | h'
    · exact h'
    · rw [List.getD_eq_getElem?_getD, List.getElem?_eq_none h'] at h; cases h
  refine rise_ext (rise_folRs hb ra keep P _) (rise_fallF hnr _ (Nat.le_refl _)) (fun p => ?_)
  rw [mem_folRs_iff hb ra keep P _ (Nat.min_le_left _ _) p, mem_fallF _ (Nat.le_refl _) p]
  constructor
  · rintro (⟨k, a, ⟨b, b'⟩, c, d⟩ | ⟨a, b⟩)
    · exact ⟨k, by omega, ⟨by omega, (hg k (by omega) b).trans b'⟩, by rw [if_pos c]; exact d⟩
    · obtain ⟨y, hy, ey⟩ := hK p (List.mem_append_right _ b)
      obtain ⟨k, hk, rfl⟩ := List.mem_iff_getElem.1 hy
      have hnk : ¬ keep.getD k false = true := fun hh => a k (by have := kp k hh; omega) hk ey hh
      exact ⟨k, by omega, ⟨by omega, (hg k (by omega) hk).trans ey⟩, by rw [if_neg hnk]; exact (rfind_iff hb).2 b⟩
  · rintro ⟨k, a, ⟨b, b'⟩, c⟩
    have hk : k < P.length := by omega
    have e : P[k].1 = p.1 := (hg k b hk).symm.trans b'
    by_cases hh : keep.getD k false = true
    · rw [if_pos hh] at c
      exact .inl ⟨k, by have := kp k hh; omega, ⟨hk, e⟩, hh, c⟩
    · rw [if_neg hh] at c
      refine .inr ⟨fun j h1 h2 h3 => ?_, rfind_some c⟩
      have := inj j k h2 hk (h3.trans e.symm)
      subst this
      exact hh
end Go.Proofs.Ytmappmboedpgmaq.Wk
