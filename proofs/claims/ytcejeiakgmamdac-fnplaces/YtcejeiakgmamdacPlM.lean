/- All devices are primaries or handoffs, each once. Plain facts. -/
import Derived.Test.YtcejeiakgmamdacPkM
import Derived.Test.YtcejeiakgmamdacLwM
namespace Go.Proofs.Ytcejeiakgmamdac.Wk
set_option linter.unusedVariables false
open Dv

theorem hand_mem {p : List Int} {l : List Sm.St} {d : Sm.St} (h : d ∈ l) : d.1 ∈ hand p l ↔ d.1 ∉ p := by
  unfold hand
  generalize Rg.zns l p = Z
  constructor
  · intro hm
    obtain ⟨e, he, heq⟩ := List.mem_map.1 hm
    rw [← heq]
    rcases List.mem_append.1 he with he | he
    · have := (List.mem_filter.1 he).2
      simp only [Bool.and_eq_true, Bool.not_eq_true', decide_eq_false_iff_not] at this
      exact this.1
    · have := (List.mem_filter.1 he).2
      simp only [Bool.and_eq_true, Bool.not_eq_true', decide_eq_false_iff_not] at this
      exact this.1
  · intro hn
    refine List.mem_map.2 ⟨d, List.mem_append.2 ?_, rfl⟩
    by_cases hz : d.2.1 ∈ Z
    · exact .inr (List.mem_filter.2 ⟨h, by simp [hn, hz]⟩)
    · exact .inl (List.mem_filter.2 ⟨h, by simp [hn, hz]⟩)
theorem hand_dec {p : List Int} {l : List Sm.St} {d : Sm.St} (h : d ∈ l) : decide (d.1 ∈ hand p l) = !decide (d.1 ∈ p) := by
  by_cases hp : d.1 ∈ p
  · have : d.1 ∉ hand p l := fun hm => (hand_mem h).1 hm hp
    simp [hp, this]
  · have : d.1 ∈ hand p l := (hand_mem h).2 hp
    simp [hp, this]
theorem hand_sum (p Z : List Int) (hn : p.Nodup) : ∀ (l : List Sm.St), (l.map fun d => p.count d.1).sum + ((Rg.freshL p Z l).length + (Rg.otherL p Z l).length) = l.length
  | [] => rfl
  | d :: r => by
    have ih := hand_sum p Z hn r
    unfold Rg.freshL Rg.otherL at ih ⊢
    simp only [List.map_cons, List.sum_cons, List.filter_cons, List.length_cons]
    by_cases hp : d.1 ∈ p
    · have h1 : p.count d.1 = 1 := by rw [hn.count, if_pos hp]
      simp [hp, h1]
      omega
    · have h1 : p.count d.1 = 0 := by rw [hn.count, if_neg hp]
      by_cases hz : d.2.1 ∈ Z
      · simp [hp, hz, h1]
        omega
      · simp [hp, hz, h1]
        omega
theorem hand_all {R : Int} {ps : List (List Int)} {l : List Sm.St} (s : ByteArray) (h : Rg.ringB R ps l = true) : ((pick ps s).length : Int) = R ∧ (pick ps s).length + (hand (pick ps s) l).length = l.length := by
  unfold Rg.ringB Rg.headB at h
  simp only [Bool.and_eq_true, decide_eq_true_eq] at h
  obtain ⟨⟨hd, ⟨-, -⟩, hn, -⟩, ha⟩ := h
  obtain ⟨k, hk, -, hp⟩ := pick_at s (ps := ps) (by omega)
  have hq := List.all_eq_true.1 ha _ (List.getElem_mem hk)
  rw [hp]
  generalize ps[k] = q at hq
  unfold Rg.partOk Rg.partB at hq
  simp only [Bool.and_eq_true, decide_eq_true_eq] at hq
  obtain ⟨⟨hnd, hlen⟩, hkn⟩ := hq
  refine ⟨hlen, ?_⟩
  have h1 := Rg.count_sum hd q hkn
  have h2 := hand_sum q (Rg.zns l q) hnd l
  unfold hand
  rw [List.length_map, List.length_append]
  omega
end Go.Proofs.Ytcejeiakgmamdac.Wk
