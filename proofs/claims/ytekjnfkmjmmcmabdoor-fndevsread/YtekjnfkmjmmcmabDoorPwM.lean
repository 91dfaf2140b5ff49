/- Texts of devices as the program reads them: the same. Plain facts. -/
import Derived.Test.YtekjnfkmjmmcmabDoorPdM
import Derived.Test.YtekjnfkmjmmcmabDoorTxM
namespace Go.Proofs.YtekjnfkmjmmcmabDoor.Dv
set_option linter.unusedVariables false

/-- a word, three numbers in their ranges with colons between -/
def wordI (l : List UInt8) : Option Sm.St := match Pc.pieces 58 l with
  | [a, b, c] => (Sm.rd 20 a).bind fun i => (Sm.rd 20 b).bind fun z => (Sm.rd 1000 c).map fun n => ((i : Int), (z : Int), (n : Int))
  | _ => none
theorem rd_num10 {m : Nat} {l : List UInt8} {v : Nat} (hm : m < 10000000000) (h : Sm.rd m l = some v) : Sm.num10 l = v := by
  unfold Sm.rd at h
  split at h
  · next hc =>
    have e := Option.some.inj h
    subst e
    unfold Sm.num10
    rw [if_pos]
    refine ⟨hc.1, ?_⟩
    by_cases hl : l.length ≤ 10
    · exact hl
    · have := Sm.isNum_long hc.1 (by omega)
      omega
  · cases h
theorem rd_none {m : Nat} {l : List UInt8} (hm : m < 10000000000) (h : Sm.rd m l = none) : ¬ (0 ≤ Sm.num10 l ∧ Sm.num10 l ≤ m) := fun h' => by
  obtain ⟨v, e, _⟩ := (Sm.num10_rd l m hm).1 h'
  rw [h] at e
  cases e
theorem wordI_three {l a b c : List UInt8} (h : Pc.pieces 58 l = [a, b, c]) : wordI l = (Sm.rd 20 a).bind fun i => (Sm.rd 20 b).bind fun z => (Sm.rd 1000 c).map fun n => ((i : Int), (z : Int), (n : Int)) := by
  unfold wordI; rw [h]
theorem wordI_few {l : List UInt8} (h : (Pc.pieces 58 l).length ≠ 3) : wordI l = none := by
  unfold wordI
  split
  · next a b c e => rw [e] at h; exact absurd rfl h
  · rfl
theorem wordI_some {l : List UInt8} {x : Sm.St} (h : wordI l = some x) : word l = some x := by
  by_cases h3 : (Pc.pieces 58 l).length = 3
  · obtain ⟨a, b, c, e⟩ := three h3
    rw [wordI_three e] at h
    rw [word_three e]
    cases h1 : Sm.rd 20 a with
    | none => rw [h1] at h; cases h
    | some i =>
      cases h2 : Sm.rd 20 b with
      | none => rw [h1, h2] at h; cases h
      | some z =>
        cases h3 : Sm.rd 1000 c with
        | none => rw [h1, h2, h3] at h; cases h
        | some n =>
          rw [h1, h2, h3] at h
          rw [rd_num10 (by omega) h1, rd_num10 (by omega) h2, rd_num10 (by omega) h3]
          exact h
  · rw [wordI_few h3] at h; cases h
theorem wordI_none {l : List UInt8} (h : wordI l = none) : word l = none ∨ ∃ x, word l = some x ∧ dev x.1 x.2.1 x.2.2 = false := by
  by_cases h3 : (Pc.pieces 58 l).length = 3
  · obtain ⟨a, b, c, e⟩ := three h3
    rw [wordI_three e] at h
    refine .inr ⟨_, word_three e, ?_⟩
    cases hd : dev (Sm.num10 a) (Sm.num10 b) (Sm.num10 c) with
    | false => rfl
    | true =>
      unfold dev at hd
      simp only [Bool.and_eq_true, decide_eq_true_eq] at hd
      obtain ⟨i, h1, _⟩ := (Sm.num10_rd a 20 (by omega)).1 (by omega)
      obtain ⟨z, h2, _⟩ := (Sm.num10_rd b 20 (by omega)).1 (by omega)
      obtain ⟨n, h3, _⟩ := (Sm.num10_rd c 1000 (by omega)).1 (by omega)
      rw [h1, h2, h3] at h
      cases h
  · exact .inl (word_few h3)
theorem words_get : ∀ (ws : List (List UInt8)) (Z Y : List Sm.St), ws.foldl more (some Z) = some Y → ∃ Y', Y = Z ++ Y' ∧ Y'.length = ws.length ∧ ∀ i (h : i < ws.length) (h' : i < Y'.length), word ws[i] = some Y'[i]
  | [], Z, Y, h => ⟨[], by rw [List.append_nil]; exact (Option.some.inj h).symm, rfl, fun i h => by simp at h⟩
  | p :: r, Z, Y, h => by
    rw [List.foldl_cons] at h
    cases hw : word p with
    | none =>
      have : more (some Z) p = none := by unfold more; rw [hw]; rfl
      rw [this, words_none] at h
      cases h
    | some x =>
      have : more (some Z) p = some (Z ++ [x]) := by unfold more; rw [hw]; rfl
      rw [this] at h
      obtain ⟨Y', e1, e2, e3⟩ := words_get r _ _ h
      refine ⟨x :: Y', by rw [e1, List.append_assoc]; rfl, by simp [e2], ?_⟩
      intro i hi hi'
      cases i with
      | zero => exact hw
      | succ i => exact e3 i (by simpa using hi) (by simpa using hi')
theorem parse_bad {l : List UInt8} {k : Nat} {x : Sm.St} (hk : k < (Pc.pieces 32 l).length) (h : word (Pc.pieces 32 l)[k] = some x) (hd : dev x.1 x.2.1 x.2.2 = false) : parse l = none := by
  unfold parse
  cases hw : words (Pc.pieces 32 l) with
  | none => rfl
  | some Y =>
    obtain ⟨Y', e1, e2, e3⟩ := words_get _ _ _ hw
    rw [List.nil_append] at e1
    subst e1
    have h1 := e3 k hk (by omega)
    rw [h] at h1
    have h2 := Option.some.inj h1
    have : devs Y = false := by
      cases hY : devs Y with
      | false => rfl
      | true =>
        have := (devs_dev hY).2 Y[k] (List.getElem_mem _)
        rw [← h2, hd] at this
        cases this
    show (if devs Y = true then some Y else none) = none
    rw [this]
    rfl
theorem parse_noI {l : List UInt8} {k : Nat} (hk : k < (Pc.pieces 32 l).length) (h : wordI (Pc.pieces 32 l)[k] = none) : parse l = none := by
  rcases wordI_none h with h | ⟨x, h, hd⟩
  · exact parse_stop hk h
  · exact parse_bad hk h hd
end Go.Proofs.YtekjnfkmjmmcmabDoor.Dv
