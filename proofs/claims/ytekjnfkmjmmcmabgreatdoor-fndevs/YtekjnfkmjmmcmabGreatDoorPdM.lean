/- Texts of devices: what is read of a word, of words, of a text. Plain facts. -/
import Derived.Test.YtekjnfkmjmmcmabGreatDoorPcM
import Derived.Test.YtekjnfkmjmmcmabGreatDoorPaM
import Derived.Test.YtekjnfkmjmmcmabGreatDoorDvM
namespace Go.Proofs.YtekjnfkmjmmcmabGreatDoor.Dv
set_option linter.unusedVariables false

/-- a word, three numbers with colons between -/
def word (l : List UInt8) : Option Sm.St := match Pc.pieces 58 l with
  | [a, b, c] => some (Sm.num10 a, Sm.num10 b, Sm.num10 c)
  | _ => none
/-- one word more -/
def more (o : Option (List Sm.St)) (p : List UInt8) : Option (List Sm.St) := o.bind fun X => (word p).map fun x => X ++ [x]
/-- the words, each as it is -/
def words (ws : List (List UInt8)) : Option (List Sm.St) := ws.foldl more (some [])
/-- a text of devices -/
def parse (l : List UInt8) : Option (List Sm.St) := (words (Pc.pieces 32 l)).bind fun X => if devs X = true then some X else none

theorem words_snoc (ws : List (List UInt8)) (p : List UInt8) : words (ws ++ [p]) = more (words ws) p := by
  unfold words; rw [List.foldl_append]; rfl
theorem words_none (ws : List (List UInt8)) : ws.foldl more none = none := by
  induction ws with
  | nil => rfl
  | cons p r ih => exact ih
theorem words_stop {ws : List (List UInt8)} {k : Nat} (hk : k < ws.length) (h : word ws[k] = none) : words ws = none := by
  rw [← List.take_append_drop (k + 1) ws]
  unfold words
  rw [List.foldl_append, List.take_succ_eq_append_getElem hk, List.foldl_append, List.foldl_cons, List.foldl_nil]
  have : ∀ o, more o ws[k] = none := by
    intro o
    cases o with
    | none => rfl
    | some X => unfold more; rw [h]; rfl
  rw [this, words_none]
theorem words_step {ws : List (List UInt8)} {k : Nat} {X : List Sm.St} {x : Sm.St} (hk : k < ws.length) (hX : words (ws.take k) = some X) (h : word ws[k] = some x) : words (ws.take (k + 1)) = some (X ++ [x]) := by
  rw [List.take_succ_eq_append_getElem hk, words_snoc, hX]
  unfold more
  rw [h]
  rfl
theorem word_three {l a b c : List UInt8} (h : Pc.pieces 58 l = [a, b, c]) : word l = some (Sm.num10 a, Sm.num10 b, Sm.num10 c) := by
  unfold word; rw [h]
theorem word_few {l : List UInt8} (h : (Pc.pieces 58 l).length ≠ 3) : word l = none := by
  unfold word
  split
  · next a b c e => rw [e] at h; exact absurd rfl h
  · rfl
theorem three {l : List (List UInt8)} (h : l.length = 3) : ∃ a b c, l = [a, b, c] := by
  match l, h with
  | [a, b, c], _ => exact ⟨a, b, c, rfl⟩
theorem parse_stop {l : List UInt8} {k : Nat} (hk : k < (Pc.pieces 32 l).length) (h : word (Pc.pieces 32 l)[k] = none) : parse l = none := by
  unfold parse; rw [words_stop hk h]; rfl
theorem parse_end {l : List UInt8} {k : Nat} {X : List Sm.St} (hk : ¬ k < (Pc.pieces 32 l).length) (hX : words ((Pc.pieces 32 l).take k) = some X) : parse l = if devs X = true then some X else none := by
  rw [List.take_of_length_le (by omega)] at hX
  unfold parse; rw [hX]; rfl
end Go.Proofs.YtekjnfkmjmmcmabGreatDoor.Dv
