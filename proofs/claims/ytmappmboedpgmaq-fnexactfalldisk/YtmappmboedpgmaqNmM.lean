/- Names: which bytes are signs of a name, which texts are names; what a range over a text meets. -/
import Derived.Test.YtmappmboedpgmaqBy
import Derived.Laws.RangeString
import Derived.Laws.RangeAny
namespace Go.Proofs.Ytmappmboedpgmaq.Nm
set_option linter.unusedVariables false

/-- a sign of a name -/
def sign (c : Int) : Bool := (decide (97 ≤ c) && decide (c ≤ 122)) || ((decide (48 ≤ c) && decide (c ≤ 57)) || ((c == 45) || ((c == 95) || (c == 47))))
/-- every sign is one of a name's -/
def signs (l : List UInt8) : Bool := l.all fun c => sign (c.toNat : Int)
/-- the text is a name -/
def name (l : List UInt8) : Bool := signs l && (decide (1 ≤ l.length) && decide (l.length ≤ 20))

theorem sign_lt {c : Int} (h : sign c = true) : 0 ≤ c ∧ c < 128 := by
  simp [sign] at h
  omega
theorem sign_cases (c : Int) : ((decide (97 ≤ c) && decide (c ≤ 122)) = true ∧ sign c = true) ∨
    ((decide (97 ≤ c) && decide (c ≤ 122)) = false ∧ (decide (48 ≤ c) && decide (c ≤ 57)) = true ∧ sign c = true) ∨
    ((decide (97 ≤ c) && decide (c ≤ 122)) = false ∧ (decide (48 ≤ c) && decide (c ≤ 57)) = false ∧ sign c = ((c == 45) || ((c == 95) || (c == 47)))) := by
  unfold sign
  generalize (decide (97 ≤ c) && decide (c ≤ 122)) = A
  generalize (decide (48 ≤ c) && decide (c ≤ 57)) = B
  cases A <;> cases B <;> simp
/-- the third kind of signs -/
def Mark (c : Int) (S : Bool) : Prop := S = ((c == 45) || ((c == 95) || (c == 47)))
theorem Mark.yes {c : Int} {S : Bool} (h : Mark c S) (hc : c = 45 ∨ c = 95 ∨ (((c != 45) = false ∨ (c != 95) = false) ∨ (c != 47) = false)) : S = true := by
  unfold Mark at h
  subst h
  simp at hc
  simp
  omega
theorem Mark.is {c : Int} {S : Bool} (h : Mark c S) : (c == 45 || c == 95 || c == 47) = S := by rw [h, Bool.or_assoc]
theorem Mark.no {c : Int} {S : Bool} (h : Mark c S) (hc : ((c != 45) = true ∧ (c != 95) = true) ∧ (c != 47) = true) : S = false := by
  unfold Mark at h
  subst h
  simp at hc
  simp
  omega
theorem in_cases (c : Int) : (97 ≤ c ∧ c ≤ 122 ∧ sign c = true) ∨ ((¬ 97 ≤ c ∨ (97 ≤ c ∧ ¬ c ≤ 122)) ∧
    ((48 ≤ c ∧ c ≤ 57 ∧ sign c = true) ∨ ((¬ 48 ≤ c ∨ (48 ≤ c ∧ ¬ c ≤ 57)) ∧ sign c = ((c == 45) || ((c == 95) || (c == 47)))))) := by
  by_cases hA : 97 ≤ c ∧ c ≤ 122
  · exact .inl ⟨hA.1, hA.2, by simp [sign, hA.1, hA.2]⟩
  · refine .inr ⟨by omega, ?_⟩
    have eA : (decide (97 ≤ c) && decide (c ≤ 122)) = false := by simp; omega
    by_cases hD : 48 ≤ c ∧ c ≤ 57
    · exact .inl ⟨hD.1, hD.2, by simp [sign, hD.1, hD.2]⟩
    · have eD : (decide (48 ≤ c) && decide (c ≤ 57)) = false := by simp; omega
      exact .inr ⟨by omega, by unfold sign; rw [eA, eD]; rfl⟩
theorem signs_take {s : ByteArray} {k : Nat} (h : k < s.size) : signs (s.data.toList.take (k + 1)) = (signs (s.data.toList.take k) && sign (s[k].toNat : Int)) := by
  rw [Mt.take_snoc s k h]
  simp [signs]
theorem signs_no {s : ByteArray} {k : Nat} (h : k < s.size) (hn : sign (s[k].toNat : Int) = false) : name s.data.toList = false := by
  have : signs s.data.toList = false := by
    rw [← List.take_append_drop (k + 1) s.data.toList]
    have e := signs_take h
    rw [hn, Bool.and_false] at e
    unfold signs at e ⊢
    rw [List.all_append, e, Bool.false_and]
  simp [name, this]
theorem name_all {s : ByteArray} {k : Nat} (h : ¬ k < s.size) (ha : signs (s.data.toList.take k) = true) : name s.data.toList = (decide (1 ≤ s.size) && decide (s.size ≤ 20)) := by
  rw [List.take_of_length_le (by simp; omega)] at ha
  simp [name, ha]
theorem name_long {s : ByteArray} (h : 20 < s.size) : name s.data.toList = false := by
  simp [name]
  intros
  omega
/-- what a range over a text meets at a place: a sign of a name just where the byte is one, and then it is one byte wide -/
theorem met (s : ByteArray) (k : Nat) (h : k < s.size) : sign (((Utf8.decode s k).1 : Nat) : Int) = sign (s[k].toNat : Int) ∧ (sign (s[k].toNat : Int) = true → (Utf8.decode s k).2 = 1) := by
  by_cases ha : s[k].toNat < 128
  · rw [decode_ascii s k h ha]
    exact ⟨rfl, fun _ => rfl⟩
  · have hd := decode_high s k h (by omega)
    have no : ∀ x : Nat, 128 ≤ x → sign (x : Int) = false := by
      intro x hx
      cases e : sign (x : Int) with
      | false => rfl
      | true => have := sign_lt e; omega
    rw [no _ hd.1, no _ (by omega)]
    exact ⟨rfl, fun e => by cases e⟩
theorem name_end {s : ByteArray} {k : Nat} (h : ¬ k < s.size) (hk : k ≤ s.size) (h20 : k ≤ 20) (ha : signs (s.data.toList.take k) = true) : decide (0 < k) = name s.data.toList := by
  rw [name_all h ha, Bool.eq_iff_iff]
  simp
  omega
end Go.Proofs.Ytmappmboedpgmaq.Nm
