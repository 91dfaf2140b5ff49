/- Names: beginnings of a name; a name and a sign more. -/
import Derived.Test.YtekjnfkmjmmcmaiNmM
namespace Go.Proofs.Ytekjnfkmjmmcmai.Nm
set_option linter.unusedVariables false

theorem cut_list (s : ByteArray) (k : Nat) : (s.extract 0 k).data.toList = s.data.toList.take k := by
  simp
theorem cut_size (s : ByteArray) (k : Nat) (h : k ≤ s.size) : (s.extract 0 k).size = k := by
  simp
  omega
theorem name_pre (s : ByteArray) (k : Nat) (h : name s.data.toList = true) (h1 : 1 ≤ k) (hk : k ≤ s.size) : name (s.extract 0 k).data.toList = true := by
  rw [cut_list]
  simp only [name, signs, Bool.and_eq_true, decide_eq_true_eq, List.all_eq_true, List.length_take] at h ⊢
  have hl : s.data.toList.length = s.size := by simp
  refine ⟨fun c hc => h.1 c (List.mem_of_mem_take hc), by omega, by omega⟩
theorem name_nil : name (⟨#[]⟩ : ByteArray).data.toList = false := rfl
theorem name_blank (s : ByteArray) : name (s ++ (⟨#[32]⟩ : ByteArray)).data.toList = false := by
  have e : (s ++ (⟨#[32]⟩ : ByteArray)).data.toList = s.data.toList ++ [32] := by simp
  rw [e]
  simp [name, signs]
  intro _ h
  exact absurd h (by decide)
theorem add_size (s t : ByteArray) : (s ++ t).size = s.size + t.size := ByteArray.size_append
/-- two short texts in one, at the operation itself -/
theorem addX (a b : ByteArray) (h : a.size + b.size ≤ 1000) : binOp .add 9 (.string a) (.string b) = pure (.string (a ++ b)) := by
  rw [binOp_string_add]
  simp only [Op.stringOp]
  rw [if_neg (by show ¬ (((a.size + b.size : Nat) : Int) > 9223372036854775807); omega)]
end Go.Proofs.Ytekjnfkmjmmcmai.Nm
