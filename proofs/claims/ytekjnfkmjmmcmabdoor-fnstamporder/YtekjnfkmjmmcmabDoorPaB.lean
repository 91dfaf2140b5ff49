/- What is read of a text as a stamp, as a value; plain facts on three pieces. -/
import Derived.Test.YtekjnfkmjmmcmabDoorRdB
namespace Go.Proofs.YtekjnfkmjmmcmabDoor.Wk
set_option linter.unusedVariables false
open Go.ChangeShapes Go.WideShapes Go.ChangeAt Go.RowKit

def paV : Option (Nat × Nat × Nat) → Value
  | some (t, q, n) => .tuple #[.agg #[.int .i64 (t : Int), .int .i64 (q : Int), .int .i64 (n : Int)], .bool true]
  | none => .tuple #[.agg #[.int .i64 0, .int .i64 0, .int .i64 0], .bool false]

theorem pieces_len (l : List UInt8) : ∀ p ∈ Sm.pieces l, p.length ≤ l.length := by
  induction l with
  | nil => intro p hp; simp [Sm.pieces] at hp; subst hp; simp
  | cons c r ih =>
    intro p hp
    by_cases hc : c = 46
    · subst hc
      rw [Sm.pieces_dot] at hp
      rcases List.mem_cons.1 hp with rfl | hp
      · simp
      · have := ih p hp; simp; omega
    · obtain ⟨p', ps, e1, e2⟩ := Sm.pieces_no hc r
      rw [e2] at hp
      rw [e1] at ih
      rcases List.mem_cons.1 hp with rfl | hp
      · have := ih p' List.mem_cons_self; simp; omega
      · have := ih p (List.mem_cons_of_mem _ hp); simp; omega
theorem parse_few {l : List UInt8} (h : (Sm.pieces l).length ≠ 3) : Sm.parse l = none := by
  unfold Sm.parse
  split
  · rename_i a b c e; rw [e] at h; exact absurd rfl h
  · rfl
theorem parse_three {l p0 p1 p2 : List UInt8} (h : Sm.pieces l = [p0, p1, p2]) : Sm.parse l = (Sm.rd 1000000000 p0).bind fun t => (Sm.rd 1000000 p1).bind fun q => (Sm.rd 20 p2).map fun n => (t, q, n) := by
  unfold Sm.parse; rw [h]
theorem three_of {l : List UInt8} (h : (Sm.pieces l).length = 3) : ∃ p0 p1 p2, Sm.pieces l = [p0, p1, p2] := by
  match hp : Sm.pieces l, h with
  | [a, b, c], _ => exact ⟨a, b, c, rfl⟩
theorem parse_ok {l p0 p1 p2 : List UInt8} (h : Sm.pieces l = [p0, p1, p2]) (hk : Sm.ok (Sm.num10 p0) (Sm.num10 p1) (Sm.num10 p2) = true) :
    ∃ t q n : Nat, Sm.num10 p0 = t ∧ Sm.num10 p1 = q ∧ Sm.num10 p2 = n ∧ Sm.parse l = some (t, q, n) := by
  obtain ⟨h0, h1, h2⟩ := Sm.ok_true hk
  obtain ⟨t, a0, b0⟩ := (Sm.num10_rd p0 1000000000 (by decide)).1 h0
  obtain ⟨q, a1, b1⟩ := (Sm.num10_rd p1 1000000 (by decide)).1 h1
  obtain ⟨n, a2, b2⟩ := (Sm.num10_rd p2 20 (by decide)).1 h2
  exact ⟨t, q, n, b0, b1, b2, by rw [parse_three h, a0, a1, a2]; rfl⟩
theorem parse_no {l p0 p1 p2 : List UInt8} (h : Sm.pieces l = [p0, p1, p2]) (hk : Sm.ok (Sm.num10 p0) (Sm.num10 p1) (Sm.num10 p2) = false) : Sm.parse l = none := by
  rw [parse_three h]
  cases e0 : Sm.rd 1000000000 p0 with
  | none => rfl
  | some t =>
    cases e1 : Sm.rd 1000000 p1 with
    | none => rfl
    | some q =>
      cases e2 : Sm.rd 20 p2 with
      | none => rfl
      | some n =>
        have back : ∀ (m : Nat) (p : List UInt8) (v : Nat), m < 10000000000 → Sm.rd m p = some v → 0 ≤ Sm.num10 p ∧ Sm.num10 p ≤ m := by
          intro m p v hm e
          unfold Sm.rd at e
          split at e
          · rename_i hh
            have hl : p.length ≤ 10 := by
              by_cases hl : p.length ≤ 10
              · exact hl
              · have := Sm.isNum_long hh.1 (by omega); omega
            unfold Sm.num10
            rw [if_pos ⟨hh.1, hl⟩]
            omega
          · cases e
        have k0 := back _ _ _ (by decide) e0
        have k1 := back _ _ _ (by decide) e1
        have k2 := back _ _ _ (by decide) e2
        rw [Sm.ok_mk ⟨k0, k1, k2⟩] at hk
        cases hk
end Go.Proofs.YtekjnfkmjmmcmabDoor.Wk
