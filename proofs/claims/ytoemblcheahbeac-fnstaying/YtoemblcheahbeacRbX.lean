/- Both Rebalances come to the same ring and the same number. -/
import Derived.Test.YtoemblcheahbeacRbSe
import Derived.Test.YtoemblcheahbeacRbIh
namespace Go.Proofs.Ytoemblcheahbeac.Wk
set_option linter.unusedVariables false
open Go.ChangeShapes Go.WideShapes Go.ChangeAt Go.RowKit

theorem bothReb (reps : Int) (Q : List (List Int)) (l : List Sm.St) (hQ : Q.length ≤ 1048576) (ht : tot Q ≤ 1048576) (hl : l.length ≤ 1048576) : ∃ (R : List (List Int)) (n : Int), Rg.reb reps Q l = (R, n) ∧ R.length = Q.length ∧ tot R ≤ 1048576 ∧ (∀ p ∈ R, p.length ≤ 1048576) ∧
    (∀ (a c : Option Addr) (ca cc : Nat) (w : World), RdN w a Q → RdS w c l → Calls Try.prog 26 #[.agg #[.int .i64 reps, .slice a Q.length ca], .slice c l.length cc] w fun e w' => ∃ (a' : Option Addr) (ca' : Nat), e = .returned (.tuple #[.agg #[.int .i64 reps, .slice a' Q.length ca'], .int .i64 n]) ∧
      OwnP w' w.heap.size (.slice a' Q.length ca') R ∧ Below w.heap.size w w') ∧
    (∀ (a c : Option Addr) (ca cc : Nat) (w : World), RdN w a Q → (a = none → ca = 0) → RdS w c l → Calls Try.prog 25 #[.agg #[.int .i64 reps, .slice a Q.length ca], .slice c l.length cc] w fun e w' => ∃ (a' : Option Addr) (ca' : Nat), e = .returned (.tuple #[.agg #[.int .i64 reps, .slice a' Q.length ca'], .int .i64 n]) ∧
      OwnP w' w.heap.size (.slice a' Q.length ca') R ∧ Below w.heap.size w w') := by
  cases h : Rg.movB reps Q l with
  | false =>
    refine ⟨Q, -1, by unfold Rg.reb; rw [h]; rfl, rfl, ht, fun p hp => Nat.le_trans (tot_mem hp) ht, ?_, ?_⟩
    · exact fun a c ca cc w h1 h2 => specRebNo reps a c ca cc Q l w hQ ht hl h1 h2 h
    · exact fun a c ca cc w h1 h0 h2 => implRebNo reps a c ca cc Q l w hQ ht hl h1 h0 h2 h
  | true =>
    have hlen := Rg.rebK_len l Q Q.length
    have h5 : ∀ q ∈ (Rg.rebK l Q Q.length).1, q.length ≤ 5 := by
      obtain ⟨-, ⟨hr1, hr5⟩, -, -⟩ := Rg.mov_head h
      have hev := Rg.mov_each h
      have hpl : ∀ q ∈ Q, q.length ≤ 5 := fun q hq => by have := (hev q hq).2; omega
      exact Rg.rebK_each (φ := fun q => q.length ≤ 5) hpl (fun R q hq => by rw [Rg.mvTo_len]; exact hpl q hq) Q.length (Nat.le_refl _)
    have h6 : ∀ (ps : List (List Int)), (∀ q ∈ ps, q.length ≤ 5) → tot ps ≤ ps.length * 5 := by
      intro ps
      induction ps with
      | nil => intro _; simp [tot]
      | cons a r ih =>
        intro h
        have h1 := ih (fun q hq => h q (List.mem_cons_of_mem _ hq))
        have h2 := h a List.mem_cons_self
        simp only [tot, List.map_cons, List.sum_cons, List.length_cons] at h1 ⊢
        omega
    have h7 := h6 _ h5
    rw [hlen] at h7
    have h64 := (Rg.mov_head h).2.2.1.2
    refine ⟨(Rg.rebK l Q Q.length).1, ((Rg.rebK l Q Q.length).2 : Int), by unfold Rg.reb; rw [h]; rfl, hlen, by omega, fun p hp => by have := h5 p hp; omega, ?_, ?_⟩
    · exact fun a c ca cc w h1 h2 => specRebYes reps a c ca cc Q l w h1 h2 h
    · exact fun a c ca cc w h1 h0 h2 => implRebYes reps a c ca cc Q l w h1 h0 h2 h
end Go.Proofs.Ytoemblcheahbeac.Wk
