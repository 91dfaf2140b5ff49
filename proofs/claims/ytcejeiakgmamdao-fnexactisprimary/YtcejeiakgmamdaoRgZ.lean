/- What the laws' szIntS, szPart, szPartS, szRing come to: what is left of a bound. -/
import Derived.Test.YtcejeiakgmamdaoRgB
namespace Go.Proofs.Ytcejeiakgmamdao.Wk
set_option linter.unusedVariables false
open Go.ChangeShapes Go.WideShapes Go.ChangeAt Go.RowKit

/-- what is left of L when n are taken, -1 when there are not as many -/
def szV (L n : Nat) : Int := if L < n then -1 else (L : Int) - (n : Int)
theorem szV_no {L n : Nat} (h : L < n) : szV L n = -1 := if_pos h
theorem szV_yes {L n : Nat} (h : ¬ L < n) : szV L n = (L : Int) - (n : Int) := if_neg h
/-- how many numbers there are in all -/
def tot (ps : List (List Int)) : Nat := (ps.map List.length).sum
theorem tot_append (a b : List (List Int)) : tot (a ++ b) = tot a + tot b := by simp [tot]
theorem tot_take_le (ps : List (List Int)) (k : Nat) : tot (ps.take k) ≤ tot ps := by
  have h := tot_append (ps.take k) (ps.drop k)
  rw [List.take_append_drop] at h
  omega
theorem tot_step {ps : List (List Int)} {k : Nat} (hk : k < ps.length) : tot (ps.take (k + 1)) = tot (ps.take k) + ps[k].length := by
  rw [List.take_succ_eq_append_getElem hk, tot_append]
  congr 1
theorem tot_mem {ps : List (List Int)} {p : List Int} (h : p ∈ ps) : p.length ≤ tot ps := by
  induction ps with
  | nil => simp at h
  | cons x r ih =>
    simp only [tot, List.map_cons, List.sum_cons] at ih ⊢
    rcases List.mem_cons.1 h with rfl | h
    · omega
    · have := ih h; omega

set_option maxHeartbeats 400000 in
set_option maxRecDepth 100000 in
theorem szZ (a : Option Addr) (n cap L : Nat) (w : World) (hL : L ≤ 1048576) (hn : n ≤ 9223372036854775807) :
    Calls Try.prog 50 #[.slice a n cap, .int .i64 (L : Int)] w fun e w' => e = .returned (.int .i64 (szV L n)) ∧ w' = w := by
  by_cases h : L < n
  · rw [szV_no h]
    have h' : (L : Int) - (n : Int) < 0 := by omega
    go_enter Try.func50, Try.ntmps50
    go_wp2
    go_ret
    exact ⟨rfl, rfl⟩
  · rw [szV_yes h]
    have h' : ¬ (L : Int) - (n : Int) < 0 := by omega
    go_enter Try.func50, Try.ntmps50
    go_wp2
    go_ret
    exact ⟨rfl, rfl⟩

set_option maxHeartbeats 400000 in
set_option maxRecDepth 100000 in
theorem szPt (a : Option Addr) (n cap L : Nat) (w : World) (hL : L ≤ 1048576) (hn : n ≤ 9223372036854775807) :
    Calls Try.prog 39 #[.agg #[.slice a n cap], .int .i64 (L : Int)] w fun e w' => e = .returned (.int .i64 (szV L n)) ∧ Below w.heap.size w w' := by
  have cZ := fun w => szZ a n cap L w hL hn
  by_cases h : L < n
  · rw [szV_no h] at cZ ⊢
    go_enter Try.func39, Try.ntmps39
    go_wp2_with fail
    refine (cZ _).mono ?_
    rintro e _ ⟨rfl, rfl⟩
    go_wp2
    go_ret
    exact ⟨rfl, bel1 _ _⟩
  · rw [szV_yes h] at cZ ⊢
    obtain ⟨r, hr⟩ : ∃ r : Nat, (L : Int) - (n : Int) = r := ⟨L - n, by omega⟩
    rw [hr] at cZ ⊢
    go_enter Try.func39, Try.ntmps39
    go_wp2_with fail
    refine (cZ _).mono ?_
    rintro e _ ⟨rfl, rfl⟩
    go_wp2
    go_ret
    exact ⟨rfl, bel1 _ _⟩

set_option maxHeartbeats 1000000 in
set_option maxRecDepth 100000 in
theorem szPtS (a : Option Addr) (cap L : Nat) (ps : List (List Int)) (w : World) (hL : L ≤ 1048576) (hn : ps.length ≤ 9223372036854775807) (hp : ∀ p ∈ ps, p.length ≤ 9223372036854775807) (hr : RdP w a ps) :
    Calls Try.prog 26 #[.slice a ps.length cap, .int .i64 (L : Int)] w fun e w' => e = .returned (.int .i64 (szV L (ps.length + tot ps))) ∧ Below w.heap.size w w' := by
  obtain ⟨V, hV⟩ : ∃ V, szV L (ps.length + tot ps) = V := ⟨_, rfl⟩
  have HV : Hid (szV L (ps.length + tot ps) = V) := hV
  rw [hV]
  clear hV
  by_cases h : L < ps.length
  · have eV : V = -1 := by rw [← HV.out, szV_no (by omega)]
    subst eV
    have h' : (L : Int) - (ps.length : Int) < 0 := by omega
    clear HV
    go_enter Try.func26, Try.ntmps26
    go_wp2
    go_ret
    exact ⟨rfl, Below.refl _ _⟩
  · obtain ⟨r0, hr0⟩ : ∃ r : Nat, (L : Int) - (ps.length : Int) = r := ⟨L - ps.length, by omega⟩
    go_enter Try.func26, Try.ntmps26
    go_wp2
    go_loopw [1, 5] (fun q i wr => ∃ (k r : Nat), k ≤ ps.length ∧ i = .int .i64 k ∧ q = .int .i64 (r : Int) ∧ Hid (r + ps.length + tot (ps.take k) = L) ∧ Below w.heap.size w wr) (fun _ i _ => ps.length - (intOf i).toNat)
    case atStart => exact ⟨0, r0, Nat.zero_le _, rfl, rfl, by show r0 + ps.length + tot (ps.take 0) = L; simp [tot]; omega, Below.refl _ _⟩
    case round =>
      obtain ⟨k, r, hk, rfl, rfl, HS, hb⟩ := hrel
      clear hr0
      by_cases hlt : k < ps.length
      · obtain ⟨b, off, ai, ci, rfl, hc, hz, -⟩ := (hr.below hb) k hlt
        have hpl := hp ps[k] (List.getElem_mem hlt)
        have HT : Hid (tot (ps.take (k + 1)) = tot (ps.take k) + ps[k].length) := tot_step hlt
        have hrL : r ≤ 1048576 := by have := HS.out; omega
        have cP := fun w => szPt ai ps[k].length ci r w hrL hpl
        by_cases hlr : r < ps[k].length
        · rw [szV_no hlr] at cP
          have eV : V = -1 := by
            rw [← HV.out, szV_no]
            have h1 := HS.out
            have h2 := HT.out
            have h3 := tot_take_le ps (k + 1)
            omega
          subst eV
          generalize ps[k].length = m at hc cP
          clear HV HT HS hz
          go_wp2_with fail
          refine (cP _).mono ?_
          rintro e w1 ⟨rfl, hb1⟩
          go_wp2
          go_ret
          exact ⟨rfl, behind hb hb1⟩
        · rw [szV_yes hlr] at cP
          obtain ⟨r', hr'⟩ : ∃ r' : Nat, (r : Int) - (ps[k].length : Int) = r' := ⟨r - ps[k].length, by omega⟩
          rw [hr'] at cP
          have HS' : Hid (r' + ps.length + tot (ps.take (k + 1)) = L) := by
            have h1 := HS.out
            have h2 := HT.out
            show r' + ps.length + tot (ps.take (k + 1)) = L
            omega
          generalize ps[k].length = m at hc cP
          clear HS HT hz hr' hlr hpl
          go_wp2_with fail
          refine (cP _).mono ?_
          rintro e w1 ⟨rfl, hb1⟩
          go_wp2
          go_roundw
          case rel => exact ⟨k + 1, r', by omega, by go_num, rfl, HS', behind hb hb1⟩
          case measure => simp [intOf]; omega
      · have eV : V = r := by
          have h1 := HS.out
          rw [List.take_of_length_le (by omega)] at h1
          rw [← HV.out, szV_yes (by omega)]
          omega
        subst eV
        clear HV HS
        go_wp2
        go_ret
        exact ⟨rfl, hb⟩

set_option maxHeartbeats 400000 in
set_option maxRecDepth 100000 in
theorem szRg (reps : Int) (a : Option Addr) (cap L : Nat) (ps : List (List Int)) (w : World) (hL : L ≤ 1048576) (hn : ps.length ≤ 9223372036854775807) (hp : ∀ p ∈ ps, p.length ≤ 9223372036854775807) (hr : RdP w a ps) :
    Calls Try.prog 7 #[.agg #[.int .i64 reps, .slice a ps.length cap], .int .i64 (L : Int)] w fun e w' => e = .returned (.int .i64 (szV L (ps.length + tot ps))) ∧ Below w.heap.size w w' := by
  have cZ := fun w hr => szPtS a cap L ps w hL hn hp hr
  by_cases h : L < ps.length + tot ps
  · rw [szV_no h] at cZ ⊢
    go_enter Try.func7, Try.ntmps7
    go_wp2_with fail
    refine (cZ _ (hr.below (bel1 _ _))).mono ?_
    rintro e w1 ⟨rfl, hb1⟩
    go_wp2
    go_ret
    exact ⟨rfl, behind (bel1 _ _) hb1⟩
  · rw [szV_yes h] at cZ ⊢
    obtain ⟨r, hr'⟩ : ∃ r : Nat, (L : Int) - ((ps.length + tot ps : Nat) : Int) = r := ⟨L - (ps.length + tot ps), by omega⟩
    rw [hr'] at cZ ⊢
    go_enter Try.func7, Try.ntmps7
    go_wp2_with fail
    refine (cZ _ (hr.below (bel1 _ _))).mono ?_
    rintro e w1 ⟨rfl, hb1⟩
    go_wp2
    go_ret
    exact ⟨rfl, behind (bel1 _ _) hb1⟩
end Go.Proofs.Ytcejeiakgmamdao.Wk
