/- Build of the specification and of the program come to the same, whatever is asked. -/
import Derived.Test.YtcejeiakgmamdacBuS
import Derived.Test.YtcejeiakgmamdacBuI
namespace Go.Proofs.Ytcejeiakgmamdac.Wk
set_option linter.unusedVariables false
open Go.ChangeShapes Go.WideShapes Go.ChangeAt Go.RowKit

set_option maxHeartbeats 1000000 in
set_option maxRecDepth 100000 in
theorem implBuildNo (c : Option Addr) (cc : Nat) (l : List Sm.St) (parts reps : Int) (w : World) (hl : l.length ≤ 1048576) (hrl : RdS w c l) (hno : ¬ BldOk l parts reps) :
    Calls Try.prog 11 #[.slice c l.length cc, .int .i64 parts, .int .i64 reps] w fun e w' => e = .returned (.tuple #[.agg #[.int .i64 0, .slice none 0 0], .bool false]) ∧ Below w.heap.size w w' := by
  have cD := fun w h => implDevs c cc l w (by omega) h
  have s0 := slot2New w (.int .i64 0) (.slice none 0 0) 29
  have hB0 := bel1 w (.cells #[.int .i64 0, .slice none 0 0] 29)
  have fin : ∀ (w1 : World), Below (w.alloc (.cells #[.int .i64 0, .slice none 0 0] 29)).heap.size (w.alloc (.cells #[.int .i64 0, .slice none 0 0] 29)) w1 →
      ((w1.setCell ⟨w.heap.size, 0, none⟩ (.int .i64 0)).setCell ⟨w.heap.size, 1, none⟩ (.slice none 0 0)).cell? ⟨w.heap.size, 0, none⟩ = some (.int .i64 0) ∧
      ((w1.setCell ⟨w.heap.size, 0, none⟩ (.int .i64 0)).setCell ⟨w.heap.size, 1, none⟩ (.slice none 0 0)).cell? ⟨w.heap.size, 1, none⟩ = some (.slice none 0 0) ∧
      Below w.heap.size w ((w1.setCell ⟨w.heap.size, 0, none⟩ (.int .i64 0)).setCell ⟨w.heap.size, 1, none⟩ (.slice none 0 0)) := fun w1 hb1 => by
    obtain ⟨⟨t0, t1⟩, -⟩ := s0.below hb1
    refine ⟨?_, ?_, ((behind hB0 hb1).setCell (Nat.le_refl _) _).setCell (Nat.le_refl _) _⟩
    · rw [World.cell?_setCell_other _ _ _ _ (by simp)]
      exact World.cell?_setCell_same' _ _ _ (by rw [t0]; rfl)
    · exact World.cell?_setCell_same' _ _ _ (by rw [World.cell?_setCell_other _ _ _ _ (by simp), t1]; rfl)
  have FIN : Hid (∀ (w1 : World), Below (w.alloc (.cells #[.int .i64 0, .slice none 0 0] 29)).heap.size (w.alloc (.cells #[.int .i64 0, .slice none 0 0] 29)) w1 → _) := fin
  clear fin
  cases hd : Dv.devs l with
  | false =>
    rw [hd] at cD
    clear hno hd
    go_enter Try.func11, Try.ntmps11
    go_wp2_with fail
    refine (cD _ (hrl.below hB0)).mono ?_
    rintro e w1 ⟨rfl, hb1⟩
    obtain ⟨⟨t0, t1⟩, t2, t3⟩ := s0.below hb1
    obtain ⟨e0, e1, hB⟩ := FIN.out w1 hb1
    clear FIN
    go_wp2
    exact bodyPost_ret (v := .tuple #[.agg #[.int .i64 0, .slice none 0 0], .bool false]) (by simp [results, Try.results11, go_sem, e0, e1]) rfl ⟨rfl, hB⟩
  | true =>
    rw [hd] at cD
    by_cases h1 : (1 ≤ parts ∧ parts ≤ 64) ∧ (1 ≤ reps ∧ reps ≤ 5)
    · have h3 : (l.length : Int) < reps := by
        by_cases h3 : reps ≤ (l.length : Int)
        · exact absurd ⟨hd, h1.1, h1.2, h3⟩ hno
        · omega
      have c1 := sizeOkI parts reps true (by simp; omega)
      clear hno hd h1
      go_enter Try.func11, Try.ntmps11
      go_wp2_with fail
      refine (cD _ (hrl.below hB0)).mono ?_
      rintro e w1 ⟨rfl, hb1⟩
      obtain ⟨⟨t0, t1⟩, t2, t3⟩ := s0.below hb1
      obtain ⟨e0, e1, hB⟩ := FIN.out w1 hb1
      clear FIN
      go_wp2_with fail
      refine (c1 _).mono ?_
      rintro e wa ⟨rfl, hwa⟩
      subst wa
      go_wp2
      exact bodyPost_ret (v := .tuple #[.agg #[.int .i64 0, .slice none 0 0], .bool false]) (by simp [results, Try.results11, go_sem, e0, e1]) rfl ⟨rfl, hB⟩
    · have c1 := sizeOkI parts reps false (by simp; omega)
      clear hno hd h1
      go_enter Try.func11, Try.ntmps11
      go_wp2_with fail
      refine (cD _ (hrl.below hB0)).mono ?_
      rintro e w1 ⟨rfl, hb1⟩
      obtain ⟨⟨t0, t1⟩, t2, t3⟩ := s0.below hb1
      obtain ⟨e0, e1, hB⟩ := FIN.out w1 hb1
      clear FIN
      go_wp2_with fail
      refine (c1 _).mono ?_
      rintro e wa ⟨rfl, hwa⟩
      subst wa
      go_wp2
      exact bodyPost_ret (v := .tuple #[.agg #[.int .i64 0, .slice none 0 0], .bool false]) (by simp [results, Try.results11, go_sem, e0, e1]) rfl ⟨rfl, hB⟩

theorem OwnP.nil (w : World) (base : Nat) : OwnP w base (.slice none 0 0) [] := ⟨[], World.ownsRow_nil _ _ _ _, fun i hi _ => by simp at hi, fun i j ui uj hi => by simp at hi⟩
/-- both come to the same: the number of replicas, the parts, whether it may be -/
theorem bothBuild (l : List Sm.St) (parts reps : Int) (hl : l.length ≤ 1048576) : ∃ (R : Int) (Q : List (List Int)) (ok : Bool), Q.length ≤ 64 ∧ tot Q ≤ 1048576 ∧ (∀ p ∈ Q, p.length ≤ 1048576) ∧
    (∀ (c : Option Addr) (cc : Nat) (w : World), RdS w c l → Calls Try.prog 12 #[.slice c l.length cc, .int .i64 parts, .int .i64 reps] w fun e w' => ∃ (a : Option Addr) (ca : Nat), e = .returned (.tuple #[.agg #[.int .i64 R, .slice a Q.length ca], .bool ok]) ∧
      OwnP w' w.heap.size (.slice a Q.length ca) Q ∧ Below w.heap.size w w') ∧
    (∀ (c : Option Addr) (cc : Nat) (w : World), RdS w c l → Calls Try.prog 11 #[.slice c l.length cc, .int .i64 parts, .int .i64 reps] w fun e w' => ∃ (a : Option Addr) (ca : Nat), e = .returned (.tuple #[.agg #[.int .i64 R, .slice a Q.length ca], .bool ok]) ∧
      OwnP w' w.heap.size (.slice a Q.length ca) Q ∧ Below w.heap.size w w') := by
  by_cases h : BldOk l parts reps
  · obtain ⟨hd, ⟨hp1, hp2⟩, ⟨hr1, hr2⟩, hr3⟩ := h
    obtain ⟨p, rfl⟩ : ∃ p : Nat, parts = p := ⟨parts.toNat, by omega⟩
    obtain ⟨r, rfl⟩ : ∃ r : Nat, reps = r := ⟨reps.toNat, by omega⟩
    have hlen := Rg.parts_len l r p
    refine ⟨r, Rg.parts l r p, true, by omega, ?_, fun q hq => by rw [Rg.parts_each l r p q hq]; omega, ?_, ?_⟩
    · rw [tot_constI _ r (Rg.parts_each l r p), hlen]
      have : p * r ≤ 64 * 5 := Nat.mul_le_mul (by omega) (by omega)
      omega
    · intro c cc w hr
      rw [hlen]
      exact specBuildYes c cc l p r w hr hd (by omega) (by omega) (by omega) (by omega) (by omega)
    · intro c cc w hr
      rw [hlen]
      exact implBuildYes c cc l p r w hr hd (by omega) (by omega) (by omega) (by omega) (by omega)
  · refine ⟨0, [], false, by simp, by simp [tot], fun p hp => by simp at hp, ?_, ?_⟩
    · intro c cc w hr
      refine (specBuildNo c cc l parts reps w hl hr h).mono ?_
      rintro e w' ⟨rfl, hb⟩
      exact ⟨none, 0, rfl, OwnP.nil _ _, hb⟩
    · intro c cc w hr
      refine (implBuildNo c cc l parts reps w hl hr h).mono ?_
      rintro e w' ⟨rfl, hb⟩
      exact ⟨none, 0, rfl, OwnP.nil _ _, hb⟩
end Go.Proofs.Ytcejeiakgmamdac.Wk
