/- What l6Lost of the specification comes to. -/
import Derived.Test.YtoemblcheahbeacAtS
import Derived.Test.YtoemblcheahbeacRgB
import Derived.Test.YtoemblcheahbeacRbM
namespace Go.Proofs.Ytoemblcheahbeac.Wk
set_option linter.unusedVariables false
open Go.ChangeShapes Go.WideShapes Go.ChangeAt Go.RowKit

theorem lost_yes {l : List Sm.St} {x : Int} (h : Dv.at_ l x = none) : Rg.lostB l x = true := by unfold Rg.lostB; rw [h]; rfl
theorem lost_no {l : List Sm.St} {x : Int} {d : Sm.St} (h : Dv.at_ l x = some d) : Rg.lostB l x = false := by unfold Rg.lostB; rw [h]; rfl

set_option maxHeartbeats 2000000 in
set_option maxRecDepth 100000 in
theorem specLost (a c : Option Addr) (ca cc : Nat) (p : List Int) (l : List Sm.St) (w : World) (hp : p.length ≤ 1048576) (hl : l.length ≤ 1048576) (hr : RdZ w a p) (hs : RdS w c l) :
    Calls Try.prog 57 #[.agg #[.slice a p.length ca], .slice c l.length cc] w fun e w' => e = .returned (.int .i64 (Rg.idxI (p.findIdx? (Rg.lostB l)))) ∧ Below w.heap.size w w' := by
  obtain ⟨K, hK⟩ : ∃ K, Rg.idxI (p.findIdx? (Rg.lostB l)) = K := ⟨_, rfl⟩
  have HK : Hid (Rg.idxI (p.findIdx? (Rg.lostB l)) = K) := hK
  rw [hK]
  clear hK
  have s0 := slot1New w (.slice a p.length ca) 36
  have hB0 := bel1 w (.cells #[.slice a p.length ca] 36)
  have hr0 := hr.below hB0
  have hs0 := hs.below hB0
  go_enter Try.func57, Try.ntmps57
  go_wp2
  generalize w.alloc (.cells #[.slice a p.length ca] 36) = w0 at s0 hB0 hr0 hs0 ⊢
  go_loopw [5] (fun i wr => ∃ k : Nat, k ≤ p.length ∧ i = .int .i64 k ∧ Hid (((p.take k).all fun x => !Rg.lostB l x) = true) ∧ Below w0.heap.size w0 wr) (fun i _ => p.length - (intOf i).toNat)
  case atStart => exact ⟨0, Nat.zero_le _, rfl, rfl, Below.refl _ _⟩
  case round =>
    obtain ⟨k, hk, rfl, HA, hb⟩ := hrel
    obtain ⟨c0, -⟩ := s0.below hb
    by_cases hlt : k < p.length
    · have HY : Hid (Rg.lostB l p[k] = true → K = k) := fun h => by rw [← HK.out, Rg.find_hit hlt HA.out h]; rfl
      have HN : Hid (Rg.lostB l p[k] = false → ((p.take (k + 1)).all fun x => !Rg.lostB l x) = true) := fun h => Rg.find_step hlt HA.out h
      obtain ⟨b1, o1, rfl, hx⟩ := (hr0.below hb) k hlt
      generalize p[k] = x at HY HN hx
      have cA := specAt c cc l x _ hl (hs0.below hb)
      cases hd : Dv.at_ l x with
      | none =>
        rw [hd] at cA
        dsimp only [dvAtV] at cA
        have eK := HY.out (lost_yes hd)
        subst eK
        clear HY HN HK HA hd
        go_wp2_with fail
        refine cA.mono ?_
        rintro e w4 ⟨rfl, hb4⟩
        go_wp2
        go_ret
        exact ⟨rfl, behind (behind (behind hB0 hb) hb4) (bel1 _ _)⟩
      | some d =>
        rw [hd] at cA
        have HT' : Hid (((p.take (k + 1)).all fun x => !Rg.lostB l x) = true) := HN.out (lost_no hd)
        obtain ⟨i, z, n⟩ := d
        dsimp only [dvAtV] at cA
        clear HY HN hd
        go_wp2_with fail
        refine cA.mono ?_
        rintro e w4 ⟨rfl, hb4⟩
        go_wp2
        go_roundw
        case rel => exact ⟨k + 1, by omega, by go_num, HT', behind (behind hb hb4) (bel1 _ _)⟩
        case measure => simp [intOf]; omega
    · have eK : K = -1 := by rw [← HK.out, Rg.find_end hlt HA.out]; rfl
      subst eK
      clear HK HA
      go_wp2
      go_ret
      exact ⟨rfl, behind hB0 hb⟩
end Go.Proofs.Ytoemblcheahbeac.Wk
