/- What l5Part and RingOk of the specification come to. -/
import Derived.Test.YtcejeiakgmamdacZnS
import Derived.Test.YtcejeiakgmamdacAtS
import Derived.Test.YtcejeiakgmamdacDvS
import Derived.Test.YtcejeiakgmamdacRgB
import Derived.Test.YtcejeiakgmamdacRgM
import Derived.Test.YtcejeiakgmamdacIn1
import Derived.Deep.RegionHeld3
import Derived.Deep.Cut
namespace Go.Proofs.Ytcejeiakgmamdac.Wk
set_option linter.unusedVariables false
open Go.ChangeShapes Go.WideShapes Go.ChangeAt Go.RowKit

set_option maxHeartbeats 1000000 in
set_option maxRecDepth 100000 in
theorem specPart5 (a : Option Addr) (cap : Nat) (p : List Int) (reps : Int) (w : World) (hp : p.length ≤ 1048576) (hcap : p.length ≤ cap) (hr : RdZ w a p) :
    Calls Try.prog 67 #[.agg #[.slice a p.length cap], .int .i64 reps] w fun e w' => e = .returned (.bool (Rg.partB p reps)) ∧ Below w.heap.size w w' := by
  obtain ⟨K, hK⟩ : ∃ K, Rg.partB p reps = K := ⟨_, rfl⟩
  have HK : Hid (Rg.partB p reps = K) := hK
  rw [hK]
  clear hK
  have s0 := slot1New w (.slice a p.length cap) 36
  have hB0 := bel1 w (.cells #[.slice a p.length cap] 36)
  have hr0 := hr.below hB0
  go_enter Try.func67, Try.ntmps67
  go_wp2
  generalize w.alloc (.cells #[.slice a p.length cap] 36) = w0 at s0 hB0 hr0 ⊢
  go_loopw [5] (fun i wr => ∃ k : Nat, k ≤ p.length ∧ i = .int .i64 k ∧ Hid ((p.take k).Nodup) ∧ Below w0.heap.size w0 wr) (fun i _ => p.length - (intOf i).toNat)
  case atStart => exact ⟨0, Nat.zero_le _, rfl, by show (p.take 0).Nodup; simp, Below.refl _ _⟩
  case round =>
    obtain ⟨k, hk, rfl, HN, hb⟩ := hrel
    obtain ⟨c0, -⟩ := s0.below hb
    by_cases hlt : k < p.length
    · have HY : Hid (p[k] ∈ p.take k → K = false) := fun h => by rw [← HK.out]; exact Rg.partB_no hlt h
      have HM : Hid (p[k] ∉ p.take k → (p.take (k + 1)).Nodup) := fun h => Rg.nodup_step hlt h HN.out
      obtain ⟨b1, o1, e1, hx⟩ := (hr0.below hb) k hlt
      have htl : (p.take k).length = k := by rw [List.length_take]; omega
      have cH := fun (x : Int) (w' : World) (h : RdZ w' a (p.take k)) => specHas a cap (p.take k) x w' (by omega) h
      rw [htl] at cH
      have hrt := (hr0.below hb).take k
      generalize p[k] = x at HY HM hx
      have cX := cH x
      obtain ⟨B, hB⟩ : ∃ B, decide (x ∈ p.take k) = B := ⟨_, rfl⟩
      have HB : Hid (decide (x ∈ p.take k) = B) := hB
      rw [hB] at cX
      clear hB cH htl
      subst e1
      have hkc : (k : Int) ≤ (cap : Int) := by omega
      cases B
      · have HM' : Hid ((p.take (k + 1)).Nodup) := HM.out (of_decide_eq_false HB.out)
        clear HY HM HB
        go_wp2_with fail
        go_quiet (first | (go_at_call 53; exact Calls.quiet_of_same (cX _ hrt)) | fail)
        go_wp2
        go_roundw
        case rel => exact ⟨k + 1, by omega, by go_num, HM', belowDN hb nq⟩
        case measure => simp [intOf]; omega
      · have eK := HY.out (of_decide_eq_true HB.out)
        subst eK
        clear HY HM HB HK
        go_wp2_with fail
        go_quiet (first | (go_at_call 53; exact Calls.quiet_of_same (cX _ hrt)) | fail)
        go_wp2
        go_ret
        exact ⟨rfl, belowDN (behind hB0 hb) nq⟩
    · have eK : K = decide ((p.length : Int) = reps) := by rw [← HK.out]; exact Rg.partB_end hlt HN.out
      clear HK HN
      by_cases he : (p.length : Int) = reps
      · rw [decide_eq_true he] at eK
        subst eK
        go_wp2
        go_ret
        exact ⟨rfl, behind hB0 hb⟩
      · rw [decide_eq_false he] at eK
        subst eK
        go_wp2
        go_ret
        exact ⟨show Ending.returned (.bool ((p.length : Int) == reps)) = _ from ret_bool (by simpa using he), behind hB0 hb⟩

theorem ring_head {reps : Int} {ps : List (List Int)} {l : List Sm.St} (h : Rg.headB reps ps.length l = false) : Rg.ringB reps ps l = false := by unfold Rg.ringB; rw [h]; rfl
theorem ring_tail {reps : Int} {ps : List (List Int)} {l : List Sm.St} (h : Rg.headB reps ps.length l = true) : Rg.ringB reps ps l = ps.all (Rg.partOk reps l) := by unfold Rg.ringB; rw [h]; rfl
set_option maxHeartbeats 4000000 in
set_option maxRecDepth 100000 in
theorem specRing (reps : Int) (a c : Option Addr) (cap cc : Nat) (ps : List (List Int)) (l : List Sm.St) (w : World) (hps : ps.length ≤ 1048576) (hpp : ∀ p ∈ ps, p.length ≤ 1048576) (hl : l.length ≤ 1048576) (hr : RdP w a ps) (hs : RdS w c l) :
    Calls Try.prog 29 #[.agg #[.int .i64 reps, .slice a ps.length cap], .slice c l.length cc] w fun e w' => e = .returned (.bool (Rg.ringB reps ps l)) ∧ Below w.heap.size w w' := by
  have cD := fun w h => specDevs c cc l w (by omega) h
  have s0 := slot2New w (.int .i64 reps) (.slice a ps.length cap) 29
  have hB0 := bel1 w (.cells #[.int .i64 reps, .slice a ps.length cap] 29)
  have hr0 := hr.below hB0
  have hs0 := hs.below hB0
  cases hd : Dv.devs l with
  | false =>
    rw [ring_head (by unfold Rg.headB; rw [hd]; rfl)]
    rw [hd] at cD
    clear hd
    go_enter Try.func29, Try.ntmps29
    go_wp2_with fail
    refine (cD _ hs0).mono ?_
    rintro e w1 ⟨rfl, hb1⟩
    go_wp2
    go_ret
    exact ⟨rfl, behind hB0 hb1⟩
  | true =>
    rw [hd] at cD
    by_cases h1 : 1 ≤ reps ∧ reps ≤ 5
    · by_cases h2 : 1 ≤ ps.length ∧ ps.length ≤ 64
      · rw [ring_tail (by unfold Rg.headB; rw [hd, decide_eq_true h1.1, decide_eq_true h1.2, decide_eq_true h2.1, decide_eq_true h2.2]; rfl)]
        obtain ⟨h1a, h1b⟩ := h1
        obtain ⟨h2a, h2b⟩ := h2
        obtain ⟨K, hK⟩ : ∃ K, ps.all (Rg.partOk reps l) = K := ⟨_, rfl⟩
        have HK : Hid (ps.all (Rg.partOk reps l) = K) := hK
        rw [hK]
        clear hK hd
        go_enter Try.func29, Try.ntmps29
        go_wp2_with fail
        refine (cD _ hs0).mono ?_
        rintro e w1 ⟨rfl, hb1⟩
        have s1 := s0.below hb1
        have hB1 := behind hB0 hb1
        have hr1 := hr0.below hb1
        have hs1 := hs0.below hb1
        obtain ⟨⟨g0, g1⟩, -⟩ := id s1
        clear s0 hB0 hr0 hs0 hb1
        have c1 := inC reps 1 5 true (by simp; omega)
        have c2 := inC (ps.length : Int) 1 64 true (by simp; omega)
        go_wp2_with fail
        refine (c1 _).mono ?_
        rintro e wa ⟨rfl, hwa⟩
        subst wa
        go_wp2_with fail
        refine (c2 _).mono ?_
        rintro e wa ⟨rfl, hwa⟩
        subst wa
        go_wp2
        clear g0 g1 c1 c2
        go_loopw [5] (fun i wr => ∃ k : Nat, k ≤ ps.length ∧ i = .int .i64 k ∧ Hid ((ps.take k).all (Rg.partOk reps l) = true) ∧ Below w1.heap.size w1 wr) (fun i _ => ps.length - (intOf i).toNat)
        case atStart => exact ⟨0, Nat.zero_le _, rfl, rfl, Below.refl _ _⟩
        case round =>
          obtain ⟨k, hk, rfl, HA, hb⟩ := hrel
          obtain ⟨⟨g0, g1⟩, -⟩ := s1.below hb
          by_cases hlt : k < ps.length
          · have HN : Hid (Rg.partOk reps l ps[k] = false → K = false) := fun h => by rw [← HK.out]; exact Rg.all_no hlt h
            have HY : Hid (Rg.partOk reps l ps[k] = true → (ps.take (k + 1)).all (Rg.partOk reps l) = true) := fun h => Rg.all_step hlt h HA.out
            have hpl := hpp ps[k] (List.getElem_mem hlt)
            obtain ⟨b, off, ai, ci, rfl, hc, hz, hci⟩ := (hr1.below hb) k hlt
            generalize ps[k] = p at HN HY hpl hc hz hci
            have cP := fun (w' : World) (h : RdZ w' ai p) => specPart5 ai ci p reps w' hpl hci h
            have hkl : (k : Int) < (ps.length : Int) := by omega
            cases hB : Rg.partB p reps with
            | false =>
              rw [hB] at cP
              have eK := HN.out (by unfold Rg.partOk; rw [hB]; rfl)
              subst eK
              clear HN HY HK HA hB
              go_wp2_with fail
              go_region_held3 (fun wy => wy.cell? ⟨w.heap.size, 0, none⟩ = some (.int .i64 reps) ∧ wy.cell? ⟨w.heap.size, 1, none⟩ = some (.slice (some ⟨b, off, none⟩) ps.length cap) ∧ wy.cell? ⟨b, off + k, none⟩ = some (.slice ai p.length ci))
                (first | exact ⟨g0, g1, hc⟩ | exact keepR3 ‹_› ‹_› | go_keep)
                (first | (go_at_call 67; refine (cP _ (by exact hz)).mono ?_; rintro e w2 ⟨rfl, hb2⟩) | fail)
              go_wp2
              go_ret
              exact ⟨rfl, behind (behind hB1 hb).drew hb2⟩
            | true =>
              rw [hB] at cP
              have HP : Hid (Rg.partOk reps l p = Rg.known l p) := by show Rg.partOk reps l p = Rg.known l p; unfold Rg.partOk; rw [hB]; rfl
              clear hB
              go_wp2_with fail
              go_region_held3 (fun wy => wy.cell? ⟨w.heap.size, 0, none⟩ = some (.int .i64 reps) ∧ wy.cell? ⟨w.heap.size, 1, none⟩ = some (.slice (some ⟨b, off, none⟩) ps.length cap) ∧ wy.cell? ⟨b, off + k, none⟩ = some (.slice ai p.length ci))
                (first | exact ⟨g0, g1, hc⟩ | exact keepR3 ‹_› ‹_› | go_keep)
                (first | (go_at_call 67; refine (cP _ (by exact hz)).mono ?_; rintro e w2 ⟨rfl, hb2⟩) | fail)
              have hB2 : Below w1.heap.size w1 w2 := behind hb.drew hb2
              have s2 := s1.below hB2
              have c2 := cellOn (w := wr.drew) hc hb2
              have z2 := RdZ.below (w := wr.drew) hz hb2
              have l2 := hs1.below hB2
              clear hb2 g0 g1 hc hz
              go_wp2
              go_loopw [6] (fun i wq => ∃ m : Nat, m ≤ p.length ∧ i = .int .i64 m ∧ Hid ((p.take m).all (fun x => (Dv.at_ l x).isSome) = true) ∧ Below w2.heap.size w2 wq) (fun i _ => p.length - (intOf i).toNat)
              case atStart => exact ⟨0, Nat.zero_le _, rfl, rfl, Below.refl _ _⟩
              case round =>
                obtain ⟨m, hm, rfl, HM, hbq⟩ := hrel
                obtain ⟨⟨q0, q1⟩, -⟩ := s2.below hbq
                have q2 := cellOn c2 hbq
                by_cases hml : m < p.length
                · have HT : Hid ((Dv.at_ l p[m]).isSome = true → (p.take (m + 1)).all (fun x => (Dv.at_ l x).isSome) = true) := fun h => Rg.all_step (f := fun x => (Dv.at_ l x).isSome) hml h HM.out
                  have HF : Hid ((Dv.at_ l p[m]).isSome = false → Rg.known l p = false) := fun h => Rg.all_no (f := fun x => (Dv.at_ l x).isSome) hml h
                  obtain ⟨b3, o3, rfl, hx⟩ := (z2.below hbq) m hml
                  have cA := specAt c cc l p[m] _ hl (l2.below hbq)
                  generalize p[m] = x at HT HF hx cA
                  cases hd : Dv.at_ l x with
                  | none =>
                    rw [hd] at cA
                    dsimp only [dvAtV] at cA
                    have eK := HN.out (by rw [HP.out]; exact HF.out (by rw [hd]; rfl))
                    subst eK
                    clear HN HY HK HA HP HT HF HM hd
                    go_wp2_with fail
                    refine cA.mono ?_
                    rintro e w4 ⟨rfl, hb4⟩
                    go_wp2
                    go_ret
                    exact ⟨rfl, behind (behind (behind (behind hB1 hB2) hbq) hb4) (bel1 _ _)⟩
                  | some d =>
                    rw [hd] at cA
                    obtain ⟨i, z, n⟩ := d
                    dsimp only [dvAtV] at cA
                    have HT' : Hid ((p.take (m + 1)).all (fun x => (Dv.at_ l x).isSome) = true) := HT.out (by rw [hd]; rfl)
                    clear HT HF hd
                    go_wp2_with fail
                    refine cA.mono ?_
                    rintro e w4 ⟨rfl, hb4⟩
                    go_wp2
                    go_roundw
                    case rel => exact ⟨m + 1, by omega, by go_num, HT', behind (behind hbq hb4) (bel1 _ _)⟩
                    case measure => simp [intOf]; omega
                · have HY' : Hid ((ps.take (k + 1)).all (Rg.partOk reps l) = true) := HY.out (by rw [HP.out]; exact Rg.all_end (f := fun x => (Dv.at_ l x).isSome) hml HM.out)
                  clear HY HN HP HM
                  go_wp2
                  go_roundw
                  case rel => exact ⟨k + 1, by omega, by go_num, HY', behind hB2 hbq⟩
                  case measure => simp [intOf]; omega
          · have eK : K = true := by rw [← HK.out]; exact Rg.all_end hlt HA.out
            subst eK
            clear HK HA
            go_wp2
            go_ret
            exact ⟨rfl, behind hB1 hb⟩
      · have hF : Rg.headB reps ps.length l = false := by
          unfold Rg.headB
          have : (decide (1 ≤ ps.length) && decide (ps.length ≤ 64)) = false := by
            cases hq : (decide (1 ≤ ps.length) && decide (ps.length ≤ 64)) with
            | false => rfl
            | true => simp only [Bool.and_eq_true, decide_eq_true_eq] at hq; exact absurd hq h2
          rw [this]
          simp
        rw [ring_head hF]
        obtain ⟨h1a, h1b⟩ := h1
        have h2' : ps.length = 0 ∨ 64 < ps.length := by omega
        clear hF hd h2
        go_enter Try.func29, Try.ntmps29
        go_wp2_with fail
        refine (cD _ hs0).mono ?_
        rintro e w1 ⟨rfl, hb1⟩
        obtain ⟨⟨g0, g1⟩, -⟩ := s0.below hb1
        have c1 := inC reps 1 5 true (by simp; omega)
        have c2 := inC (ps.length : Int) 1 64 false (by simp; omega)
        go_wp2_with fail
        refine (c1 _).mono ?_
        rintro e wa ⟨rfl, hwa⟩
        subst wa
        go_wp2_with fail
        refine (c2 _).mono ?_
        rintro e wa ⟨rfl, hwa⟩
        subst wa
        go_wp2
        go_ret
        exact ⟨rfl, behind hB0 hb1⟩
    · have hF : Rg.headB reps ps.length l = false := by
        unfold Rg.headB
        have : (decide (1 ≤ reps) && decide (reps ≤ 5)) = false := by
          cases hq : (decide (1 ≤ reps) && decide (reps ≤ 5)) with
          | false => rfl
          | true => simp only [Bool.and_eq_true, decide_eq_true_eq] at hq; exact absurd hq h1
        rw [this]
        simp
      rw [ring_head hF]
      have h1' : reps < 1 ∨ 5 < reps := by omega
      clear hF hd h1
      go_enter Try.func29, Try.ntmps29
      go_wp2_with fail
      refine (cD _ hs0).mono ?_
      rintro e w1 ⟨rfl, hb1⟩
      obtain ⟨⟨g0, g1⟩, -⟩ := s0.below hb1
      have c1 := inC reps 1 5 false (by simp; omega)
      go_wp2_with fail
      refine (c1 _).mono ?_
      rintro e wa ⟨rfl, hwa⟩
      subst wa
      go_wp2
      go_ret
      exact ⟨rfl, behind hB0 hb1⟩
end Go.Proofs.Ytcejeiakgmamdac.Wk
