/- What l6Ok of the specification comes to. -/
import Derived.Test.YtoemblcheahbeacRkS
import Derived.Test.YtoemblcheahbeacRbM
namespace Go.Proofs.Ytoemblcheahbeac.Wk
set_option linter.unusedVariables false
open Go.ChangeShapes Go.WideShapes Go.ChangeAt Go.RowKit

set_option maxHeartbeats 4000000 in
set_option maxRecDepth 100000 in
theorem specMov (reps : Int) (a c : Option Addr) (cap cc : Nat) (ps : List (List Int)) (l : List Sm.St) (w : World) (hps : ps.length ≤ 1048576) (hpp : ∀ p ∈ ps, p.length ≤ 1048576) (hl : l.length ≤ 1048576) (hr : RdP w a ps) (hs : RdS w c l) :
    Calls Try.prog 56 #[.agg #[.int .i64 reps, .slice a ps.length cap], .slice c l.length cc] w fun e w' => e = .returned (.bool (Rg.movB reps ps l)) ∧ Below w.heap.size w w' := by
  have cD := fun w h => specDevs c cc l w (by omega) h
  have s0 := slot2New w (.int .i64 reps) (.slice a ps.length cap) 29
  have hB0 := bel1 w (.cells #[.int .i64 reps, .slice a ps.length cap] 29)
  have hr0 := hr.below hB0
  have hs0 := hs.below hB0
  have HH : Hid (¬ Rg.MvHead reps ps.length l → Rg.movB reps ps l = false) := Rg.mov_no
  have HG : Hid (Rg.MvHead reps ps.length l → Rg.movB reps ps l = ps.all fun p => Rg.partB p reps) := Rg.mov_yes
  obtain ⟨K, hK⟩ : ∃ K, Rg.movB reps ps l = K := ⟨_, rfl⟩
  rw [hK] at HH HG ⊢
  clear hK
  cases hd : Dv.devs l with
  | false =>
    have eK := HH.out (fun h => by rw [h.1] at hd; cases hd)
    subst eK
    rw [hd] at cD
    clear hd HH HG
    go_enter Try.func56, Try.ntmps56
    go_wp2_with fail
    refine (cD _ hs0).mono ?_
    rintro e w1 ⟨rfl, hb1⟩
    go_wp2
    go_ret
    exact ⟨rfl, behind hB0 hb1⟩
  | true =>
    rw [hd] at cD
    by_cases h1 : 1 ≤ reps ∧ reps ≤ 5
    · have c1 := inC reps 1 5 true (by simp; omega)
      by_cases h3 : reps ≤ (l.length : Int)
      · have h3' : ¬ (l.length : Int) < reps := by omega
        by_cases h2 : 1 ≤ ps.length ∧ ps.length ≤ 64
        · have hK : K = ps.all fun p => Rg.partB p reps := HG.out ⟨hd, h1, h2, h3⟩
          have HK : Hid ((ps.all fun p => Rg.partB p reps) = K) := hK.symm
          obtain ⟨h1a, h1b⟩ := h1
          obtain ⟨h2a, h2b⟩ := h2
          clear hK hd HH HG
          have c2 := inC (ps.length : Int) 1 64 true (by simp; omega)
          go_enter Try.func56, Try.ntmps56
          go_wp2_with fail
          refine (cD _ hs0).mono ?_
          rintro e w1 ⟨rfl, hb1⟩
          have s1 := s0.below hb1
          have hB1 := behind hB0 hb1
          have hr1 := hr0.below hb1
          have hs1 := hs0.below hb1
          obtain ⟨⟨g0, g1⟩, -⟩ := id s1
          clear s0 hB0 hr0 hs0 hb1
          go_wp2_with fail
          refine (c1 _).mono ?_
          rintro e wa ⟨rfl, hwa⟩
          subst wa
          go_wp2_with fail
          refine (c2 _).mono ?_
          rintro e wa ⟨rfl, hwa⟩
          subst wa
          go_wp2
          clear g0 g1 c1 c2
          go_loopw [5] (fun i wr => ∃ k : Nat, k ≤ ps.length ∧ i = .int .i64 k ∧ Hid (((ps.take k).all fun p => Rg.partB p reps) = true) ∧ Below w1.heap.size w1 wr) (fun i _ => ps.length - (intOf i).toNat)
          case atStart => exact ⟨0, Nat.zero_le _, rfl, rfl, Below.refl _ _⟩
          case round =>
            obtain ⟨k, hk, rfl, HA, hb⟩ := hrel
            obtain ⟨⟨g0, g1⟩, -⟩ := s1.below hb
            by_cases hlt : k < ps.length
            · have HN : Hid (Rg.partB ps[k] reps = false → K = false) := fun h => by rw [← HK.out]; exact Rg.all_no (f := fun p => Rg.partB p reps) hlt h
              have HY : Hid (Rg.partB ps[k] reps = true → ((ps.take (k + 1)).all fun p => Rg.partB p reps) = true) := fun h => Rg.all_step (f := fun p => Rg.partB p reps) hlt h HA.out
              have hpl := hpp ps[k] (List.getElem_mem hlt)
              obtain ⟨b, off, ai, ci, rfl, hc, hz, hci⟩ := (hr1.below hb) k hlt
              generalize ps[k] = p at HN HY hpl hc hz hci
              have cP := fun (w' : World) (h : RdZ w' ai p) => specPart ai ci p reps w' hpl hci h
              have hkl : (k : Int) < (ps.length : Int) := by omega
              cases hB : Rg.partB p reps with
              | false =>
                rw [hB] at cP
                have eK := HN.out hB
                subst eK
                clear HN HY HK HA hB
                go_wp2_with fail
                go_region_held3 (fun wy => wy.cell? ⟨w.heap.size, 0, none⟩ = some (.int .i64 reps) ∧ wy.cell? ⟨w.heap.size, 1, none⟩ = some (.slice (some ⟨b, off, none⟩) ps.length cap) ∧ wy.cell? ⟨b, off + k, none⟩ = some (.slice ai p.length ci))
                  (first | exact ⟨g0, g1, hc⟩ | exact keepR3 ‹_› ‹_› | go_keep)
                  (first | (go_at_call 60; refine (cP _ (by exact hz)).mono ?_; rintro e w2 ⟨rfl, hb2⟩) | fail)
                go_wp2
                go_ret
                exact ⟨rfl, behind (behind hB1 hb).drew hb2⟩
              | true =>
                rw [hB] at cP
                have HY' : Hid (((ps.take (k + 1)).all fun p => Rg.partB p reps) = true) := HY.out hB
                clear hB HN HY
                go_wp2_with fail
                go_region_held3 (fun wy => wy.cell? ⟨w.heap.size, 0, none⟩ = some (.int .i64 reps) ∧ wy.cell? ⟨w.heap.size, 1, none⟩ = some (.slice (some ⟨b, off, none⟩) ps.length cap) ∧ wy.cell? ⟨b, off + k, none⟩ = some (.slice ai p.length ci))
                  (first | exact ⟨g0, g1, hc⟩ | exact keepR3 ‹_› ‹_› | go_keep)
                  (first | (go_at_call 60; refine (cP _ (by exact hz)).mono ?_; rintro e w2 ⟨rfl, hb2⟩) | fail)
                go_wp2
                go_roundw
                case rel => exact ⟨k + 1, by omega, by go_num, HY', behind hb.drew hb2⟩
                case measure => simp [intOf]; omega
            · have eK : K = true := by rw [← HK.out]; exact Rg.all_end (f := fun p => Rg.partB p reps) hlt HA.out
              subst eK
              clear HK HA
              go_wp2
              go_ret
              exact ⟨rfl, behind hB1 hb⟩
        · have eK := HH.out (fun h => h2 h.2.2.1)
          subst eK
          have c2 := inC (ps.length : Int) 1 64 false (by simp; omega)
          obtain ⟨h1a, h1b⟩ := h1
          clear hd HH HG h2
          go_enter Try.func56, Try.ntmps56
          go_wp2_with fail
          refine (cD _ hs0).mono ?_
          rintro e w1 ⟨rfl, hb1⟩
          obtain ⟨⟨g0, g1⟩, -⟩ := s0.below hb1
          go_wp2_with fail
          refine (c1 _).mono ?_
          rintro e wa ⟨rfl, hwa⟩
          subst wa
          go_wp2_with fail
          refine (c2 _).mono ?_
          rintro e wa ⟨rfl, hwa⟩
          subst wa
          go_wp2
          go_ret
          exact ⟨rfl, behind hB0 hb1⟩
      · have eK := HH.out (fun h => h3 h.2.2.2)
        subst eK
        have h3' : (l.length : Int) < reps := by omega
        obtain ⟨h1a, h1b⟩ := h1
        clear hd HH HG h3
        go_enter Try.func56, Try.ntmps56
        go_wp2_with fail
        refine (cD _ hs0).mono ?_
        rintro e w1 ⟨rfl, hb1⟩
        obtain ⟨⟨g0, g1⟩, -⟩ := s0.below hb1
        go_wp2_with fail
        refine (c1 _).mono ?_
        rintro e wa ⟨rfl, hwa⟩
        subst wa
        go_wp2
        go_ret
        exact ⟨rfl, behind hB0 hb1⟩
    · have eK := HH.out (fun h => h1 h.2.1)
      subst eK
      have c1 := inC reps 1 5 false (by simp; omega)
      clear hd HH HG h1
      go_enter Try.func56, Try.ntmps56
      go_wp2_with fail
      refine (cD _ hs0).mono ?_
      rintro e w1 ⟨rfl, hb1⟩
      obtain ⟨⟨g0, g1⟩, -⟩ := s0.below hb1
      go_wp2_with fail
      refine (c1 _).mono ?_
      rintro e wa ⟨rfl, hwa⟩
      subst wa
      go_wp2
      go_ret
      exact ⟨rfl, behind hB0 hb1⟩
end Go.Proofs.Ytoemblcheahbeac.Wk
