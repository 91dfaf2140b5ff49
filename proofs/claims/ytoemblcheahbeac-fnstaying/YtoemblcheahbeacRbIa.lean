/- What hasTwice and movable of the program come to. -/
import Derived.Test.YtoemblcheahbeacRkI
import Derived.Test.YtoemblcheahbeacRbM
namespace Go.Proofs.Ytoemblcheahbeac.Wk
set_option linter.unusedVariables false
open Go.ChangeShapes Go.WideShapes Go.ChangeAt Go.RowKit

theorem part_of {p : List Int} {reps : Int} (h : (p.length : Int) = reps) : Rg.partB p reps = decide p.Nodup := by unfold Rg.partB; rw [decide_eq_true h, Bool.and_true]
theorem part_len {p : List Int} {reps : Int} (h : ¬ (p.length : Int) = reps) : Rg.partB p reps = false := by unfold Rg.partB; rw [decide_eq_false h, Bool.and_false]
theorem dup_of {p : List Int} {k : Nat} (hk : k < p.length) (h : p[k] ∈ p.take k) : decide p.Nodup = false := by
  have := Rg.partB_no (reps := (p.length : Int)) hk h
  rw [part_of rfl] at this
  exact this

set_option maxHeartbeats 2000000 in
set_option maxRecDepth 100000 in
theorem implTwice (a : Option Addr) (ca : Nat) (p : List Int) (w : World) (hp : p.length ≤ 1048576) (hcap : p.length ≤ ca) (hr : RdZ w a p) :
    Calls Try.prog 70 #[.slice a p.length ca] w fun e w' => e = .returned (.bool (!decide p.Nodup)) ∧ Below w.heap.size w w' := by
  obtain ⟨K, hK⟩ : ∃ K, decide p.Nodup = K := ⟨_, rfl⟩
  have HK : Hid (decide p.Nodup = K) := hK
  rw [hK]
  clear hK
  go_enter Try.func70, Try.ntmps70
  go_wp2
  go_loopw [7] (fun i wr => ∃ k : Nat, k ≤ p.length ∧ i = .int .i64 k ∧ Hid ((p.take k).Nodup) ∧ Below w.heap.size w wr) (fun i _ => p.length - (intOf i).toNat)
  case atStart => exact ⟨0, Nat.zero_le _, rfl, by show (p.take 0).Nodup; simp, Below.refl _ _⟩
  case round =>
    obtain ⟨k, hk, rfl, HN, hb⟩ := hrel
    by_cases hlt : k < p.length
    · have HY : Hid (p[k] ∈ p.take k → K = false) := fun h => by rw [← HK.out]; exact dup_of hlt h
      have HM : Hid (p[k] ∉ p.take k → (p.take (k + 1)).Nodup) := fun h => Rg.nodup_step hlt h HN.out
      obtain ⟨b1, o1, e1, hx⟩ := (hr.below hb) k hlt
      have htl : (p.take k).length = k := by rw [List.length_take]; omega
      have cH := fun (x : Int) (w' : World) (h : RdZ w' a (p.take k)) => containsZ a ca (p.take k) x w' (by omega) h
      rw [htl] at cH
      have hrt := (hr.below hb).take k
      generalize p[k] = x at HY HM hx
      have cX := cH x
      obtain ⟨B, hB⟩ : ∃ B, decide (x ∈ p.take k) = B := ⟨_, rfl⟩
      have HB : Hid (decide (x ∈ p.take k) = B) := hB
      rw [hB] at cX
      clear hB cH htl
      subst e1
      have hkc : (k : Int) ≤ (ca : Int) := by omega
      cases B
      · have HM' : Hid ((p.take (k + 1)).Nodup) := HM.out (of_decide_eq_false HB.out)
        clear HY HM HB HN
        go_wp2_with fail
        refine (cX _ hrt).mono ?_
        rintro e wa ⟨rfl, hwa⟩
        subst wa
        go_wp2
        go_roundw
        case rel => exact ⟨k + 1, by omega, by go_num, HM', hb⟩
        case measure => simp [intOf]; omega
      · have eK := HY.out (of_decide_eq_true HB.out)
        subst eK
        clear HY HM HB HK
        go_wp2_with fail
        refine (cX _ hrt).mono ?_
        rintro e wa ⟨rfl, hwa⟩
        subst wa
        go_wp2
        go_ret
        exact ⟨rfl, hb⟩
    · have eK : K = true := by
        rw [← HK.out]
        have := HN.out
        rw [List.take_of_length_le (by omega)] at this
        exact decide_eq_true this
      subst eK
      clear HK HN
      go_wp2
      go_ret
      exact ⟨rfl, hb⟩

theorem head_size {reps : Int} {n : Nat} {l : List Sm.St} (h : Rg.MvHead reps n l) : ((decide (1 ≤ reps) && decide (reps ≤ 5)) && (decide (1 ≤ (n : Int)) && decide ((n : Int) ≤ 64))) = true := by
  obtain ⟨-, ⟨h2, h3⟩, ⟨h4, h5⟩, -⟩ := h
  simp only [Bool.and_eq_true, decide_eq_true_eq]
  omega
theorem size_head {reps : Int} {n : Nat} {l : List Sm.St} (hd : Dv.devs l = true) (h : ((decide (1 ≤ reps) && decide (reps ≤ 5)) && (decide (1 ≤ (n : Int)) && decide ((n : Int) ≤ 64))) = true) (h3 : reps ≤ (l.length : Int)) : Rg.MvHead reps n l := by
  simp only [Bool.and_eq_true, decide_eq_true_eq] at h
  exact ⟨hd, h.1, by omega, h3⟩

set_option maxHeartbeats 4000000 in
set_option maxRecDepth 100000 in
theorem implMov (reps : Int) (a c : Option Addr) (cap cc : Nat) (ps : List (List Int)) (l : List Sm.St) (w : World) (hps : ps.length ≤ 1048576) (hpp : ∀ p ∈ ps, p.length ≤ 1048576) (hl : l.length ≤ 1048576) (hr : RdP w a ps) (hs : RdS w c l) :
    Calls Try.prog 52 #[.agg #[.int .i64 reps, .slice a ps.length cap], .slice c l.length cc] w fun e w' => e = .returned (.bool (Rg.movB reps ps l)) ∧ Below w.heap.size w w' := by
  have cD := fun w h => implDevs c cc l w (by omega) h
  have s0 := slot2New w (.int .i64 reps) (.slice a ps.length cap) 29
  have hB0 := bel1 w (.cells #[.int .i64 reps, .slice a ps.length cap] 29)
  have hr0 := hr.below hB0
  have hs0 := hs.below hB0
  have HH : Hid (¬ Rg.MvHead reps ps.length l → Rg.movB reps ps l = false) := Rg.mov_no
  have HG : Hid (Rg.MvHead reps ps.length l → Rg.movB reps ps l = ps.all fun p => Rg.partB p reps) := Rg.mov_yes
  obtain ⟨K, hK⟩ : ∃ K, Rg.movB reps ps l = K := ⟨_, rfl⟩
  rw [hK] at HH HG ⊢
  clear hK
  cases hd : Dv.devs l with
  | false =>
    have eK := HH.out (fun h => by rw [h.1] at hd; cases hd)
    subst eK
    rw [hd] at cD
    clear hd HH HG
    go_enter Try.func52, Try.ntmps52
    go_wp2_with fail
    refine (cD _ hs0).mono ?_
    rintro e w1 ⟨rfl, hb1⟩
    go_wp2
    go_ret
    exact ⟨rfl, behind hB0 hb1⟩
  | true =>
    rw [hd] at cD
    obtain ⟨B, hB⟩ : ∃ B, ((decide (1 ≤ reps) && decide (reps ≤ 5)) && (decide (1 ≤ (ps.length : Int)) && decide ((ps.length : Int) ≤ 64))) = B := ⟨_, rfl⟩
    have cZ := sizeOkI (ps.length : Int) reps B hB
    cases B with
    | false =>
      have eK := HH.out (fun h => by rw [head_size h] at hB; cases hB)
      subst eK
      clear hd HH HG hB
      go_enter Try.func52, Try.ntmps52
      go_wp2_with fail
      refine (cD _ hs0).mono ?_
      rintro e w1 ⟨rfl, hb1⟩
      obtain ⟨⟨g0, g1⟩, -⟩ := s0.below hb1
      go_wp2_with fail
      refine (cZ _).mono ?_
      rintro e wa ⟨rfl, hwa⟩
      subst wa
      go_wp2
      go_ret
      exact ⟨rfl, behind hB0 hb1⟩
    | true =>
      by_cases h3 : reps ≤ (l.length : Int)
      · have hK : K = ps.all fun p => Rg.partB p reps := HG.out (size_head hd hB h3)
        have HK : Hid ((ps.all fun p => Rg.partB p reps) = K) := hK.symm
        have h3' : ¬ (l.length : Int) < reps := by omega
        clear hK hd HH HG hB
        go_enter Try.func52, Try.ntmps52
        go_wp2_with fail
        refine (cD _ hs0).mono ?_
        rintro e w1 ⟨rfl, hb1⟩
        have s1 := s0.below hb1
        have hB1 := behind hB0 hb1
        have hr1 := hr0.below hb1
        obtain ⟨⟨g0, g1⟩, -⟩ := id s1
        clear s0 hB0 hr0 hs0 hb1
        go_wp2_with fail
        refine (cZ _).mono ?_
        rintro e wa ⟨rfl, hwa⟩
        subst wa
        go_wp2
        clear g0 g1
        go_loopw [29] (fun i wr => ∃ k : Nat, k ≤ ps.length ∧ i = .int .i64 k ∧ Hid (((ps.take k).all fun p => Rg.partB p reps) = true) ∧ Below w1.heap.size w1 wr) (fun i _ => ps.length - (intOf i).toNat)
        case atStart => exact ⟨0, Nat.zero_le _, rfl, rfl, Below.refl _ _⟩
        case round =>
          obtain ⟨k, hk, rfl, HA, hb⟩ := hrel
          by_cases hlt : k < ps.length
          · have HN : Hid (Rg.partB ps[k] reps = false → K = false) := fun h => by rw [← HK.out]; exact Rg.all_no (f := fun p => Rg.partB p reps) hlt h
            have HY : Hid (Rg.partB ps[k] reps = true → ((ps.take (k + 1)).all fun p => Rg.partB p reps) = true) := fun h => Rg.all_step (f := fun p => Rg.partB p reps) hlt h HA.out
            have hpl := hpp ps[k] (List.getElem_mem hlt)
            obtain ⟨b, off, ai, ci, rfl, hc, hz, hci⟩ := (hr1.below hb) k hlt
            generalize ps[k] = p at HN HY hpl hc hz hci
            have bA := bel1 wr (.cells #[.slice ai p.length ci] 36)
            obtain ⟨⟨g0, g1⟩, -⟩ := (s1.below hb).below bA
            have hbA := behind hb bA
            have hzA := hz.below bA
            have cT := fun (w' : World) (h : RdZ w' ai p) => implTwice ai ci p w' hpl hci h
            by_cases hle : (p.length : Int) = reps
            · have hq := part_of hle
              have hne : ((p.length : Int) != reps) = false := by simpa using hle
              cases hB : decide p.Nodup with
              | false =>
                rw [hB] at cT hq
                have eK := HN.out hq
                subst eK
                clear HN HY HK HA hB hq
                go_wp2_with fail
                refine (cT _ hzA).mono ?_
                rintro e w2 ⟨rfl, hb2⟩
                go_wp2
                go_ret
                exact ⟨rfl, behind (behind hB1 hbA) hb2⟩
              | true =>
                rw [hB] at cT hq
                have HY' : Hid (((ps.take (k + 1)).all fun p => Rg.partB p reps) = true) := HY.out hq
                clear hB HN HY hq
                go_wp2_with fail
                refine (cT _ hzA).mono ?_
                rintro e w2 ⟨rfl, hb2⟩
                go_wp2
                go_roundw
                case rel => exact ⟨k + 1, by omega, by go_num, HY', behind hbA hb2⟩
                case measure => simp [intOf]; omega
            · have eK := HN.out (part_len hle)
              have hne : ((p.length : Int) != reps) = true := by simpa using hle
              subst eK
              clear HN HY HK HA
              go_wp2
              go_ret
              exact ⟨rfl, behind hB1 hbA⟩
          · have eK : K = true := by rw [← HK.out]; exact Rg.all_end (f := fun p => Rg.partB p reps) hlt HA.out
            subst eK
            clear HK HA
            go_wp2
            go_ret
            exact ⟨rfl, behind hB1 hb⟩
      · have eK := HH.out (fun h => h3 h.2.2.2)
        subst eK
        have h3' : (l.length : Int) < reps := by omega
        clear hd HH HG h3 hB
        go_enter Try.func52, Try.ntmps52
        go_wp2_with fail
        refine (cD _ hs0).mono ?_
        rintro e w1 ⟨rfl, hb1⟩
        obtain ⟨⟨g0, g1⟩, -⟩ := s0.below hb1
        go_wp2_with fail
        refine (cZ _).mono ?_
        rintro e wa ⟨rfl, hwa⟩
        subst wa
        go_wp2
        go_ret
        exact ⟨rfl, behind hB0 hb1⟩
end Go.Proofs.Ytoemblcheahbeac.Wk
