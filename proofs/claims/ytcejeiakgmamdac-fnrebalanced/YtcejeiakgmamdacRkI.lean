/- What ringSizeOk, partOk and RingOk of the program come to. -/
import Derived.Test.YtcejeiakgmamdacCtI
import Derived.Test.YtcejeiakgmamdacAtS
import Derived.Test.YtcejeiakgmamdacDvI
import Derived.Test.YtcejeiakgmamdacRgB
import Derived.Test.YtcejeiakgmamdacRgM
import Derived.Test.YtcejeiakgmamdacRgZ
import Derived.WalkMore
namespace Go.Proofs.Ytcejeiakgmamdac.Wk
set_option linter.unusedVariables false
open Go.ChangeShapes Go.WideShapes Go.ChangeAt Go.RowKit

set_option maxHeartbeats 400000 in
set_option maxRecDepth 100000 in
theorem sizeOkI (n r : Int) (B : Bool) (hB : ((decide (1 ≤ r) && decide (r ≤ 5)) && (decide (1 ≤ n) && decide (n ≤ 64))) = B) (w : World) :
    Calls Try.prog 40 #[.int .i64 n, .int .i64 r] w fun e w' => e = .returned (.bool B) ∧ w' = w := by
  subst hB
  by_cases h1 : 1 ≤ n
  by_cases h2 : n ≤ 64
  by_cases h3 : 1 ≤ r
  all_goals
    go_enter Try.func40, Try.ntmps40
    go_wp2
    go_ret
    exact ⟨ret_bool (by first | (simp [*]; done) | (simp; omega)), rfl⟩

theorem partOk_no {p : List Int} {l : List Sm.St} {reps : Int} (h : ¬ (p.length : Int) = reps) : Rg.partOk reps l p = false := by unfold Rg.partOk Rg.partB; simp [h]
theorem partOk_dup {p : List Int} {l : List Sm.St} {reps : Int} {k : Nat} (hk : k < p.length) (h : p[k] ∈ p.take k) : Rg.partOk reps l p = false := by unfold Rg.partOk; rw [Rg.partB_no hk h]; rfl
theorem partOk_unk {p : List Int} {l : List Sm.St} {reps : Int} {k : Nat} (hk : k < p.length) (h : Dv.at_ l p[k] = none) : Rg.partOk reps l p = false := by
  unfold Rg.partOk Rg.known
  rw [Rg.all_no (f := fun x => (Dv.at_ l x).isSome) hk (by rw [h]; rfl), Bool.and_false]
theorem partOk_yes {p : List Int} {l : List Sm.St} {reps : Int} {k : Nat} (hk : ¬ k < p.length) (hl : (p.length : Int) = reps) (hn : (p.take k).Nodup) (ha : (p.take k).all (fun x => (Dv.at_ l x).isSome) = true) : Rg.partOk reps l p = true := by
  unfold Rg.partOk Rg.known
  rw [Rg.partB_end hk hn, Rg.all_end (f := fun x => (Dv.at_ l x).isSome) hk ha]
  simp [hl]

set_option maxHeartbeats 2000000 in
set_option maxRecDepth 100000 in
theorem partOkI (a c : Option Addr) (ca cc : Nat) (p : List Int) (reps : Int) (l : List Sm.St) (w : World) (hp : p.length ≤ 1048576) (hcap : p.length ≤ ca) (hl : l.length ≤ 1048576) (hr : RdZ w a p) (hrl : RdS w c l) :
    Calls Try.prog 46 #[.agg #[.slice a p.length ca], .int .i64 reps, .slice c l.length cc] w fun e w' => e = .returned (.bool (Rg.partOk reps l p)) ∧ Below w.heap.size w w' := by
  obtain ⟨K, hK⟩ : ∃ K, Rg.partOk reps l p = K := ⟨_, rfl⟩
  have HK : Hid (Rg.partOk reps l p = K) := hK
  rw [hK]
  clear hK
  have s0 := slot1New w (.slice a p.length ca) 36
  have hB0 := bel1 w (.cells #[.slice a p.length ca] 36)
  have hr0 := hr.below hB0
  have hrl0 := hrl.below hB0
  by_cases hre : (p.length : Int) = reps
  · subst hre
    go_enter Try.func46, Try.ntmps46
    go_wp2
    go_step3
    go_wp2
    go_step3
    go_wp2
    generalize w.alloc (.cells #[.slice a p.length ca] 36) = w0 at s0 hB0 hr0 hrl0 ⊢
    go_loopw [19] (fun i wr => ∃ k : Nat, k ≤ p.length ∧ i = .int .i64 k ∧ Hid ((p.take k).Nodup) ∧ Hid ((p.take k).all (fun x => (Dv.at_ l x).isSome) = true) ∧ Below w0.heap.size w0 wr) (fun i _ => p.length - (intOf i).toNat)
    case atStart => exact ⟨0, Nat.zero_le _, rfl, by show (p.take 0).Nodup; simp, rfl, Below.refl _ _⟩
    case round =>
      obtain ⟨k, hk, rfl, HN, HA, hb⟩ := hrel
      obtain ⟨c0, -⟩ := s0.below hb
      by_cases hlt : k < p.length
      · have HY : Hid (p[k] ∈ p.take k → K = false) := fun h => by rw [← HK.out]; exact partOk_dup hlt h
        have HM : Hid (p[k] ∉ p.take k → (p.take (k + 1)).Nodup) := fun h => Rg.nodup_step hlt h HN.out
        have HU : Hid (Dv.at_ l p[k] = none → K = false) := fun h => by rw [← HK.out]; exact partOk_unk hlt h
        have HV : Hid (∀ d, Dv.at_ l p[k] = some d → (p.take (k + 1)).all (fun x => (Dv.at_ l x).isSome) = true) := fun d h => Rg.all_step (f := fun x => (Dv.at_ l x).isSome) hlt (by rw [h]; rfl) HA.out
        obtain ⟨b1, o1, e1, hx⟩ := (hr0.below hb) k hlt
        have htl : (p.take k).length = k := by rw [List.length_take]; omega
        have cH := fun (x : Int) (w' : World) (h : RdZ w' a (p.take k)) => containsZ a ca (p.take k) x w' (by omega) h
        rw [htl] at cH
        have hrt := (hr0.below hb).take k
        generalize p[k] = x at HY HM HU HV hx
        have cX := cH x
        obtain ⟨B, hB⟩ : ∃ B, decide (x ∈ p.take k) = B := ⟨_, rfl⟩
        have HB : Hid (decide (x ∈ p.take k) = B) := hB
        rw [hB] at cX
        clear hB cH htl
        subst e1
        have hkc : (k : Int) ≤ (ca : Int) := by omega
        cases B
        · have HM' : Hid ((p.take (k + 1)).Nodup) := HM.out (of_decide_eq_false HB.out)
          clear HY HM HB HN HA
          go_wp2_with fail
          refine (cX _ hrt).mono ?_
          rintro e wa ⟨rfl, hwa⟩
          subst wa
          go_wp2
          go_loopw [32] (fun i wq => ∃ m : Nat, m ≤ l.length ∧ i = .int .i64 m ∧ Hid (((l.take m).all fun y => !(y.1 == x)) = true) ∧ Below wr.heap.size wr wq) (fun i _ => l.length - (intOf i).toNat)
          case atStart => exact ⟨0, Nat.zero_le _, rfl, rfl, Below.refl _ _⟩
          case round =>
            obtain ⟨m, hm, rfl, HE, hbq⟩ := hrel
            by_cases hml : m < l.length
            · obtain ⟨b2, o2, rfl, q⟩ := ((hrl0.below hb).below hbq) m hml
              have H1 : Hid (l[m].1 = x → (p.take (k + 1)).all (fun x => (Dv.at_ l x).isSome) = true) := fun h => HV.out _ (Dv.at_yes hml HE.out h)
              have H2 : Hid (¬ l[m].1 = x → (l.take (m + 1)).all (fun y => !(y.1 == x)) = true) := fun h => Dv.at_no hml HE.out h
              generalize l[m] = d at q H1 H2
              obtain ⟨i, z, n⟩ := d
              obtain ⟨q0, -⟩ := q
              dsimp only at q0 H1 H2
              by_cases hi : i = x
              · have HV' : Hid ((p.take (k + 1)).all (fun x => (Dv.at_ l x).isSome) = true) := H1.out hi
                subst hi
                clear H1 H2 HE HU HV
                go_wp2
                go_roundw
                case rel => exact ⟨k + 1, by omega, by go_num, HM', HV', behind hb hbq⟩
                case measure => simp [intOf]; omega
              · have HE' : Hid (((l.take (m + 1)).all fun y => !(y.1 == x)) = true) := H2.out hi
                clear H1 H2 HE
                go_wp2
                go_roundw
                case rel => exact ⟨m + 1, by omega, by go_num, HE', hbq⟩
                case measure => simp [intOf]; omega
            · have eK := HU.out (Dv.at_end hml HE.out)
              subst eK
              clear HU HV HE HK
              go_wp2
              (try rw [Exit.noGoto_ret]); go_ret
              exact ⟨rfl, behind (behind hB0 hb) hbq⟩
        · have eK := HY.out (of_decide_eq_true HB.out)
          subst eK
          clear HY HM HB HK HU HV
          go_wp2_with fail
          refine (cX _ hrt).mono ?_
          rintro e wa ⟨rfl, hwa⟩
          subst wa
          go_wp2
          (try rw [Exit.noGoto_ret]); go_ret
          exact ⟨rfl, behind hB0 hb⟩
      · have eK : K = true := by rw [← HK.out]; exact partOk_yes hlt rfl HN.out HA.out
        subst eK
        clear HK HN HA
        go_wp2
        (try rw [Exit.noGoto_ret]); go_ret
        exact ⟨rfl, behind hB0 hb⟩
  · have eK : K = false := by rw [← HK.out]; exact partOk_no hre
    subst eK
    clear HK
    go_enter Try.func46, Try.ntmps46
    go_wp2
    go_step3
    go_wp2
    (try rw [Exit.noGoto_ret]); go_ret
    exact ⟨rfl, hB0⟩

theorem ringI_head {reps : Int} {ps : List (List Int)} {l : List Sm.St} (h : Rg.headB reps ps.length l = false) : Rg.ringB reps ps l = false := by unfold Rg.ringB; rw [h]; rfl
theorem ringI_tail {reps : Int} {ps : List (List Int)} {l : List Sm.St} (h : Rg.headB reps ps.length l = true) : Rg.ringB reps ps l = ps.all (Rg.partOk reps l) := by unfold Rg.ringB; rw [h]; rfl
theorem headI {reps : Int} {n : Nat} {l : List Sm.St} {B : Bool} (hd : Dv.devs l = true) (hB : ((decide (1 ≤ reps) && decide (reps ≤ 5)) && (decide (1 ≤ (n : Int)) && decide ((n : Int) ≤ 64))) = B) : Rg.headB reps n l = B := by
  unfold Rg.headB
  have e1 : decide (1 ≤ n) = decide (1 ≤ (n : Int)) := decide_eq_decide.2 (by omega)
  have e2 : decide (n ≤ 64) = decide ((n : Int) ≤ 64) := decide_eq_decide.2 (by omega)
  rw [hd, e1, e2, hB]
  rfl

set_option maxHeartbeats 2000000 in
set_option maxRecDepth 100000 in
theorem implRing (reps : Int) (a c : Option Addr) (cap cc : Nat) (ps : List (List Int)) (l : List Sm.St) (w : World) (hps : ps.length ≤ 1048576) (ht : tot ps ≤ 1048576) (hl : l.length ≤ 1048576) (hr : RdP w a ps) (hs : RdS w c l) :
    Calls Try.prog 15 #[.agg #[.int .i64 reps, .slice a ps.length cap], .slice c l.length cc] w fun e w' => e = .returned (.bool (Rg.ringB reps ps l)) ∧ Below w.heap.size w w' := by
  have hpp : ∀ p ∈ ps, p.length ≤ 1048576 := fun p h => Nat.le_trans (tot_mem h) ht
  have cD := fun w h => implDevs c cc l w (by omega) h
  have s0 := slot2New w (.int .i64 reps) (.slice a ps.length cap) 29
  have hB0 := bel1 w (.cells #[.int .i64 reps, .slice a ps.length cap] 29)
  have hr0 := hr.below hB0
  have hs0 := hs.below hB0
  cases hd : Dv.devs l with
  | false =>
    rw [ringI_head (by unfold Rg.headB; rw [hd]; rfl)]
    rw [hd] at cD
    clear hd
    go_enter Try.func15, Try.ntmps15
    go_wp2_with fail
    refine (cD _ hs0).mono ?_
    rintro e w1 ⟨rfl, hb1⟩
    go_wp2
    go_ret
    exact ⟨rfl, behind hB0 hb1⟩
  | true =>
    rw [hd] at cD
    obtain ⟨B, hB⟩ : ∃ B, ((decide (1 ≤ reps) && decide (reps ≤ 5)) && (decide (1 ≤ (ps.length : Int)) && decide ((ps.length : Int) ≤ 64))) = B := ⟨_, rfl⟩
    have cZ := sizeOkI (ps.length : Int) reps B hB
    have hH := headI hd hB
    clear hd hB
    cases B with
    | false =>
      rw [ringI_head hH]
      clear hH
      go_enter Try.func15, Try.ntmps15
      go_wp2_with fail
      refine (cD _ hs0).mono ?_
      rintro e w1 ⟨rfl, hb1⟩
      obtain ⟨⟨g0, g1⟩, -⟩ := s0.below hb1
      go_wp2_with fail
      refine (cZ _).mono ?_
      rintro e wa ⟨rfl, hwa⟩
      subst wa
      go_wp2
      go_ret
      exact ⟨rfl, behind hB0 hb1⟩
    | true =>
      rw [ringI_tail hH]
      clear hH
      obtain ⟨K, hK⟩ : ∃ K, ps.all (Rg.partOk reps l) = K := ⟨_, rfl⟩
      have HK : Hid (ps.all (Rg.partOk reps l) = K) := hK
      rw [hK]
      clear hK
      go_enter Try.func15, Try.ntmps15
      go_wp2_with fail
      refine (cD _ hs0).mono ?_
      rintro e w1 ⟨rfl, hb1⟩
      have s1 := s0.below hb1
      have hB1 := behind hB0 hb1
      have hr1 := hr0.below hb1
      have hs1 := hs0.below hb1
      obtain ⟨⟨g0, g1⟩, -⟩ := id s1
      clear s0 hB0 hr0 hs0 hb1
      go_wp2_with fail
      refine (cZ _).mono ?_
      rintro e wa ⟨rfl, hwa⟩
      subst wa
      go_wp2
      clear g0 g1
      go_loopw [22] (fun i wr => ∃ k : Nat, k ≤ ps.length ∧ i = .int .i64 k ∧ Hid ((ps.take k).all (Rg.partOk reps l) = true) ∧ Below w1.heap.size w1 wr) (fun i _ => ps.length - (intOf i).toNat)
      case atStart => exact ⟨0, Nat.zero_le _, rfl, rfl, Below.refl _ _⟩
      case round =>
        obtain ⟨k, hk, rfl, HA, hb⟩ := hrel
        by_cases hlt : k < ps.length
        · have HN : Hid (Rg.partOk reps l ps[k] = false → K = false) := fun h => by rw [← HK.out]; exact Rg.all_no hlt h
          have HY : Hid (Rg.partOk reps l ps[k] = true → (ps.take (k + 1)).all (Rg.partOk reps l) = true) := fun h => Rg.all_step hlt h HA.out
          have hpl := hpp ps[k] (List.getElem_mem hlt)
          obtain ⟨b, off, ai, ci, rfl, hc, hz, hci⟩ := (hr1.below hb) k hlt
          generalize ps[k] = p at HN HY hpl hc hz hci
          have b1 := bel1 wr (.cells #[.slice ai p.length ci] 36)
          have hb' := behind hb b1
          obtain ⟨⟨g0, g1⟩, -⟩ := s1.below hb'
          have x0 := slot1New wr (.slice ai p.length ci) 36
          obtain ⟨x00, -⟩ := id x0
          have cP := partOkI ai c ci cc p reps l _ hpl hci hl (hz.below b1) (hs1.below hb')
          have hkl : (k : Int) < (ps.length : Int) := by omega
          cases hB : Rg.partOk reps l p with
          | false =>
            rw [hB] at cP
            have eK := HN.out hB
            subst eK
            clear HN HY HK HA hB
            go_wp2_with fail
            refine cP.mono ?_
            rintro e w2 ⟨rfl, hb2⟩
            go_wp2
            go_ret
            exact ⟨rfl, behind (behind hB1 hb') hb2⟩
          | true =>
            rw [hB] at cP
            have HY' : Hid ((ps.take (k + 1)).all (Rg.partOk reps l) = true) := HY.out hB
            clear HN HY HA hB
            go_wp2_with fail
            refine cP.mono ?_
            rintro e w2 ⟨rfl, hb2⟩
            go_wp2
            go_roundw
            case rel => exact ⟨k + 1, by omega, by go_num, HY', behind hb' hb2⟩
            case measure => simp [intOf]; omega
        · have eK : K = true := by rw [← HK.out]; exact Rg.all_end hlt HA.out
          subst eK
          clear HK HA
          go_wp2
          go_ret
          exact ⟨rfl, behind hB1 hb⟩
end Go.Proofs.Ytcejeiakgmamdac.Wk
