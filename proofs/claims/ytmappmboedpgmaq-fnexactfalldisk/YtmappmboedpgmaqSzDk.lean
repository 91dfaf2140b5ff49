/- What the laws' szNamed, szNamedS and szDisk come to: what is left, or -1. -/
import Derived.Test.YtmappmboedpgmaqOpDk
import Derived.Test.YtmappmboedpgmaqStB
namespace Go.Proofs.Ytmappmboedpgmaq.Wk
set_option linter.unusedVariables false
open Go.ChangeShapes Go.WideShapes Go.ChangeAt Go.RowKit

/-- what is left of m behind k, or -1 -/
def lf (m k : Nat) : Int := if k ≤ m then ((m - k : Nat) : Int) else -1
theorem lf_yes {m k : Nat} (h : k ≤ m) : lf m k = ((m - k : Nat) : Int) := if_pos h
theorem lf_no {m k : Nat} (h : ¬ k ≤ m) : lf m k = -1 := if_neg h
def wtN (l : List Nd) : Nat := (l.map fun x => x.1.size + x.2.length).sum
theorem wtN_take {l : List Nd} {k : Nat} (h : k < l.length) : wtN (l.take (k + 1)) = wtN (l.take k) + (l[k].1.size + l[k].2.length) := by
  unfold wtN
  rw [List.take_succ_eq_append_getElem h, List.map_append, List.sum_append]
  rfl
theorem wtN_le (l : List Nd) (k : Nat) : wtN (l.take k) ≤ wtN l := by
  unfold wtN
  have := congrArg (fun t : List Nd => (t.map fun x => x.1.size + x.2.length).sum) (List.take_append_drop k l)
  simp only [List.map_append, List.sum_append] at this
  omega
theorem szB (a : Option Addr) (k cap m : Nat) (w : World) (hk : k ≤ maxLen) (hm : m ≤ 1048576) :
    Calls Try.prog 67 #[.slice a k cap, .int .i64 (m : Int)] w fun e w' => e = .returned (.int .i64 (lf m k)) ∧ w' = w := by
  unfold maxLen at hk
  by_cases h : k ≤ m
  · rw [lf_yes h, show ((m - k : Nat) : Int) = (m : Int) - k by omega]
    go_enter Try.func67, Try.ntmps67
    go_wp2
    go_ret
    exact ⟨rfl, rfl⟩
  · rw [lf_no h]
    go_enter Try.func67, Try.ntmps67
    go_wp2
    go_ret
    exact ⟨rfl, rfl⟩

set_option maxHeartbeats 1000000 in
set_option maxRecDepth 100000 in
theorem szNd (s : ByteArray) (a : Option Addr) (k cap m : Nat) (w : World) (hs : s.size ≤ maxLen) (hk : k ≤ maxLen) (hm : m ≤ 1048576) :
    Calls Try.prog 51 #[.agg #[.string s, .slice a k cap], .int .i64 (m : Int)] w fun e w' => e = .returned (.int .i64 (lf m (s.size + k))) ∧ Below w.heap.size w w' := by
  have b0 := bel1 w (.cells #[.string s, .slice a k cap] 76)
  have q0 : (w.alloc (.cells #[.string s, .slice a k cap] 76)).cell? ⟨w.heap.size, 0, none⟩ = some (.string s) := by rw [World.cell?_alloc_at _ _ _ _ rfl]; rfl
  have q1 : (w.alloc (.cells #[.string s, .slice a k cap] 76)).cell? ⟨w.heap.size, 1, none⟩ = some (.slice a k cap) := by rw [World.cell?_alloc_at _ _ _ _ rfl]; rfl
  have hs' := hs
  unfold maxLen at hs'
  obtain ⟨R, HR⟩ : ∃ R, Hid (lf m (s.size + k) = R) := ⟨_, rfl⟩
  rw [HR.out]
  by_cases h1 : s.size ≤ m
  · have cB := fun W => szB a k cap (m - s.size) W hk (by omega)
    have e1 : ((m - s.size : Nat) : Int) = (m : Int) - s.size := by omega
    have e2 : lf (m - s.size) k = lf m (s.size + k) := by
      unfold lf
      by_cases h : k ≤ m - s.size
      · rw [if_pos h, if_pos (by omega)]; omega
      · rw [if_neg h, if_neg (by omega)]
    rw [e1, e2] at cB
    have h1' : ¬ ((m : Int) - s.size < 0) := by omega
    by_cases h2 : s.size + k ≤ m
    · have HE : Hid (R = ((m - (s.size + k) : Nat) : Int)) := by rw [← HR.out]; exact lf_yes h2
      rw [lf_yes h2] at cB
      generalize m - (s.size + k) = M at *
      go_enter Try.func51, Try.ntmps51
      go_wp2_with fail
      go_at_call 67
      refine (cB _).mono ?_
      rintro e w2 ⟨rfl, rfl⟩
      go_wp2
      go_ret
      exact ⟨by rw [HE.out]; rfl, b0⟩
    · have HE : Hid (R = -1) := by rw [← HR.out]; exact lf_no h2
      rw [lf_no h2] at cB
      go_enter Try.func51, Try.ntmps51
      go_wp2_with fail
      go_at_call 67
      refine (cB _).mono ?_
      rintro e w2 ⟨rfl, rfl⟩
      go_wp2
      go_ret
      exact ⟨by rw [HE.out]; rfl, b0⟩
  · have HE : Hid (R = -1) := by rw [← HR.out]; exact lf_no (by omega)
    have h1' : (m : Int) - s.size < 0 := by omega
    go_enter Try.func51, Try.ntmps51
    go_wp2
    go_ret
    exact ⟨by rw [HE.out]; rfl, b0⟩

set_option maxHeartbeats 2000000 in
set_option maxRecDepth 100000 in
theorem szNds (a : Option Addr) (cap m : Nat) (l : List Nd) (w : World) (hm : m ≤ 1048576) (hi : IsNds w a l.length cap l) :
    Calls Try.prog 23 #[.slice a l.length cap, .int .i64 (m : Int)] w fun e w' => e = .returned (.int .i64 (lf m (l.length + wtN l))) ∧ Below w.heap.size w w' := by
  obtain ⟨-, hlm, hz, hr⟩ := hi
  have hlm' := hlm
  unfold maxLen at hlm'
  obtain ⟨R, HR⟩ : ∃ R, Hid (lf m (l.length + wtN l) = R) := ⟨_, rfl⟩
  rw [HR.out]
  go_enter Try.func23, Try.ntmps23
  by_cases h1 : l.length ≤ m
  · have h1' : ¬ ((m : Int) - l.length < 0) := by omega
    have HM : Hid ((m : Int) - l.length = ((m - l.length : Nat) : Int)) := by show _ = _; omega
    go_wp2
    go_loopw [1, 5] (fun q i wr => ∃ (k M : Nat), k ≤ l.length ∧ i = .int .i64 k ∧ q = .int .i64 (M : Int) ∧ M ≤ 1048576 ∧ Hid (M + l.length + wtN (l.take k) = m) ∧ Below w.heap.size w wr) (fun _ i _ => l.length - (intOf i).toNat)
    case atStart => exact ⟨0, m - l.length, Nat.zero_le _, rfl, by rw [HM.out], by omega, by show _ = _; simp [wtN]; omega, Below.refl _ _⟩
    case round =>
      obtain ⟨k, M, hk, rfl, rfl, hMb, HW, hb⟩ := hrel
      by_cases hlt : k < l.length
      · obtain ⟨b, off, ai, ci, rfl, c1, c2, -, -, -⟩ := (hr.below hb) k hlt
        have hx := hz l[k] (List.getElem_mem hlt)
        have HS : Hid (wtN (l.take (k + 1)) = wtN (l.take k) + (l[k].1.size + l[k].2.length)) := wtN_take hlt
        have HL : Hid (wtN (l.take (k + 1)) ≤ wtN l) := wtN_le l (k + 1)
        have cZ := szNd l[k].1 ai l[k].2.length ci M wr hx.1 hx.2 hMb
        generalize l[k].1 = s at *
        generalize l[k].2.length = n at *
        by_cases h2 : s.size + n ≤ M
        · rw [lf_yes h2] at cZ
          have HN : Hid ((M - (s.size + n)) + l.length + wtN (l.take (k + 1)) = m) := by
            show _ = _
            have := HS.out
            have := HW.out
            omega
          have hMb2 : M - (s.size + n) ≤ 1048576 := by omega
          generalize M - (s.size + n) = M' at *
          clear hx h2
          go_wp2_with fail
          go_at_call 51
          refine cZ.mono ?_
          rintro e w2 ⟨rfl, hb2⟩
          go_wp2
          go_roundw
          case rel => exact ⟨k + 1, M', by omega, by go_num, rfl, hMb2, HN, behind hb hb2⟩
          case measure => simp [intOf]; omega
        · rw [lf_no h2] at cZ
          have HE : Hid (lf m (l.length + wtN l) = -1) := by
            refine lf_no ?_
            have := HS.out
            have := HW.out
            have := HL.out
            omega
          clear hx
          go_wp2_with fail
          go_at_call 51
          refine cZ.mono ?_
          rintro e w2 ⟨rfl, hb2⟩
          go_wp2
          go_ret
          exact ⟨by rw [← HR.out, HE.out]; rfl, behind hb hb2⟩
      · have hkl : k = l.length := by omega
        subst hkl
        have HW2 := HW.out
        rw [List.take_length] at HW2
        have HE : Hid (lf m (l.length + wtN l) = (M : Int)) := by
          show _ = _
          rw [lf_yes (by omega)]
          omega
        go_wp2
        go_ret
        exact ⟨by rw [← HR.out, HE.out]; rfl, hb⟩
  · have h1' : (m : Int) - l.length < 0 := by omega
    have HE : Hid (lf m (l.length + wtN l) = -1) := lf_no (by omega)
    go_wp2
    go_ret
    exact ⟨by rw [← HR.out, HE.out]; rfl, Below.refl _ _⟩

set_option maxHeartbeats 2000000 in
set_option maxRecDepth 100000 in
theorem szDk (a1 a2 : Option Addr) (c1 c2 m : Nat) (l1 l2 : List Nd) (w : World) (hm : m ≤ 1048576) (h1 : IsNds w a1 l1.length c1 l1) (h2 : IsNds w a2 l2.length c2 l2) :
    Calls Try.prog 7 #[.agg #[.slice a1 l1.length c1, .slice a2 l2.length c2], .int .i64 (m : Int)] w fun e w' => e = .returned (.int .i64 (lf m ((l1.length + wtN l1) + (l2.length + wtN l2)))) ∧ Below w.heap.size w w' := by
  have b0 := bel1 w (.cells #[.slice a1 l1.length c1, .slice a2 l2.length c2] 24)
  have q0 : (w.alloc (.cells #[.slice a1 l1.length c1, .slice a2 l2.length c2] 24)).cell? ⟨w.heap.size, 0, none⟩ = some (.slice a1 l1.length c1) := by rw [World.cell?_alloc_at _ _ _ _ rfl]; rfl
  have q1 : (w.alloc (.cells #[.slice a1 l1.length c1, .slice a2 l2.length c2] 24)).cell? ⟨w.heap.size, 1, none⟩ = some (.slice a2 l2.length c2) := by rw [World.cell?_alloc_at _ _ _ _ rfl]; rfl
  have d1 := fun (W : World) (h : Below w.heap.size w W) => szNds a1 c1 m l1 W hm ⟨rfl, h1.2.1, h1.2.2.1, h1.2.2.2.below h⟩
  have d2 := fun (m : Nat) (hm : m ≤ 1048576) (W : World) (h : Below w.heap.size w W) => szNds a2 c2 m l2 W hm ⟨rfl, h2.2.1, h2.2.2.1, h2.2.2.2.below h⟩
  generalize l1.length + wtN l1 = k1 at *
  generalize l2.length + wtN l2 = k2 at *
  clear h1 h2
  generalize l1.length = n1 at *
  generalize l2.length = n2 at *
  obtain ⟨R, HR⟩ : ∃ R, Hid (lf m (k1 + k2) = R) := ⟨_, rfl⟩
  rw [HR.out]
  go_enter Try.func7, Try.ntmps7
  go_wp2_with fail
  generalize w.alloc (.cells #[.slice a1 n1 c1, .slice a2 n2 c2] 24) = wA at *
  go_at_call 23
  refine (d1 _ b0).mono ?_
  rintro e w2 ⟨rfl, hb2⟩
  have B2 := behind b0 hb2
  have q1' := cellNd q1 hb2
  by_cases hA : k1 ≤ m
  · rw [lf_yes hA]
    have d2' := d2 (m - k1) (by omega) w2 B2
    have e2 : lf (m - k1) k2 = lf m (k1 + k2) := by
      unfold lf
      by_cases h : k2 ≤ m - k1
      · rw [if_pos h, if_pos (by omega)]; omega
      · rw [if_neg h, if_neg (by omega)]
    rw [e2] at d2'
    generalize m - k1 = M at *
    by_cases hB : k1 + k2 ≤ m
    · have HE : Hid (R = ((m - (k1 + k2) : Nat) : Int)) := by rw [← HR.out]; exact lf_yes hB
      rw [lf_yes hB] at d2'
      generalize m - (k1 + k2) = M2 at *
      go_wp2_with fail
      go_at_call 23
      refine d2'.mono ?_
      rintro e w3 ⟨rfl, hb3⟩
      go_wp2
      go_ret
      exact ⟨by rw [HE.out]; rfl, behind B2 hb3⟩
    · have HE : Hid (R = -1) := by rw [← HR.out]; exact lf_no hB
      rw [lf_no hB] at d2'
      go_wp2_with fail
      go_at_call 23
      refine d2'.mono ?_
      rintro e w3 ⟨rfl, hb3⟩
      go_wp2
      go_ret
      exact ⟨by rw [HE.out]; rfl, behind B2 hb3⟩
  · have HE : Hid (R = -1) := by rw [← HR.out]; exact lf_no (by omega)
    rw [lf_no hA]
    go_wp2
    go_ret
    exact ⟨by rw [HE.out]; rfl, B2⟩
end Go.Proofs.Ytmappmboedpgmaq.Wk
