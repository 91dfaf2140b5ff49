/- What DevsOk of the specification comes to. -/
import Derived.Test.YtcejeiakgmamdacDvM
import Derived.Test.YtcejeiakgmamdacIn1
import Derived.Deep.QuietTactic
import Derived.BigQuiet
namespace Go.Proofs.Ytcejeiakgmamdac.Wk
set_option linter.unusedVariables false
open Go.ChangeShapes Go.WideShapes Go.ChangeAt Go.RowKit

theorem belowDN {B : Nat} {a w : World} (h : Below B a w) (n : Nat) : Below B a (w.drewN n) := h.trans ⟨rfl, rfl, rfl, Nat.le_refl _, fun _ _ => rfl⟩
set_option maxHeartbeats 4000000 in
set_option maxRecDepth 100000 in
theorem specDevs (a : Option Addr) (cap : Nat) (l : List Sm.St) (w : World) (hl : l.length ≤ 1073741824) (hr : RdS w a l) :
    Calls Try.prog 22 #[.slice a l.length cap] w fun e w' => e = .returned (.bool (Dv.devs l)) ∧ Below w.heap.size w w' := by
  obtain ⟨K, hK⟩ : ∃ K, Dv.devs l = K := ⟨_, rfl⟩
  have HK : Hid (Dv.devs l = K) := hK
  rw [hK]
  clear hK
  go_enter Try.func22, Try.ntmps22
  go_wp2
  go_loopw [3] (fun i wr => ∃ k : Nat, k ≤ l.length ∧ i = .int .i64 k ∧ Hid (Dv.upto l k = true) ∧ Below w.heap.size w wr) (fun i _ => l.length - (intOf i).toNat)
  case atStart => exact ⟨0, Nat.zero_le _, rfl, rfl, by first | exact Below.refl _ _ | exact bel1 _ _⟩
  case round =>
    obtain ⟨k, hk, rfl, HU, hb⟩ := hrel
    by_cases hlt : k < l.length
    · obtain ⟨b, off, rfl, p⟩ := (hr.below hb) k hlt
      obtain ⟨u, hu⟩ : ∃ u, l[k] = u := ⟨_, rfl⟩
      rw [hu] at p
      obtain ⟨i, z, n⟩ := u
      have HD : Hid (Dv.okAt l k = false → K = false) := fun h => HK.out ▸ Dv.upto_no hlt h
      have HT : Hid (Dv.upto l (k + 1) = Dv.okAt l k) := by
        show Dv.upto l (k + 1) = _
        rw [Dv.upto_succ, HU.out, Bool.true_and]
      have HE : Hid (Dv.dev i z n = ((decide (0 ≤ i) && decide (i ≤ 20)) && ((decide (0 ≤ z) && decide (z ≤ 20)) && (decide (1 ≤ n) && decide (n ≤ 1000))))) := rfl
      have x0 := boxNew wr i z n 42
      have hbx := behind hb (bel1 wr (.cells #[.int .i64 i, .int .i64 z, .int .i64 n] 42))
      generalize hA : (decide (0 ≤ i) && decide (i ≤ 20)) = A at HE
      generalize hZ : (decide (0 ≤ z) && decide (z ≤ 20)) = Z at HE
      generalize hN : (decide (1 ≤ n) && decide (n ≤ 1000)) = N at HE
      have cA := inC i 0 20 A hA
      have cZ := inC z 0 20 Z hZ
      have cN := inC n 1 1000 N hN
      clear hA hZ hN HU
      by_cases h0 : k = 0
      · subst h0
        have HO : Hid (Dv.okAt l 0 = Dv.dev i z n) := Dv.okAt_zero hlt hu
        rw [Nat.zero_mul, Nat.add_zero] at p
        obtain ⟨p0, p1, p2⟩ := id p
        generalize Dv.dev i z n = E at HE HO
        rw [HO.out] at HT HD
        clear hu HO hr
        rcases A with _ | _
        rotate_left
        rcases Z with _ | _
        rotate_left
        rcases N with _ | _
        rotate_left
        all_goals
          have hE := HE.out
          simp only [Bool.and_false, Bool.false_and, Bool.and_true] at hE
          subst hE
          obtain ⟨q0, q1, q2⟩ := id x0
          go_wp2_with fail
          go_quiet (first | (go_at_call_of 41 (Value.int .i64 i); exact Calls.quiet_of_same (cA _)) | (go_at_call_of 41 (Value.int .i64 z); exact Calls.quiet_of_same (cZ _)) | (go_at_call_of 41 (Value.int .i64 n); exact Calls.quiet_of_same (cN _)))
          go_wp2_with fail
          first
          | (go_ret
             exact ⟨ret_bool (HD.out (by trivial)).symm, belowDN hbx nq⟩)
          | (go_roundw
             case rel => exact ⟨0 + 1, by omega, by go_num, HT, belowDN hbx nq⟩
             case measure => simp [intOf]; omega)
      · obtain ⟨j, rfl⟩ : ∃ j, k = j + 1 := ⟨k - 1, by omega⟩
        obtain ⟨b', off', he, p'⟩ := (hr.below hb) j (by omega)
        simp only [Option.some.injEq, Addr.mk.injEq, and_true] at he
        obtain ⟨rfl, rfl⟩ := he
        obtain ⟨u', hu'⟩ : ∃ u, l[j] = u := ⟨_, rfl⟩
        rw [hu'] at p'
        obtain ⟨i', z', n'⟩ := u'
        have HO : Hid (Dv.okAt l (j + 1) = (Dv.dev i z n && decide (i' < i))) := Dv.okAt_succ hlt hu' hu
        generalize Dv.dev i z n = E at HE HO
        rw [HO.out] at HT HD
        clear hu hu' HO hr h0
        obtain ⟨r0, -, -⟩ := p'.on
        obtain ⟨p0, p1, p2⟩ := id p
        clear p' p
        dsimp only at p0 p1 p2 r0
        rcases A with _ | _
        rotate_left
        rcases Z with _ | _
        rotate_left
        rcases N with _ | _
        rotate_left
        by_cases hlti : i' < i
        rotate_left
        all_goals
          have hE := HE.out
          simp only [Bool.and_false, Bool.false_and, Bool.and_true] at hE
          subst hE
          first
          | rw [decide_eq_true hlti] at HT HD
          | rw [decide_eq_false hlti] at HT HD
          | rw [Bool.false_and] at HT HD
          obtain ⟨q0, q1, q2⟩ := id x0
          go_wp2_with fail
          go_quiet (first | (go_at_call_of 41 (Value.int .i64 i); exact Calls.quiet_of_same (cA _)) | (go_at_call_of 41 (Value.int .i64 z); exact Calls.quiet_of_same (cZ _)) | (go_at_call_of 41 (Value.int .i64 n); exact Calls.quiet_of_same (cN _)))
          go_wp2_with fail
          first
          | (go_ret
             exact ⟨ret_bool (HD.out (by trivial)).symm, belowDN hbx nq⟩)
          | (go_roundw
             case rel => exact ⟨j + 1 + 1, by omega, by go_num, HT, belowDN hbx nq⟩
             case measure => simp [intOf]; omega)
    · have HN := Dv.devs_all hlt hk HU.out
      rw [HK.out] at HN
      have cl := inC (l.length : Int) 1 12 K (by rw [HN, Bool.eq_iff_iff]; simp; omega)
      clear HN
      go_wp2_with (go_at_call 41; refine (cl _).mono ?_; rintro e w1 ⟨rfl, rfl⟩)
      go_ret
      exact ⟨rfl, hb⟩
end Go.Proofs.Ytcejeiakgmamdac.Wk
