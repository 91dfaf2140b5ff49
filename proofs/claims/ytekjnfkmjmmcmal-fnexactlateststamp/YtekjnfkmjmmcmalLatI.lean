/- What LatestStamp of the program comes to. -/
import Derived.Test.YtekjnfkmjmmcmalStL
import Derived.Test.YtekjnfkmjmmcmalLessI
namespace Go.Proofs.Ytekjnfkmjmmcmal.Wk
set_option linter.unusedVariables false
open Go.ChangeShapes Go.WideShapes Go.ChangeAt Go.RowKit

set_option maxHeartbeats 1000000 in
set_option maxRecDepth 100000 in
theorem implLat (a : Option Addr) (cap : Nat) (l : List Sm.St) (w : World) (hl : l.length ≤ 1048576) (hr : RdS w a l) :
    Calls Try.prog 23 #[.slice a l.length cap, .func (.func 24) #[] #[]] w fun e w' => ∃ t q n : Int, e = .returned (.agg #[.int .i64 t, .int .i64 q, .int .i64 n]) ∧ Hid ((t, q, n) = Sm.latest l) ∧ Below w.heap.size w w' := by
  have s0 := slotNew (w.alloc (.cells #[.int .i64 0, .int .i64 0, .int .i64 0] 24)) 0 0 0 24
  have r0 := (slotNew w 0 0 0 24).below (bel1 _ (.cells #[.int .i64 0, .int .i64 0, .int .i64 0] 24))
  simp only [World.size_alloc] at s0
  go_enter Try.func23, Try.ntmps23
  go_wp2
  go_loopw [10] (fun i wr => ∃ (k : Nat) (t q n : Int), k ≤ l.length ∧ i = .int .i64 k ∧ Slot wr (w.heap.size + 1) t q n ∧ Slot wr w.heap.size 0 0 0 ∧ Hid (Sm.latest (l.take k) = (t, q, n)) ∧ Below w.heap.size w wr) (fun i _ => l.length - (intOf i).toNat)
  case atStart => exact ⟨0, 0, 0, 0, Nat.zero_le _, rfl, s0, r0, rfl, bel2 _ _ _⟩
  case round =>
    obtain ⟨k, t, q, n, hk, rfl, hs, hr0, HK, hb⟩ := hrel
    clear s0 r0
    by_cases hlt : k < l.length
    · obtain ⟨b, off, rfl, p⟩ := (hr.below hb) k hlt
      obtain ⟨u, hu⟩ : ∃ u, l[k] = u := ⟨_, rfl⟩
      rw [hu] at p
      obtain ⟨t', q', n'⟩ := u
      obtain ⟨p0, p1, p2⟩ := id p
      have x0 := slotNew wr t' q' n' 24
      have s1 := hs.below (bel1 _ (.cells #[.int .i64 t', .int .i64 q', .int .i64 n'] 24))
      have r1 := hr0.below (bel1 _ (.cells #[.int .i64 t', .int .i64 q', .int .i64 n'] 24))
      have hB := behind hb (bel1 _ (.cells #[.int .i64 t', .int .i64 q', .int .i64 n'] 24))
      obtain ⟨⟨c0, c1, c2⟩, f0, f1, f2⟩ := id s1
      by_cases hk0 : k = 0
      · have HL : Hid (Sm.latest (l.take (0 + 1)) = (t', q', n')) := by
          subst hk0
          show Sm.latest (l.take (0 + 1)) = _
          rw [List.take_succ_eq_append_getElem hlt, hu]; rfl
        subst hk0
        rw [Nat.zero_mul, Nat.add_zero] at p0 p1 p2
        clear hu
        go_wp2
        go_roundw
        case rel => exact ⟨0 + 1, t', q', n', by omega, by go_num, s1.set _ _ _, r1.other (by omega) _ _ _, HL, set3 hB (by omega)⟩
        case measure => simp [intOf]; omega
      · have HN : Hid (Sm.latest (l.take (k + 1)) = Sm.later (t, q, n) (t', q', n')) := by
          show Sm.latest (l.take (k + 1)) = _
          rw [List.take_succ_eq_append_getElem hlt, hu, Sm.latest_snoc _ _ (by rw [List.length_take]; omega), HK.out]
        clear hu
        have hkb : ((k : Int) == 0) = false := by simp; omega
        go_wp2_with fail
        refine (implLess t q n t' q' n' _).mono ?_
        rintro e w2 ⟨rfl, hb2⟩
        have s2 := s1.below hb2
        have r2 := r1.below hb2
        have hB2 := behind hB hb2
        obtain ⟨m0, m1, m2⟩ := x0.1.below hb2
        obtain ⟨⟨d0, d1, d2⟩, g0, g1, g2⟩ := id s2
        clear p0 p1 p2 c0 c1 c2 f0 f1 f2
        cases hk : Sm.less t q n t' q' n' with
        | true =>
          have HL : Hid (Sm.latest (l.take (k + 1)) = (t', q', n')) := HN.out.trans (Sm.later_yes hk)
          clear hk
          go_wp2
          go_roundw
          case rel => exact ⟨k + 1, t', q', n', by omega, by go_num, s2.set _ _ _, r2.other (by omega) _ _ _, HL, set3 hB2 (by omega)⟩
          case measure => simp [intOf]; omega
        | false =>
          have HL : Hid (Sm.latest (l.take (k + 1)) = (t, q, n)) := HN.out.trans (Sm.later_no hk)
          clear hk
          go_wp2
          go_roundw
          case rel => exact ⟨k + 1, t, q, n, by omega, by go_num, s2, r2, HL, hB2⟩
          case measure => simp [intOf]; omega
    · have hkl : k = l.length := by omega
      have HL : Hid ((t, q, n) = Sm.latest l) := by
        show (t, q, n) = Sm.latest l
        rw [← HK.out, hkl, List.take_length]
      clear hkl
      have rr := hr0.set t q n
      obtain ⟨⟨c0, c1, c2⟩, f0, f1, f2⟩ := id hs
      obtain ⟨⟨e0, e1, e2⟩, g0, g1, g2⟩ := id hr0
      obtain ⟨⟨q0, q1, q2⟩, -⟩ := rr
      go_wp2
      exact bodyPost_ret (v := .agg #[.int .i64 t, .int .i64 q, .int .i64 n]) (by simp [results, Try.results23, go_sem, q0, q1, q2]) rfl ⟨_, _, _, rfl, HL, set3 hb (Nat.le_refl _)⟩

set_option maxHeartbeats 400000 in
set_option maxRecDepth 100000 in
theorem implLatest (a : Option Addr) (cap : Nat) (l : List Sm.St) (w : World) (hl : l.length ≤ 1048576) (hr : RdS w a l) :
    Calls Try.prog 14 #[.slice a l.length cap] w fun e w' => ∃ t q n : Int, e = .returned (.agg #[.int .i64 t, .int .i64 q, .int .i64 n]) ∧ Hid ((t, q, n) = Sm.latest l) ∧ Below w.heap.size w w' := by
  have r0 := slotNew w 0 0 0 24
  go_enter Try.func14, Try.ntmps14
  go_wp2_with fail
  refine (implLat a cap l _ hl (hr.below (bel1 _ _))).mono ?_
  rintro e w2 ⟨t, q, n, rfl, HL, hb2⟩
  have r2 := r0.below hb2
  obtain ⟨⟨q0, q1, q2⟩, -⟩ := r2.set t q n
  obtain ⟨⟨d0, d1, d2⟩, g0, g1, g2⟩ := r2
  go_wp2
  exact bodyPost_ret (v := .agg #[.int .i64 t, .int .i64 q, .int .i64 n]) (by simp [results, Try.results14, go_sem, q0, q1, q2]) rfl ⟨_, _, _, rfl, HL, set3 (behind (bel1 _ _) hb2) (Nat.le_refl _)⟩
end Go.Proofs.Ytekjnfkmjmmcmal.Wk
