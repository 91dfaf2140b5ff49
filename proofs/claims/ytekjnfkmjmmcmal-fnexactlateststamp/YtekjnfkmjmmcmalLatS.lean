/- What LatestStamp of the specification comes to. -/
import Derived.Test.YtekjnfkmjmmcmalStL
import Derived.Test.YtekjnfkmjmmcmalLessS
namespace Go.Proofs.Ytekjnfkmjmmcmal.Wk
set_option linter.unusedVariables false
open Go.ChangeShapes Go.WideShapes Go.ChangeAt Go.RowKit

set_option maxHeartbeats 1000000 in
set_option maxRecDepth 100000 in
theorem specLatest (a : Option Addr) (cap : Nat) (l : List Sm.St) (w : World) (hl : l.length ≤ 1048576) (hr : RdS w a l) :
    Calls Try.prog 12 #[.slice a l.length cap] w fun e w' => ∃ t q n : Int, e = .returned (.agg #[.int .i64 t, .int .i64 q, .int .i64 n]) ∧ Hid ((t, q, n) = Sm.latest l) ∧ Below w.heap.size w w' := by
  by_cases h0 : l.length = 0
  · have HL : Hid (l = []) := List.length_eq_zero_iff.1 h0
    go_enter Try.func12, Try.ntmps12
    go_wp2
    exact bodyPost_ret (v := .agg #[.int .i64 0, .int .i64 0, .int .i64 0]) (by simp [results, Try.results12, go_sem]) rfl ⟨_, _, _, rfl, by show _ = Sm.latest l; rw [HL.out]; rfl, bel1 _ _⟩
  · have hpos : 0 < l.length := by omega
    obtain ⟨b, off, rfl, p⟩ := hr 0 hpos
    rw [Nat.zero_mul, Nat.add_zero] at p
    obtain ⟨p0, p1, p2⟩ := p.on
    clear p
    obtain ⟨u, hu⟩ : ∃ u, l[0] = u := ⟨_, rfl⟩
    rw [hu] at p0 p1 p2
    obtain ⟨t, q, n⟩ := u
    have HL : Hid (Sm.latest (l.take 1) = (t, q, n)) := by
      show Sm.latest (l.take 1) = (t, q, n)
      rw [List.take_succ_eq_append_getElem hpos, hu]; rfl
    clear hu
    go_enter Try.func12, Try.ntmps12
    go_wp2
    have s0 := slotNew (w.alloc (.cells #[.int .i64 0, .int .i64 0, .int .i64 0] 24)) t q n 24
    have r0 := (slotNew w 0 0 0 24).below (bel1 _ (.cells #[.int .i64 t, .int .i64 q, .int .i64 n] 24))
    simp only [World.size_alloc] at s0
    go_loopw [4] (fun i wr => ∃ (k : Nat) (t q n : Int), 1 ≤ k ∧ k ≤ l.length ∧ i = .int .i64 k ∧ Slot wr (w.heap.size + 1) t q n ∧ Slot wr w.heap.size 0 0 0 ∧ Hid (Sm.latest (l.take k) = (t, q, n)) ∧ Below w.heap.size w wr) (fun i _ => l.length - (intOf i).toNat)
    case atStart => exact ⟨1, t, q, n, Nat.le_refl _, hpos, rfl, s0, r0, HL, bel2 _ _ _⟩
    case round =>
      obtain ⟨k, t, q, n, hk1, hk, rfl, hs, hr0, HK, hb⟩ := hrel
      clear s0 r0 HL p0 p1 p2
      by_cases hlt : k < l.length
      · obtain ⟨b, off, he, p⟩ := (hr.below hb) k hlt
        simp only [Option.some.injEq, Addr.mk.injEq, and_true] at he
        obtain ⟨rfl, rfl⟩ := he
        obtain ⟨u, hu⟩ : ∃ u, l[k] = u := ⟨_, rfl⟩
        rw [hu] at p
        obtain ⟨t', q', n'⟩ := u
        have HN : Hid (Sm.latest (l.take (k + 1)) = Sm.later (t, q, n) (t', q', n')) := by
          show Sm.latest (l.take (k + 1)) = _
          rw [List.take_succ_eq_append_getElem hlt, hu, Sm.latest_snoc _ _ (by rw [List.length_take]; omega), HK.out]
        obtain ⟨p0, p1, p2⟩ := id p
        obtain ⟨⟨c0, c1, c2⟩, f0, f1, f2⟩ := id hs
        clear hu
        go_wp2_with fail
        go_region_with (go_at_call 22; refine (specLess t q n t' q' n' _).mono ?_; rintro e w2 ⟨rfl, hb2⟩)
        all_goals
          have s2 := hs.drew.below hb2
          have r2 := hr0.drew.below hb2
          obtain ⟨m0, m1, m2⟩ := p.drew.below hb2
          obtain ⟨⟨d0, d1, d2⟩, g0, g1, g2⟩ := id s2
          clear p0 p1 p2 c0 c1 c2 f0 f1 f2
          cases hk : Sm.less t q n t' q' n' with
          | true =>
            have HL : Hid (Sm.latest (l.take (k + 1)) = (t', q', n')) := HN.out.trans (Sm.later_yes hk)
            clear hk
            go_wp2
            go_roundw
            case rel => exact ⟨k + 1, t', q', n', by omega, by omega, by go_num, s2.set _ _ _, r2.other (by omega) _ _ _, HL, set3 (behind hb.drew hb2) (by omega)⟩
            case measure => simp [intOf]; omega
          | false =>
            have HL : Hid (Sm.latest (l.take (k + 1)) = (t, q, n)) := HN.out.trans (Sm.later_no hk)
            clear hk
            go_wp2
            go_roundw
            case rel => exact ⟨k + 1, t, q, n, by omega, by omega, by go_num, s2, r2, HL, behind hb.drew hb2⟩
            case measure => simp [intOf]; omega
      · have hkl : k = l.length := by omega
        have HL : Hid ((t, q, n) = Sm.latest l) := by
          show (t, q, n) = Sm.latest l
          rw [← HK.out, hkl, List.take_length]
        clear hkl
        have rr := hr0.set t q n
        obtain ⟨⟨c0, c1, c2⟩, f0, f1, f2⟩ := id hs
        obtain ⟨⟨e0, e1, e2⟩, g0, g1, g2⟩ := id hr0
        obtain ⟨⟨q0, q1, q2⟩, -⟩ := rr
        go_wp2
        exact bodyPost_ret (v := .agg #[.int .i64 t, .int .i64 q, .int .i64 n]) (by simp [results, Try.results12, go_sem, q0, q1, q2]) rfl ⟨_, _, _, rfl, HL, set3 hb (Nat.le_refl _)⟩
end Go.Proofs.Ytekjnfkmjmmcmal.Wk
