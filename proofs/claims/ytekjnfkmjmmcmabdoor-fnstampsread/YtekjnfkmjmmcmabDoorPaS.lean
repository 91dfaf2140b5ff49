/- What ParseStamp of the specification comes to. -/
import Derived.Test.YtekjnfkmjmmcmabDoorPaB
import Derived.Test.YtekjnfkmjmmcmabDoorRdS
import Derived.Test.YtekjnfkmjmmcmabDoorSplW
import Derived.Test.YtekjnfkmjmmcmabDoorStL
import Derived.Test.YtekjnfkmjmmcmabDoorDot
import Derived.Deep.DeepCutAuto
import Derived.Deep.CutRange
namespace Go.Proofs.YtekjnfkmjmmcmabDoor.Wk
set_option linter.unusedVariables false
open Go.ChangeShapes Go.WideShapes Go.ChangeAt Go.RowKit

set_option maxHeartbeats 2000000 in
set_option maxRecDepth 100000 in
theorem specParse (s : ByteArray) (w : World) (hs : s.size ≤ 1048576) :
    Calls Tryd.prog 15 #[.string s] w fun e w' => e = .returned (paV (Sm.parse s.data.toList)) ∧ Below w.heap.size w w' := by
  have hlen : s.data.toList.length = s.size := by simp
  have r0 := slotNew w 0 0 0 25
  by_cases h3 : (Sm.pieces s.data.toList).length = 3
  · obtain ⟨p0, p1, p2, hp⟩ := three_of h3
    have hl := pieces_len s.data.toList
    rw [hp] at hl
    have l0 := hl p0 (by simp)
    have l1 := hl p1 (by simp)
    have l2 := hl p2 (by simp)
    have HP : Hid (Sm.pieces s.data.toList = [p0, p1, p2]) := hp
    have c0 := fun w => l2Num ⟨p0.toArray⟩ w (by rw [szL p0]; omega)
    have c1 := fun w => l2Num ⟨p1.toArray⟩ w (by rw [szL p1]; omega)
    have c2 := fun w => l2Num ⟨p2.toArray⟩ w (by rw [szL p2]; omega)
    have cs := l2Spl s
    rw [hp] at cs
    have HK := @parse_ok s.data.toList p0 p1 p2 hp
    have HN := @parse_no s.data.toList p0 p1 p2 hp
    simp only at c0 c1 c2
    generalize Sm.parse s.data.toList = R at HK HN
    have hk' : Hid (Sm.ok (Sm.num10 p0) (Sm.num10 p1) (Sm.num10 p2) = true → ∃ t q n : Nat, Sm.num10 p0 = t ∧ Sm.num10 p1 = q ∧ Sm.num10 p2 = n ∧ R = some (t, q, n)) := HK
    have hn' : Hid (Sm.ok (Sm.num10 p0) (Sm.num10 p1) (Sm.num10 p2) = false → R = none) := HN
    clear HK HN hl hp h3 HP
    generalize Sm.num10 p0 = A at c0 hk' hn'
    generalize Sm.num10 p1 = B at c1 hk' hn'
    generalize Sm.num10 p2 = C at c2 hk' hn'
    go_enter Tryd.func15, Tryd.ntmps15
    go_wp2_with fail
    refine (cs _ hs).mono ?_
    rintro e w1 ⟨a, cp, rfl, hrd, hb1⟩
    have hB1 := behind (bel1 _ _) hb1
    have r1 := r0.below hb1
    obtain ⟨b, off, rfl, m0⟩ := hrd 0 (by simp)
    obtain ⟨b', off', he, m1⟩ := hrd 1 (by simp)
    simp only [Option.some.injEq, Addr.mk.injEq, and_true] at he
    obtain ⟨rfl, rfl⟩ := he
    obtain ⟨b', off', he, m2⟩ := hrd 2 (by simp)
    simp only [Option.some.injEq, Addr.mk.injEq, and_true] at he
    obtain ⟨rfl, rfl⟩ := he
    simp only [Nat.add_zero, List.getElem_cons_zero, List.getElem_cons_succ] at m0 m1 m2
    clear hrd cs
    have hz1 := hb1.size
    simp only [World.size_alloc] at hz1
    go_upto_region 4 with fail
    go_cut [5] (fun v wx => ∃ B0 : Nat, v = .pointer (some ⟨B0, 0, none⟩) ∧ w.heap.size < B0 ∧ Slot wx B0 A B C ∧ Slot wx w.heap.size 0 0 0 ∧ Below w.heap.size w wx)
    case first =>
      go_region_held3 (fun wy => wy.cell? ⟨b, off, none⟩ = some (.string ⟨p0.toArray⟩) ∧ wy.cell? ⟨b, off + 1, none⟩ = some (.string ⟨p1.toArray⟩) ∧ wy.cell? ⟨b, off + 2, none⟩ = some (.string ⟨p2.toArray⟩))
        (first | exact ⟨m0, m1, m2⟩ | exact keep3 ⟨m0, m1, m2⟩ (bel1 _ _).drew | go_keep)
        (first | (go_at_call_of 33 (Value.string ⟨p0.toArray⟩); refine (c0 _).mono ?_; rintro e w2 ⟨rfl, rfl⟩) | (go_at_call_of 33 (Value.string ⟨p1.toArray⟩); refine (c1 _).mono ?_; rintro e w2 ⟨rfl, rfl⟩) | (go_at_call_of 33 (Value.string ⟨p2.toArray⟩); refine (c2 _).mono ?_; rintro e w2 ⟨rfl, rfl⟩))
      all_goals
        go_wp2_with fail
        go_meet
        exact ⟨w1.heap.size, rfl, by omega, slotNew w1 A B C 25, r1.below (bel1 _ _).drew, (behind hB1 (bel1 _ (.cells #[.int .i64 A, .int .i64 B, .int .i64 C] 25))).drew⟩
    case rest =>
      obtain ⟨B0, rfl, hB0, hS, hR, hBc⟩ := hcut
      clear r0 r1 m0 m1 m2 hb1 hB1 c0 c1 c2
      obtain ⟨⟨x0, x1, x2⟩, -⟩ := id hS
      go_wp2_with fail
      refine (specOk A B C _).mono ?_
      rintro e w3 ⟨rfl, hb3⟩
      have hS3 := hS.below hb3
      have hR3 := hR.below hb3
      have hB3 := behind hBc hb3
      obtain ⟨⟨y0, y1, y2⟩, -⟩ := id hS3
      obtain ⟨⟨z0, z1, z2⟩, f0, f1, f2⟩ := id hR3
      clear x0 x1 x2 hS hR hb3 hBc
      cases hk : Sm.ok A B C with
      | false =>
        have hRn := hn'.out hk
        subst hRn
        clear hk hk' hn'
        obtain ⟨⟨q0, q1, q2⟩, -⟩ := hR3.set 0 0 0
        go_wp2
        exact bodyPost_ret (v := paV none) (by simp [paV, results, Tryd.results15, go_sem, q0, q1, q2]) rfl ⟨rfl, set3 hB3 (Nat.le_refl _)⟩
      | true =>
        obtain ⟨t, q, n, rfl, rfl, rfl, hRn⟩ := hk'.out hk
        subst hRn
        clear hk hk' hn'
        obtain ⟨⟨q0, q1, q2⟩, -⟩ := hR3.set (t : Int) (q : Int) (n : Int)
        go_wp2
        exact bodyPost_ret (v := paV (some (t, q, n))) (by simp [paV, results, Tryd.results15, go_sem, q0, q1, q2]) rfl ⟨rfl, set3 hB3 (Nat.le_refl _)⟩
  · have hRn := parse_few h3
    rw [hRn]
    clear hRn
    have cs := l2Spl s
    generalize Sm.pieces s.data.toList = P at h3 cs
    have h3b : (((P.length : Nat) : Int) == 3) = false := by simp; omega
    go_enter Tryd.func15, Tryd.ntmps15
    go_wp2_with fail
    refine (cs _ hs).mono ?_
    rintro e w1 ⟨a, cp, rfl, hrd, hb1⟩
    have hB1 := behind (bel1 _ _) hb1
    have r1 := r0.below hb1
    obtain ⟨⟨q0, q1, q2⟩, -⟩ := r1.set 0 0 0
    obtain ⟨⟨z0, z1, z2⟩, f0, f1, f2⟩ := id r1
    clear hrd cs r0 r1 hb1
    go_wp2
    exact bodyPost_ret (v := paV none) (by simp [paV, results, Tryd.results15, go_sem, q0, q1, q2]) rfl ⟨rfl, set3 hB1 (Nat.le_refl _)⟩
end Go.Proofs.YtekjnfkmjmmcmabDoor.Wk
