/- What DevAt of the program comes to. -/
import Derived.Test.YtcejeiakgmamdacAtS
namespace Go.Proofs.Ytcejeiakgmamdac.Wk
set_option linter.unusedVariables false
open Go.ChangeShapes Go.WideShapes Go.ChangeAt Go.RowKit

theorem keepA6 {w w' : World} {a1 a2 a3 a4 a5 a6 : Addr} {v1 v2 v3 v4 v5 v6 : Value} (h : w.cell? a1 = some v1 ∧ w.cell? a2 = some v2 ∧ w.cell? a3 = some v3 ∧ w.cell? a4 = some v4 ∧ w.cell? a5 = some v5 ∧ w.cell? a6 = some v6) (hb : Below w.heap.size w w') :
    w'.cell? a1 = some v1 ∧ w'.cell? a2 = some v2 ∧ w'.cell? a3 = some v3 ∧ w'.cell? a4 = some v4 ∧ w'.cell? a5 = some v5 ∧ w'.cell? a6 = some v6 :=
  ⟨by rw [hb.cell (World.block_lt_of_cell? w _ h.1)]; exact h.1, by rw [hb.cell (World.block_lt_of_cell? w _ h.2.1)]; exact h.2.1, by rw [hb.cell (World.block_lt_of_cell? w _ h.2.2.1)]; exact h.2.2.1,
    by rw [hb.cell (World.block_lt_of_cell? w _ h.2.2.2.1)]; exact h.2.2.2.1, by rw [hb.cell (World.block_lt_of_cell? w _ h.2.2.2.2.1)]; exact h.2.2.2.2.1, by rw [hb.cell (World.block_lt_of_cell? w _ h.2.2.2.2.2)]; exact h.2.2.2.2.2⟩

set_option maxHeartbeats 1000000 in
set_option maxRecDepth 100000 in
theorem implAt (a : Option Addr) (cap : Nat) (l : List Sm.St) (idn : Int) (w : World) (hl : l.length ≤ 1048576) (hr : RdS w a l) :
    Calls Try.prog 23 #[.slice a l.length cap, .int .i64 idn] w fun e w' => e = .returned (dvAtV (Dv.at_ l idn)) ∧ Below w.heap.size w w' := by
  have r0 := slotNew w 0 0 0 42
  obtain ⟨K, hK⟩ : ∃ K, Dv.at_ l idn = K := ⟨_, rfl⟩
  have HK : Hid (Dv.at_ l idn = K) := hK
  rw [hK]
  clear hK
  go_enter Try.func23, Try.ntmps23
  go_wp2
  go_loopw [10] (fun i wr => ∃ k : Nat, k ≤ l.length ∧ i = .int .i64 k ∧ Hid (((l.take k).all fun x => !(x.1 == idn)) = true) ∧ Slot wr w.heap.size 0 0 0 ∧ Below w.heap.size w wr) (fun i _ => l.length - (intOf i).toNat)
  case atStart => exact ⟨0, Nat.zero_le _, rfl, rfl, r0, bel1 _ _⟩
  case round =>
    obtain ⟨k, hk, rfl, HA, hs, hb⟩ := hrel
    clear r0
    by_cases hlt : k < l.length
    · obtain ⟨b, off, rfl, p⟩ := (hr.below hb) k hlt
      have HY := fun h => Dv.at_yes hlt HA.out h
      have HZ := fun h => Dv.at_no hlt HA.out h
      rw [HK.out] at HY
      obtain ⟨u, hu⟩ : ∃ u, l[k] = u := ⟨_, rfl⟩
      rw [hu] at p HY HZ
      obtain ⟨i, z, n⟩ := u
      have HY' : Hid (i = idn → K = some (i, z, n)) := HY
      have HZ' : Hid (¬ i = idn → ((l.take (k + 1)).all fun x => !(x.1 == idn)) = true) := HZ
      obtain ⟨p0, p1, p2⟩ := (show _ from p)
      dsimp only at p0 p1 p2
      have hs1 := hs.below (bel1 _ (.cells #[.int .i64 i, .int .i64 z, .int .i64 n] 42))
      have hB := behind hb (bel1 wr (.cells #[.int .i64 i, .int .i64 z, .int .i64 n] 42))
      obtain ⟨⟨c0, c1, c2⟩, f0, f1, f2⟩ := id hs1
      clear HY HZ HA HK hu hr p hs hb
      by_cases hi : i = idn
      · subst hi
        have e := HY'.out rfl
        subst e
        clear HY' HZ'
        obtain ⟨⟨q0, q1, q2⟩, -⟩ := hs1.set i z n
        go_wp2
        exact bodyPost_ret (v := dvAtV (some (i, z, n))) (by simp [dvAtV, results, Try.results23, go_sem, q0, q1, q2]) rfl ⟨rfl, set3 hB (Nat.le_refl _)⟩
      · have HN := HZ'.out hi
        have HN' : Hid (((l.take (k + 1)).all fun x => !(x.1 == idn)) = true) := HN
        clear HN HY' HZ'
        go_wp2
        go_roundw
        case rel => exact ⟨k + 1, by omega, by go_num, HN', hs1, hB⟩
        case measure => simp [intOf]; omega
    · have e := HK.out.symm.trans (Dv.at_end hlt HA.out)
      subst e
      clear HA HK hr
      obtain ⟨⟨c0, c1, c2⟩, f0, f1, f2⟩ := id hs
      obtain ⟨⟨q0, q1, q2⟩, -⟩ := hs.set 0 0 0
      go_wp2
      exact bodyPost_ret (v := dvAtV none) (by simp [dvAtV, results, Try.results23, go_sem, q0, q1, q2]) rfl ⟨rfl, set3 hb (Nat.le_refl _)⟩
end Go.Proofs.Ytcejeiakgmamdac.Wk
