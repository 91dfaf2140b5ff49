/- What is drawn with the cursor: a number below another, one of a list. -/
import Derived.Test.YtpejeoekpejbladCurW
namespace Go.Proofs.Ytpejeoekpejblad.Wk
set_option linter.unusedVariables false
open Go.ChangeShapes Go.WideShapes Go.ChangeAt Go.RowKit

theorem Cur.keep {w w' : World} {C : Nat} {l : List UInt8} {r : Option Nat} (hc : Cur w C l) (hg : w.grownBy w' r) (hr : ∀ k, r = some k → C < k) : Cur w' C l := by
  obtain ⟨hl, a, cap, i, h, c0, c1, c2, f1, f2, hi0, hi1, hrd, hbl⟩ := hc
  have hne : some C ≠ r := fun e => by have := hr C e.symm; omega
  have hC : C < w.heap.size := World.block_lt_of_cell? w _ c0
  refine ⟨hl, a, cap, i, h, hg.cell c0 hne, hg.cell c1 hne, hg.cell c2 hne, ?_, ?_, hi0, hi1, ?_, hbl⟩
  · rw [World.frozen?_of_block (w := w) (hg.block C hC hne)]; exact f1
  · rw [World.frozen?_of_block (w := w) (hg.block C hC hne)]; exact f2
  · intro i hi
    obtain ⟨b, off, rfl, hcl⟩ := hrd i hi
    have hbC : b < C := hbl _ rfl (by omega)
    exact ⟨b, off, rfl, hg.cell hcl (fun e => by have := hr b e.symm; omega)⟩
theorem Cur.lt {w : World} {C : Nat} {l : List UInt8} (hc : Cur w C l) : C < w.heap.size := by
  obtain ⟨hl, a, cap, i, h, c0, _⟩ := hc
  exact World.block_lt_of_cell? w _ c0
theorem Cur.drewN {w : World} {C : Nat} {l : List UInt8} (hc : Cur w C l) (n : Nat) : Cur (w.drewN n) C l := hc
theorem Cur.below {w w' : World} {C : Nat} {l : List UInt8} (hc : Cur w C l) (hb : Below w.heap.size w w') : Cur w' C l :=
  hc.keep (r := none) ⟨hb.os, hb.tape, hb.output, hb.size, fun k hk _ => hb.block k hk⟩ (fun k h => by cases h)
theorem grownVia {w w1 w2 : World} {r : Option Nat} {C : Nat} (h : w.grownBy w1 (some C)) (k : w1.grownBy w2 r) (hr : ∀ j, r = some j → w.heap.size ≤ j) : w.grownBy w2 (some C) :=
  ⟨k.os.trans h.os, k.tape.trans h.tape, k.output.trans h.output, Nat.le_trans h.size k.size, fun i hi hn => (k.block i (Nat.lt_of_lt_of_le hi h.size) (fun e => by have := hr i e.symm; omega)).trans (h.block i hi hn)⟩
theorem grownBelow {w w1 w2 : World} {C : Nat} (h : w.grownBy w1 (some C)) (k : Below w1.heap.size w1 w2) : w.grownBy w2 (some C) :=
  ⟨k.os.trans h.os, k.tape.trans h.tape, k.output.trans h.output, Nat.le_trans h.size k.size, fun i hi hn => (k.block i (Nat.lt_of_lt_of_le hi h.size)).trans (h.block i hi hn)⟩
theorem belowOf {w0 w w1 : World} {C : Nat} (hb : Below w0.heap.size w0 w) (h : w.grownBy w1 (some C)) (hC : w0.heap.size ≤ C) : Below w0.heap.size w0 w1 :=
  hb.grown h hb.size (fun k e => by cases e; exact hC)

set_option maxHeartbeats 1000000 in
set_option maxRecDepth 100000 in
theorem l1Below (C : Nat) (l : List UInt8) (n : Int) (w : World) (hc : Cur w C l) (hn : n ≤ 2147483648) :
    Calls Try.prog 33 #[.pointer (some ⟨C, 0, none⟩), .int .i64 n] w fun e w' => ∃ x : Int, e = .returned (.int .i64 x) ∧ 0 ≤ x ∧ (0 < n → x < n) ∧ (n ≤ 0 → x = 0) ∧ Cur w' C l ∧ w.grownBy w' (some C) := by
  by_cases h0 : n ≤ 0
  · go_enter Try.func33, Try.ntmps33
    go_wp2
    go_ret
    exact ⟨0, rfl, by omega, by omega, fun _ => rfl, hc, World.grownBy.refl _ _⟩
  · have hpos : 0 < n := by omega
    by_cases h256 : n ≤ 256
    · go_enter Try.func33, Try.ntmps33
      go_wp2_with fail
      refine (l1Byte C l _ hc).mono ?_
      rintro e w1 ⟨x, rfl, hx0, hx1, hc1, hg1⟩
      go_wp2
      go_ret
      exact ⟨_, rfl, Int.emod_nonneg _ (by omega), fun _ => Int.emod_lt_of_pos _ hpos, by omega, hc1, hg1⟩
    · go_enter Try.func33, Try.ntmps33
      go_wp2_with fail
      refine (l1Byte C l _ hc).mono ?_
      rintro e w1 ⟨x, rfl, hx0, hx1, hc1, hg1⟩
      go_wp2_with fail
      refine (l1Byte C l _ hc1).mono ?_
      rintro e w2 ⟨y, rfl, hy0, hy1, hc2, hg2⟩
      go_wp2_with fail
      refine (l1Byte C l _ hc2).mono ?_
      rintro e w3 ⟨z, rfl, hz0, hz1, hc3, hg3⟩
      go_wp2
      go_ret
      exact ⟨_, rfl, Int.emod_nonneg _ (by omega), fun _ => Int.emod_lt_of_pos _ hpos, by omega, hc3, grownTrans (grownTrans hg1 hg2) hg3⟩

set_option maxHeartbeats 1000000 in
set_option maxRecDepth 100000 in
theorem l1Int (C b off cap m : Nat) (l : List UInt8) (ns : List Int) (w : World) (hm : ns.length = m) (hc : Cur w C l) (h0 : 0 < ns.length) (h1 : ns.length ≤ 1000) (hr : RdI w (some ⟨b, off, none⟩) ns) (hb : b ≠ C) :
    Calls Try.prog 51 #[.pointer (some ⟨C, 0, none⟩), .slice (some ⟨b, off, none⟩) m cap] w fun e w' => ∃ (j : Nat) (hj : j < ns.length), e = .returned (.int .i64 ns[j]) ∧ Cur w' C l ∧ w.grownBy w' (some C) := by
  subst hm
  go_enter Try.func51, Try.ntmps51
  go_wp2_with fail
  refine (l1Below C l _ _ hc (by omega)).mono ?_
  rintro e w1 ⟨x, rfl, hx0, hx1, -, hc1, hg1⟩
  obtain ⟨j, rfl⟩ := Int.eq_ofNat_of_zero_le hx0
  have hj : j < ns.length := by have := hx1 (by omega); omega
  obtain ⟨b', off', e', hcell⟩ := hr j hj
  simp only [Option.some.injEq, Addr.mk.injEq, and_true] at e'
  obtain ⟨rfl, rfl⟩ := e'
  have hcell1 := hg1.cell hcell (by simp; omega)
  clear hx1
  go_wp2
  go_ret
  exact ⟨j, hj, rfl, hc1, hg1⟩

theorem curNew {w : World} {a : Option Addr} {cap : Nat} {l : List UInt8} {h : Int} {t : TypeId} (hl : l.length ≤ 1048576) (hr : RdA w a l) :
    Cur (w.alloc (.cells #[.slice a l.length cap, .int .i64 0, .int .i64 h] t)) w.heap.size l := by
  refine ⟨hl, a, cap, 0, h, ?_, ?_, ?_, World.frozen?_alloc_at _ _ _ _ rfl, World.frozen?_alloc_at _ _ _ _ rfl, by omega, by omega, hr.below ((Below.refl _ _).alloc (Nat.le_refl _) _), ?_⟩
  · rw [World.cell?_alloc_at _ _ _ _ rfl]; rfl
  · rw [World.cell?_alloc_at _ _ _ _ rfl]; rfl
  · rw [World.cell?_alloc_at _ _ _ _ rfl]; rfl
  · intro x hx h0
    obtain ⟨b, off, e, hc⟩ := hr 0 h0
    rw [e] at hx
    cases hx
    exact World.block_lt_of_cell? w _ hc

set_option maxHeartbeats 1000000 in
set_option maxRecDepth 100000 in
theorem l1New (a : Option Addr) (cap : Nat) (l : List UInt8) (w : World) (hl : l.length ≤ 1048576) (hr : RdA w a l) :
    Calls Try.prog 20 #[.slice a l.length cap] w fun e w' => e = .returned (.pointer (some ⟨w.heap.size, 0, none⟩)) ∧ Cur w' w.heap.size l ∧ Below w.heap.size w w' := by
  go_enter Try.func20, Try.ntmps20
  go_wp2
  go_loop [3, 4] (fun x i => ∃ (k : Nat) (h : Int), k ≤ l.length ∧ i = .int .i64 k ∧ x = .int .i64 h) (fun _ i => l.length - (intOf i).toNat)
  case atStart => exact ⟨0, _, Nat.zero_le _, rfl, rfl⟩
  case round =>
    obtain ⟨k, h, hk, rfl, rfl⟩ := hrel
    by_cases hlt : k < l.length ∧ k < 4000
    · obtain ⟨hlt, h4⟩ := hlt
      obtain ⟨b, off, rfl, hcell⟩ := hr k hlt
      go_wp2
      go_round
      case rel => exact ⟨k + 1, _, by omega, by go_num, rfl⟩
      case measure => simp [intOf]; omega
    · by_cases hkl : k < l.length
      · have h4 : ¬ k < 4000 := fun h => hlt ⟨hkl, h⟩
        clear hlt
        go_wp2
        go_ret
        exact ⟨rfl, curNew hl hr, (Below.refl _ _).alloc (Nat.le_refl _) _⟩
      · clear hlt
        go_wp2
        go_ret
        exact ⟨rfl, curNew hl hr, (Below.refl _ _).alloc (Nat.le_refl _) _⟩
theorem rdiNew {w : World} {t : TypeId} {ns : List Int} {cs : Array Value} (h : cs = (ns.map (Value.int .i64)).toArray) : RdI (w.alloc (.cells cs t)) (some ⟨w.heap.size, 0, none⟩) ns := by
  intro i hi
  refine ⟨w.heap.size, 0, rfl, ?_⟩
  rw [World.cell?_alloc_at _ _ _ _ rfl, h, Nat.zero_add]
  simp [hi]
end Go.Proofs.Ytpejeoekpejblad.Wk
